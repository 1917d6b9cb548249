/- Texts that the claim needs, part 1. -/
import Derived.Test.YtkpganpojdboeabDoorRows
import Derived.WalkKit
import Derived.WalkSpells
import Derived.Lib.Strings
import Derived.Lib.Hide
import Derived.Deep.Light
import Derived.Deep.Draws
import Derived.Lib.Bytealg
import Derived.Maps.AppendAt
import Derived.Laws.AppendOwnNone
import Derived.Deep.QuietTactic
import Derived.BigQuiet
import Derived.Deep.RegionWith
import Derived.Deep.RegionHeld3
import Derived.Deep.AppendLies
import Derived.Laws.CopyOwn
import Derived.Laws.MakeOwn
import Derived.Deep.RegionLaw
/-! Base -/
namespace Go.Proofs.YtkpganpojdboeabDoor
open Go.RowKit

theorem ret_int {k : IntKind} {a b : Int} (h : a = b) : Ending.returned (.int k a) = .returned (.int k b) := by rw [h]
theorem ret_bool {a b : Bool} (h : a = b) : Ending.returned (.bool a) = .returned (.bool b) := by rw [h]
theorem ret_str {a b : ByteArray} (h : a = b) : Ending.returned (.string a) = .returned (.string b) := by rw [h]

theorem i64_bounds {n : Int} (h : (Lit.int .i64 n).wf = true) : -9223372036854775808 ≤ n ∧ n ≤ 9223372036854775807 := by
  simpa [Lit.wf, IntKind.min, IntKind.max, IntKind.signed, IntKind.bits] using h

theorem nx {w w1 w2 : World} (h : Below w.heap.size w w1) (k : Below w1.heap.size w1 w2) : Below w.heap.size w w2 := h.trans (k.mono h.size)
theorem nxAlloc {w w1 : World} (h : Below w.heap.size w w1) (o : Obj) : Below w.heap.size w (w1.alloc o) := nx h ((Below.refl _ _).alloc (Nat.le_refl _) o)

theorem drewB {w w1 : World} (h : Below w.heap.size w w1) (n : Nat) : Below w.heap.size w (w1.drewN n) := ⟨h.os, h.tape, h.output, h.size, h.block⟩

/-- Calls that hand back a value and leave what was there. -/
def Gives (v : Value) (w : World) (e : Ending) (w' : World) : Prop := e = .returned v ∧ Below w.heap.size w w'

end Go.Proofs.YtkpganpojdboeabDoor

/-! Row -/
namespace Go.Proofs.YtkpganpojdboeabDoor
open Go.RowKit

theorem info_int : (Tryd.prog.info? 3).map (fun i => (i.zero, i.size, i.bytes)) = some (some (.int .i64 0), 1, 8) := by kernel_rfl

/-- v is a slice of the integers xs, in a block from base on that the call has made. -/
def OwnI (base : Nat) (w : World) (v : Value) (xs : List Int) : Prop := w.ownsRow base 3 1 v xs.length (xs.map (Value.int .i64))

theorem ownsRow_keep {w w' : World} {base : Nat} {e : TypeId} {size : Nat} {v : Value} {n : Nat} {xs : List Value} (h : w.ownsRow base e size v n xs) (hb : Below w.heap.size w w') : w'.ownsRow base e size v n xs := by
  obtain ⟨h1, h2⟩ := h
  refine ⟨h1, ?_⟩
  rcases h2 with h2 | ⟨g, cap, cur, hv, hg, hh, r⟩
  · exact .inl h2
  · exact .inr ⟨g, cap, cur, hv, hg, (hb.block g (lt_of_block hh)).trans hh, r⟩

theorem OwnI.keep {base : Nat} {w w' : World} {v : Value} {xs : List Int} (h : OwnI base w v xs) (hb : Below w.heap.size w w') : OwnI base w' v xs := ownsRow_keep h hb

theorem OwnI.nil (base : Nat) (w : World) : OwnI base w (.slice none 0 0) [] := World.ownsRow_nil _ _ _ _

/-- What can be read of such a slice. -/
def CellsI (base : Nat) (w : World) (v : Value) (xs : List Int) : Prop :=
  (v = .slice none 0 0 ∧ xs = []) ∨ ∃ g cap : Nat, v = .slice (some ⟨g, 0, none⟩) xs.length cap ∧ base ≤ g ∧ g < w.heap.size ∧ xs.length ≤ cap ∧ cap ≤ maxLen ∧
    (∀ i, i < xs.length → w.cell? ⟨g, i, none⟩ = some (.int .i64 (xs.getD i 0))) ∧ ∀ i, w.frozen? ⟨g, i, none⟩ = false

theorem OwnI.cells {base : Nat} {w : World} {v : Value} {xs : List Int} (h : OwnI base w v xs) : CellsI base w v xs := by
  have h0 := h
  obtain ⟨h1, h2⟩ := h
  rcases h2 with ⟨hv, hn⟩ | ⟨g, cap, cur, hv, hg, hh, r1, r2, r3⟩
  · exact .inl ⟨hv, List.length_eq_zero_iff.1 hn⟩
  · subst hv
    refine .inr ⟨g, cap, rfl, hg, lt_of_block hh, r1, r2, fun i hi => ?_, fun i => World.ownsRow.frozenAt h0 i⟩
    have := World.ownsRow.cellAt h0 i (by omega)
    rw [this]
    simp [List.getElem?_eq_getElem hi]

/-! What an append of one integer to such a slice asks and leaves. -/
theorem new1 (w : World) (v : Value) (e : TypeId) : ∀ (j : Nat) (u : Value), [v][j]? = some u → (w.alloc (.cells #[v] e)).cell? ((⟨w.heap.size, 0, none⟩ : Addr).add j) = some u := by
  intro j u hj
  match j, hj with
  | 0, hj => simp at hj; subst hj; simp [Addr.add]
  | j + 1, hj => simp at hj
theorem one1 (m : Int) : ∀ u ∈ [Value.int .i64 m], u.oneCell' = true := by intro u hu; simp at hu; subst hu; rfl
theorem size_al {w w1 : World} (h : Below w.heap.size w w1) (o : Obj) : w.heap.size ≤ (w1.alloc o).heap.size := by have := h.size; simp; omega

theorem ownsRow_ge {w : World} {base : Nat} {e : TypeId} {size : Nat} {v : Value} {n : Nat} {xs : List Value} (h : w.ownsRow base e size v n xs) : ∀ k, v.ownBlock = some k → base ≤ k := by
  intro k hk
  rcases h.2 with ⟨hv, _⟩ | ⟨g, cap, cur, hv, hg, _⟩
  · subst hv; simp [Value.ownBlock] at hk
  · subst hv; simp [Value.ownBlock] at hk; omega

theorem OwnI.snoc {base : Nat} {w : World} {v : Value} {xs : List Int} {m : Int} (h : w.ownsRow base 3 1 v (xs.length + 1) (xs.map (Value.int .i64) ++ [Value.int .i64 m])) : OwnI base w v (xs ++ [m]) := by
  unfold OwnI; rw [List.length_append, List.map_append]; exact h

theorem below_app {w wr w1 : World} {base : Nat} {e e2 : TypeId} {size : Nat} {v u : Value} {n : Nat} {xs : List Value} (h : Below w.heap.size w wr) (hown : wr.ownsRow base e size v n xs) (hbase : w.heap.size ≤ base)
    (hg : (wr.alloc (.cells #[u] e2)).grownBy w1 v.ownBlock) : Below w.heap.size w w1 :=
  (nxAlloc h (.cells #[u] e2)).grown hg (size_al h _) (fun k hk => Nat.le_trans hbase (ownsRow_ge hown k hk))

/-- A call that hands back a slice of integers of its own. -/
def GivesInts (xs : List Int) (w : World) (e : Ending) (w' : World) : Prop :=
  ∃ v, OwnI w.heap.size w' v xs ∧ Below w.heap.size w w' ∧ e = .returned v

/-- An answer of a slice of the call's own and a bool. -/
def AnsI2 (xs : List Int) (ok : Bool) (w : World) (e : Ending) (w' : World) : Prop :=
  ∃ v, OwnI w.heap.size w' v xs ∧ Below w.heap.size w w' ∧ e = .returned (.tuple #[v, .bool ok])
def AnsIs (o : Option (List Int)) (w : World) (e : Ending) (w' : World) : Prop := AnsI2 (o.getD []) o.isSome w e w'

end Go.Proofs.YtkpganpojdboeabDoor

/-! RowS -/
namespace Go.Proofs.YtkpganpojdboeabDoor
open Go.RowKit

theorem info_str : (Tryd.prog.info? 9).map (fun i => (i.zero, i.size, i.bytes)) = some (some (.string ⟨#[]⟩), 1, 16) := by kernel_rfl

/-- v is a slice of the texts ss, in a block from base on that the call has made. -/
def OwnS (base : Nat) (w : World) (v : Value) (ss : List ByteArray) : Prop := w.ownsRow base 9 1 v ss.length (ss.map Value.string)

theorem OwnS.keep {base : Nat} {w w' : World} {v : Value} {ss : List ByteArray} (h : OwnS base w v ss) (hb : Below w.heap.size w w') : OwnS base w' v ss := ownsRow_keep h hb
theorem OwnS.nil (base : Nat) (w : World) : OwnS base w (.slice none 0 0) [] := World.ownsRow_nil _ _ _ _

theorem ownsRow_mono {w : World} {base base' : Nat} {e : TypeId} {size : Nat} {v : Value} {n : Nat} {xs : List Value} (h : w.ownsRow base e size v n xs) (hb : base' ≤ base) : w.ownsRow base' e size v n xs := by
  obtain ⟨h1, h2⟩ := h
  refine ⟨h1, ?_⟩
  rcases h2 with h2 | ⟨g, cap, cur, hv, hg, r⟩
  · exact .inl h2
  · exact .inr ⟨g, cap, cur, hv, Nat.le_trans hb hg, r⟩
theorem OwnS.mono {base base' : Nat} {w : World} {v : Value} {ss : List ByteArray} (h : OwnS base w v ss) (hb : base' ≤ base) : OwnS base' w v ss := ownsRow_mono h hb
theorem OwnI.mono {base base' : Nat} {w : World} {v : Value} {xs : List Int} (h : OwnI base w v xs) (hb : base' ≤ base) : OwnI base' w v xs := ownsRow_mono h hb

/-- What can be read of such a slice. -/
def CellsS (base : Nat) (w : World) (v : Value) (ss : List ByteArray) : Prop :=
  (v = .slice none 0 0 ∧ ss = []) ∨ ∃ g cap : Nat, v = .slice (some ⟨g, 0, none⟩) ss.length cap ∧ base ≤ g ∧ g < w.heap.size ∧ ss.length ≤ cap ∧ cap ≤ maxLen ∧
    (∀ i, i < ss.length → w.cell? ⟨g, i, none⟩ = some (.string (ss.getD i ⟨#[]⟩))) ∧ ∀ i, w.frozen? ⟨g, i, none⟩ = false

theorem OwnS.cells {base : Nat} {w : World} {v : Value} {ss : List ByteArray} (h : OwnS base w v ss) : CellsS base w v ss := by
  have h0 := h
  obtain ⟨h1, h2⟩ := h
  rcases h2 with ⟨hv, hn⟩ | ⟨g, cap, cur, hv, hg, hh, r1, r2, r3⟩
  · exact .inl ⟨hv, List.length_eq_zero_iff.1 hn⟩
  · subst hv
    refine .inr ⟨g, cap, rfl, hg, lt_of_block hh, r1, r2, fun i hi => ?_, fun i => World.ownsRow.frozenAt h0 i⟩
    have := World.ownsRow.cellAt h0 i (by omega)
    rw [this]
    simp [List.getElem?_eq_getElem hi]

theorem OwnS.shape {base : Nat} {w : World} {v : Value} {ss : List ByteArray} (h : OwnS base w v ss) (hn : 0 < ss.length) : ∃ g cap, v = .slice (some ⟨g, 0, none⟩) ss.length cap := by
  rcases h.2 with ⟨_, h2⟩ | ⟨g, cap, cur, hv, _⟩
  · omega
  · exact ⟨g, cap, hv⟩

/-- One text in a new block. -/
theorem OwnS.one (w : World) (s : ByteArray) : OwnS w.heap.size (w.alloc (.cells #[.string s] 9 (0, 0))) (.slice (some ⟨w.heap.size, 0, none⟩) 1 1) [s] := by
  refine ⟨rfl, .inr ⟨w.heap.size, 1, #[.string s], rfl, Nat.le_refl _, ?_, Nat.le_refl _, by unfold maxLen; omega, rfl, rfl⟩⟩
  show (w.heap.push _)[w.heap.size]? = _
  simp

theorem addr_add (g j : Nat) : (⟨g, 0, none⟩ : Addr).add j = ⟨g, j, none⟩ := by
  unfold Addr.add
  split
  · next h => rw [h]
  · simp

theorem OwnS.news {base : Nat} {w : World} {g cap n : Nat} {ss : List ByteArray} (h : OwnS base w (.slice (some ⟨g, 0, none⟩) n cap) ss) (hn : ss.length = n) :
    ∀ (j : Nat) (u : Value), (ss.map Value.string)[j]? = some u → w.cell? ((⟨g, 0, none⟩ : Addr).add j) = some u := by
  intro j u hj
  subst hn
  have hlt : j < ss.length := by
    rcases Nat.lt_or_ge j ss.length with h | h
    · exact h
    · rw [List.getElem?_eq_none (by simpa using h)] at hj; simp at hj
  have := World.ownsRow.cellAt h j (by omega)
  rw [addr_add, this, hj]
theorem oneS (ss : List ByteArray) : ∀ u ∈ ss.map Value.string, u.oneCell' = true := by
  intro u hu
  rw [List.mem_map] at hu
  obtain ⟨s, _, rfl⟩ := hu
  rfl
theorem OwnS.app {base : Nat} {w : World} {v : Value} {A B : List ByteArray} (h : w.ownsRow base 9 1 v (A.length + B.length) (A.map Value.string ++ B.map Value.string)) : OwnS base w v (A ++ B) := by
  unfold OwnS; rw [List.length_append, List.map_append]; exact h

theorem below_app0 {w wr w1 : World} {base : Nat} {e : TypeId} {size : Nat} {v : Value} {n : Nat} {xs : List Value} (h : Below w.heap.size w wr) (hown : wr.ownsRow base e size v n xs) (hbase : w.heap.size ≤ base)
    (hg : wr.grownBy w1 v.ownBlock) : Below w.heap.size w w1 :=
  h.grown hg h.size (fun k hk => Nat.le_trans hbase (ownsRow_ge hown k hk))

/-- A call that hands back a slice of texts of its own, not empty. -/
def GivesTexts (ss : List ByteArray) (w : World) (e : Ending) (w' : World) : Prop :=
  ∃ g cap : Nat, OwnS w.heap.size w' (.slice (some ⟨g, 0, none⟩) ss.length cap) ss ∧ Below w.heap.size w w' ∧ e = .returned (.slice (some ⟨g, 0, none⟩) ss.length cap)

/-- An answer of a slice of texts of the call's own and a bool. -/
def AnsS2 (ss : List ByteArray) (ok : Bool) (w : World) (e : Ending) (w' : World) : Prop :=
  ∃ v, OwnS w.heap.size w' v ss ∧ Below w.heap.size w w' ∧ e = .returned (.tuple #[v, .bool ok])
def AnsSs (o : Option (List ByteArray)) (w : World) (e : Ending) (w' : World) : Prop := AnsS2 (o.getD []) o.isSome w e w'
end Go.Proofs.YtkpganpojdboeabDoor

/-! Pure -/
namespace Go.Proofs.YtkpganpojdboeabDoor

/-- The byte at an index of a text (0 behind its end). -/
def byteAt (s : ByteArray) (a : Int) : Int := if h : a.toNat < s.size then ((s[a.toNat]'h).toNat : Int) else 0

theorem byteAt_eq (s : ByteArray) (a : Int) (h : a.toNat < s.size) : byteAt s a = ((s[a.toNat]'h).toNat : Int) := by unfold byteAt; rw [dif_pos h]

/-- The index behind the tree at an index, or -1 (k: the depth that is left). -/
def endI : Nat → ByteArray → Int → Int
  | 0, _, _ => -1
  | k + 1, s, a =>
    if a < s.size then
      if byteAt s a = 46 then a + 1
      else if byteAt s a ≠ 40 then -1
      else if endI k s (a + 1) < 0 then -1
      else if endI k s (endI k s (a + 1)) < 0 then -1
      else if (s.size : Int) ≤ endI k s (endI k s (a + 1)) then -1
      else if byteAt s (endI k s (endI k s (a + 1))) ≠ 41 then -1
      else endI k s (endI k s (a + 1)) + 1
    else -1

theorem endI_le (k : Nat) : ∀ (s : ByteArray) (a : Int), 0 ≤ a → -1 ≤ endI k s a ∧ endI k s a ≤ s.size := by
  induction k with
  | zero => intro s a _; simp [endI]
  | succ k ih =>
    intro s a ha
    have h1 := ih s (a + 1) (by omega)
    have h2 := fun h => ih s (endI k s (a + 1)) h
    rw [endI]
    repeat' split
    all_goals first | omega | (have := h2 (by omega); omega)

/-- How many of the first k bytes are carets' beginnings. -/
def cnt (s : ByteArray) : Nat → Int
  | 0 => 0
  | k + 1 => cnt s k + if byteAt s k = 40 then 1 else 0

theorem cnt_le (s : ByteArray) (k : Nat) : 0 ≤ cnt s k ∧ cnt s k ≤ k := by
  induction k with
  | zero => simp [cnt]
  | succ k ih => rw [cnt]; split <;> omega

/-- The text is a tree, as the spec tells it. -/
def isTreeB (s : ByteArray) : Bool := decide ((s.size : Int) ≤ 33) && decide (cnt s s.size ≤ 8) && endI 61 s 0 == (s.size : Int)

theorem isTreeB_size {s : ByteArray} (h : isTreeB s = true) : s.size ≤ 33 := by
  unfold isTreeB at h; simp at h; omega

end Go.Proofs.YtkpganpojdboeabDoor

/-! Tr -/
namespace Go.Proofs.YtkpganpojdboeabDoor

inductive Tr where
  | lf
  | nd (l r : Tr)

namespace Tr
def text : Tr → List UInt8
  | lf => [46]
  | nd l r => 40 :: (l.text ++ (r.text ++ [41]))
def carets : Tr → Nat
  | lf => 0
  | nd l r => l.carets + r.carets + 1
def str (t : Tr) : ByteArray := ⟨t.text.toArray⟩
end Tr

theorem Tr.text_len (t : Tr) : t.text.length = 3 * t.carets + 1 := by
  induction t with
  | lf => rfl
  | nd l r ihl ihr => simp [Tr.text, Tr.carets, ihl, ihr]; omega

theorem Tr.str_list (t : Tr) : t.str.data.toList = t.text := by simp [Tr.str]
theorem Tr.str_size (t : Tr) : t.str.size = 3 * t.carets + 1 := by
  rw [← Tr.text_len]; show t.str.data.size = _; simp [Tr.str]
theorem ba_ext {a b : ByteArray} (h : a.data.toList = b.data.toList) : a = b := by
  cases a; cases b; simpa using h

/-- Reading a tree at the beginning of a text. -/
def parseN : Nat → List UInt8 → Option (Tr × List UInt8)
  | 0, _ => none
  | _ + 1, [] => none
  | k + 1, c :: r =>
    if c = 46 then some (.lf, r)
    else if c = 40 then
      match parseN k r with
      | none => none
      | some (t1, r1) =>
        match parseN k r1 with
        | none => none
        | some (t2, r2) =>
          match r2 with
          | [] => none
          | d :: r3 => if d = 41 then some (.nd t1 t2, r3) else none
    else none

theorem parseN_sound (k : Nat) : ∀ (l : List UInt8) (t : Tr) (r : List UInt8), parseN k l = some (t, r) → l = t.text ++ r := by
  induction k with
  | zero => intro l t r h; simp [parseN] at h
  | succ k ih =>
    intro l t r h
    match l with
    | [] => simp [parseN] at h
    | c :: l' =>
      rw [parseN] at h
      split at h
      · next hc => simp at h; obtain ⟨rfl, rfl⟩ := h; simp [Tr.text, hc]
      · split at h
        · next hc =>
          split at h
          · simp at h
          · next t1 r1 h1 =>
            split at h
            · simp at h
            · next t2 r2 h2 =>
              split at h
              · simp at h
              · next d r3 =>
                split at h
                · next hd =>
                  simp at h
                  obtain ⟨rfl, rfl⟩ := h
                  rw [ih _ _ _ h1, ih _ _ _ h2, hc, hd]
                  simp [Tr.text]
                · simp at h
        · simp at h

theorem parseN_complete (t : Tr) : ∀ (k : Nat) (r : List UInt8), t.text.length ≤ k → parseN k (t.text ++ r) = some (t, r) := by
  induction t with
  | lf => intro k r h; cases k with | zero => simp [Tr.text] at h | succ k => simp [Tr.text, parseN]
  | nd a b iha ihb =>
    intro k r h
    cases k with
    | zero => simp [Tr.text] at h
    | succ k =>
      have h' : a.text.length + b.text.length + 2 ≤ k + 1 := by simp [Tr.text] at h; omega
      show parseN (k + 1) (40 :: (a.text ++ (b.text ++ [41])) ++ r) = _
      have e : (40 : UInt8) :: (a.text ++ (b.text ++ [41])) ++ r = 40 :: (a.text ++ (b.text ++ (41 :: r))) := by simp
      rw [e, parseN, if_neg (by decide), if_pos rfl, iha k _ (by omega)]
      show (match parseN k (b.text ++ (41 :: r)) with | none => none | some (t2, r2) => _) = _
      rw [ihb k _ (by omega)]
      simp

theorem Tr.text_inj {t u : Tr} {r q : List UInt8} (h : t.text ++ r = u.text ++ q) : t = u ∧ r = q := by
  have h1 := parseN_complete t (t.text.length + u.text.length) r (by omega)
  have h2 := parseN_complete u (t.text.length + u.text.length) q (by omega)
  rw [h, h2] at h1
  simp at h1
  exact ⟨h1.1.symm, h1.2.symm⟩

theorem parseN_len {k : Nat} {l : List UInt8} {t : Tr} {r : List UInt8} (h : parseN k l = some (t, r)) : r.length + 1 ≤ l.length := by
  have := parseN_sound k l t r h
  have := t.text_len
  subst l; simp; omega

end Go.Proofs.YtkpganpojdboeabDoor

/-! Cut -/
namespace Go.Proofs.YtkpganpojdboeabDoor
open Go.RowKit


theorem hasPrefix_one (s : ByteArray) (c : UInt8) (w : World) (hs : s.size ≤ 9223372036854775806) :
    Calls Tryd.prog 143 #[.string s, .string ⟨#[c]⟩] w fun e w' => e = .returned (.bool (s.data.toList.head? == some c)) ∧ w = w' := by
  by_cases h : 1 ≤ s.size
  all_goals
    go_enter Tryd.func143, Tryd.ntmps143
    go_wp2
    go_ret
  · refine ⟨ret_bool ?_, rfl⟩
    rw [Lib.extract_toList]
    cases hl : s.data.toList <;> simp
  · refine ⟨ret_bool ?_, rfl⟩
    have : s.data.toList.length = 0 := by rw [← Lib.size_eq]; omega
    rw [List.length_eq_zero_iff.1 this]
    rfl

def CutOk (s : ByteArray) (r : List UInt8) (w : World) (e : Ending) (w' : World) : Prop :=
  ∃ s' : ByteArray, s'.data.toList = r ∧ s'.size < s.size ∧ e = .returned (.tuple #[.string s', .bool true]) ∧ w = w'

theorem stringsliteCut_yes (s : ByteArray) (c : UInt8) (r : List UInt8) (w : World) (hs : s.size ≤ 9223372036854775806) (h : s.data.toList = c :: r) :
    Calls Tryd.prog 172 #[.string s, .string ⟨#[c]⟩] w (CutOk s r w) := by
  have hz : 1 ≤ s.size := by rw [Lib.size_eq, h]; simp
  have hb : (s.data.toList.head? == some c) = true := by simp [h]
  have H := Lib.hid h
  clear h
  go_enter Tryd.func172, Tryd.ntmps172
  go_wp2_with (go_at_call 143; refine (hasPrefix_one s c _ hs).mono ?_; rintro e w' ⟨rfl, rfl⟩)
  go_ret2
  refine ⟨_, ?_, ?_, rfl, rfl⟩
  · rw [Lib.extract_data, H.out, List.take_of_length_le]
    · rfl
    · rw [Lib.size_eq, H.out]; simp
  · rw [Lib.size_eq, Lib.extract_data, Lib.size_eq, H.out]; simp

theorem stringsliteCut_no (s : ByteArray) (c : UInt8) (w : World) (hs : s.size ≤ 9223372036854775806) (h : (s.data.toList.head? == some c) = false) :
    Calls Tryd.prog 172 #[.string s, .string ⟨#[c]⟩] w fun e w' => e = .returned (.tuple #[.string s, .bool false]) ∧ w = w' := by
  go_enter Tryd.func172, Tryd.ntmps172
  go_wp2_with (go_at_call 143; refine (hasPrefix_one s c _ hs).mono ?_; rintro e w' ⟨rfl, rfl⟩)
  go_ret2
  exact ⟨rfl, rfl⟩

theorem cut_yes (s : ByteArray) (c : UInt8) (r : List UInt8) (w : World) (hs : s.size ≤ 9223372036854775806) (h : s.data.toList = c :: r) :
    Calls Tryd.prog 150 #[.string s, .string ⟨#[c]⟩] w (CutOk s r w) := by
  have H := Lib.hid h
  clear h
  go_enter Tryd.func150, Tryd.ntmps150
  go_wp2_with (go_at_call 172; refine (stringsliteCut_yes s c r _ hs H.out).mono ?_; rintro e w' ⟨s', h1, h2, rfl, rfl⟩; have H1 := Lib.hid h1; clear h1)
  go_ret2
  exact ⟨_, H1.out, h2, rfl, rfl⟩

theorem cut_no (s : ByteArray) (c : UInt8) (w : World) (hs : s.size ≤ 9223372036854775806) (h : (s.data.toList.head? == some c) = false) :
    Calls Tryd.prog 150 #[.string s, .string ⟨#[c]⟩] w fun e w' => e = .returned (.tuple #[.string s, .bool false]) ∧ w = w' := by
  go_enter Tryd.func150, Tryd.ntmps150
  go_wp2_with (go_at_call 172; refine (stringsliteCut_no s c _ hs h).mono ?_; rintro e w' ⟨rfl, rfl⟩)
  go_ret2
  exact ⟨rfl, rfl⟩
end Go.Proofs.YtkpganpojdboeabDoor

/-! End -/
namespace Go.Proofs.YtkpganpojdboeabDoor
open Go.RowKit


set_option maxHeartbeats 400000 in
theorem end_any (k : Nat) : ∀ (s : ByteArray) (a d : Int) (w : World), s.size ≤ 9223372036854775806 → 0 ≤ d → d + k = 61 → 0 ≤ a →
    Calls Tryd.prog 73 #[.string s, .int .i64 a, .int .i64 d] w fun e w' => e = .returned (.int .i64 (endI k s a)) ∧ w = w' := by
  induction k with
  | zero =>
    intro s a d w hs hd0 hd ha
    by_cases h : a < s.size
    all_goals
      go_enter Tryd.func73, Tryd.ntmps73
      go_wp2_with fail
      go_ret
      exact ⟨rfl, rfl⟩
  | succ k ih =>
    intro s a d w hs hd0 hd ha
    have b1 := endI_le k s (a + 1) (by omega)
    have b2 := fun h => endI_le k s (endI k s (a + 1)) h
    by_cases h : a < s.size
    · go_enter Tryd.func73, Tryd.ntmps73
      go_wp2_with (go_at_call 73; refine (ih s _ _ _ hs (by omega) (by omega) (by omega)).mono ?_; rintro e w' ⟨rfl, rfl⟩)
      all_goals
        go_ret
        refine ⟨ret_int ?_, rfl⟩
        go_light
        clear ih b2
        have e1 := byteAt_eq s a (by omega)
        have e2 := byteAt_eq s (endI k s (endI k s (a + 1)))
        simp only [beq_iff_eq, beq_eq_false_iff_ne, ne_eq, bne_iff_ne, bne_eq_false_iff_eq] at *
        rw [endI]
        repeat' split
        all_goals first | omega | (have := e2 (by omega); omega)
    · go_enter Tryd.func73, Tryd.ntmps73
      go_wp2_with fail
      go_ret
      exact ⟨ret_int (by rw [endI, if_neg (by omega)]), rfl⟩
end Go.Proofs.YtkpganpojdboeabDoor

/-! Carets -/
namespace Go.Proofs.YtkpganpojdboeabDoor
open Go.RowKit

set_option maxHeartbeats 400000 in
theorem carets_any (s : ByteArray) (w : World) (hs : s.size ≤ 9223372036854775806) :
    Calls Tryd.prog 33 #[.string s] w fun e w' => e = .returned (.int .i64 (cnt s s.size)) ∧ w = w' := by
  go_enter Tryd.func33, Tryd.ntmps33
  go_wp2
  go_loop [3, 4] (fun n i => ∃ k : Nat, k ≤ s.size ∧ i = .int .i64 k ∧ n = .int .i64 (cnt s k)) (fun _ i => s.size - (intOf i).toNat)
  case atStart => exact ⟨0, Nat.zero_le _, rfl, rfl⟩
  case round =>
    obtain ⟨k, hk, rfl, rfl⟩ := hrel
    have hc := cnt_le s k
    by_cases hlt : k < s.size
    · have e1 : Hid (byteAt s k = ((s[k]'hlt).toNat : Int)) := byteAt_eq s k hlt
      go_wp2
      all_goals
        go_round
        case rel => exact ⟨k + 1, by omega, by go_num, by rw [cnt, e1.out]; first | rw [if_pos (by simpa using ‹(_ == (40:Int)) = true›)] | (rw [if_neg (by simpa using ‹(_ == (40:Int)) = false›)]; go_num)⟩
        case measure => simp [intOf]; omega
    · obtain rfl : k = s.size := by omega
      go_wp2
      go_ret
      exact ⟨rfl, rfl⟩
set_option maxHeartbeats 400000 in
theorem trIs_any (s : ByteArray) (w : World) (hs : s.size ≤ 9223372036854775806) :
    Calls Tryd.prog 32 #[.string s] w fun e w' => e = .returned (.bool (isTreeB s)) ∧ w = w' := by
  have hc := cnt_le s s.size
  have he := endI_le 61 s 0 (by omega)
  by_cases a : (s.size : Int) ≤ 33 <;> by_cases b : cnt s s.size ≤ 8
  all_goals
    go_enter Tryd.func32, Tryd.ntmps32
    go_wp2_with (first | (go_at_call 33; refine (carets_any s _ hs).mono ?_; rintro e w' ⟨rfl, rfl⟩) | (go_at_call 73; refine (end_any 61 s _ _ _ hs (by omega) (by omega) (by omega)).mono ?_; rintro e w' ⟨rfl, rfl⟩))
    go_ret
    exact ⟨ret_bool (by unfold isTreeB; rw [Bool.eq_iff_iff]; simp; try omega), rfl⟩

end Go.Proofs.YtkpganpojdboeabDoor

/-! TrOf -/
namespace Go.Proofs.YtkpganpojdboeabDoor

theorem ext_end (s : ByteArray) (k : Nat) : (s.extract k s.size).data.toList = s.data.toList.drop k := by
  rw [Lib.extract_data]
  exact List.take_of_length_le (by rw [List.length_drop, ← Lib.size_eq]; exact Nat.le_refl _)

theorem byteAt_drop {s : ByteArray} {a : Nat} {c : UInt8} {r : List UInt8} (h : s.data.toList.drop a = c :: r) : a < s.size ∧ byteAt s a = c.toNat := by
  have hl : a < s.data.toList.length := by
    have := congrArg List.length h
    simp at this
    simp; omega
  have hz : a < s.size := by rw [Lib.size_eq]; exact hl
  refine ⟨hz, ?_⟩
  rw [byteAt_eq s a (by simpa using hz)]
  have hc : s.data.toList[a] = c := by
    rw [List.drop_eq_getElem_cons hl] at h
    injection h
  have : (s[((a : Int)).toNat]'(by simpa using hz)) = s.data.toList[a] := by simp; rfl
  rw [this, hc]

theorem drop_of_byteAt {s : ByteArray} {a : Nat} (h : a < s.size) : ∃ c r, s.data.toList.drop a = c :: r ∧ byteAt s a = (c.toNat : Int) ∧ s.data.toList.drop (a + 1) = r := by
  have hl : a < s.data.toList.length := by rw [← Lib.size_eq]; exact h
  have e := List.drop_eq_getElem_cons hl
  exact ⟨_, _, e, (byteAt_drop e).2, rfl⟩

theorem u8_eq {c : UInt8} {n : Nat} (hn : n < 256) (h : (c.toNat : Int) = (n : Int)) : c = UInt8.ofNat n := by
  have h : c.toNat = n := by omega
  subst h; simp

theorem drop_succ {l r : List UInt8} {a : Nat} {c : UInt8} (h : l.drop a = c :: r) : l.drop (a + 1) = r := by
  rw [← List.drop_drop, h]; rfl

theorem drop_add_of {l x y : List UInt8} {a : Nat} (h : l.drop a = x ++ y) : l.drop (a + x.length) = y := by
  rw [← List.drop_drop, h]; simp

theorem endI_complete (t : Tr) : ∀ (k : Nat) (s : ByteArray) (a : Nat) (r : List UInt8), t.carets < k → s.data.toList.drop a = t.text ++ r → endI k s a = a + t.text.length := by
  induction t with
  | lf =>
    intro k s a r hk h
    cases k with
    | zero => omega
    | succ k =>
      have hb := byteAt_drop (show s.data.toList.drop a = 46 :: r from h)
      rw [endI, if_pos (by omega), if_pos (by rw [hb.2]; rfl)]
      rfl
  | nd l rr ihl ihr =>
    intro k s a q hk h
    cases k with
    | zero => omega
    | succ k =>
      have hk' : l.carets < k ∧ rr.carets < k := by simp [Tr.carets] at hk; omega
      have h0 : s.data.toList.drop a = 40 :: (l.text ++ (rr.text ++ (41 :: q))) := by rw [h]; simp [Tr.text]
      have hb := byteAt_drop h0
      have h1 := drop_succ h0
      have e1 := ihl k s (a + 1) _ hk'.1 h1
      have h2 := drop_add_of h1
      have e2 := ihr k s (a + 1 + l.text.length) _ hk'.2 h2
      have h3 := drop_add_of h2
      have hb3 := byteAt_drop h3
      have c1 : endI k s ((a : Int) + 1) = ((a + 1 + l.text.length : Nat) : Int) := by
        have : ((a : Int) + 1) = ((a + 1 : Nat) : Int) := by omega
        rw [this, e1]; omega
      have c2 : endI k s ((a + 1 + l.text.length : Nat) : Int) = ((a + 1 + l.text.length + rr.text.length : Nat) : Int) := by
        rw [e2]; omega
      rw [endI, if_pos (by omega), if_neg (by rw [hb.2]; decide), if_neg (by rw [hb.2]; decide), c1, if_neg (by omega), c2, if_neg (by omega), if_neg (by omega), if_neg (by rw [hb3.2]; decide)]
      simp [Tr.text]; omega

theorem endI_sound (k : Nat) : ∀ (s : ByteArray) (a : Nat), 0 ≤ endI k s a → ∃ t : Tr, ∃ r, s.data.toList.drop a = t.text ++ r ∧ endI k s a = a + t.text.length := by
  induction k with
  | zero => intro s a h; simp [endI] at h
  | succ k ih =>
    intro s a h
    rw [endI] at h ⊢
    split at h
    · next hlt =>
      obtain ⟨c, r, hd, hb, hd1⟩ := drop_of_byteAt (s := s) (a := a) (by omega)
      split at h
      · next h46 =>
        rw [hb] at h46
        have := u8_eq (n := 46) (by omega) h46
        refine ⟨.lf, r, ?_, ?_⟩
        · rw [hd, this]; rfl
        · rw [if_pos hlt, if_pos (by rw [hb]; exact h46)]; rfl
      · next h46 =>
        split at h
        · omega
        · next h40 =>
          split at h
          · omega
          · next hl =>
            have cast1 : ((a : Int) + 1) = ((a + 1 : Nat) : Int) := by omega
            have hl' : 0 ≤ endI k s ((a + 1 : Nat) : Int) := by rw [← cast1]; omega
            obtain ⟨t1, r1, e1, f1⟩ := ih s (a + 1) hl'
            have g1 : endI k s ((a : Int) + 1) = ((a + 1 + t1.text.length : Nat) : Int) := by rw [cast1, f1]; omega
            split at h
            · omega
            · next hr =>
              rw [g1] at hr
              obtain ⟨t2, r2, e2, f2⟩ := ih s (a + 1 + t1.text.length) (by omega)
              have g2 : endI k s (endI k s ((a : Int) + 1)) = ((a + 1 + t1.text.length + t2.text.length : Nat) : Int) := by rw [g1, f2]; omega
              split at h
              · omega
              · next hz =>
                split at h
                · omega
                · next h41 =>
                  rw [g2] at hz h41
                  obtain ⟨d, q, e3, b3, _⟩ := drop_of_byteAt (s := s) (a := a + 1 + t1.text.length + t2.text.length) (by omega)
                  have hd41 := u8_eq (n := 41) (by omega) (show ((d.toNat : Int)) = ((41 : Nat) : Int) by rw [← b3]; simpa using h41)
                  have hc40 := u8_eq (n := 40) (by omega) (show ((c.toNat : Int)) = ((40 : Nat) : Int) by rw [← hb]; simpa using h40)
                  refine ⟨.nd t1 t2, q, ?_, ?_⟩
                  · have x2 := drop_add_of e1
                    rw [e2] at x2
                    have x3 := drop_add_of e2
                    rw [e3] at x3
                    rw [hd, hc40]
                    have : r = t1.text ++ (t2.text ++ (41 :: q)) := by
                      rw [← hd1, e1, ← x2, ← x3, hd41]; rfl
                    rw [this]; simp [Tr.text]
                  · rw [if_pos hlt, if_neg h46, if_neg h40, if_neg hl, if_neg (by omega), if_neg (by omega), if_neg (by rw [g2]; exact h41), g2]
                    simp [Tr.text]; omega
    · omega

theorem text_count (t : Tr) : t.text.count 40 = t.carets := by
  induction t with
  | lf => rfl
  | nd l r ihl ihr => simp [Tr.text, Tr.carets, List.count_append, ihl, ihr]

theorem cnt_count (s : ByteArray) (k : Nat) (hk : k ≤ s.size) : cnt s k = ((s.data.toList.take k).count 40 : Nat) := by
  induction k with
  | zero => simp [cnt]
  | succ k ih =>
    obtain ⟨c, r, hd, hb, _⟩ := drop_of_byteAt (s := s) (a := k) (by omega)
    have hl : k < s.data.toList.length := by rw [← Lib.size_eq]; omega
    have hc : s.data.toList[k] = c := by
      rw [List.drop_eq_getElem_cons hl] at hd
      injection hd
    rw [cnt, ih (by omega), hb, List.take_succ_eq_append_getElem hl, hc, List.count_append]
    by_cases h : c = 40
    · subst h; simp
    · have h' : ¬ ((c.toNat : Int) = 40) := fun e => h (u8_eq (n := 40) (by omega) e)
      rw [if_neg h']
      simp [h]

theorem cnt_str (t : Tr) : cnt t.str t.str.size = t.carets := by
  rw [cnt_count _ _ (Nat.le_refl _), ← text_count, ← Tr.str_list, List.take_of_length_le]
  rw [Lib.size_eq]; exact Nat.le_refl _

/-- The tree of a text, if it is one. -/
def treeOf (s : ByteArray) : Option Tr :=
  match parseN (s.size + 1) s.data.toList with
  | some (t, []) => if t.carets ≤ 8 then some t else none
  | _ => none

theorem str_of_list {s : ByteArray} {t : Tr} (h : s.data.toList = t.text) : s = t.str := ba_ext (by rw [h, Tr.str_list])

theorem treeOf_some {s : ByteArray} {t : Tr} (h : treeOf s = some t) : s = t.str ∧ t.carets ≤ 8 := by
  unfold treeOf at h
  split at h
  · next u hp =>
    split at h
    · next hc =>
      injection h with h
      subst h
      have := parseN_sound _ _ _ _ hp
      exact ⟨str_of_list (by simpa using this), hc⟩
    · simp at h
  · simp at h

theorem parse_str (t : Tr) (k : Nat) (h : t.text.length ≤ k) : parseN k t.str.data.toList = some (t, []) := by
  have := parseN_complete t k [] h
  rwa [List.append_nil, ← Tr.str_list] at this

theorem treeOf_str (t : Tr) (h : t.carets ≤ 8) : treeOf t.str = some t := by
  unfold treeOf
  rw [parse_str t _ (by have := t.str_size; have := t.text_len; omega)]
  simp [h]

theorem endI_str (t : Tr) (h : t.carets ≤ 8) : endI 61 t.str 0 = t.str.size := by
  have := endI_complete t 61 t.str 0 [] (by omega) (by rw [Tr.str_list]; simp)
  rw [Tr.str_size, ← Tr.text_len]
  simpa using this

theorem isTreeB_str (t : Tr) (h : t.carets ≤ 8) : isTreeB t.str = true := by
  unfold isTreeB
  rw [cnt_str, endI_str t h, Tr.str_size]
  simp; omega

theorem treeOf_of_isTreeB {s : ByteArray} (h : isTreeB s = true) : ∃ t : Tr, s = t.str ∧ t.carets ≤ 8 := by
  unfold isTreeB at h
  simp at h
  obtain ⟨⟨h1, h2⟩, h3⟩ := h
  obtain ⟨t, r, e, f⟩ := endI_sound 61 s 0 (by rw [show ((0 : Nat) : Int) = 0 from rfl, h3]; omega)
  have hz : s.size = t.text.length := by
    rw [show ((0 : Nat) : Int) = 0 from rfl] at f
    omega
  have hr : r = [] := by
    have := congrArg List.length e
    simp only [List.drop_zero, List.length_append, ← Lib.size_eq] at this
    exact List.length_eq_zero_iff.1 (by omega)
  have hs : s = t.str := str_of_list (by rw [hr] at e; simpa using e)
  refine ⟨t, hs, ?_⟩
  rw [hs, cnt_str] at h2
  omega

theorem isTreeB_eq (s : ByteArray) : isTreeB s = (treeOf s).isSome := by
  cases h : treeOf s with
  | some t =>
    obtain ⟨rfl, hc⟩ := treeOf_some h
    exact isTreeB_str t hc
  | none =>
    cases hb : isTreeB s with
    | false => rfl
    | true =>
      obtain ⟨t, rfl, hc⟩ := treeOf_of_isTreeB hb
      rw [treeOf_str t hc] at h
      simp at h

end Go.Proofs.YtkpganpojdboeabDoor

/-! TrFn -/
namespace Go.Proofs.YtkpganpojdboeabDoor
namespace Tr
def mir : Tr → Tr
  | lf => lf
  | nd l r => nd r.mir l.mir
def join : Tr → Tr → Tr
  | lf, b => b
  | nd l r, lf => nd l r
  | nd l r, nd p q => nd (join l p) (join r q)
def com : Tr → Tr → Tr
  | lf, _ => lf
  | nd _ _, lf => lf
  | nd l r, nd p q => nd (com l p) (com r q)
def part : Tr → Tr → Bool
  | lf, _ => true
  | nd _ _, lf => false
  | nd l r, nd p q => part l p && part r q
def isLf : Tr → Bool
  | lf => true
  | nd _ _ => false
end Tr

theorem mir_carets (t : Tr) : t.mir.carets = t.carets := by
  induction t with
  | lf => rfl
  | nd l r ihl ihr => simp [Tr.mir, Tr.carets, ihl, ihr]; omega

theorem join_carets (a : Tr) : ∀ b : Tr, (a.join b).carets ≤ a.carets + b.carets := by
  induction a with
  | lf => intro b; simp [Tr.join]
  | nd l r ihl ihr =>
    intro b
    cases b with
    | lf => simp [Tr.join]
    | nd p q => have := ihl p; have := ihr q; simp [Tr.join, Tr.carets]; omega

theorem com_carets (a : Tr) : ∀ b : Tr, (a.com b).carets ≤ a.carets := by
  induction a with
  | lf => intro b; simp [Tr.com]
  | nd l r ihl ihr =>
    intro b
    cases b with
    | lf => simp [Tr.com, Tr.carets]
    | nd p q => have := ihl p; have := ihr q; simp [Tr.com, Tr.carets]; omega

theorem com_eq_part (a : Tr) : ∀ b : Tr, a.com b = a ↔ a.part b = true := by
  induction a with
  | lf => intro b; simp [Tr.com, Tr.part]
  | nd l r ihl ihr =>
    intro b
    cases b with
    | lf => simp [Tr.com, Tr.part]
    | nd p q => simp [Tr.com, Tr.part, ihl, ihr]

end Go.Proofs.YtkpganpojdboeabDoor

/-! SpecTr -/
namespace Go.Proofs.YtkpganpojdboeabDoor
open Go.RowKit

theorem isLf_eq (t : Tr) : (t.str.toList == [46]) = t.isLf := by
  rw [Lib.toList_data, Tr.str_list]
  cases t <;> simp [Tr.text, Tr.isLf]

theorem str_lf : Tr.lf.str = ⟨#[46]⟩ := rfl
theorem str_nd (l r : Tr) : (Tr.nd l r).str = ⟨#[40]⟩ ++ l.str ++ r.str ++ ⟨#[41]⟩ := by
  apply ba_ext
  simp [Tr.str, Tr.text]

theorem trLeaf_any (t : Tr) (w : World) :
    Calls Tryd.prog 95 #[.string t.str] w fun e w' => e = .returned (.bool t.isLf) ∧ w = w' := by
  go_enter Tryd.func95, Tryd.ntmps95
  go_wp2_with fail
  go_ret
  exact ⟨ret_bool (isLf_eq t), rfl⟩

theorem trOf_any (l r : Tr) (w : World) (h : l.carets + r.carets ≤ 3000000) :
    Calls Tryd.prog 83 #[.string l.str, .string r.str] w fun e w' => e = .returned (.string (Tr.nd l r).str) ∧ w = w' := by
  have h1 := l.str_size
  have h2 := r.str_size
  go_enter Tryd.func83, Tryd.ntmps83
  go_wp2_with fail
  go_ret
  exact ⟨by rw [str_nd]; rfl, rfl⟩

theorem ret_str2 {a b c d : ByteArray} (h : a = c) (k : b = d) : Ending.returned (.tuple #[.string a, .string b]) = .returned (.tuple #[.string c, .string d]) := by rw [h, k]

theorem side_left (l r : Tr) (e : Nat) (he : e = 3 * l.carets + 2) : (Tr.nd l r).str.extract 1 e = l.str := by
  apply ba_ext
  rw [Lib.extract_data, Tr.str_list, Tr.str_list]
  have : e - 1 = l.text.length := by rw [l.text_len]; omega
  rw [this]
  simp [Tr.text]

theorem side_right (l r : Tr) (e f : Nat) (he : e = 3 * l.carets + 2) (hf : f = 3 * l.carets + 3 * r.carets + 3) : (Tr.nd l r).str.extract e f = r.str := by
  apply ba_ext
  rw [Lib.extract_data, Tr.str_list, Tr.str_list]
  have h1 : e = l.text.length + 1 := by rw [l.text_len]; omega
  have h2 : f - e = r.text.length := by rw [r.text_len]; omega
  rw [h2, h1]
  show ((40 :: (l.text ++ (r.text ++ [41]))).drop (l.text.length + 1)).take _ = _
  rw [List.drop_succ_cons, List.drop_left, List.take_left]

theorem trSides_any (l r : Tr) (w : World) (h : l.carets + r.carets ≤ 60) :
    Calls Tryd.prog 96 #[.string (Tr.nd l r).str] w fun e w' => e = .returned (.tuple #[.string l.str, .string r.str]) ∧ Below w.heap.size w w' := by
  have h1 := (Tr.nd l r).str_size
  simp only [Tr.carets] at h1
  have he := endI_complete l 61 (Tr.nd l r).str 1 (r.text ++ [41]) (by omega) (by rw [Tr.str_list]; rfl)
  have hl := l.text_len
  have he' : endI 61 (Tr.nd l r).str 1 = (3 * l.carets + 2 : Nat) := by
    have : ((1 : Nat) : Int) = 1 := rfl
    rw [this] at he; rw [he]; omega
  have HE := Lib.hid he'
  clear he he' hl
  go_enter Tryd.func96, Tryd.ntmps96
  go_wp2_with fail
  refine (end_any 61 (Tr.nd l r).str _ _ _ (by omega) (by omega) (by omega) (by omega)).mono ?_; rintro e w' ⟨rfl, rfl⟩
  rw [HE.out]
  go_wp2_with fail
  go_region
  all_goals (try go_wp2_with fail)
  all_goals go_ret2
  exact ⟨ret_str2 (side_left l r _ (by omega)) (side_right l r _ _ (by omega) (by omega)), (Below.refl _ _).drew⟩
end Go.Proofs.YtkpganpojdboeabDoor

/-! AddrP -/
namespace Go.Proofs.YtkpganpojdboeabDoor
def Tr.addrs : Tr → ByteArray → List ByteArray
  | .lf, here => [here]
  | .nd l r, here => l.addrs (here ++ ⟨#[48]⟩) ++ r.addrs (here ++ ⟨#[49]⟩)
theorem addrs_length (t : Tr) : ∀ here, (t.addrs here).length = t.carets + 1 := by
  induction t with
  | lf => intro here; rfl
  | nd l r ihl ihr => intro here; simp [Tr.addrs, Tr.carets, ihl, ihr]; omega
theorem addrs_size (t : Tr) : ∀ here, ∀ s ∈ t.addrs here, here.size ≤ s.size ∧ s.size ≤ here.size + t.carets := by
  induction t with
  | lf => intro here s hs; simp [Tr.addrs] at hs; subst hs; simp [Tr.carets]
  | nd l r ihl ihr =>
    intro here s hs
    rw [Tr.addrs, List.mem_append] at hs
    rcases hs with hs | hs
    · have := ihl _ s hs
      have e0 : ∀ c : UInt8, (here ++ (⟨#[c]⟩ : ByteArray)).size = here.size + 1 := fun c => ByteArray.size_append
      rw [e0] at this
      simp only [Tr.carets]; omega
    · have := ihr _ s hs
      have e0 : ∀ c : UInt8, (here ++ (⟨#[c]⟩ : ByteArray)).size = here.size + 1 := fun c => ByteArray.size_append
      rw [e0] at this
      simp only [Tr.carets]; omega
end Go.Proofs.YtkpganpojdboeabDoor

/-! WayP -/
namespace Go.Proofs.YtkpganpojdboeabDoor

/-- The exponents of the leaves, where a way of so many left sides leads to the tree. -/
def Tr.expN : Tr → Nat → List Nat
  | .lf, w => [w]
  | .nd l r, w => l.expN (w + 1) ++ r.expN 0
/-- Those of a whole tree. -/
def Tr.expR : Tr → List Nat
  | .lf => [0]
  | .nd l r => l.expN 0 ++ r.expR
theorem expN_length (t : Tr) : ∀ w, (t.expN w).length = t.carets + 1 := by
  induction t with
  | lf => intro w; rfl
  | nd l r ihl ihr => intro w; simp [Tr.expN, Tr.carets, ihl, ihr]; omega
theorem expR_length (t : Tr) : t.expR.length = t.carets + 1 := by
  induction t with
  | lf => rfl
  | nd l r ihl ihr => simp [Tr.expR, Tr.carets, expN_length, ihr]; omega
theorem expN_sum (t : Tr) : ∀ w, (t.expN w).sum = w + t.carets := by
  induction t with
  | lf => intro w; simp [Tr.expN, Tr.carets]
  | nd l r ihl ihr => intro w; simp [Tr.expN, Tr.carets, ihl, ihr]; omega
theorem expR_sum (t : Tr) : t.expR.sum ≤ t.carets := by
  induction t with
  | lf => simp [Tr.expR]
  | nd l r ihl ihr => simp [Tr.expR, Tr.carets, expN_sum]; omega

/-! The program's exponent of a leaf, from its address: letters '0' and '1'. -/
/-- How many '0' a list ends in. -/
def zerosR (l : List UInt8) : Nat := (l.reverse.takeWhile (· == 48)).length
def topL (l : List UInt8) : List UInt8 := l.take (l.length - zerosR l)
def expoL (l : List UInt8) : Nat := if 0 < zerosR l ∧ ¬ (48 : UInt8) ∈ topL l then zerosR l - 1 else zerosR l
theorem zerosR_le (l : List UInt8) : zerosR l ≤ l.length := by
  unfold zerosR
  have := (List.takeWhile_prefix (p := (· == (48 : UInt8))) (l := l.reverse)).length_le
  simpa using this
theorem zerosR_zero (l : List UInt8) : zerosR (l ++ [48]) = zerosR l + 1 := by simp [zerosR]
theorem zerosR_one (l : List UInt8) : zerosR (l ++ [49]) = 0 := by simp [zerosR]
theorem topL_zero (l : List UInt8) : topL (l ++ [48]) = topL l := by
  have := zerosR_le l
  unfold topL
  rw [zerosR_zero, List.length_append, List.take_append_of_le_length (by simp; try omega)]
  congr 1
  simp
theorem topL_one (l : List UInt8) : topL (l ++ [49]) = l ++ [49] := by
  unfold topL
  rw [zerosR_one, Nat.sub_zero, List.take_length]

theorem expoL_zero (l : List UInt8) (h : (48 : UInt8) ∈ topL l) : expoL (l ++ [48]) = zerosR l + 1 := by
  unfold expoL; rw [zerosR_zero, topL_zero, if_neg (fun k => k.2 h)]

def expsL (t : Tr) (here : List UInt8) : List Nat := (t.addrs ⟨here.toArray⟩).map fun a => expoL a.data.toList

theorem addrs_push (here : List UInt8) (c : UInt8) : (⟨here.toArray⟩ : ByteArray) ++ ⟨#[c]⟩ = ⟨(here ++ [c]).toArray⟩ := ba_ext (by simp)

theorem expsL_nd (l r : Tr) (here : List UInt8) : expsL (.nd l r) here = expsL l (here ++ [48]) ++ expsL r (here ++ [49]) := by
  unfold expsL
  rw [Tr.addrs, addrs_push, addrs_push, List.map_append]
theorem expsL_lf (here : List UInt8) : expsL .lf here = [expoL here] := by simp [expsL, Tr.addrs]

theorem mem_topL_zero {l : List UInt8} (h : (48 : UInt8) ∈ topL l) : (48 : UInt8) ∈ topL (l ++ [48]) := by rwa [topL_zero]
theorem mem_topL_one {l : List UInt8} (h : (48 : UInt8) ∈ l) : (48 : UInt8) ∈ topL (l ++ [49]) := by rw [topL_one]; simp [h]
theorem mem_of_topL {l : List UInt8} (h : (48 : UInt8) ∈ topL l) : (48 : UInt8) ∈ l := List.mem_of_mem_take h

/-- Below a place that some '0' and a '1' lead to. -/
theorem exps_in (t : Tr) : ∀ here : List UInt8, (48 : UInt8) ∈ topL here → expsL t here = t.expN (zerosR here) := by
  induction t with
  | lf => intro here h; rw [expsL_lf]; simp [expoL, h, Tr.expN]
  | nd l r ihl ihr =>
    intro here h
    rw [expsL_nd, ihl _ (mem_topL_zero h), ihr _ (mem_topL_one (mem_of_topL h)), zerosR_zero, zerosR_one]
    rfl
/-- Below a place that '1's and then '0's lead to. -/
theorem exps_left (t : Tr) : ∀ (here : List UInt8) (k : Nat), ¬ (48 : UInt8) ∈ topL here → zerosR here = k + 1 → expsL t here = t.expN k := by
  induction t with
  | lf => intro here k h hk; rw [expsL_lf]; simp [expoL, h, hk, Tr.expN]
  | nd l r ihl ihr =>
    intro here k h hk
    have h48 : (48 : UInt8) ∈ here := by
      have h1 : zerosR here ≠ 0 := by omega
      unfold zerosR at h1
      cases hr : here.reverse with
      | nil => rw [hr] at h1; simp at h1
      | cons c rest =>
        rw [hr, List.takeWhile_cons] at h1
        split at h1
        · next hc =>
          have : c ∈ here := by rw [← List.mem_reverse, hr]; simp
          rw [beq_iff_eq] at hc
          rwa [hc] at this
        · simp at h1
    rw [expsL_nd, ihl _ (k + 1) (by rw [topL_zero]; exact h) (by rw [zerosR_zero, hk]), exps_in r _ (mem_topL_one h48), zerosR_one]
    rfl
theorem exps_right (t : Tr) : ∀ here : List UInt8, ¬ (48 : UInt8) ∈ here → zerosR here = 0 → expsL t here = t.expR := by
  induction t with
  | lf => intro here h hz; rw [expsL_lf]; simp [expoL, hz, Tr.expR]
  | nd l r ihl ihr =>
    intro here h hz
    have ht : ¬ (48 : UInt8) ∈ topL (here ++ [48]) := by rw [topL_zero]; exact fun k => h (mem_of_topL k)
    rw [expsL_nd, exps_left l _ 0 ht (by rw [zerosR_zero, hz]), ihr _ (by simp [h]) (zerosR_one _)]
    rfl
/-- The program's exponents are those of the tree. -/
theorem exps_all (t : Tr) : (t.addrs ⟨#[]⟩).map (fun a => expoL a.data.toList) = t.expR := exps_right t [] (by simp) rfl

/-! Trees of exponents. -/
/-- Joins of the first two trees of a list. -/
def joinJ : Nat → List Tr → List Tr
  | 0, s => s
  | n + 1, t :: u :: r => joinJ n (.nd t u :: r)
  | _ + 1, s => s
/-- The trees of exponents, over n leaves behind them. -/
def stackD (n : Nat) : List Nat → List Tr
  | [] => List.replicate n .lf
  | e :: L => joinJ e (.lf :: stackD n L)
theorem joinJ_length : ∀ (e : Nat) (s : List Tr), e < s.length → (joinJ e s).length + e = s.length := by
  intro e
  induction e with
  | zero => intro s _; rfl
  | succ e ih =>
    intro s h
    match s, h with
    | [], h => simp at h
    | [_], h => simp at h
    | t :: u :: r, h => rw [joinJ]; have := ih (.nd t u :: r) (by simp at h ⊢; omega); simp at this ⊢; omega
theorem joinJ_app : ∀ (e : Nat) (s r : List Tr), e < s.length → joinJ e (s ++ r) = joinJ e s ++ r := by
  intro e
  induction e with
  | zero => intro s r _; rfl
  | succ e ih =>
    intro s r h
    match s, h with
    | [], h => simp at h
    | [_], h => simp at h
    | t :: u :: q, h =>
      show joinJ (e + 1) (t :: u :: (q ++ r)) = _
      rw [joinJ, joinJ]
      exact ih (.nd t u :: q) r (by simp at h ⊢; omega)
theorem stackD_length (n : Nat) : ∀ L : List Nat, L.sum ≤ n → (stackD n L).length + L.sum = n + L.length := by
  intro L
  induction L with
  | nil => intro _; simp [stackD]
  | cons e L ih =>
    intro h
    rw [List.sum_cons] at h
    have h1 := ih (by omega)
    have h2 := joinJ_length e (.lf :: stackD n L) (by simp; omega)
    rw [stackD]
    simp at h2 ⊢; omega
theorem stackD_more (n m : Nat) : ∀ L : List Nat, L.sum ≤ n → stackD (n + m) L = stackD n L ++ List.replicate m .lf := by
  intro L
  induction L with
  | nil => intro _; simp [stackD, List.replicate_append_replicate]
  | cons e L ih =>
    intro h
    rw [List.sum_cons] at h
    have h1 := stackD_length n L (by omega)
    rw [stackD, ih (by omega), stackD]
    exact joinJ_app e (.lf :: stackD n L) _ (by simp; omega)
theorem stackD_zeros (n m : Nat) : ∀ L : List Nat, stackD n (L ++ List.replicate m 0) = stackD (n + m) L := by
  intro L
  induction L with
  | nil =>
    show stackD n (List.replicate m 0) = List.replicate (n + m) .lf
    induction m with
    | zero => rfl
    | succ m ih => rw [List.replicate_succ, stackD, joinJ, ih]; rfl
  | cons e L ih => rw [List.cons_append, stackD, stackD, ih]
theorem stackD_expN (n : Nat) (t : Tr) : ∀ (w : Nat) (X : List Nat), stackD n (t.expN w ++ X) = joinJ w (t :: stackD n X) := by
  induction t with
  | lf => intro w X; rfl
  | nd l r ihl ihr =>
    intro w X
    rw [Tr.expN, List.append_assoc, ihl, ihr]
    rfl

/-- The tree with trees at the left sides of its right side. -/
def combT : List Tr → Tr
  | [] => .lf
  | t :: r => .nd t (combT r)
def sidesT : Tr → List Tr
  | .lf => []
  | .nd l r => l :: sidesT r
theorem comb_sides (t : Tr) : combT (sidesT t) = t := by
  induction t with
  | lf => rfl
  | nd l r _ ihr => rw [sidesT, combT, ihr]
theorem stackD_expR (n : Nat) (t : Tr) : stackD n t.expR = sidesT t ++ List.replicate (n + 1) Tr.lf := by
  induction t with
  | lf => rfl
  | nd l r _ ihr => rw [Tr.expR, stackD_expN, joinJ, ihr]; rfl
/-- A list of trees without leaves at its end. -/
def stripT (s : List Tr) : List Tr := (s.reverse.dropWhile Tr.isLf).reverse
theorem stripT_lf (s : List Tr) : ∀ m : Nat, stripT (s ++ List.replicate m Tr.lf) = stripT s := by
  intro m
  induction m with
  | zero => simp
  | succ m ih =>
    rw [List.replicate_succ', ← List.append_assoc]
    unfold stripT
    rw [List.reverse_append]
    show ((Tr.lf :: (s ++ List.replicate m Tr.lf).reverse).dropWhile Tr.isLf).reverse = _
    rw [List.dropWhile_cons_of_pos (by rfl)]
    exact ih
theorem stripT_last (s : List Tr) (t : Tr) (h : t.isLf = false) : stripT (s ++ [t]) = s ++ [t] := by
  unfold stripT
  rw [List.reverse_append]
  show ((t :: s.reverse).dropWhile Tr.isLf).reverse = _
  rw [List.dropWhile_cons_of_neg (by rw [h]; decide)]
  simp
/-- The tree of exponents as the model makes it. -/
def treeE (L : List Nat) : Tr := combT (stripT (stackD (L.sum + 1) L))
theorem treeE_of (L : List Nat) (t : Tr) (j : Nat) (h : t.expR = L ++ List.replicate j 0) (hl : t = .lf ∨ ∃ s u, sidesT t = s ++ [u] ∧ u.isLf = false) : treeE L = t := by
  have h1 := stackD_expR (L.sum + 1) t
  rw [h, stackD_zeros, stackD_more (L.sum + 1) j L (by omega)] at h1
  have h2 := congrArg stripT h1
  rw [stripT_lf, stripT_lf] at h2
  unfold treeE
  rw [h2]
  rcases hl with rfl | ⟨s, u, hs, hu⟩
  · rfl
  · rw [hs, stripT_last s u hu, ← hs, comb_sides]

end Go.Proofs.YtkpganpojdboeabDoor

/-! Node -/
namespace Go.Proofs.YtkpganpojdboeabDoor
open Go.RowKit

/-- Block b is a node of the tree, and so on down. -/
def NodeAt (w : World) : Tr → Nat → Prop
  | .lf, b => w.heap[b]? = some (.cells #[.pointer none, .pointer none] 140 (0, 0))
  | .nd l r, b => ∃ bl br, w.heap[b]? = some (.cells #[.pointer (some ⟨bl, 0, none⟩), .pointer (some ⟨br, 0, none⟩)] 140 (0, 0)) ∧ NodeAt w l bl ∧ NodeAt w r br

theorem NodeAt.lt {w : World} {t : Tr} {b : Nat} (h : NodeAt w t b) : b < w.heap.size := by
  cases t with
  | lf => exact lt_of_block h
  | nd l r => obtain ⟨_, _, h, _⟩ := h; exact lt_of_block h

theorem NodeAt.keep {w w' : World} (hb : Below w.heap.size w w') : ∀ {t : Tr} {b : Nat}, NodeAt w t b → NodeAt w' t b := by
  intro t
  induction t with
  | lf => intro b h; exact (hb.block b h.lt).trans h
  | nd l r ihl ihr =>
    intro b h
    have hl := h.lt
    obtain ⟨bl, br, h, h1, h2⟩ := h
    exact ⟨bl, br, (hb.block b hl).trans h, ihl h1, ihr h2⟩

theorem two_left {w : World} {b : Nat} {u v : Value} {t : TypeId} (h : w.heap[b]? = some (.cells #[u, v] t (0, 0))) : w.cell? ⟨b, 0, none⟩ = some u := by simp [World.cell?, h]
theorem two_right {w : World} {b : Nat} {u v : Value} {t : TypeId} (h : w.heap[b]? = some (.cells #[u, v] t (0, 0))) : w.cell? ⟨b, 1, none⟩ = some v := by simp [World.cell?, h]

theorem heap_alloc_at (w : World) (o : Obj) : (w.alloc o).heap[w.heap.size]? = some o := by
  show (w.heap.push o)[w.heap.size]? = _
  simp

theorem node_new {w1 w2 : World} {l r : Tr} {b1 b2 : Nat} (h1 : NodeAt w1 l b1) (hb : Below w1.heap.size w1 w2) (h2 : NodeAt w2 r b2) :
    NodeAt (w2.alloc (.cells #[.pointer (some ⟨b1, 0, none⟩), .pointer (some ⟨b2, 0, none⟩)] 140 (0, 0))) (.nd l r) w2.heap.size := by
  have hb3 : Below w2.heap.size w2 (w2.alloc (.cells #[.pointer (some ⟨b1, 0, none⟩), .pointer (some ⟨b2, 0, none⟩)] 140 (0, 0))) := (Below.refl _ _).alloc (Nat.le_refl _) _
  exact ⟨b1, b2, heap_alloc_at _ _, (h1.keep hb).keep hb3, h2.keep hb3⟩

/-- What readPlace leaves where there is a tree. -/
def PlaceOk (t : Tr) (r : List UInt8) (s : ByteArray) (w : World) (e : Ending) (w' : World) : Prop :=
  ∃ (b : Nat) (s' : ByteArray), s'.data.toList = r ∧ s'.size < s.size ∧ NodeAt w' t b ∧ Below w.heap.size w w' ∧ e = .returned (.tuple #[.pointer (some ⟨b, 0, none⟩), .string s'])
def PlaceNo (w : World) (e : Ending) (w' : World) : Prop :=
  Below w.heap.size w w' ∧ e = .returned (.tuple #[.pointer none, .string ⟨#[]⟩])
def PlacePost (o : Option (Tr × List UInt8)) (s : ByteArray) (w : World) (e : Ending) (w' : World) : Prop :=
  match o with
  | some (t, r) => PlaceOk t r s w e w'
  | none => PlaceNo w e w'

end Go.Proofs.YtkpganpojdboeabDoor

/-! Place -/
namespace Go.Proofs.YtkpganpojdboeabDoor
open Go.RowKit

theorem head_of {l : List UInt8} {c : UInt8} (h : (l.head? == some c) = true) : ∃ r, l = c :: r := by
  cases l with
  | nil => simp at h
  | cons a r => simp at h; exact ⟨r, by rw [h]⟩

set_option maxHeartbeats 1000000 in
theorem place_any (k : Nat) : ∀ (s : ByteArray) (w : World), s.size < k → s.size ≤ 9223372036854775806 →
    Calls Tryd.prog 116 #[.string s] w (PlacePost (parseN k s.data.toList) s w) := by
  induction k with
  | zero => intro s w h; omega
  | succ k ih =>
    intro s w hk hs
    have ih_no : ∀ (s : ByteArray) (w : World), s.size < k → s.size ≤ 9223372036854775806 → parseN k s.data.toList = none → Calls Tryd.prog 116 #[.string s] w (PlaceNo w) := by
      intro s w h1 h2 h3
      have := ih s w h1 h2
      rw [h3] at this
      exact this
    have ih_yes : ∀ (s : ByteArray) (w : World) (t : Tr) (r : List UInt8), s.size < k → s.size ≤ 9223372036854775806 → parseN k s.data.toList = some (t, r) → Calls Tryd.prog 116 #[.string s] w (PlaceOk t r s w) := by
      intro s w t r h1 h2 h3
      have := ih s w h1 h2
      rw [h3] at this
      exact this
    clear ih
    cases h46 : (s.data.toList.head? == some 46) with
    | true =>
      obtain ⟨r, hr⟩ := head_of h46
      have HP : parseN (k + 1) s.data.toList = some (.lf, r) := by rw [hr, parseN, if_pos rfl]
      rw [HP]
      show Calls _ _ _ _ (PlaceOk .lf r s w)
      have HR := Lib.hid hr
      clear hr HP h46
      go_enter Tryd.func116, Tryd.ntmps116
      go_wp2_with (go_at_call 150; refine (cut_yes s _ r _ hs HR.out).mono ?_; rintro e w' ⟨s', h1, h2, rfl, rfl⟩; have H1 := Lib.hid h1; clear h1)
      go_ret2
      exact ⟨_, _, H1.out, h2, heap_alloc_at _ _, (Below.refl _ _).alloc (Nat.le_refl _) _, rfl⟩
    | false =>
      cases h40 : (s.data.toList.head? == some 40) with
      | false =>
        have HP : parseN (k + 1) s.data.toList = none := by
          cases hl : s.data.toList with
          | nil => rfl
          | cons c r =>
            rw [hl] at h46 h40
            have h1 : ¬ c = 46 := by simpa using h46
            have h2 : ¬ c = 40 := by simpa using h40
            rw [parseN, if_neg h1, if_neg h2]
        rw [HP]
        show Calls _ _ _ _ (PlaceNo w)
        go_enter Tryd.func116, Tryd.ntmps116
        go_wp2_with fail
        refine (cut_no s 46 _ hs h46).mono ?_; rintro e w' ⟨rfl, rfl⟩
        go_wp2_with fail
        refine (cut_no s 40 _ hs h40).mono ?_; rintro e w' ⟨rfl, rfl⟩
        go_wp2_with fail
        go_ret2
        exact ⟨Below.refl _ _, rfl⟩
      | true =>
        obtain ⟨r, hr⟩ := head_of h40
        have HR := Lib.hid hr
        have hz : s.size = r.length + 1 := by rw [Lib.size_eq, hr]; rfl
        have HZ := Lib.hid hz
        clear h40 hz
        cases hp1 : parseN k r with
        | none =>
          have HP : parseN (k + 1) s.data.toList = none := by rw [hr, parseN, if_neg (by decide), if_pos rfl, hp1]
          rw [HP]
          show Calls _ _ _ _ (PlaceNo w)
          have H1 := Lib.hid hp1
          clear HP hr hp1
          go_enter Tryd.func116, Tryd.ntmps116
          go_wp2_with fail
          refine (cut_no s 46 _ hs h46).mono ?_; rintro e w' ⟨rfl, rfl⟩
          go_wp2_with fail
          refine (cut_yes s 40 r _ hs HR.out).mono ?_; rintro e w' ⟨s1, hs1, hz1, rfl, rfl⟩; have HS1 := Lib.hid hs1; clear hs1
          go_wp2_with fail
          refine (ih_no s1 _ (by omega) (by omega) (by rw [HS1.out]; exact H1.out)).mono ?_; rintro e w1 ⟨hb1, rfl⟩
          go_wp2_with fail
          go_ret2
          exact ⟨hb1, rfl⟩
        | some p1 =>
          obtain ⟨t1, r1⟩ := p1
          have hl1 := parseN_len hp1
          cases hp2 : parseN k r1 with
          | none =>
            have HP : parseN (k + 1) s.data.toList = none := by rw [hr, parseN, if_neg (by decide), if_pos rfl, hp1]; show (match parseN k r1 with | none => none | some (t2, r2) => _) = _; rw [hp2]
            rw [HP]
            show Calls _ _ _ _ (PlaceNo w)
            have H1 := Lib.hid hp1
            have H2 := Lib.hid hp2
            clear HP hr hp1 hp2
            go_enter Tryd.func116, Tryd.ntmps116
            go_wp2_with fail
            refine (cut_no s 46 _ hs h46).mono ?_; rintro e w' ⟨rfl, rfl⟩
            go_wp2_with fail
            refine (cut_yes s 40 r _ hs HR.out).mono ?_; rintro e w' ⟨s1, hs1, hz1, rfl, rfl⟩; have HS1 := Lib.hid hs1; clear hs1
            go_wp2_with fail
            refine (ih_yes s1 _ _ _ (by omega) (by omega) (by rw [HS1.out]; exact H1.out)).mono ?_; rintro e w1 ⟨b1, s2, hs2, hz2, hn1, hb1, rfl⟩; have HS2 := Lib.hid hs2; clear hs2
            go_wp2_with fail
            refine (ih_no s2 _ (by omega) (by omega) (by rw [HS2.out]; exact H2.out)).mono ?_; rintro e w2 ⟨hb2, rfl⟩
            go_wp2_with fail
            go_ret2
            exact ⟨hb1.trans (hb2.mono hb1.size), rfl⟩
          | some p2 =>
            obtain ⟨t2, r2⟩ := p2
            have hl2 := parseN_len hp2
            cases h41 : (r2.head? == some 41) with
            | false =>
              have HP : parseN (k + 1) s.data.toList = none := by
                rw [hr, parseN, if_neg (by decide), if_pos rfl, hp1]
                show (match parseN k r1 with | none => none | some (t2, r2) => _) = _
                rw [hp2]
                cases r2 with
                | nil => rfl
                | cons c r3 =>
                  have h1 : ¬ c = 41 := by simpa using h41
                  simp [h1]
              rw [HP]
              show Calls _ _ _ _ (PlaceNo w)
              have H1 := Lib.hid hp1
              have H2 := Lib.hid hp2
              have H3 := Lib.hid h41
              clear HP hr hp1 hp2 h41
              go_enter Tryd.func116, Tryd.ntmps116
              go_wp2_with fail
              refine (cut_no s 46 _ hs h46).mono ?_; rintro e w' ⟨rfl, rfl⟩
              go_wp2_with fail
              refine (cut_yes s 40 r _ hs HR.out).mono ?_; rintro e w' ⟨s1, hs1, hz1, rfl, rfl⟩; have HS1 := Lib.hid hs1; clear hs1
              go_wp2_with fail
              refine (ih_yes s1 _ _ _ (by omega) (by omega) (by rw [HS1.out]; exact H1.out)).mono ?_; rintro e w1 ⟨b1, s2, hs2, hz2, hn1, hb1, rfl⟩; have HS2 := Lib.hid hs2; clear hs2
              go_wp2_with fail
              refine (ih_yes s2 _ _ _ (by omega) (by omega) (by rw [HS2.out]; exact H2.out)).mono ?_; rintro e w2 ⟨b2, s3, hs3, hz3, hn2, hb2, rfl⟩; have HS3 := Lib.hid hs3; clear hs3
              go_wp2_with fail
              refine (cut_no s3 41 _ (by omega) (by rw [HS3.out]; exact H3.out)).mono ?_; rintro e w' ⟨rfl, rfl⟩
              go_wp2_with fail
              go_ret2
              exact ⟨hb1.trans (hb2.mono hb1.size), rfl⟩
            | true =>
              obtain ⟨r3, hr3⟩ := head_of h41
              have HP : parseN (k + 1) s.data.toList = some (.nd t1 t2, r3) := by
                rw [hr, parseN, if_neg (by decide), if_pos rfl, hp1]
                show (match parseN k r1 with | none => none | some (t2, r2) => _) = _
                rw [hp2, hr3]
                simp
              rw [HP]
              show Calls _ _ _ _ (PlaceOk (.nd t1 t2) r3 s w)
              have H1 := Lib.hid hp1
              have H2 := Lib.hid hp2
              have H3 := Lib.hid hr3
              clear HP hr hp1 hp2 h41 hr3
              go_enter Tryd.func116, Tryd.ntmps116
              go_wp2_with fail
              refine (cut_no s 46 _ hs h46).mono ?_; rintro e w' ⟨rfl, rfl⟩
              go_wp2_with fail
              refine (cut_yes s 40 r _ hs HR.out).mono ?_; rintro e w' ⟨s1, hs1, hz1, rfl, rfl⟩; have HS1 := Lib.hid hs1; clear hs1
              go_wp2_with fail
              refine (ih_yes s1 _ _ _ (by omega) (by omega) (by rw [HS1.out]; exact H1.out)).mono ?_; rintro e w1 ⟨b1, s2, hs2, hz2, hn1, hb1, rfl⟩; have HS2 := Lib.hid hs2; clear hs2
              go_wp2_with fail
              refine (ih_yes s2 _ _ _ (by omega) (by omega) (by rw [HS2.out]; exact H2.out)).mono ?_; rintro e w2 ⟨b2, s3, hs3, hz3, hn2, hb2, rfl⟩; have HS3 := Lib.hid hs3; clear hs3
              go_wp2_with fail
              refine (cut_yes s3 41 r3 _ (by omega) (by rw [HS3.out]; exact H3.out)).mono ?_; rintro e w' ⟨s4, hs4, hz4, rfl, rfl⟩; have HS4 := Lib.hid hs4; clear hs4
              go_wp2_with fail
              go_ret2
              have hb3 : Below w2.heap.size w2 (w2.alloc (.cells #[.pointer (some ⟨b1, 0, none⟩), .pointer (some ⟨b2, 0, none⟩)] 140 (0, 0))) := (Below.refl _ _).alloc (Nat.le_refl _) _
              exact ⟨_, _, HS4.out, by omega, ⟨b1, b2, heap_alloc_at _ _, (hn1.keep hb2).keep hb3, hn2.keep hb3⟩, (hb1.trans (hb2.mono hb1.size)).trans (hb3.mono (Nat.le_trans hb1.size hb2.size)), rfl⟩
end Go.Proofs.YtkpganpojdboeabDoor

/-! Read -/
namespace Go.Proofs.YtkpganpojdboeabDoor
open Go.RowKit

def ReadOk (t : Tr) (w : World) (e : Ending) (w' : World) : Prop :=
  ∃ b : Nat, NodeAt w' t b ∧ Below w.heap.size w w' ∧ e = .returned (.tuple #[.pointer (some ⟨b, 0, none⟩), .bool true])
def ReadNo (w : World) (e : Ending) (w' : World) : Prop :=
  Below w.heap.size w w' ∧ e = .returned (.tuple #[.pointer none, .bool false])

theorem treeOf_of_parse {s : ByteArray} {t : Tr} (h : parseN (s.size + 1) s.data.toList = some (t, [])) (hz : s.size ≤ 25) : treeOf s = some t := by
  have e := str_of_list (show s.data.toList = t.text by simpa using parseN_sound _ _ _ _ h)
  subst e
  exact treeOf_str t (by rw [Tr.str_size] at hz; omega)

theorem read_yes (t : Tr) (w : World) (h : t.carets ≤ 8) :
    Calls Tryd.prog 74 #[.string t.str] w (ReadOk t w) := by
  have hz := t.str_size
  have hp := place_any (t.str.size + 1) t.str
  rw [parse_str t _ (by have := t.text_len; omega)] at hp
  have hp' : ∀ w, Calls Tryd.prog 116 #[.string t.str] w (PlaceOk t [] t.str w) := fun w => hp w (by omega) (by omega)
  have hz' : t.str.size ≤ 25 := by omega
  clear hz hp
  go_enter Tryd.func74, Tryd.ntmps74
  go_wp2_with fail
  refine (hp' _).mono ?_; rintro e w1 ⟨b1, s1, hs1, hz1, hn1, hb1, rfl⟩; have e1 : s1.toList.isEmpty = true := by rw [Lib.toList_data, hs1]; rfl
  have e2 : s1.toList = [] := by rw [Lib.toList_data, hs1]
  clear hs1
  go_wp2_with fail
  go_ret2
  exact ⟨b1, hn1, hb1, rfl⟩

theorem read_no (s : ByteArray) (w : World) (hs : s.size ≤ 9223372036854775806) (h : treeOf s = none) :
    Calls Tryd.prog 74 #[.string s] w (ReadNo w) := by
  by_cases hz : (s.size : Int) ≤ 25
  · have hp := place_any (s.size + 1) s
    cases hq : parseN (s.size + 1) s.data.toList with
    | none =>
      rw [hq] at hp
      have hp' : ∀ w, Calls Tryd.prog 116 #[.string s] w (PlaceNo w) := fun w => hp w (by omega) hs
      clear hp h hq
      go_enter Tryd.func74, Tryd.ntmps74
      go_wp2_with fail
      refine (hp' _).mono ?_; rintro e w1 ⟨hb1, rfl⟩
      go_wp2_with fail
      go_ret2
      exact ⟨hb1, rfl⟩
    | some p =>
      obtain ⟨t, r⟩ := p
      rw [hq] at hp
      have hp' : ∀ w, Calls Tryd.prog 116 #[.string s] w (PlaceOk t r s w) := fun w => hp w (by omega) hs
      cases r with
      | nil => rw [treeOf_of_parse hq (by omega)] at h; simp at h
      | cons c r =>
        clear hp h hq
        go_enter Tryd.func74, Tryd.ntmps74
        go_wp2_with fail
        refine (hp' _).mono ?_; rintro e w1 ⟨b1, s1, hs1, hz1, hn1, hb1, rfl⟩; have e1 : s1.toList.isEmpty = false := by rw [Lib.toList_data, hs1]; rfl
        clear hs1
        go_wp2_with fail
        go_ret2
        exact ⟨hb1, rfl⟩
  · clear h
    go_enter Tryd.func74, Tryd.ntmps74
    go_wp2_with fail
    go_ret2
    exact ⟨Below.refl _ _, rfl⟩

theorem implIsTree_yes (t : Tr) (w : World) (h : t.carets ≤ 8) :
    Calls Tryd.prog 35 #[.string t.str] w fun e w' => Below w.heap.size w w' ∧ e = .returned (.bool true) := by
  go_enter Tryd.func35, Tryd.ntmps35
  go_wp2_with fail
  refine (read_yes t _ h).mono ?_; rintro e w1 ⟨b1, hn1, hb1, rfl⟩
  go_wp2_with fail
  go_ret
  exact ⟨hb1, rfl⟩

theorem implIsTree_no (s : ByteArray) (w : World) (hs : s.size ≤ 9223372036854775806) (h : treeOf s = none) :
    Calls Tryd.prog 35 #[.string s] w fun e w' => Below w.heap.size w w' ∧ e = .returned (.bool false) := by
  have H := Lib.hid h
  clear h
  go_enter Tryd.func35, Tryd.ntmps35
  go_wp2_with fail
  refine (read_no s _ hs H.out).mono ?_; rintro e w1 ⟨hb1, rfl⟩
  go_wp2_with fail
  go_ret
  exact ⟨hb1, rfl⟩

end Go.Proofs.YtkpganpojdboeabDoor

/-! SpecMir -/
namespace Go.Proofs.YtkpganpojdboeabDoor
open Go.RowKit

end Go.Proofs.YtkpganpojdboeabDoor

/-! Ans -/
namespace Go.Proofs.YtkpganpojdboeabDoor
open Go.RowKit

def trS : Option Tr → ByteArray
  | some t => t.str
  | none => ⟨#[]⟩
def trB : Option Tr → Bool
  | some _ => true
  | none => false
/-- An answer of a text and a bool. -/
def ansV (o : Option Tr) : Value := .tuple #[.string (trS o), .bool (trB o)]
/-- A tree, if it has no more carets than allowed. -/
def lim (t : Tr) : Option Tr := if t.carets ≤ 8 then some t else none

theorem trIs_yes (t : Tr) (w : World) (h : t.carets ≤ 8) : Calls Tryd.prog 32 #[.string t.str] w fun e w' => e = .returned (.bool true) ∧ w = w' := by
  have := trIs_any t.str w (by have := t.str_size; omega)
  rwa [isTreeB_str t h] at this
theorem trIs_no (s : ByteArray) (w : World) (hs : s.size ≤ 9223372036854775806) (h : treeOf s = none) : Calls Tryd.prog 32 #[.string s] w fun e w' => e = .returned (.bool false) ∧ w = w' := by
  have := trIs_any s w hs
  rwa [isTreeB_eq, h] at this
theorem carets_str (t : Tr) (w : World) (h : t.carets ≤ 1000) : Calls Tryd.prog 33 #[.string t.str] w fun e w' => e = .returned (.int .i64 t.carets) ∧ w = w' := by
  have := carets_any t.str w (by have := t.str_size; omega)
  rwa [cnt_str] at this

theorem limit_yes (t : Tr) (w : World) (h : t.carets ≤ 8) : Calls Tryd.prog 90 #[.string t.str] w fun e w' => e = .returned (.tuple #[.string t.str, .bool true]) ∧ w = w' := by
  have hz := t.str_size
  have hz' : t.str.size ≤ 25 := by omega
  clear hz
  go_enter Tryd.func90, Tryd.ntmps90
  go_wp2_with fail
  go_ret2
  exact ⟨rfl, rfl⟩
theorem limit_no (t : Tr) (w : World) (h : 8 < t.carets) : Calls Tryd.prog 90 #[.string t.str] w fun e w' => e = .returned (.tuple #[.string ⟨#[]⟩, .bool false]) ∧ w = w' := by
  have hz := t.str_size
  have hz' : 25 < t.str.size := by omega
  clear hz
  go_enter Tryd.func90, Tryd.ntmps90
  go_wp2_with fail
  go_ret2
  exact ⟨rfl, rfl⟩
theorem limit_any (t : Tr) (w : World) : Calls Tryd.prog 90 #[.string t.str] w fun e w' => e = .returned (ansV (lim t)) ∧ w = w' := by
  by_cases h : t.carets ≤ 8
  · have := limit_yes t w h
    rw [show ansV (lim t) = .tuple #[.string t.str, .bool true] by simp [lim, h, ansV, trS, trB]]
    exact this
  · have := limit_no t w (by omega)
    rw [show ansV (lim t) = .tuple #[.string ⟨#[]⟩, .bool false] by simp [lim, h, ansV, trS, trB]]
    exact this

def TreesOk (t u : Tr) (w : World) (e : Ending) (w' : World) : Prop :=
  ∃ b c : Nat, NodeAt w' t b ∧ NodeAt w' u c ∧ Below w.heap.size w w' ∧ e = .returned (.tuple #[.pointer (some ⟨b, 0, none⟩), .pointer (some ⟨c, 0, none⟩), .bool true])
def TreesNo (w : World) (e : Ending) (w' : World) : Prop :=
  Below w.heap.size w w' ∧ e = .returned (.tuple #[.pointer none, .pointer none, .bool false])

end Go.Proofs.YtkpganpojdboeabDoor

/-! ExpS -/
namespace Go.Proofs.YtkpganpojdboeabDoor
open Go.RowKit

/-- A call that hands back a slice of integers of its own, not empty. -/
def GivesNums (xs : List Int) (w : World) (e : Ending) (w' : World) : Prop :=
  ∃ g cap : Nat, OwnI w.heap.size w' (.slice (some ⟨g, 0, none⟩) xs.length cap) xs ∧ Below w.heap.size w w' ∧ e = .returned (.slice (some ⟨g, 0, none⟩) xs.length cap)
theorem OwnI.one (w : World) (s : Int) : OwnI w.heap.size (w.alloc (.cells #[.int .i64 s] 3 (0, 0))) (.slice (some ⟨w.heap.size, 0, none⟩) 1 1) [s] := by
  refine ⟨rfl, .inr ⟨w.heap.size, 1, #[.int .i64 s], rfl, Nat.le_refl _, ?_, Nat.le_refl _, by unfold maxLen; omega, rfl, rfl⟩⟩
  show (w.heap.push _)[w.heap.size]? = _
  simp
theorem OwnI.news {base : Nat} {w : World} {g cap n : Nat} {xs : List Int} (h : OwnI base w (.slice (some ⟨g, 0, none⟩) n cap) xs) (hn : xs.length = n) :
    ∀ (j : Nat) (u : Value), (xs.map (Value.int .i64))[j]? = some u → w.cell? ((⟨g, 0, none⟩ : Addr).add j) = some u := by
  intro j u hj
  subst hn
  have hlt : j < xs.length := by
    rcases Nat.lt_or_ge j xs.length with h | h
    · exact h
    · rw [List.getElem?_eq_none (by simpa using h)] at hj; simp at hj
  have := World.ownsRow.cellAt h j (by omega)
  rw [addr_add, this, hj]
theorem oneIs (xs : List Int) : ∀ u ∈ xs.map (Value.int .i64), u.oneCell' = true := by
  intro u hu
  rw [List.mem_map] at hu
  obtain ⟨s, _, rfl⟩ := hu
  rfl
theorem OwnI.app {base : Nat} {w : World} {v : Value} {A B : List Int} (h : w.ownsRow base 3 1 v (A.length + B.length) (A.map (Value.int .i64) ++ B.map (Value.int .i64))) : OwnI base w v (A ++ B) := by
  unfold OwnI; rw [List.length_append, List.map_append]; exact h
theorem OwnI.shape {base : Nat} {w : World} {v : Value} {xs : List Int} (h : OwnI base w v xs) (hn : 0 < xs.length) : ∃ g cap, v = .slice (some ⟨g, 0, none⟩) xs.length cap := by
  rcases h.2 with ⟨_, h2⟩ | ⟨g, cap, cur, hv, _⟩
  · omega
  · exact ⟨g, cap, hv⟩

def ints (L : List Nat) : List Int := L.map (fun n : Nat => (n : Int))
theorem ints_append (A B : List Nat) : ints (A ++ B) = ints A ++ ints B := by simp [ints]
theorem ints_length (A : List Nat) : (ints A).length = A.length := by simp [ints]

set_option maxRecDepth 100000 in
set_option maxHeartbeats 2000000 in
theorem wdExponents_any (t : Tr) : ∀ (k : Nat) (w : World), t.carets ≤ 60 → k + t.carets ≤ 1000 →
    Calls Tryd.prog 97 #[.string t.str, .int .i64 k] w (GivesNums (ints (t.expN k)) w) := by
  obtain ⟨i0, hi, hz0, hz1, hz2⟩ := info_parts info_int
  induction t with
  | lf =>
    intro k w ht hh
    go_enter Tryd.func97, Tryd.ntmps97
    go_wp2_with fail
    refine (trLeaf_any .lf _).mono ?_; rintro e w1 ⟨rfl, rfl⟩
    simp only [Tr.isLf]
    go_wp2_with fail
    go_ret
    exact ⟨_, 1, OwnI.one _ _, nxAlloc (Below.refl _ _) _, rfl⟩
  | nd l r ihl ihr =>
    intro k w ht hh
    have ht' : l.carets + r.carets + 1 ≤ 60 := ht
    have hh' : k + (l.carets + r.carets + 1) ≤ 1000 := hh
    have ll := expN_length l (k + 1)
    have lr := expN_length r 0
    have jl := fun w => ihl (k + 1) w (by omega) (by omega)
    have jr := fun w => ihr 0 w (by omega) (by omega)
    rw [← ints_length] at ll lr
    have hC : ints ((Tr.nd l r).expN k) = ints (l.expN (k + 1)) ++ ints (r.expN 0) := by rw [← ints_append]; rfl
    rw [hC]
    have ek : ((k + 1 : Nat) : Int) = (k : Int) + 1 := by omega
    have e0 : ((0 : Nat) : Int) = 0 := rfl
    rw [ek] at jl
    rw [e0] at jr
    generalize ints (l.expN (k + 1)) = A at *
    generalize ints (r.expN 0) = B at *
    have hAn : A.length ≤ 61 := by omega
    have hBn : B.length ≤ 61 := by omega
    have hBp : 0 < B.length := by omega
    have hAp : 0 < A.length := by omega
    clear ihl ihr ll lr hC ek e0
    go_enter Tryd.func97, Tryd.ntmps97
    go_wp2_with fail
    refine (trLeaf_any (.nd l r) _).mono ?_; rintro e w1 ⟨rfl, rfl⟩
    simp only [Tr.isLf]
    go_wp2_with fail
    refine (trSides_any l r _ (by omega)).mono ?_; rintro e w1 ⟨rfl, hb1⟩
    go_wp2_with fail
    refine (jl _).mono ?_; rintro e w2 ⟨g1, cap1, own1, hb2, rfl⟩
    go_wp2_with fail
    refine (jr _).mono ?_; rintro e w3 ⟨g2, cap2, own2, hb3, rfl⟩
    have hown := (own1.keep hb3).mono hb1.size
    have hbw : Below w.heap.size w w3 := nx (nx hb1 hb2) hb3
    go_wp2_with (at_builtin; refine wpList_append_own _ rfl _ _ 25 rfl w.heap.size 3 i0 (.int .i64 0) 1 8 Tryd.underlying25 hi hz0 hz1 hz2 rfl (by decide) _ _ _ rfl hown ⟨g2, 0, none⟩ B.length cap2 (B.map (Value.int .i64)) rfl (by simp) (own2.news rfl) (oneIs _) (by unfold maxLen; omega) (by omega) hbw.size ?_; intro v' w4 hown' hgrow hnn)
    have hbw' := below_app0 hbw hown (Nat.le_refl _) hgrow
    have hown1 := OwnI.app hown'
    obtain ⟨g, cap, hv⟩ := hown1.shape (by simp; omega)
    have HV := Lib.hid hv
    clear hown hown' hgrow hv hnn
    go_wp2_with fail
    go_ret
    exact ⟨g, cap, by rw [← HV.out]; exact hown1, hbw', by rw [← HV.out]; rfl⟩

set_option maxRecDepth 100000 in
set_option maxHeartbeats 2000000 in
theorem wdRight_any (t : Tr) : ∀ (w : World), t.carets ≤ 60 →
    Calls Tryd.prog 55 #[.string t.str] w (GivesNums (ints t.expR) w) := by
  obtain ⟨i0, hi, hz0, hz1, hz2⟩ := info_parts info_int
  induction t with
  | lf =>
    intro w ht
    go_enter Tryd.func55, Tryd.ntmps55
    go_wp2_with fail
    refine (trLeaf_any .lf _).mono ?_; rintro e w1 ⟨rfl, rfl⟩
    simp only [Tr.isLf]
    go_wp2_with fail
    go_ret
    exact ⟨_, 1, OwnI.one _ _, nxAlloc (Below.refl _ _) _, rfl⟩
  | nd l r ihl ihr =>
    intro w ht
    have ht' : l.carets + r.carets + 1 ≤ 60 := ht
    have ll := expN_length l 0
    have lr := expR_length r
    have jl := fun w => wdExponents_any l 0 w (by omega) (by omega)
    have jr := fun w => ihr w (by omega)
    rw [← ints_length] at ll lr
    have hC : ints ((Tr.nd l r).expR) = ints (l.expN 0) ++ ints r.expR := by rw [← ints_append]; rfl
    rw [hC]
    have e0 : ((0 : Nat) : Int) = 0 := rfl
    rw [e0] at jl
    generalize ints (l.expN 0) = A at *
    generalize ints r.expR = B at *
    have hAn : A.length ≤ 61 := by omega
    have hBn : B.length ≤ 61 := by omega
    have hBp : 0 < B.length := by omega
    have hAp : 0 < A.length := by omega
    clear ihl ihr ll lr hC e0
    go_enter Tryd.func55, Tryd.ntmps55
    go_wp2_with fail
    refine (trLeaf_any (.nd l r) _).mono ?_; rintro e w1 ⟨rfl, rfl⟩
    simp only [Tr.isLf]
    go_wp2_with fail
    refine (trSides_any l r _ (by omega)).mono ?_; rintro e w1 ⟨rfl, hb1⟩
    go_wp2_with fail
    refine (jl _).mono ?_; rintro e w2 ⟨g1, cap1, own1, hb2, rfl⟩
    go_wp2_with fail
    refine (jr _).mono ?_; rintro e w3 ⟨g2, cap2, own2, hb3, rfl⟩
    have hown := (own1.keep hb3).mono hb1.size
    have hbw : Below w.heap.size w w3 := nx (nx hb1 hb2) hb3
    go_wp2_with (at_builtin; refine wpList_append_own _ rfl _ _ 25 rfl w.heap.size 3 i0 (.int .i64 0) 1 8 Tryd.underlying25 hi hz0 hz1 hz2 rfl (by decide) _ _ _ rfl hown ⟨g2, 0, none⟩ B.length cap2 (B.map (Value.int .i64)) rfl (by simp) (own2.news rfl) (oneIs _) (by unfold maxLen; omega) (by omega) hbw.size ?_; intro v' w4 hown' hgrow hnn)
    have hbw' := below_app0 hbw hown (Nat.le_refl _) hgrow
    have hown1 := OwnI.app hown'
    obtain ⟨g, cap, hv⟩ := hown1.shape (by simp; omega)
    have HV := Lib.hid hv
    clear hown hown' hgrow hv hnn
    go_wp2_with fail
    go_ret
    exact ⟨g, cap, by rw [← HV.out]; exact hown1, hbw', by rw [← HV.out]; rfl⟩

def ExponentsOf_o (a : ByteArray) : Option (List Int) :=
  match treeOf a with
  | some t => some (ints t.expR)
  | none => none
theorem ExponentsOf_len (a : ByteArray) : ((ExponentsOf_o a).getD []).length ≤ 1000000000 := by
  unfold ExponentsOf_o
  cases h : treeOf a with
  | none => simp
  | some t =>
    have := expR_length t
    have := ints_length t.expR
    have := (treeOf_some h).2
    simp; omega

end Go.Proofs.YtkpganpojdboeabDoor

/-! ExpG -/
namespace Go.Proofs.YtkpganpojdboeabDoor
open Go.RowKit

/-! Texts without their last zeros. -/
theorem zerosR_other (l : List UInt8) (c : UInt8) (h : c ≠ 48) : zerosR (l ++ [c]) = 0 := by simp [zerosR, h]
theorem topL_other (l : List UInt8) (c : UInt8) (h : c ≠ 48) : topL (l ++ [c]) = l ++ [c] := by
  unfold topL
  rw [zerosR_other l c h, Nat.sub_zero, List.take_length]
def topB (u : ByteArray) : ByteArray := ⟨(topL u.data.toList).toArray⟩
theorem topB_nil (u : ByteArray) (h : u.size = 0) : topB u = u := by
  have : u.data.toList = [] := List.length_eq_zero_iff.1 (by rw [← Lib.size_eq]; exact h)
  unfold topB
  rw [this]
  refine ba_ext ?_
  rw [this]
  rfl
theorem last_split (u : ByteArray) (n : Nat) (h : u.size = n + 1) (hlt : n < u.size) : u.data.toList = (u.extract 0 n).data.toList ++ [u[n]'hlt] := by
  rw [Lib.extract_data, List.drop_zero, Nat.sub_zero]
  have hl : u.data.toList.length = n + 1 := by rw [← Lib.size_eq]; exact h
  have hn : n < u.data.toList.length := by omega
  have e : u[n]'hlt = u.data.toList[n]'hn := rfl
  rw [e, List.take_append_getElem hn]
  exact (List.take_of_length_le (by omega)).symm
theorem topB_zero (u : ByteArray) (n : Nat) (h : u.size = n + 1) (hlt : n < u.size) (hc : u[n]'hlt = 48) : topB (u.extract 0 n) = topB u := by
  unfold topB
  rw [last_split u n h hlt, hc, topL_zero]
theorem topB_other (u : ByteArray) (n : Nat) (h : u.size = n + 1) (hlt : n < u.size) (hc : u[n]'hlt ≠ 48) : topB u = u := by
  have e := last_split u n h hlt
  unfold topB
  rw [e, topL_other _ _ hc, ← e]
theorem extract_size0 (u : ByteArray) (n : Nat) (h : n ≤ u.size) : (u.extract 0 n).size = n := by simp; omega

set_option maxRecDepth 100000 in
set_option maxHeartbeats 1000000 in
theorem trimRightByte_any (s : ByteArray) (w : World) (hs : s.size ≤ 9223372036854775806) :
    Calls Tryd.prog 164 #[.string s, .int .u8 48] w fun e w' => e = .returned (.string (topB s)) ∧ w' = w := by
  go_enter Tryd.func164, Tryd.ntmps164
  go_wp2_with fail
  go_loopw [0] (fun p wr => ∃ u : ByteArray, p = .string u ∧ u.size ≤ s.size ∧ Hid (topB u = topB s) ∧ wr = w) (fun p _ => (match p with | .string u => u.size | _ => 0))
  case atStart => exact ⟨s, rfl, Nat.le_refl _, rfl, rfl⟩
  case round =>
    obtain ⟨u, rfl, hu, he, rfl⟩ := hrel
    rcases Nat.eq_zero_or_pos u.size with h0 | h0
    · have HT : Hid (topB s = u) := by show topB s = u; rw [← he.out, topB_nil u h0]
      clear he
      go_wp2_with fail
      go_ret
      exact ⟨by rw [HT.out]; rfl, rfl⟩
    · obtain ⟨n, hn⟩ : ∃ n, u.size = n + 1 := ⟨u.size - 1, by omega⟩
      have hlt : n < u.size := by omega
      by_cases hc : u[n]'hlt = 48
      · have HT : Hid (topB (u.extract 0 n) = topB s) := by show _ = _; rw [topB_zero u n hn hlt hc, he.out]
        have H1 : Hid (((((u[n]'hlt).toNat : Nat) : Int) == 48) = true) := by show (_ == _) = true; rw [hc]; rfl
        have hsz := extract_size0 u n (by omega)
        clear he hc
        go_wp2_with fail
        · go_roundw
          case rel => exact ⟨_, rfl, by omega, HT, trivial⟩
          case measure => show (u.extract 0 n).size < u.size; omega
        · exact absurd (H1.out.symm.trans (by assumption)) (by decide)
      · have HT : Hid (topB s = u) := by show topB s = u; rw [← he.out, topB_other u n hn hlt hc]
        have H1 : Hid (((((u[n]'hlt).toNat : Nat) : Int) == 48) = false) := by
          show (_ == _) = false
          rw [beq_eq_false_iff_ne]
          intro h
          exact hc (UInt8.toNat_inj.1 (by have : (48 : UInt8).toNat = 48 := rfl; omega))
        clear he hc
        go_wp2_with fail
        · exact absurd (H1.out.symm.trans (by assumption)) (by decide)
        · go_ret
          exact ⟨by rw [HT.out]; rfl, rfl⟩

set_option maxRecDepth 100000 in
set_option maxHeartbeats 1000000 in
theorem trimRight0_any (s : ByteArray) (w : World) (hs : s.size ≤ 9223372036854775806) :
    Calls Tryd.prog 137 #[.string s, .string ⟨#[48]⟩] w fun e w' => e = .returned (.string (topB s)) ∧ w' = w := by
  have hT := fun w => trimRightByte_any s w hs
  have gz : ((⟨#[48]⟩ : ByteArray)[0]'(by decide)).toNat = 48 := rfl
  rcases Nat.eq_zero_or_pos s.size with h0 | h0
  · rw [topB_nil s h0]
    clear hT
    have e0 : s = ⟨#[]⟩ := ba_ext (List.length_eq_zero_iff.1 (by rw [← Lib.size_eq]; exact h0))
    subst e0
    go_enter Tryd.func137, Tryd.ntmps137
    go_wp2_with fail
    go_ret
    exact ⟨rfl, rfl⟩
  · have he : s.toList.isEmpty = false := by
      rw [Lib.toList_data]
      have h1 : 0 < s.data.toList.length := by rw [← Lib.size_eq]; exact h0
      cases hl : s.data.toList with
      | nil => rw [hl] at h1; simp at h1
      | cons a l => rfl
    clear h0
    go_enter Tryd.func137, Tryd.ntmps137
    go_wp2_with fail
    refine (hT _).mono ?_; rintro e w1 ⟨rfl, rfl⟩
    go_wp2_with fail
    go_ret
    exact ⟨rfl, rfl⟩

/-- The index of the first byte c from an index on. -/
def idx0 (s : ByteArray) (c : UInt8) : Int := Lib.indexByte s.data.toList c
theorem idx0_neg (l : List UInt8) (c : UInt8) : (Lib.indexByte l c = -1 ∧ ¬ c ∈ l) ∨ (0 ≤ Lib.indexByte l c ∧ c ∈ l) := by
  induction l with
  | nil => exact .inl ⟨rfl, by simp⟩
  | cons a l ih =>
    unfold Lib.indexByte
    by_cases h : (a == c) = true
    · rw [if_pos h]
      have : a = c := by simpa using h
      exact .inr ⟨by omega, by simp [this]⟩
    · rw [if_neg h]
      have hne : a ≠ c := by simpa using h
      rcases ih with ⟨h1, h2⟩ | ⟨h1, h2⟩
      · exact .inl ⟨by rw [h1]; rfl, by simp [h2, Ne.symm hne]⟩
      · right
        have : (Lib.indexByte l c == -1) = false := by rw [beq_eq_false_iff_ne]; omega
        simp only [this]
        exact ⟨by simp; omega, by simp [h2]⟩

set_option maxRecDepth 100000 in
set_option maxHeartbeats 1000000 in
theorem indexByte0_any (s : ByteArray) (c : UInt8) (w : World) :
    Calls Tryd.prog 156 #[.string s, .int .u8 c.toNat] w fun e w' => e = .returned (.int .i64 (idx0 s c)) ∧ w = w' := by
  go_enter Tryd.func156, Tryd.ntmps156
  go_wp2
  rw [run_callFunc_extern Tryd.func174 (by kernel_rfl) (by kernel_rfl) (by kernel_rfl) (e := Extern.BytealgIndexByte.indexByte) (by kernel_rfl), Lib.run_indexByteString]
  simp only [Result.andThen]
  rw [Oper.upon_value]
  go_wp2
  go_ret
  refine ⟨ret_int ?_, rfl⟩
  unfold idx0
  simp

set_option maxRecDepth 100000 in
set_option maxHeartbeats 1000000 in
theorem index48_any (s : ByteArray) (w : World) :
    Calls Tryd.prog 128 #[.string s, .string ⟨#[48]⟩] w fun e w' => e = .returned (.int .i64 (idx0 s 48)) ∧ w = w' := by
  have hI := fun w => indexByte0_any s 48 w
  have gz : ((⟨#[48]⟩ : ByteArray)[0]'(by decide)).toNat = 48 := rfl
  have ez : ((48 : UInt8).toNat : Int) = 48 := rfl
  rw [ez] at hI
  cases hq : ([48] == s.toList) with
  | true =>
    have h0 : idx0 s 48 = 0 := by
      unfold idx0
      rw [← Lib.toList_data, ← (beq_iff_eq.1 hq)]
      rfl
    rw [h0]
    clear hI h0 ez
    go_enter Tryd.func128, Tryd.ntmps128
    go_wp2_with fail
    go_ret
    exact ⟨rfl, rfl⟩
  | false =>
    generalize idx0 s 48 = z at *
    clear ez
    go_enter Tryd.func128, Tryd.ntmps128
    go_wp2_with fail
    refine (hI _).mono ?_; rintro e w1 ⟨rfl, rfl⟩
    go_wp2_with fail
    go_ret
    exact ⟨rfl, rfl⟩

theorem index0_any (s : ByteArray) (w : World) :
    Calls Tryd.prog 89 #[.string s, .string ⟨#[48]⟩] w fun e w' => e = .returned (.int .i64 (idx0 s 48)) ∧ w = w' := by
  have hI := fun w => index48_any s w
  generalize idx0 s 48 = z at *
  go_enter Tryd.func89, Tryd.ntmps89
  go_wp2_with fail
  refine (hI _).mono ?_; rintro e w1 ⟨rfl, rfl⟩
  go_wp2_with fail
  go_ret
  exact ⟨rfl, rfl⟩
theorem contains0_any (s : ByteArray) (w : World) :
    Calls Tryd.prog 138 #[.string s, .string ⟨#[48]⟩] w fun e w' => e = .returned (.bool (decide ((48 : UInt8) ∈ s.data.toList))) ∧ w = w' := by
  have hI := fun w => index0_any s w
  have hs := idx0_neg s.data.toList 48
  rw [show Lib.indexByte s.data.toList 48 = idx0 s 48 from rfl] at hs
  generalize idx0 s 48 = z at *
  rcases hs with ⟨rfl, h⟩ | ⟨h1, h⟩
  · rw [decide_eq_false h]
    clear h
    go_enter Tryd.func138, Tryd.ntmps138
    go_wp2_with fail
    refine (hI _).mono ?_; rintro e w1 ⟨rfl, rfl⟩
    go_wp2_with fail
    go_ret
    exact ⟨rfl, rfl⟩
  · rw [decide_eq_true h]
    clear h
    go_enter Tryd.func138, Tryd.ntmps138
    go_wp2_with fail
    refine (hI _).mono ?_; rintro e w1 ⟨rfl, rfl⟩
    go_wp2_with fail
    go_ret
    exact ⟨rfl, rfl⟩

theorem topB_list (s : ByteArray) : (topB s).data.toList = topL s.data.toList := by simp [topB]
theorem topB_size (s : ByteArray) : (topB s).size + zerosR s.data.toList = s.size := by
  have := zerosR_le s.data.toList
  rw [Lib.size_eq, topB_list, Lib.size_eq]
  unfold topL
  rw [List.length_take]
  omega

set_option maxRecDepth 100000 in
set_option maxHeartbeats 1000000 in
theorem exponentOf_any (s : ByteArray) (w : World) (hs : s.size ≤ 9223372036854775806) :
    Calls Tryd.prog 102 #[.string s] w fun e w' => e = .returned (.int .i64 (expoL s.data.toList : Nat)) ∧ w = w' := by
  have hT := fun w => trimRight0_any s w hs
  have hC := fun w => contains0_any (topB s) w
  have hz := topB_size s
  rw [topB_list] at hC
  unfold expoL
  generalize topB s = T at *
  generalize zerosR s.data.toList = z at *
  by_cases h1 : 0 < z
  · by_cases h2 : (48 : UInt8) ∈ topL s.data.toList
    · rw [if_neg (by simp [h2])]
      rw [decide_eq_true h2] at hC
      clear h2
      go_enter Tryd.func102, Tryd.ntmps102
      go_wp2_with fail
      refine (hT _).mono ?_; rintro e w1 ⟨rfl, rfl⟩
      go_wp2_with fail
      refine (hC _).mono ?_; rintro e w1 ⟨rfl, rfl⟩
      go_wp2_with fail
      go_ret
      exact ⟨ret_int (by omega), rfl⟩
    · rw [if_pos ⟨h1, h2⟩]
      rw [decide_eq_false h2] at hC
      clear h2
      go_enter Tryd.func102, Tryd.ntmps102
      go_wp2_with fail
      refine (hT _).mono ?_; rintro e w1 ⟨rfl, rfl⟩
      go_wp2_with fail
      refine (hC _).mono ?_; rintro e w1 ⟨rfl, rfl⟩
      go_wp2_with fail
      go_ret
      exact ⟨ret_int (by omega), rfl⟩
  · rw [if_neg (by simp [h1])]
    clear hC
    go_enter Tryd.func102, Tryd.ntmps102
    go_wp2_with fail
    refine (hT _).mono ?_; rintro e w1 ⟨rfl, rfl⟩
    go_wp2_with fail
    go_ret
    exact ⟨ret_int (by omega), rfl⟩
end Go.Proofs.YtkpganpojdboeabDoor

/-! Src -/
namespace Go.Proofs.YtkpganpojdboeabDoor
open Go.RowKit

theorem CellsS.form0 {b1 : Nat} {w : World} {v : Value} {xs : List ByteArray} (h : CellsS b1 w v xs) :
    ∃ oa cap, v = .slice oa xs.length cap ∧ xs.length ≤ cap ∧ cap ≤ maxLen ∧ ∀ i, i < xs.length → ∃ g, oa = some ⟨g, 0, none⟩ ∧ b1 ≤ g ∧ g < w.heap.size ∧ w.cell? ⟨g, i, none⟩ = some (.string (xs.getD i ⟨#[]⟩)) := by
  rcases h with ⟨rfl, rfl⟩ | ⟨g, cap, rfl, h1, h2, h3, h4, h5, _⟩
  · exact ⟨none, 0, rfl, Nat.le_refl _, Nat.zero_le _, fun i hi => by simp at hi⟩
  · exact ⟨some ⟨g, 0, none⟩, cap, rfl, h3, h4, fun i hi => ⟨g, rfl, h1, h2, h5 i hi⟩⟩

theorem CellsS.at1 {b1 : Nat} {w : World} {g n cap : Nat} {ss : List ByteArray} (h : CellsS b1 w (.slice (some ⟨g, 0, none⟩) n cap) ss) {i : Nat} {t : ByteArray} (hi : ss[i]? = some t) : w.cell? ⟨g, i, none⟩ = some (.string t) := by
  rcases h with ⟨h, _⟩ | ⟨g', cap', h, _, _, _, _, hc, _⟩
  · cases h
  · cases h
    have hl := (List.getElem?_eq_some_iff.1 hi).1
    rw [hc i hl]
    simp [List.getD_eq_getElem?_getD, hi]

/-- A slice value from which the cells ys can be read. -/
def SrcV (w : World) (u : Value) (ys : List Value) : Prop :=
  (u = .slice none 0 0 ∧ ys = []) ∨ ∃ ad c, u = .slice (some ad) ys.length c ∧ ∀ j x, ys[j]? = some x → w.cell? (ad.add j) = some x

theorem SrcV.keep {w w' : World} {u : Value} {ys : List Value} (h : SrcV w u ys) (hb : Below w.heap.size w w') : SrcV w' u ys := by
  rcases h with h | ⟨ad, c, h1, h2⟩
  · exact .inl h
  · refine .inr ⟨ad, c, h1, fun j x hj => ?_⟩
    have hc := h2 j x hj
    exact (hb.cell (World.block_lt_of_cell? w _ hc)).trans hc

theorem wpList_appSrc {P : Program} {w : World} {ops : Array Oper} {rest : List Oper} {o : Oper} {a : Act} {Q : Exit → Act → World → Prop} (hgd : o.guard = none) (s x : Operand) (t : TypeId)
    (ho : o.op = .call { callee := .builtin .append, args := #[s, x], argTypes := #[t, t] })
    (base : Nat) (e : TypeId) (i : TypeInfo) (z : Value) (bytes : Nat) (ht : P.underlying t = some (.slice e)) (hi : P.info? e = some i) (hz : i.zero = some z)
    (hsize : i.size = 1) (hby : i.bytes = bytes) (hzs : z.cells.size = 1)
    (v : Value) (n : Nat) (xs : List Value) (hs : a.eval s = v) (hown : w.ownsRow base e 1 v n xs)
    (u : Value) (ys : List Value) (hx : a.eval x = u) (hsrc : SrcV w u ys) (h1 : ∀ y ∈ ys, y.oneCell' = true)
    (h63 : n + ys.length ≤ maxLen) (hbytes : (n + ys.length) * bytes ≤ 140737488355328) (hbase : base ≤ w.heap.size)
    (h : ∀ v' w', w'.ownsRow base e 1 v' (n + ys.length) (xs ++ ys) → Below base w w' → (v' = .slice none 0 0 → v = .slice none 0 0) → wpList P ops Q rest (a.put o.dst v') w') : wpList P ops Q (o :: rest) a w := by
  rcases hsrc with ⟨rfl, rfl⟩ | ⟨ad, c, rfl, hc⟩
  · refine wpList_append_own_none hgd s x t ho base e i 1 ht hi v n xs hs hown hx ?_
    exact h v w (by simpa using hown) (Below.refl _ _) id
  · refine wpList_append_own w hgd s x t ho base e i z 1 bytes ht hi hz hsize hby hzs (by decide) v n xs hs hown ad ys.length c ys hx (by simp) hc h1 h63 hbytes hbase ?_
    intro v' w' hown' hg hn
    exact h v' w' hown' ((Below.refl base w).grown hg hbase (fun k hk => ownsRow_ge hown k hk)) (fun e => (hn.1 e).1)

theorem row_shape {w : World} {base : Nat} {e : TypeId} {size : Nat} {v : Value} {n : Nat} {xs : List Value} (h : w.ownsRow base e size v n xs) (hn : v ≠ .slice none 0 0) : ∃ g cap, v = .slice (some ⟨g, 0, none⟩) n cap ∧ base ≤ g := by
  rcases h.2 with ⟨hv, _⟩ | ⟨g, cap, cur, hv, hb, _⟩
  · exact absurd hv hn
  · exact ⟨g, cap, hv, hb⟩

/-- An empty slice in a block of its own. -/
theorem ownsRow_empty (w : World) (e : TypeId) : (w.alloc (.cells #[] e (0, 0))).ownsRow w.heap.size e 1 (.slice (some ⟨w.heap.size, 0, none⟩) 0 0) 0 [] :=
  World.ownsRow_made w #[] 0 (Nat.le_refl _) (Nat.zero_le _) rfl

/-- The parts of a slice of the call's own, as sources. -/
theorem src_take {base : Nat} {w : World} {e : TypeId} {g n cap : Nat} {xs : List Value} (h : w.ownsRow base e 1 (.slice (some ⟨g, 0, none⟩) n cap) n xs) (k : Nat) (hk : k ≤ n) (c : Nat) : SrcV w (.slice (some ⟨g, 0, none⟩) k c) (xs.take k) := by
  have hl := h.1
  refine .inr ⟨_, c, by rw [List.length_take]; congr 1; omega, fun j x hj => ?_⟩
  have hj' := (List.getElem?_eq_some_iff.1 hj).1
  rw [List.length_take] at hj'
  rw [List.getElem?_take_of_lt (by omega)] at hj
  rw [addr_add, World.ownsRow.cellAt h j (by omega)]
  exact hj
theorem src_drop {base : Nat} {w : World} {e : TypeId} {g n cap : Nat} {xs : List Value} (h : w.ownsRow base e 1 (.slice (some ⟨g, 0, none⟩) n cap) n xs) (k : Nat) (hk : k ≤ n) (c : Nat) : SrcV w (.slice (some ⟨g, k, none⟩) (n - k) c) (xs.drop k) := by
  have hl := h.1
  refine .inr ⟨_, c, by rw [List.length_drop]; congr 1; omega, fun j x hj => ?_⟩
  have hj' := (List.getElem?_eq_some_iff.1 hj).1
  rw [List.length_drop] at hj'
  rw [List.getElem?_drop] at hj
  have ea : (⟨g, k, none⟩ : Addr).add j = ⟨g, k + j, none⟩ := by
    unfold Addr.add
    split
    · next h0 => rw [h0]; simp
    · rfl
  rw [ea, World.ownsRow.cellAt h (k + j) (by omega)]
  exact hj
theorem src_cells {b1 : Nat} {w : World} {g n cap : Nat} {xs : List ByteArray} (h : CellsS b1 w (.slice (some ⟨g, 0, none⟩) n cap) xs) (k : Nat) (hk : k ≤ xs.length) (c : Nat) : SrcV w (.slice (some ⟨g, 0, none⟩) k c) ((xs.take k).map Value.string) := by
  rcases h with ⟨h, _⟩ | ⟨g', cap', h, _, _, _, _, hc, _⟩
  · cases h
  · cases h
    refine .inr ⟨_, c, by rw [List.length_map, List.length_take]; congr 1; omega, fun j x hj => ?_⟩
    have hj' := (List.getElem?_eq_some_iff.1 hj).1
    rw [List.length_map, List.length_take] at hj'
    rw [List.getElem?_map, List.getElem?_take_of_lt (by omega), List.getElem?_eq_getElem (by omega)] at hj
    have hx := hc j (by omega)
    rw [List.getD_eq_getElem?_getD, List.getElem?_eq_getElem (by omega)] at hx
    rw [addr_add, hx]
    exact hj
theorem src_end {w : World} (a : Option Addr) (c : Nat) (h : a = none → c = 0) : SrcV w (.slice a 0 c) [] := by
  cases a with
  | none => rw [h rfl]; exact .inl ⟨rfl, rfl⟩
  | some ad => exact .inr ⟨ad, c, rfl, fun j x hj => by simp at hj⟩
end Go.Proofs.YtkpganpojdboeabDoor

/-! Quiet -/
namespace Go.Proofs.YtkpganpojdboeabDoor
open Go.RowKit

theorem quiet_eq {P : Program} {f : FuncId} {args : Array Value} {w : World} {n : Nat} {v : Value} (h : Calls P f args (w.drewN n) fun e w' => e = .returned v ∧ w.drewN n = w') :
    Calls P f args (w.drewN n) fun e w'' => e = .returned v ∧ ∃ m, w'' = w.drewN m :=
  h.mono fun _ _ ⟨he, hm⟩ => ⟨he, n, hm.symm⟩

def Quietly (v : Value) (w : World) (e : Ending) (w' : World) : Prop := e = .returned v ∧ ∃ n, w' = w.drewN n
end Go.Proofs.YtkpganpojdboeabDoor

/-! Text -/
namespace Go.Proofs.YtkpganpojdboeabDoor
open Go.RowKit

theorem isLeaf_any (t : Tr) (b : Nat) (w : World) (h : NodeAt w t b) :
    Calls Tryd.prog 136 #[.pointer (some ⟨b, 0, none⟩)] w fun e w' => e = .returned (.bool t.isLf) ∧ w = w' := by
  cases t with
  | lf =>
    have h1 := two_left h
    have H := Lib.hid h
    clear h
    go_enter Tryd.func136, Tryd.ntmps136
    go_wp2_with fail
    go_ret
    exact ⟨rfl, rfl⟩
  | nd l r =>
    obtain ⟨bl, br, h, hl, hr⟩ := h
    have h1 := two_left h
    have H := Lib.hid h
    clear h
    go_enter Tryd.func136, Tryd.ntmps136
    go_wp2_with fail
    go_ret
    exact ⟨rfl, rfl⟩

theorem NodeAt.heap {w w' : World} (e : w'.heap = w.heap) : ∀ {t : Tr} {b : Nat}, NodeAt w t b → NodeAt w' t b := by
  intro t
  induction t with
  | lf => intro b h; unfold NodeAt at *; rw [e]; exact h
  | nd l r ihl ihr =>
    intro b h
    obtain ⟨bl, br, h, h1, h2⟩ := h
    exact ⟨bl, br, by rw [e]; exact h, ihl h1, ihr h2⟩
theorem NodeAt.drewN {w : World} (n : Nat) {t : Tr} {b : Nat} (h : NodeAt w t b) : NodeAt (w.drewN n) t b := NodeAt.heap (w := w) (w' := w.drewN n) rfl h

end Go.Proofs.YtkpganpojdboeabDoor

/-! Mir -/
namespace Go.Proofs.YtkpganpojdboeabDoor
open Go.RowKit

/-- A call that hands back a node of a tree. -/
def GivesNode (t : Tr) (w : World) (e : Ending) (w' : World) : Prop :=
  ∃ b : Nat, NodeAt w' t b ∧ Below w.heap.size w w' ∧ e = .returned (.pointer (some ⟨b, 0, none⟩))

theorem below_two {w w1 : World} {b : Nat} {u v : Value} (hb : Below w.heap.size w w1) (h1 : w.cell? ⟨b, 0, none⟩ = some u) (h2 : w.cell? ⟨b, 1, none⟩ = some v) :
    w1.cell? ⟨b, 0, none⟩ = some u ∧ w1.cell? ⟨b, 1, none⟩ = some v := by
  have hl := World.block_lt_of_cell? w _ h1
  exact ⟨(hb.cell (p := ⟨b, 0, none⟩) hl).trans h1, (hb.cell (p := ⟨b, 1, none⟩) hl).trans h2⟩

end Go.Proofs.YtkpganpojdboeabDoor

/-! Addr -/
namespace Go.Proofs.YtkpganpojdboeabDoor
open Go.RowKit

set_option maxRecDepth 100000 in
set_option maxHeartbeats 2000000 in
theorem trAddresses_any (t : Tr) : ∀ (here : ByteArray) (w : World), t.carets ≤ 60 → here.size + t.carets ≤ 1000 →
    Calls Tryd.prog 120 #[.string t.str, .string here] w (GivesTexts (t.addrs here) w) := by
  obtain ⟨i0, hi, hz0, hz1, hz2⟩ := info_parts info_str
  induction t with
  | lf =>
    intro here w ht hh
    go_enter Tryd.func120, Tryd.ntmps120
    go_wp2_with fail
    refine (trLeaf_any .lf _).mono ?_; rintro e w1 ⟨rfl, rfl⟩
    simp only [Tr.isLf]
    go_wp2_with fail
    go_ret
    exact ⟨_, 1, OwnS.one _ _, nxAlloc (Below.refl _ _) _, rfl⟩
  | nd l r ihl ihr =>
    intro here w ht hh
    have ht' : l.carets + r.carets + 1 ≤ 60 := ht
    have hh' : here.size + (l.carets + r.carets + 1) ≤ 1000 := hh
    have ll := addrs_length l (here ++ ⟨#[48]⟩)
    have lr := addrs_length r (here ++ ⟨#[49]⟩)
    obtain ⟨A, hA⟩ : ∃ A, A = l.addrs (here ++ ⟨#[48]⟩) := ⟨_, rfl⟩
    obtain ⟨B, hB⟩ : ∃ B, B = r.addrs (here ++ ⟨#[49]⟩) := ⟨_, rfl⟩
    have hC : (Tr.nd l r).addrs here = A ++ B := by rw [hA, hB]; rfl
    have s0 : (here ++ (⟨#[48]⟩ : ByteArray)).size = here.size + 1 := ByteArray.size_append
    have s1 : (here ++ (⟨#[49]⟩ : ByteArray)).size = here.size + 1 := ByteArray.size_append
    have jl := fun w => ihl (here ++ ⟨#[48]⟩) w (by omega) (by omega)
    have jr := fun w => ihr (here ++ ⟨#[49]⟩) w (by omega) (by omega)
    rw [← hA] at ll jl
    rw [← hB] at lr jr
    rw [hC]
    have hAn : A.length ≤ 61 := by omega
    have hBn : B.length ≤ 61 := by omega
    have hBp : 0 < B.length := by omega
    have hAp : 0 < A.length := by omega
    clear ihl ihr hA hB hC s0 s1 ll lr
    go_enter Tryd.func120, Tryd.ntmps120
    go_wp2_with fail
    refine (trLeaf_any (.nd l r) _).mono ?_; rintro e w1 ⟨rfl, rfl⟩
    simp only [Tr.isLf]
    go_wp2_with fail
    refine (trSides_any l r _ (by omega)).mono ?_; rintro e w1 ⟨rfl, hb1⟩
    go_wp2_with fail
    refine (jl _).mono ?_; rintro e w2 ⟨g1, cap1, own1, hb2, rfl⟩
    go_wp2_with fail
    refine (jr _).mono ?_; rintro e w3 ⟨g2, cap2, own2, hb3, rfl⟩
    have hown := (own1.keep hb3).mono hb1.size
    have hbw : Below w.heap.size w w3 := nx (nx hb1 hb2) hb3
    go_wp2_with (at_builtin; refine wpList_append_own _ rfl _ _ 59 rfl w.heap.size 9 i0 (.string ⟨#[]⟩) 1 16 Tryd.underlying59 hi hz0 hz1 hz2 rfl (by decide) _ _ _ rfl hown ⟨g2, 0, none⟩ B.length cap2 (B.map Value.string) rfl (by simp) (own2.news rfl) (oneS _) (by unfold maxLen; omega) (by omega) hbw.size ?_; intro v' w4 hown' hgrow hnn)
    have hbw' := below_app0 hbw hown (Nat.le_refl _) hgrow
    have hown1 := OwnS.app hown'
    obtain ⟨g, cap, hv⟩ := hown1.shape (by simp; omega)
    have HV := Lib.hid hv
    clear hown hown' hgrow hv hnn
    go_wp2_with fail
    go_ret
    exact ⟨g, cap, by rw [← HV.out]; exact hown1, hbw', by rw [← HV.out]; rfl⟩

set_option maxRecDepth 100000 in
set_option maxHeartbeats 4000000 in
theorem addressesFrom_any (t : Tr) : ∀ (b : Nat) (here : ByteArray) (w : World), NodeAt w t b → t.carets ≤ 60 → here.size + t.carets ≤ 1000 →
    Calls Tryd.prog 101 #[.pointer (some ⟨b, 0, none⟩), .string here] w (GivesTexts (t.addrs here) w) := by
  obtain ⟨i0, hi, hz0, hz1, hz2⟩ := info_parts info_str
  induction t with
  | lf =>
    intro b here w h ht hh
    have H := Lib.hid h
    clear h
    go_enter Tryd.func101, Tryd.ntmps101
    go_wp2_with fail
    refine (isLeaf_any .lf b _ H.out).mono ?_; rintro e w1 ⟨rfl, rfl⟩
    simp only [Tr.isLf]
    go_wp2_with fail
    go_ret
    exact ⟨_, 1, OwnS.one _ _, nxAlloc (Below.refl _ _) _, rfl⟩
  | nd l r ihl ihr =>
    intro b here w h ht hh
    have ht' : l.carets + r.carets + 1 ≤ 60 := ht
    have hh' : here.size + (l.carets + r.carets + 1) ≤ 1000 := hh
    have ll := addrs_length l (here ++ ⟨#[48]⟩)
    have lr := addrs_length r (here ++ ⟨#[49]⟩)
    obtain ⟨A, hA⟩ : ∃ A, A = l.addrs (here ++ ⟨#[48]⟩) := ⟨_, rfl⟩
    obtain ⟨B, hB⟩ : ∃ B, B = r.addrs (here ++ ⟨#[49]⟩) := ⟨_, rfl⟩
    have hC : (Tr.nd l r).addrs here = A ++ B := by rw [hA, hB]; rfl
    have s0 : (here ++ (⟨#[48]⟩ : ByteArray)).size = here.size + 1 := ByteArray.size_append
    have s1 : (here ++ (⟨#[49]⟩ : ByteArray)).size = here.size + 1 := ByteArray.size_append
    have jl := fun b w h => ihl b (here ++ ⟨#[48]⟩) w h (by omega) (by omega)
    have jr := fun b w h => ihr b (here ++ ⟨#[49]⟩) w h (by omega) (by omega)
    rw [← hA] at ll jl
    rw [← hB] at lr jr
    rw [hC]
    have hAn : A.length ≤ 61 := by omega
    have hBn : B.length ≤ 61 := by omega
    have hBp : 0 < B.length := by omega
    have hAp : 0 < A.length := by omega
    have H := Lib.hid h
    obtain ⟨bl, br, h, hl, hr⟩ := h
    have h1 := two_left h
    have h2 := two_right h
    have hb0 := Below.refl w.heap.size w
    have hz3 : (9223372036854775807 < here.size + 1) = False := eq_false (by omega)
    clear h ihl ihr hA hB hC s0 s1 ll lr
    go_enter Tryd.func101, Tryd.ntmps101
    go_wp2_with fail
    refine (isLeaf_any (.nd l r) b _ H.out).mono ?_; rintro e w1 ⟨rfl, rfl⟩
    simp only [Tr.isLf]
    go_wp2_with fail
    go_region_held3 (fun w' => w'.cell? ⟨b, 0, none⟩ = some (.pointer (some ⟨bl, 0, none⟩)) ∧ w'.cell? ⟨b, 1, none⟩ = some (.pointer (some ⟨br, 0, none⟩)))
      (first
        | exact ⟨h1, h2⟩
        | exact ⟨q1, q2⟩
        | exact ⟨s1, s2⟩
        | exact ⟨r1, r2⟩)
      (first
        | (go_at_call_of 101 (some (⟨bl, 0, none⟩ : Addr)); refine (jl bl _ ?_).mono ?_; exact hl.keep hb0.drew; rintro e w1 ⟨g1, cap1, own1, hb1, rfl⟩; have hb1' := nx hb0.drew hb1; obtain ⟨q1, q2⟩ := below_two hb1' h1 h2)
        | (go_at_call_of 101 (some (⟨br, 0, none⟩ : Addr)); refine (jr br _ ?_).mono ?_; exact hr.keep hb1'; rintro e w2 ⟨g2, cap2, own2, hb2, rfl⟩; have hb2' := nx hb1' hb2; obtain ⟨s1, s2⟩ := below_two hb2' h1 h2; have hown := (own1.keep hb2).mono hb0.drew.size)
        | (refine step_append_lies _ (by rfl) _ _ _ (by rfl) w.heap.size 9 i0 _ 1 16 Tryd.underlying59 hi hz0 hz1 hz2 rfl (by omega) (.slice (some ⟨g1, 0, none⟩) A.length cap1) A.length (A.map Value.string) (by rfl) hown ⟨g2, 0, none⟩ B.length cap2 (B.map Value.string) (by rfl) (by simp) (own2.news rfl) (oneS _) hBp (by unfold maxLen; omega) (by omega) hb2'.size w2.heap.size (by rfl) ?_; intro gg cap w3 hown1 hgrow hat hlt; have hb3 := below_app0 hb2' hown (Nat.le_refl _) hgrow; obtain ⟨r1, r2⟩ := below_two hb3 h1 h2))
    go_wp2_with fail
    go_ret
    exact ⟨gg, cap, by rw [List.length_append]; exact OwnS.app hown1, hb3, by rw [List.length_append]; rfl⟩
end Go.Proofs.YtkpganpojdboeabDoor

/-! TreeO -/
namespace Go.Proofs.YtkpganpojdboeabDoor
open Go.RowKit

theorem keep_cell {w w' : World} {b o : Nat} {v : Value} (hb : Below w.heap.size w w') (h : w.cell? ⟨b, o, none⟩ = some v) : w'.cell? ⟨b, o, none⟩ = some v :=
  (hb.cell (p := ⟨b, o, none⟩) (World.block_lt_of_cell? _ _ h)).trans h

theorem treeOf_any (t : Tr) (w : World) (h : t.carets ≤ 1000) : Calls Tryd.prog 100 #[.string t.str] w (GivesNode t w) := by
  have hz := t.str_size
  have hp := place_any (t.str.size + 1) t.str
  rw [parse_str t _ (by have := t.text_len; omega)] at hp
  have hp' : ∀ w, Calls Tryd.prog 116 #[.string t.str] w (PlaceOk t [] t.str w) := fun w => hp w (by omega) (by omega)
  clear hz hp
  go_enter Tryd.func100, Tryd.ntmps100
  go_wp2_with fail
  refine (hp' _).mono ?_; rintro e w1 ⟨b1, s1, hs1, hz1, hn1, hb1, rfl⟩
  clear hs1 hz1
  go_wp2_with fail
  go_ret
  exact ⟨b1, hn1, hb1, rfl⟩

end Go.Proofs.YtkpganpojdboeabDoor

/-! RepM -/
namespace Go.Proofs.YtkpganpojdboeabDoor
open Go.RowKit

set_option maxRecDepth 100000 in
set_option maxHeartbeats 4000000 in
theorem bitsMul_one (n : Nat) (hn : n ≤ 20) (w : World) :
    Calls Tryd.prog 103 #[.int .u64 1, .int .u64 n] w fun e w' => e = .returned (.tuple #[.int .u64 0, .int .u64 n]) ∧ w = w' := by
  obtain rfl | rfl | rfl | rfl | rfl | rfl | rfl | rfl | rfl | rfl | rfl | rfl | rfl | rfl | rfl | rfl | rfl | rfl | rfl | rfl | rfl : n = 0 ∨ n = 1 ∨ n = 2 ∨ n = 3 ∨ n = 4 ∨ n = 5 ∨ n = 6 ∨ n = 7 ∨ n = 8 ∨ n = 9 ∨ n = 10 ∨ n = 11 ∨ n = 12 ∨ n = 13 ∨ n = 14 ∨ n = 15 ∨ n = 16 ∨ n = 17 ∨ n = 18 ∨ n = 19 ∨ n = 20 := by omega
  all_goals
    go_enter Tryd.func103, Tryd.ntmps103
    go_wp2
    go_ret2
    exact ⟨rfl, rfl⟩
end Go.Proofs.YtkpganpojdboeabDoor

/-! Form -/
namespace Go.Proofs.YtkpganpojdboeabDoor
open Go.RowKit

theorem CellsI.form {b1 : Nat} {w : World} {v : Value} {xs : List Int} (h : CellsI b1 w v xs) :
    ∃ oa cap, v = .slice oa xs.length cap ∧ xs.length ≤ cap ∧ cap ≤ maxLen ∧ ∀ i, i < xs.length → ∃ g, oa = some ⟨g, 0, none⟩ ∧ b1 ≤ g ∧ g < w.heap.size ∧ w.cell? ⟨g, i, none⟩ = some (.int .i64 (xs.getD i 0)) := by
  rcases h with ⟨rfl, rfl⟩ | ⟨g, cap, rfl, h1, h2, h3, h4, h5, _⟩
  · exact ⟨none, 0, rfl, Nat.le_refl _, Nat.zero_le _, fun i hi => by simp at hi⟩
  · exact ⟨some ⟨g, 0, none⟩, cap, rfl, h3, h4, fun i hi => ⟨g, rfl, h1, h2, h5 i hi⟩⟩

end Go.Proofs.YtkpganpojdboeabDoor

/-! Rep -/
namespace Go.Proofs.YtkpganpojdboeabDoor
open Go.RowKit

/-- The first m cells of a row are all X. -/
def allX (X : Value) (m : Nat) (c : List Value) : Prop := c.take m = List.replicate m X
theorem allX_splice {X : Value} {m k : Nat} {c : List Value} (h : allX X m c) : allX X (m + k) (splice c m (List.replicate k X)) := by
  unfold allX splice at *
  rw [h, ← List.append_assoc, List.replicate_append_replicate, List.take_left' (by simp)]
theorem allX_at {X : Value} {m j : Nat} {c : List Value} (h : allX X m c) (hj : j < m) : c[j]? = some X := by
  have e : (c.take m)[j]? = some X := by rw [h]; simp [hj]
  rwa [List.getElem?_take_of_lt hj] at e
theorem cell_of_block {w : World} {g j : Nat} {c : List Value} {t : TypeId} {X : Value} (h : w.heap[g]? = some (.cells c.toArray t (0, 0))) (hj : c[j]? = some X) : w.cell? ⟨g, j, none⟩ = some X := by
  unfold World.cell?
  rw [h]
  simpa using hj

/-- A call that hands back so many cells of one number, in a new block. -/
def GivesRep (x : Int) (n : Nat) (w : World) (e : Ending) (w' : World) : Prop :=
  ∃ g : Nat, OwnI w.heap.size w' (.slice (some ⟨g, 0, none⟩) n n) (List.replicate n x) ∧ Below w.heap.size w w' ∧ e = .returned (.slice (some ⟨g, 0, none⟩) n n)

theorem own_of_block {w : World} {B g n : Nat} {c : List Value} {x : Int} (h : w.heap[g]? = some (.cells c.toArray 3 (0, 0))) (hB : B ≤ g) (hl : c.length = n) (hn : n ≤ 1000000) (ha : allX (.int .i64 x) n c) :
    OwnI B w (.slice (some ⟨g, 0, none⟩) n n) (List.replicate n x) := by
  unfold OwnI
  rw [List.length_replicate]
  refine ⟨by simp, .inr ⟨g, n, c.toArray, rfl, hB, h, Nat.le_refl _, by unfold maxLen; omega, by simp [hl], ?_⟩⟩
  unfold allX at ha
  simp only [Nat.mul_one]
  rw [ha]
  simp

set_option maxRecDepth 100000 in
set_option maxHeartbeats 200000 in
theorem repeat_any (x : Int) (n g cap : Nat) (w : World) (hn : n ≤ 20) (hn1 : 1 ≤ n) (hc : w.cell? ⟨g, 0, none⟩ = some (.int .i64 x)) :
    Calls Tryd.prog 62 #[.slice (some ⟨g, 0, none⟩) 1 cap, .int .i64 n] w (GivesRep x n w) := by
  obtain ⟨i0, hi, hz0, hz1, hz2⟩ := info_parts info_int
  have hsz1 : (Tryd.prog.info? 3).map (·.size) = some 1 := by rw [hi]; simp [hz1]
  have hgl := World.block_lt_of_cell? w _ hc
  have hM := fun w => bitsMul_one n hn w
  have hb8 : ((i0.bytes : Nat) : Int) * (n : Int) ≤ 281474976710656 := by rw [hz2]; omega
  have hmk := fun w => run_make (P := Tryd.prog) w 25 3 i0 (.int .i64 0) Tryd.underlying25 hi hz0 .i64 .i64 n n (by omega) (by omega) hb8 (by omega)
  obtain ⟨C, hC⟩ : ∃ C : List Value, C.toArray = madeCells (Value.int .i64 0).cells ((n : Int).toNat * i0.size) := ⟨_, Array.toArray_toList⟩
  have hCl : C.length = n := by
    have h := size_madeCells (Value.int .i64 0).cells ((n : Int).toNat * i0.size)
    rw [← hC, hz1] at h
    simpa using h
  rw [← hC] at hmk
  simp only [Int.toNat_natCast] at hmk
  have HC := Lib.hid hCl
  have hnn : (0 : Int) ≤ (n : Int) := by omega
  have hb0 : Below w.heap.size w (w.alloc (.cells C.toArray 3)) := (Below.refl _ w).alloc (Nat.le_refl _) _
  have hsrc : ∀ (j : Nat) (v : Value), [Value.int .i64 x][j]? = some v → (w.alloc (.cells C.toArray 3)).cell? ((⟨g, 0, none⟩ : Addr).add j) = some v := by
    intro j v hj
    match j, hj with
    | 0, hj =>
      simp at hj; subst hj
      rw [addr_add]
      exact (hb0.cell (p := ⟨g, 0, none⟩) hgl).trans hc
    | j + 1, hj => simp at hj
  have hnew : (w.alloc (.cells C.toArray 3)).heap[w.heap.size]? = some (.cells C.toArray 3 (0, 0)) := by
    show (w.heap.push _)[w.heap.size]? = _
    simp
  have hone : ∀ v ∈ [Value.int .i64 x], v.oneCell' = true := by intro u hu; simp at hu; subst hu; rfl
  have hall0 : allX (.int .i64 x) 0 C := by unfold allX; simp
  have hall1 : allX (.int .i64 x) 1 (splice C 0 [Value.int .i64 x]) := allX_splice (k := 1) hall0
  have hlen1 : (splice C 0 [Value.int .i64 x]).length = n := by rw [length_splice _ _ _ (by simp; omega)]; exact HC.out
  have HA := Lib.hid hall1
  have HL := Lib.hid hlen1
  clear hC hb8 hCl hall0 hall1 hlen1
  go_enter Tryd.func62, Tryd.ntmps62
  go_wp2_with fail
  refine (hM _).mono ?_; rintro e w1 ⟨rfl, rfl⟩
  go_wp2_with (refine wpList_copy_splice rfl (.tmp 31) (.tmp 32) 25 25 rfl 3 Tryd.underlying25 hsz1 _ _ _ _ _ _ rfl rfl w.heap.size 0 C 3 hnew [Value.int .i64 x] (Nat.min_eq_left hn1).symm (fun _ => ⟨rfl, _, rfl, hsrc⟩) (by have := HC.out; simp; omega) hone w.heap.size w hb0 (Nat.le_refl _) ?_; intro w2 HG2 hB2)
  generalize splice C 0 [Value.int .i64 x] = D at HG2 HA HL
  clear hsrc hb0 hone hmk HC hnew
  go_loopw [8] (fun i wr => ∃ (m : Nat) (c : List Value), i = .int .i64 m ∧ 1 ≤ m ∧ m ≤ n ∧ Hid (c.length = n) ∧ Hid (allX (.int .i64 x) m c) ∧ Hid (wr.heap[w.heap.size]? = some (.cells c.toArray 3 (0, 0))) ∧ Below w.heap.size w wr) (fun i _ => n - (intOf i).toNat)
  case atStart => exact ⟨1, D, rfl, Nat.le_refl _, hn1, HL, HA, HG2, hB2⟩
  case round =>
    obtain ⟨m, c, rfl, hm1, hmn, hcl, hal, hg, hbw⟩ := hrel
    clear HG2 HA HL hB2
    by_cases hlt : m < n
    · have hlt' : (m : Int) < (n : Int) := by omega
      obtain ⟨k, hk⟩ : ∃ k, k = Nat.min m (n - m) := ⟨_, rfl⟩
      have hk1 : 1 ≤ k := by rw [hk]; exact Nat.le_min.2 ⟨hm1, by omega⟩
      have hk2 : m + k ≤ n := by have : k ≤ n - m := by rw [hk]; exact Nat.min_le_right _ _
                                 omega
      have hk3 : k ≤ m := by rw [hk]; exact Nat.min_le_left _ _
      have hcs : (List.replicate k (Value.int .i64 x)).length = Nat.min m (n - m) := by rw [List.length_replicate]; exact hk
      have hsrc : ∀ (j : Nat) (v : Value), (List.replicate k (Value.int .i64 x))[j]? = some v → wr.cell? ((⟨w.heap.size, 0, none⟩ : Addr).add j) = some v := by
        intro j v hj
        have hjk := (List.getElem?_eq_some_iff.1 hj).1
        rw [List.length_replicate] at hjk
        rw [List.getElem?_replicate, if_pos hjk] at hj
        rw [addr_add, ← hj]
        exact cell_of_block hg.out (allX_at hal.out (by omega))
      have hone : ∀ v ∈ List.replicate k (Value.int .i64 x), v.oneCell' = true := by intro u hu; rw [List.eq_of_mem_replicate hu]; rfl
      have hal' : Hid (allX (.int .i64 x) (m + k) (splice c m (List.replicate k (Value.int .i64 x)))) := allX_splice hal.out
      have hcl' : Hid ((splice c m (List.replicate k (Value.int .i64 x))).length = n) := by
        show _ = _
        rw [length_splice _ _ _ (by rw [List.length_replicate, hcl.out]; omega)]; exact hcl.out
      have hfit : m + (List.replicate k (Value.int .i64 x)).length ≤ c.length := by rw [List.length_replicate, hcl.out]; omega
      obtain ⟨R, hR⟩ : ∃ R, R = List.replicate k (Value.int .i64 x) := ⟨_, rfl⟩
      have hRl : R.length = k := by rw [hR, List.length_replicate]
      rw [← hR] at hcs hsrc hone hal' hcl' hfit
      have HCS := Lib.hid hcs
      have ew : IntKind.i64.wrap ((m : Int) + (k : Int)) = ((m + k : Nat) : Int) := by rw [IntKind.wrap_i64]; omega
      clear hR hk hcs
      have hsrcD : ∀ (j : Nat) (v : Value), R[j]? = some v → wr.drew.cell? ((⟨w.heap.size, 0, none⟩ : Addr).add j) = some v := hsrc
      go_wp2_with fail
      go_region_law (refine step_copy_splice (by rfl) (.tmp 41) (.tmp 44) 25 25 (by rfl) 3 Tryd.underlying25 hsz1 (if n = m then some ⟨w.heap.size, 0, none⟩ else some ⟨w.heap.size, m, none⟩) (some ⟨w.heap.size, 0, none⟩) (n - m) (n - m) m n (by go_simp) (by go_simp) w.heap.size m c 3 hg.out R HCS.out (fun _ => ⟨if_neg (by omega), _, rfl, hsrcD⟩) hfit hone w.heap.size w hbw.drew (Nat.le_refl _) ?_; intro w4 hg4 hb4)
      go_wp2_with fail
      go_roundw
      case rel => exact ⟨m + k, by omega, by omega, hk2, _, hcl', hal', hg4⟩
      case measure => simp [intOf]; omega
    · obtain rfl : m = n := by omega
      go_wp2_with fail
      go_ret
      exact ⟨_, own_of_block hg.out (Nat.le_refl _) hcl.out (by omega) hal.out, hbw, rfl⟩
end Go.Proofs.YtkpganpojdboeabDoor

/-! Dots -/
namespace Go.Proofs.YtkpganpojdboeabDoor

/-- The index of the leaf n in a text that begins at 'off', or -1. -/
def posFrom : List UInt8 → Nat → Int → Int
  | [], _, _ => -1
  | c :: r, off, n => if c = 46 then (if n = 0 then off else posFrom r (off + 1) (n - 1)) else posFrom r (off + 1) n

theorem posFrom_range : ∀ (l : List UInt8) (off : Nat) (n : Int), posFrom l off n = -1 ∨ (off ≤ posFrom l off n ∧ posFrom l off n < off + l.length) := by
  intro l
  induction l with
  | nil => intro off n; exact .inl rfl
  | cons c r ih =>
    intro off n
    rw [posFrom]
    have h1 := ih (off + 1) n
    have h2 := ih (off + 1) (n - 1)
    simp only [List.length_cons]
    repeat' split
    all_goals omega

theorem posFrom_neg : ∀ (l : List UInt8) (off : Nat) (n : Int), n < 0 → posFrom l off n = -1 := by
  intro l
  induction l with
  | nil => intro off n _; rfl
  | cons c r ih =>
    intro off n h
    rw [posFrom, ih _ _ h, ih _ (n - 1) (by omega)]
    have h0 : ¬ n = 0 := by omega
    simp [h0]

theorem posFrom_big : ∀ (l : List UInt8) (off : Nat) (n : Int), (l.count 46 : Int) ≤ n → posFrom l off n = -1 := by
  intro l
  induction l with
  | nil => intro off n _; rfl
  | cons c r ih =>
    intro off n h
    rw [posFrom]
    rw [List.count_cons] at h
    split
    · next hc => rw [if_neg (by simp [hc] at h; omega)]; exact ih _ _ (by simp [hc] at h; omega)
    · next hc => exact ih _ _ (by simp [hc] at h; omega)

theorem posFrom_in : ∀ (l : List UInt8) (off : Nat) (n : Int), 0 ≤ n → n < (l.count 46 : Int) → off ≤ posFrom l off n := by
  intro l
  induction l with
  | nil => intro off n h k; simp at k; omega
  | cons c r ih =>
    intro off n h k
    rw [posFrom]
    rw [List.count_cons] at k
    split
    · next hc =>
      split
      · omega
      · have := ih (off + 1) (n - 1) (by omega) (by simp [hc] at k; omega); omega
    · next hc => have := ih (off + 1) n h (by simp [hc] at k; omega); omega

theorem text_dots (t : Tr) : t.text.count 46 = t.carets + 1 := by
  induction t with
  | lf => rfl
  | nd l r ihl ihr => simp [Tr.text, Tr.carets, List.count_append, ihl, ihr]; omega

/-- The text of a tree with another text in place of a leaf. -/
def graftS (s : ByteArray) (n : Int) (o : ByteArray) : ByteArray :=
  s.extract 0 (posFrom s.data.toList 0 n).toNat ++ o ++ s.extract ((posFrom s.data.toList 0 n).toNat + 1) s.size

theorem pos_str (t : Tr) (n : Int) : (0 ≤ n ∧ n ≤ t.carets ∧ 0 ≤ posFrom t.str.data.toList 0 n ∧ posFrom t.str.data.toList 0 n < t.str.size) ∨ ((n < 0 ∨ t.carets < n) ∧ posFrom t.str.data.toList 0 n = -1) := by
  rw [Tr.str_list]
  have hr := posFrom_range t.text 0 n
  have hz := t.str_size
  have hl := t.text_len
  have hd := text_dots t
  by_cases h1 : n < 0
  · exact .inr ⟨.inl h1, posFrom_neg _ _ _ h1⟩
  · by_cases h2 : (t.carets : Int) < n
    · exact .inr ⟨.inr h2, posFrom_big _ _ _ (by rw [hd]; omega)⟩
    · have := posFrom_in t.text 0 n (by omega) (by rw [hd]; omega)
      exact .inl (by omega)

theorem graft_size (t : Tr) (n : Int) (o : ByteArray) (h : 0 ≤ posFrom t.str.data.toList 0 n) (k : posFrom t.str.data.toList 0 n < t.str.size) : (graftS t.str n o).size = t.str.size - 1 + o.size := by
  unfold graftS
  simp only [ByteArray.size_append, ByteArray.size_extract]
  omega

end Go.Proofs.YtkpganpojdboeabDoor

/-! ExpoP -/
namespace Go.Proofs.YtkpganpojdboeabDoor

/-- Does a text begin with an exposed caret? -/
def expB (l : List UInt8) : Bool := l.take 4 == [40, 46, 46, 41]

/-- The left leaves of the exposed carets of a text, n leaves being in front of it. -/
def exL : List UInt8 → Int → List Int
  | [], _ => []
  | c :: r, n => (if expB (c :: r) then [n] else []) ++ exL r (if c = 46 then n + 1 else n)

theorem exL_length : ∀ (l : List UInt8) (n : Int), (exL l n).length ≤ l.length := by
  intro l
  induction l with
  | nil => intro n; simp [exL]
  | cons c r ih => intro n; have := ih (if c = 46 then n + 1 else n); rw [exL]; simp only [List.length_append, List.length_cons]; split <;> simp <;> omega

/-- What the spec's scan, which looks one byte back, has still to tell at index k. -/
def pend (l : List UInt8) (k : Nat) (n : Int) : List Int := if 0 < k ∧ expB (l.drop (k - 1)) = true then [n] else []

theorem expB_cons {c : UInt8} {r : List UInt8} (h : expB (c :: r) = true) : c = 40 ∧ 3 ≤ r.length := by
  unfold expB at h
  simp only [beq_iff_eq] at h
  have h1 := congrArg List.length h
  have h2 := congrArg List.head? h
  simp at h1 h2
  exact ⟨h2, by omega⟩

theorem exL_step {l r : List UInt8} {k : Nat} {c : UInt8} {n : Int} (h : l.drop k = c :: r) :
    exL (l.drop k) n = pend l (k + 1) (if c = 46 then n + 1 else n) ++ exL (l.drop (k + 1)) (if c = 46 then n + 1 else n) := by
  have hr : l.drop (k + 1) = r := drop_succ h
  rw [hr, h, exL]
  congr 1
  unfold pend
  rw [Nat.add_sub_cancel, h]
  cases hb : expB (c :: r) with
  | false => simp
  | true =>
    have := (expB_cons hb).1
    subst this
    simp

theorem expB_extract (s : ByteArray) (k : Nat) (h : 0 < k) : expB (s.data.toList.drop (k - 1)) = ((s.extract (k - 1) (k + 3)).toList == [40, 46, 46, 41]) := by
  unfold expB
  rw [Lib.extract_toList]
  have : k + 3 - (k - 1) = 4 := by omega
  rw [this]

theorem expB_here (s : ByteArray) (k : Nat) : expB (s.data.toList.drop k) = ((s.data.toList.drop k).take 4 == [40, 46, 46, 41]) := rfl

theorem expB_drop {l : List UInt8} {k : Nat} (h : expB (l.drop k) = true) : k + 4 ≤ l.length := by
  cases hd : l.drop k with
  | nil => rw [hd] at h; simp [expB] at h
  | cons c r =>
    rw [hd] at h
    have := (expB_cons h).2
    have := congrArg List.length hd
    simp at this
    omega

theorem pend_zero (l : List UInt8) (n : Int) : pend l 0 n = [] := by simp [pend]

end Go.Proofs.YtkpganpojdboeabDoor

/-! DropP -/
namespace Go.Proofs.YtkpganpojdboeabDoor

theorem posFrom_shift : ∀ (l : List UInt8) (off : Nat) (q : Int), posFrom l off q = if posFrom l 0 q = -1 then -1 else posFrom l 0 q + off := by
  intro l
  induction l with
  | nil => intro off q; rfl
  | cons c r ih =>
    intro off q
    have h1 := ih (off + 1) (q - 1)
    have h2 := ih (0 + 1) (q - 1)
    have h3 := ih (off + 1) q
    have h4 := ih (0 + 1) q
    have r1 := posFrom_range r 0 (q - 1)
    have r2 := posFrom_range r 0 q
    rw [posFrom, posFrom, h1, h2, h3, h4]
    repeat' split
    all_goals omega

/-- The leaf q is the left one of an exposed caret. -/
def dropB (l : List UInt8) (q : Int) : Bool := decide (1 ≤ posFrom l 0 q) && expB (l.drop ((posFrom l 0 q).toNat - 1))

theorem expB_two {c : UInt8} {r : List UInt8} (h : expB (c :: r) = true) : ∃ r', r = 46 :: r' := by
  unfold expB at h
  simp only [beq_iff_eq] at h
  match r with
  | [] => simp at h
  | d :: r' =>
    simp at h
    exact ⟨r', by rw [h.2.1]⟩

theorem mem_exL : ∀ (l : List UInt8) (n m : Int), n ∈ exL l m ↔ dropB l (n - m) = true := by
  intro l
  induction l with
  | nil => intro n m; simp [exL, dropB, posFrom]
  | cons c r ih =>
    intro n m
    have ih0 := ih n m
    have ih1 := ih n (m + 1)
    have e1 : n - (m + 1) = n - m - 1 := by omega
    rw [e1] at ih1
    rw [exL, List.mem_append]
    by_cases hc : c = 46
    · have hx : expB (c :: r) = false := by
        cases h : expB (c :: r) with
        | false => rfl
        | true => have := (expB_cons h).1; rw [hc] at this; exact absurd this (by decide)
      rw [hx, if_pos hc, ih1]
      simp only [Bool.false_eq_true, if_false, List.not_mem_nil, false_or]
      unfold dropB
      rw [posFrom, if_pos hc]
      by_cases hz : n - m = 0
      · rw [if_pos hz, posFrom_neg r 0 (n - m - 1) (by omega)]
        simp
      · rw [if_neg hz, posFrom_shift r (0 + 1)]
        have hr := posFrom_range r 0 (n - m - 1)
        by_cases h1 : posFrom r 0 (n - m - 1) = -1
        · rw [if_pos h1, h1]; simp
        · rw [if_neg h1]
          by_cases h0 : posFrom r 0 (n - m - 1) = 0
          · rw [h0]
            simp [hx]
          · have h2 : 1 ≤ posFrom r 0 (n - m - 1) := by omega
            obtain ⟨p, hp⟩ : ∃ p : Nat, posFrom r 0 (n - m - 1) = (p : Int) + 1 := ⟨(posFrom r 0 (n - m - 1)).toNat - 1, by omega⟩
            rw [hp]
            have t1 : ((p : Int) + 1 + ((0 + 1 : Nat) : Int)).toNat - 1 = p + 1 := by omega
            have t2 : ((p : Int) + 1).toNat - 1 = p := by omega
            rw [t1, t2, List.drop_succ_cons]
            have d1 : decide (1 ≤ (p : Int) + 1) = true := decide_eq_true (by omega)
            have d2 : decide (1 ≤ (p : Int) + 1 + ((0 + 1 : Nat) : Int)) = true := decide_eq_true (by omega)
            rw [d1, d2]
    · rw [if_neg hc, ih0]
      unfold dropB
      rw [posFrom, if_neg hc, posFrom_shift r (0 + 1)]
      have hr := posFrom_range r 0 (n - m)
      have hzero : expB (c :: r) = true → posFrom r 0 (n - m) = 0 → n = m := by
        intro h h'
        obtain ⟨r', rfl⟩ := expB_two h
        rw [posFrom, if_pos rfl] at h'
        by_cases hz : n - m = 0
        · omega
        · rw [if_neg hz, posFrom_shift r' (0 + 1)] at h'
          have := posFrom_range r' 0 (n - m - 1)
          split at h' <;> omega
      have hzero' : expB (c :: r) = true → n = m → posFrom r 0 (n - m) = 0 := by
        intro h h'
        obtain ⟨r', rfl⟩ := expB_two h
        rw [posFrom, if_pos rfl, if_pos (by omega)]; rfl
      by_cases h1 : posFrom r 0 (n - m) = -1
      · rw [if_pos h1, h1]
        simp only [show decide ((1 : Int) ≤ -1) = false from rfl, Bool.false_and, Bool.false_eq_true, or_false, iff_false]
        intro h
        split at h
        · next he =>
          have := hzero' he (by simpa using h)
          omega
        · simp at h
      · rw [if_neg h1]
        by_cases h0 : posFrom r 0 (n - m) = 0
        · rw [h0]
          simp only [show decide ((1 : Int) ≤ 0) = false from rfl, Bool.false_and, Bool.false_eq_true, or_false]
          have t1 : ((0 : Int) + ((0 + 1 : Nat) : Int)).toNat - 1 = 0 := by omega
          rw [t1, List.drop_zero]
          have d2 : decide (1 ≤ (0 : Int) + ((0 + 1 : Nat) : Int)) = true := decide_eq_true (by omega)
          rw [d2]
          cases he : expB (c :: r) with
          | false => simp
          | true => simp; exact hzero he h0
        · obtain ⟨p, hp⟩ : ∃ p : Nat, posFrom r 0 (n - m) = (p : Int) + 1 := ⟨(posFrom r 0 (n - m)).toNat - 1, by omega⟩
          rw [hp]
          have t1 : ((p : Int) + 1 + ((0 + 1 : Nat) : Int)).toNat - 1 = p + 1 := by omega
          have t2 : ((p : Int) + 1).toNat - 1 = p := by omega
          rw [t1, t2, List.drop_succ_cons]
          have d1 : decide (1 ≤ (p : Int) + 1) = true := decide_eq_true (by omega)
          have d2 : decide (1 ≤ (p : Int) + 1 + ((0 + 1 : Nat) : Int)) = true := decide_eq_true (by omega)
          rw [d1, d2]
          constructor
          · rintro (h | h)
            · split at h
              · next he =>
                have := hzero' he (by simpa using h)
                omega
              · simp at h
            · exact h
          · exact .inr

/-- The text of a tree with a leaf in place of the exposed caret that begins at index q. -/
def dropS (s : ByteArray) (q : Nat) : ByteArray := s.extract 0 q ++ ⟨#[46]⟩ ++ s.extract (q + 4) s.size

/-- Of a text, the answer of DropExposed. -/
def dropO (s : ByteArray) (n : Int) : Option ByteArray :=
  if dropB s.data.toList n = true then some (dropS s ((posFrom s.data.toList 0 n).toNat - 1)) else none

theorem dropB_true {s : ByteArray} {n : Int} (h : dropB s.data.toList n = true) : ∃ q : Nat, posFrom s.data.toList 0 n = (q : Int) + 1 ∧ q + 4 ≤ s.size ∧ expB (s.data.toList.drop q) = true ∧ 0 ≤ n := by
  unfold dropB at h
  simp only [Bool.and_eq_true, decide_eq_true_eq] at h
  obtain ⟨h1, h2⟩ := h
  refine ⟨(posFrom s.data.toList 0 n).toNat - 1, by omega, ?_, h2, ?_⟩
  · have := expB_drop h2; rw [← Lib.size_eq] at this; exact this
  · rcases Int.lt_or_le n 0 with hn | hn
    · rw [posFrom_neg _ _ _ hn] at h1; omega
    · exact hn
end Go.Proofs.YtkpganpojdboeabDoor

/-! PrT -/
namespace Go.Proofs.YtkpganpojdboeabDoor
namespace Tr
def leaves (t : Tr) : Nat := t.carets + 1
/-- The left leaves of the exposed carets, n leaves being in front. -/
def exps : Tr → Int → List Int
  | lf, _ => []
  | nd l r, n => (if l.isLf && r.isLf then [n] else []) ++ (l.exps n ++ r.exps (n + l.leaves))
/-- The tree with a leaf in place of the exposed caret with the left leaf n. -/
def dropAt : Tr → Int → Tr
  | lf, _ => lf
  | nd l r, n => if l.isLf && r.isLf then lf else if n < l.leaves then nd (l.dropAt n) r else nd l (r.dropAt (n - l.leaves))
/-- The tree with u in place of the leaf n. -/
def graft : Tr → Int → Tr → Tr
  | lf, _, u => u
  | nd l r, n, u => if n < l.leaves then nd (l.graft n u) r else nd l (r.graft (n - l.leaves) u)
end Tr

theorem leaves_nd (l r : Tr) : (Tr.nd l r).leaves = l.leaves + r.leaves := by simp [Tr.leaves, Tr.carets]; omega
theorem leaves_pos (t : Tr) : 1 ≤ t.leaves := by simp [Tr.leaves]
theorem isLf_iff (t : Tr) : t.isLf = true ↔ t = .lf := by cases t <;> simp [Tr.isLf]
theorem both_lf {l r : Tr} (h : (l.isLf && r.isLf) = true) : l = .lf ∧ r = .lf := by
  simp only [Bool.and_eq_true, isLf_iff] at h; exact h

theorem expB_len {l : List UInt8} (h : l.length < 4) : expB l = false := by
  unfold expB
  rw [beq_eq_false_iff_ne]
  intro e
  have := congrArg List.length e
  simp at this
  omega

theorem text_head (t : Tr) : (t = .lf ∧ t.text = [46]) ∨ ∃ r, t.text = 40 :: r := by
  cases t with
  | lf => exact .inl ⟨rfl, rfl⟩
  | nd l r => exact .inr ⟨_, rfl⟩

theorem expB_nd (l r : Tr) (q : List UInt8) : expB (40 :: (l.text ++ (r.text ++ (41 :: q)))) = (l.isLf && r.isLf) := by
  cases l with
  | lf =>
    cases r with
    | lf => rfl
    | nd a b => simp [expB, Tr.text, Tr.isLf]
  | nd a b => simp [expB, Tr.text, Tr.isLf]

theorem exL_text (t : Tr) : ∀ (q : List UInt8) (m : Int), exL (t.text ++ q) m = t.exps m ++ exL q (m + t.leaves) := by
  induction t with
  | lf => intro q m; simp [Tr.text, exL, Tr.exps, expB, Tr.leaves, Tr.carets]
  | nd l r ihl ihr =>
    intro q m
    have e : (Tr.nd l r).text ++ q = 40 :: (l.text ++ (r.text ++ (41 :: q))) := by simp [Tr.text]
    rw [e, exL, expB_nd, if_neg (show ¬ (40 : UInt8) = 46 by decide), ihl, ihr, exL, if_neg (show ¬ (41 : UInt8) = 46 by decide)]
    have h41 : expB (41 :: q) = false := by
      cases h : expB (41 :: q) with
      | false => rfl
      | true => exact absurd (expB_cons h).1 (by decide)
    rw [h41]
    have e2 : m + (l.leaves : Int) + (r.leaves : Int) = m + ((Tr.nd l r).leaves : Int) := by rw [leaves_nd]; omega
    rw [e2]
    simp [Tr.exps]

theorem exps_text (t : Tr) (m : Int) : exL t.text m = t.exps m := by
  have := exL_text t [] m
  simpa [exL] using this

theorem exps_range (t : Tr) : ∀ (n m : Int), m ∈ t.exps n → n ≤ m ∧ m + 1 < n + t.leaves := by
  induction t with
  | lf => intro n m h; simp [Tr.exps] at h
  | nd l r ihl ihr =>
    intro n m h
    have h1 := leaves_pos l
    have h2 := leaves_pos r
    rw [Tr.exps, List.mem_append, List.mem_append] at h
    rw [leaves_nd]
    rcases h with h | h | h
    · split at h
      · simp at h; omega
      · simp at h
    · have := ihl _ _ h; omega
    · have := ihr _ _ h; omega

theorem exps_shift (t : Tr) : ∀ (n d : Int), t.exps (n + d) = (t.exps n).map (· + d) := by
  induction t with
  | lf => intro n d; rfl
  | nd l r ihl ihr =>
    intro n d
    have e : n + d + (l.leaves : Int) = n + (l.leaves : Int) + d := by omega
    rw [Tr.exps, Tr.exps, ihl n d, e, ihr, List.map_append, List.map_append]
    split <;> simp

theorem exps_shift_mem (t : Tr) (n m : Int) : m ∈ t.exps n ↔ m - n ∈ t.exps 0 := by
  have := exps_shift t 0 n
  rw [Int.zero_add] at this
  rw [this, List.mem_map]
  constructor
  · rintro ⟨a, ha, rfl⟩; have : a + n - n = a := by omega
    rw [this]; exact ha
  · intro h; exact ⟨m - n, h, by omega⟩

theorem exps_length (t : Tr) : ∀ n, (t.exps n).length ≤ t.carets := by
  induction t with
  | lf => intro n; simp [Tr.exps]
  | nd l r ihl ihr =>
    intro n
    have h1 := ihl n
    have h2 := ihr (n + l.leaves)
    rw [Tr.exps]
    simp only [List.length_append, Tr.carets]
    split <;> simp <;> omega

/-- An exposed caret in a text: what is in front of it and behind it. -/
theorem exps_split (t : Tr) : ∀ n : Int, n ∈ t.exps 0 → ∃ x y : List UInt8, t.text = x ++ (40 :: 46 :: 46 :: 41 :: y) ∧ ((x.count 46 : Nat) : Int) = n ∧ (t.dropAt n).text = x ++ (46 :: y) := by
  induction t with
  | lf => intro n h; simp [Tr.exps] at h
  | nd l r ihl ihr =>
    intro n h
    rw [Tr.exps, List.mem_append, List.mem_append] at h
    cases hb : l.isLf && r.isLf with
    | true =>
      obtain ⟨rfl, rfl⟩ := both_lf hb
      simp [Tr.exps, Tr.isLf] at h
      subst h
      exact ⟨[], [], rfl, rfl, rfl⟩
    | false =>
      rw [hb] at h
      rcases h with h | h | h
      · simp at h
      · have hr := exps_range l _ _ h
        obtain ⟨x, y, e1, e2, e3⟩ := ihl n h
        refine ⟨40 :: x, y ++ (r.text ++ [41]), ?_, ?_, ?_⟩
        · simp [Tr.text, e1]
        · simp [e2]
        · rw [Tr.dropAt, hb, if_neg (by decide), if_pos (by omega)]
          simp [Tr.text, e3]
      · have hr := exps_range r _ _ h
        rw [Int.zero_add] at h hr
        obtain ⟨x, y, e1, e2, e3⟩ := ihr (n - l.leaves) ((exps_shift_mem r _ _).1 h)
        refine ⟨40 :: (l.text ++ x), y ++ [41], ?_, ?_, ?_⟩
        · simp [Tr.text, e1]
        · have := text_dots l
          simp only [List.count_cons, List.count_append]
          simp [Tr.leaves] at *
          omega
        · rw [Tr.dropAt, hb, if_neg (by decide), if_neg (by omega)]
          simp [Tr.text, e3]

/-- A leaf in a text. -/
theorem leaf_split (t : Tr) : ∀ n : Int, 0 ≤ n → n < t.leaves → ∃ x y : List UInt8, t.text = x ++ (46 :: y) ∧ ((x.count 46 : Nat) : Int) = n ∧ ∀ u : Tr, (t.graft n u).text = x ++ (u.text ++ y) := by
  induction t with
  | lf =>
    intro n h k
    simp [Tr.leaves, Tr.carets] at k
    obtain rfl : n = 0 := by omega
    exact ⟨[], [], rfl, rfl, fun u => by simp [Tr.graft]⟩
  | nd l r ihl ihr =>
    intro n h k
    rw [leaves_nd] at k
    by_cases hl : n < l.leaves
    · obtain ⟨x, y, e1, e2, e3⟩ := ihl n h hl
      refine ⟨40 :: x, y ++ (r.text ++ [41]), ?_, ?_, fun u => ?_⟩
      · simp [Tr.text, e1]
      · simp [e2]
      · rw [Tr.graft, if_pos hl]; simp [Tr.text, e3]
    · obtain ⟨x, y, e1, e2, e3⟩ := ihr (n - l.leaves) (by omega) (by omega)
      refine ⟨40 :: (l.text ++ x), y ++ [41], ?_, ?_, fun u => ?_⟩
      · simp [Tr.text, e1]
      · have := text_dots l
        simp only [List.count_cons, List.count_append]
        simp [Tr.leaves] at *
        omega
      · rw [Tr.graft, if_neg hl]; simp [Tr.text, e3]

theorem posFrom_count : ∀ (x y : List UInt8) (off : Nat), posFrom (x ++ 46 :: y) off (x.count 46 : Nat) = ((off + x.length : Nat) : Int) := by
  intro x
  induction x with
  | nil => intro y off; simp [posFrom]
  | cons c r ih =>
    intro y off
    rw [List.cons_append, posFrom]
    by_cases hc : c = 46
    · subst hc
      have hcount : ((List.count 46 (46 :: r) : Nat) : Int) = (r.count 46 : Nat) + 1 := by simp
      rw [if_pos rfl, hcount, if_neg (by omega), Int.add_sub_cancel, ih]
      simp; omega
    · have hcount : List.count 46 (c :: r) = r.count 46 := by rw [List.count_cons]; simp [hc]
      rw [if_neg hc, hcount, ih]
      simp; omega

theorem dropS_list (s : ByteArray) (q : Nat) : (dropS s q).data.toList = s.data.toList.take q ++ (46 :: s.data.toList.drop (q + 4)) := by
  unfold dropS
  simp only [ByteArray.data_append, Array.toList_append]
  rw [ext_end, Lib.extract_data]
  simp

theorem drop_str (t : Tr) (n : Int) (h : n ∈ t.exps 0) : 1 ≤ posFrom t.str.data.toList 0 n ∧ dropS t.str ((posFrom t.str.data.toList 0 n).toNat - 1) = (t.dropAt n).str := by
  obtain ⟨x, y, e1, e2, e3⟩ := exps_split t n h
  have e1' : t.text = (x ++ [40]) ++ 46 :: (46 :: 41 :: y) := by simp [e1]
  have hp : posFrom t.str.data.toList 0 n = ((x.length + 1 : Nat) : Int) := by
    have := posFrom_count (x ++ [40]) (46 :: 41 :: y) 0
    rw [← e1'] at this
    rw [Tr.str_list, ← e2]
    simpa using this
  rw [hp]
  refine ⟨by omega, ba_ext ?_⟩
  rw [dropS_list, Tr.str_list, Tr.str_list, e3, e1]
  have : ((x.length + 1 : Nat) : Int).toNat - 1 = x.length := by omega
  rw [this]
  have e4 : x ++ 40 :: 46 :: 46 :: 41 :: y = (x ++ [40, 46, 46, 41]) ++ y := by simp
  rw [List.take_left, e4, List.drop_left' (by simp)]

theorem dropB_str (t : Tr) (n : Int) : dropB t.str.data.toList n = true ↔ n ∈ t.exps 0 := by
  rw [← exps_text, mem_exL, Tr.str_list]; simp

theorem graft_str (t u : Tr) (n : Int) (h : 0 ≤ n) (k : n < t.leaves) : graftS t.str n u.str = (t.graft n u).str := by
  obtain ⟨x, y, e1, e2, e3⟩ := leaf_split t n h k
  have hp : posFrom t.str.data.toList 0 n = ((x.length : Nat) : Int) := by
    have := posFrom_count x y 0
    rw [← e1] at this
    rw [Tr.str_list, ← e2]
    simpa using this
  refine ba_ext ?_
  unfold graftS
  rw [hp]
  simp only [ByteArray.data_append, Array.toList_append]
  rw [ext_end, Lib.extract_data]
  simp only [Tr.str_list, e3, e1]
  have e4 : x ++ 46 :: y = (x ++ [46]) ++ y := by simp
  simp only [Int.toNat_natCast, Nat.sub_zero, List.drop_zero, List.take_left]
  rw [e4, List.drop_left' (by simp)]
  simp

theorem dropAt_carets (t : Tr) : ∀ n : Int, n ∈ t.exps 0 → (t.dropAt n).carets + 1 = t.carets := by
  intro n h
  obtain ⟨x, y, e1, e2, e3⟩ := exps_split t n h
  have h1 := t.text_len
  have h2 := (t.dropAt n).text_len
  have := congrArg List.length e1
  have := congrArg List.length e3
  simp at *
  omega

theorem graft_carets (t u : Tr) (n : Int) (h : 0 ≤ n) (k : n < t.leaves) : (t.graft n u).carets = t.carets + u.carets := by
  obtain ⟨x, y, e1, e2, e3⟩ := leaf_split t n h k
  have e3 := e3 u
  have h1 := t.text_len
  have h2 := (t.graft n u).text_len
  have h3 := u.text_len
  have := congrArg List.length e1
  have := congrArg List.length e3
  simp at *
  omega
end Go.Proofs.YtkpganpojdboeabDoor

/-! WayQ -/
namespace Go.Proofs.YtkpganpojdboeabDoor

/-- A left comb. -/
def lcT : Nat → Tr
  | 0 => .lf
  | n + 1 => .nd (lcT n) .lf
theorem lcT_carets (n : Nat) : (lcT n).carets = n := by induction n with | zero => rfl | succ n ih => simp [lcT, Tr.carets, ih]
theorem lcT_exps (e : Nat) : ∀ x, (lcT e).expN x = (x + e) :: List.replicate e 0 := by
  induction e with
  | zero => intro x; rfl
  | succ e ih => intro x; rw [lcT, Tr.expN, ih, Tr.expN, List.replicate_succ']; simp; omega

theorem expN_graft (u c : Tr) : ∀ (w : Nat) (X Y : List Nat) (x : Nat), u.expN w = X ++ x :: Y → (u.graft (X.length : Int) c).expN w = X ++ (c.expN x ++ Y) := by
  induction u with
  | lf =>
    intro w X Y x h
    rw [Tr.expN] at h
    cases X with
    | nil => simp at h; obtain ⟨rfl, rfl⟩ := h; simp [Tr.graft]
    | cons a X => simp at h
  | nd l r ihl ihr =>
    intro w X Y x h
    have hl := expN_length l (w + 1)
    rw [Tr.expN] at h
    rw [Tr.graft]
    by_cases hc : (X.length : Int) < l.leaves
    · rw [if_pos hc]
      simp only [Tr.leaves] at hc
      have h1 : l.expN (w + 1) = X ++ x :: Y.take (l.carets - X.length) := by
        have h2 := congrArg (List.take (l.carets + 1)) h
        rw [List.take_append_of_le_length (by omega), ← hl, List.take_length, List.take_append, List.take_of_length_le (by omega)] at h2
        rw [h2]
        have : (l.expN (w + 1)).length - X.length = (l.carets - X.length) + 1 := by omega
        rw [this, List.take_succ_cons]
      have h3 : Y = Y.take (l.carets - X.length) ++ r.expN 0 := by
        rw [h1] at h
        simp only [List.append_assoc, List.cons_append] at h
        have h4 := List.append_cancel_left h
        injection h4 with _ h4
        exact h4.symm
      rw [Tr.expN, ihl _ _ _ _ h1]
      rw [List.append_assoc, List.append_assoc, ← h3]
    · rw [if_neg hc]
      simp only [Tr.leaves] at hc
      have h1 : X = l.expN (w + 1) ++ X.drop (l.carets + 1) := by
        have h2 := congrArg (List.take (l.carets + 1)) h
        rw [List.take_append_of_le_length (by omega), ← hl, List.take_length, List.take_append_of_le_length (by omega)] at h2
        rw [h2, hl, List.take_append_drop]
      have h3 : r.expN 0 = X.drop (l.carets + 1) ++ x :: Y := by
        rw [h1] at h
        rw [List.append_assoc] at h
        exact List.append_cancel_left h
      have h4 := ihr _ _ _ _ h3
      have h5 : ((X.drop (l.carets + 1)).length : Int) = (X.length : Int) - l.leaves := by
        rw [List.length_drop]; simp only [Tr.leaves]; omega
      rw [h5] at h4
      rw [Tr.expN, h4]
      rw [← List.append_assoc, ← h1]

/-- The exponents of a list of trees. -/
def expF (s : List Tr) : List Nat := s.flatMap fun t => t.expN 0
theorem expR_sides (t : Tr) : t.expR = expF (sidesT t) ++ [0] := by
  induction t with
  | lf => rfl
  | nd l r _ ihr => rw [Tr.expR, ihr, sidesT]; simp [expF]
def combS (s : List Tr) : Tr := combT s
theorem sides_comb (s : List Tr) : sidesT (combT s) = s := by
  induction s with
  | nil => rfl
  | cons t s ih => rw [combT, sidesT, ih]
theorem expF_app (s u : List Tr) : expF (s ++ u) = expF s ++ expF u := by simp [expF]
theorem expF_one (u : Tr) : expF [u] = u.expN 0 := by simp [expF]

/-- A graft behind the first sides. -/
theorem graft_comb (c : Tr) : ∀ (s : List Tr) (u : Tr) (i : Nat), (combT (s ++ [u])).graft (((expF s).length + i : Nat) : Int) c = if i ≤ u.carets then combT (s ++ [u.graft i c]) else combT (s ++ [u]) |>.graft (((expF s).length + i : Nat) : Int) c := by
  intro s
  induction s with
  | nil =>
    intro u i
    split
    · next h =>
      show (Tr.nd u .lf).graft _ c = Tr.nd (u.graft i c) .lf
      rw [Tr.graft, if_pos (by simp [expF, Tr.leaves]; omega)]
      simp [expF]
    · rfl
  | cons t s ih =>
    intro u i
    split
    · next h =>
      have h1 := ih u i
      rw [if_pos h] at h1
      have h2 : (expF (t :: s)).length = t.carets + 1 + (expF s).length := by
        show (expF ([t] ++ s)).length = _
        rw [expF_app, List.length_append, expF_one, expN_length]
      show (Tr.nd t (combT (s ++ [u]))).graft _ c = Tr.nd t (combT (s ++ [u.graft i c]))
      rw [Tr.graft, if_neg (by rw [h2]; simp only [Tr.leaves]; omega), ← h1]
      congr 2
      rw [h2]; simp only [Tr.leaves]; omega
    · rfl
theorem graft_last (c : Tr) : ∀ s : List Tr, (combT s).graft ((expF s).length : Int) (.nd c .lf) = combT (s ++ [c]) := by
  intro s
  induction s with
  | nil => rfl
  | cons t s ih =>
    have h2 : (expF (t :: s)).length = t.carets + 1 + (expF s).length := by
      show (expF ([t] ++ s)).length = _
      rw [expF_app, List.length_append, expF_one, expN_length]
    show (Tr.nd t (combT s)).graft _ _ = Tr.nd t (combT (s ++ [c]))
    rw [Tr.graft, if_neg (by rw [h2]; simp only [Tr.leaves]; omega), ← ih]
    congr 2
    rw [h2]; simp only [Tr.leaves]; omega

/-- One exponent more. -/
def stepE (t : Tr) (k e : Nat) : Tr := if k = t.carets then t.graft k (.nd (lcT e) .lf) else t.graft k (lcT e)
def foldE : Tr → Nat → List Nat → Tr
  | t, _, [] => t
  | t, k, e :: L => foldE (stepE t k e) (k + 1) L

theorem comb_carets (s : List Tr) : (combT s).carets = (expF s).length := by
  induction s with
  | nil => rfl
  | cons t s ih =>
    show t.carets + (combT s).carets + 1 = (expF ([t] ++ s)).length
    rw [expF_app, List.length_append, expF_one, expN_length, ih]; omega

theorem stepE_carets (t : Tr) (k e : Nat) (h : k ≤ t.carets) : t.carets + e ≤ (stepE t k e).carets ∧ (k = t.carets → (stepE t k e).carets = t.carets + e + 1) ∧ k + 1 ≤ (stepE t k e).carets := by
  unfold stepE
  split
  · next hk =>
    rw [graft_carets t _ k (by omega) (by simp [Tr.leaves]; omega)]
    simp [Tr.carets, lcT_carets]; omega
  · next hk =>
    rw [graft_carets t _ k (by omega) (by simp [Tr.leaves]; omega)]
    simp [lcT_carets]; omega

/-- What holds of the tree made of the exponents A. -/
def InvE (A : List Nat) (t : Tr) : Prop :=
  (A = [] ∧ t = .lf) ∨ ∃ s u j, t = combT (s ++ [u]) ∧ (expF s).length < A.length ∧ expF (s ++ [u]) = A ++ List.replicate j 0

theorem invE_carets {A : List Nat} {t : Tr} (h : InvE A t) : A.length ≤ t.carets := by
  rcases h with ⟨rfl, rfl⟩ | ⟨s, u, j, rfl, _, h2⟩
  · exact Nat.le_refl _
  · rw [comb_carets, h2]; simp

theorem invE_step {A : List Nat} {t : Tr} (h : InvE A t) (e : Nat) : InvE (A ++ [e]) (stepE t A.length e) := by
  rcases h with ⟨rfl, rfl⟩ | ⟨s, u, j, rfl, h1, h2⟩
  · refine .inr ⟨[], lcT e, e, rfl, by simp [expF], ?_⟩
    rw [List.nil_append, expF_one, lcT_exps]; simp
  · have hc : (combT (s ++ [u])).carets = A.length + j := by rw [comb_carets, h2]; simp
    unfold stepE
    by_cases hj : j = 0
    · subst hj
      rw [if_pos (by omega)]
      have hl : (expF (s ++ [u])).length = A.length := by rw [h2]; simp
      have := graft_last (lcT e) (s ++ [u])
      rw [hl] at this
      rw [this]
      refine .inr ⟨s ++ [u], lcT e, e, rfl, by rw [hl]; simp, ?_⟩
      rw [expF_app, h2, expF_one, lcT_exps]; simp
    · rw [if_neg (by omega)]
      obtain ⟨i, hi⟩ : ∃ i, A.length = (expF s).length + i := ⟨A.length - (expF s).length, by omega⟩
      have hu : u.carets + 1 + (expF s).length = A.length + j := by
        have := congrArg List.length h2
        rw [expF_app, expF_one] at this
        simp [expN_length] at this; omega
      have hg := graft_comb (lcT e) s u i
      rw [if_pos (by omega), ← hi] at hg
      rw [hg]
      have hx : u.expN 0 = A.drop (expF s).length ++ 0 :: List.replicate (j - 1) 0 := by
        have h3 := congrArg (List.drop (expF s).length) h2
        rw [expF_app, expF_one, List.drop_left, List.drop_append_of_le_length (by omega)] at h3
        rw [h3, ← List.replicate_succ]
        congr 2; omega
      have hs : expF s = A.take (expF s).length := by
        have h3 := congrArg (List.take (expF s).length) h2
        rw [expF_app, List.take_left, List.take_append_of_le_length (by omega)] at h3
        exact h3
      have hgr := expN_graft u (lcT e) 0 _ _ _ hx
      have hlen : ((A.drop (expF s).length).length : Int) = (i : Int) := by rw [List.length_drop]; omega
      rw [hlen, lcT_exps] at hgr
      refine .inr ⟨s, u.graft i (lcT e), e + (j - 1), rfl, by simp; omega, ?_⟩
      rw [expF_app, expF_one, hgr, hs]
      simp only [List.length_take]
      rw [Nat.min_eq_left (by omega), ← List.append_assoc, List.take_append_drop]
      simp [List.replicate_append_replicate]

theorem invE_all : ∀ (L A : List Nat) (t : Tr), InvE A t → InvE (A ++ L) (foldE t A.length L) := by
  intro L
  induction L with
  | nil => intro A t h; simpa [foldE] using h
  | cons e L ih =>
    intro A t h
    have h1 := ih (A ++ [e]) _ (invE_step h e)
    rw [List.length_append, List.append_assoc] at h1
    exact h1

theorem invE_end {A : List Nat} {t : Tr} (h : InvE A t) (ha : ∀ B, A ≠ B ++ [0]) : treeE A = t := by
  rcases h with ⟨rfl, rfl⟩ | ⟨s, u, j, rfl, h1, h2⟩
  · exact treeE_of [] .lf 1 rfl (.inl rfl)
  · refine treeE_of A _ (j + 1) ?_ (.inr ⟨s, u, sides_comb _, ?_⟩)
    · rw [expR_sides, sides_comb, h2, List.replicate_succ']; simp
    · cases u with
      | nd l r => rfl
      | lf =>
        exfalso
        rw [expF_app] at h2
        have hl := congrArg List.length h2
        simp [expF_one, Tr.expN] at hl
        have hj : j = 0 := by omega
        subst hj
        exact ha (expF s) (by rw [expF_one, Tr.expN] at h2; simpa using h2.symm)
theorem foldE_tree (L : List Nat) (ha : ∀ B, L ≠ B ++ [0]) : foldE .lf 0 L = treeE L := by
  have h := invE_all L [] .lf (.inl ⟨rfl, rfl⟩)
  exact (invE_end h ha).symm

end Go.Proofs.YtkpganpojdboeabDoor
