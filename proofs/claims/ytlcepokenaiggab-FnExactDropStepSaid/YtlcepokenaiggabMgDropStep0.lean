/- Texts that the claim needs, part 1. -/
import Derived.WalkKit
import Derived.Test.YtlcepokenaiggabRows
import Derived.WalkSpells
import Derived.Lib.Strings
import Derived.Lib.Hide
import Derived.Deep.Light
import Derived.Deep.Draws
import Derived.Deep.QuietTactic
import Derived.BigQuiet
import Derived.IntWalk
import Derived.Laws.OwnMore
import Derived.Maps.AppendAt
import Derived.Laws.AppendOwnNone
import Derived.Deep.RegionHeld3
import Derived.Deep.RegionWith
/-! WdP -/
namespace Go.Proofs.Ytlcepokenaiggab

/-- A letter with a number less than m. -/
def okL (m : Int) (x : Int) : Bool := !(x == 0) && (decide (-m ≤ x) && decide (x ≤ m))
theorem okL_iff {m x : Int} : okL m x = true ↔ x ≠ 0 ∧ -m ≤ x ∧ x ≤ m := by simp [okL]
theorem okL_false {m x : Int} : okL m x = false ↔ x = 0 ∨ x < -m ∨ m < x := by
  rw [Bool.eq_false_iff, Ne, okL_iff]; omega
def isW (m : Int) (w : List Int) : Bool := w.all (okL m)
/-- Is it a word? -/
def goodW (w : List Int) : Bool := decide (w.length ≤ 20) && isW 21 w
theorem goodW_iff {w : List Int} : goodW w = true ↔ w.length ≤ 20 ∧ ∀ x ∈ w, x ≠ 0 ∧ -21 ≤ x ∧ x ≤ 21 := by
  simp only [goodW, isW, Bool.and_eq_true, decide_eq_true_eq, List.all_eq_true, okL_iff]
theorem isW_drop {m : Int} {w : List Int} {k : Nat} (h : k < w.length) : isW m (w.drop k) = (okL m (w.getD k 0) && isW m (w.drop (k + 1))) := by
  unfold isW; rw [List.drop_eq_getElem_cons h, List.all_cons]; simp [h]
theorem isW_end (m : Int) (w : List Int) : isW m (w.drop w.length) = true := by simp [isW]

/-- The word of all inverses, backwards. -/
def invW (w : List Int) : List Int := (w.map fun x => -x).reverse
theorem invW_length (w : List Int) : (invW w).length = w.length := by simp [invW]

/-- One letter more behind a word without letters and inverses next to each other. -/
def free1 (out : List Int) (x : Int) : List Int := if out.getLast? = some (-x) then out.dropLast else out ++ [x]
def freeW (w : List Int) : List Int := w.foldl free1 []
theorem free1_length (out : List Int) (x : Int) : (free1 out x).length ≤ out.length + 1 := by
  unfold free1; split <;> simp; omega
theorem freeW_take {w : List Int} {k : Nat} (h : k < w.length) : freeW (w.take (k + 1)) = free1 (freeW (w.take k)) (w.getD k 0) := by
  unfold freeW
  rw [List.take_succ_eq_append_getElem h, List.foldl_append]
  simp [h]
theorem freeW_length (w : List Int) : (freeW w).length ≤ w.length := by
  have : ∀ (l a : List Int), (l.foldl free1 a).length ≤ a.length + l.length := by
    intro l
    induction l with
    | nil => intro a; simp
    | cons x l ih => intro a; have := ih (free1 a x); have := free1_length a x; simp only [List.foldl_cons, List.length_cons]; omega
  have := this w []
  simpa [freeW] using this
theorem free1_last {out : List Int} {x : Int} (h : 0 < out.length) : free1 out x = if out.getD (out.length - 1) 0 = -x then out.take (out.length - 1) else out ++ [x] := by
  unfold free1
  rw [List.getLast?_eq_getElem?, List.getElem?_eq_getElem (by omega)]
  have : out.getD (out.length - 1) 0 = out[out.length - 1]'(by omega) := by simp [List.getD_eq_getElem?_getD, List.getElem?_eq_getElem (show out.length - 1 < out.length by omega)]
  rw [this, List.dropLast_eq_take]
  simp

/-- What two letters next to each other become. -/
def ruleO (x y : Int) : Option (List Int) :=
  if x = -y then some []
  else if 0 < x ∧ 0 < y ∧ y < x then some [y, x + 1]
  else if x < 0 ∧ y < 0 ∧ -x < -y then some [y - 1, x]
  else if x < 0 ∧ 0 < y ∧ -x < y then some [y + 1, x]
  else if x < 0 ∧ 0 < y ∧ y < -x then some [y, x - 1]
  else none
/-- A word behind the first rule. -/
def stepO : List Int → Option (List Int)
  | x :: y :: r => match ruleO x y with
    | some b => some (b ++ r)
    | none => (stepO (y :: r)).map (x :: ·)
  | _ => none

/-- Letters with numbers that are greater by so much. -/
def up (k : Int) (x : Int) : Int := if x < 0 then x - k else x + k
def upW (k : Int) (w : List Int) : List Int := w.map (up k)

/-- A word, if it is one. -/
def ifW (w : List Int) : Option (List Int) := if goodW w = true then some w else none

/-- The sums of a word: of x(0), of all others. -/
def sgn (x : Int) : Int := if x < 0 then -1 else 1
def num (x : Int) : Int := (if x < 0 then -x else x) - 1
def sumZ (w : List Int) : Int := (w.map fun x => if num x = 0 then sgn x else 0).sum
def sumO (w : List Int) : Int := (w.map fun x => if num x = 0 then 0 else sgn x).sum

end Go.Proofs.Ytlcepokenaiggab

/-! WdQ -/
namespace Go.Proofs.Ytlcepokenaiggab

theorem ruleO_none {x y : Int} (hx : x < 0) (h : ruleO x y = none) (hy : y ≠ 0) : y < 0 := by
  unfold ruleO at h
  repeat (split at h; · simp at h)
  omega
theorem stepO_tail {x : Int} {w : List Int} (h : stepO (x :: w) = none) : stepO w = none := by
  cases w with
  | nil => rfl
  | cons y r =>
    rw [stepO] at h
    split at h
    · simp at h
    · simpa using h
theorem sorted_neg : ∀ (w : List Int) (x : Int), stepO (x :: w) = none → (∀ y ∈ w, y ≠ 0) → x < 0 → ∀ y ∈ w, y < 0 := by
  intro w
  induction w with
  | nil => intro x _ _ _ y hy; simp at hy
  | cons z r ih =>
    intro x h hnz hx y hy
    have hz : z < 0 := by
      refine ruleO_none hx ?_ (hnz z (by simp))
      rw [stepO] at h
      split at h
      · simp at h
      · next hh => exact hh
    rcases List.mem_cons.1 hy with rfl | hy
    · exact hz
    · exact ih z (stepO_tail h) (fun y hy => hnz y (by simp [hy])) hz y hy
/-- A word that no rule changes: behind an inverse there are inverses alone. -/
theorem sorted_split : ∀ (A : List Int) (x : Int) (C : List Int), stepO (A ++ x :: C) = none → (∀ y ∈ A ++ x :: C, y ≠ 0) → x < 0 → ∀ y ∈ C, y < 0 := by
  intro A
  induction A with
  | nil => intro x C h hnz hx; exact sorted_neg C x h (fun y hy => hnz y (by simp [hy])) hx
  | cons a A ih => intro x C h hnz hx; exact ih x C (stepO_tail h) (fun y hy => hnz y (List.mem_cons_of_mem _ hy)) hx

/-- A drop is made at i: between the last i and its first inverse. -/
def CutW (w : List Int) (i : Int) (A B C : List Int) : Prop := w = A ++ i :: (B ++ -i :: C) ∧ i ∉ B ∧ i ∉ C ∧ -i ∉ A ∧ -i ∉ B

theorem first_split {w : List Int} {x : Int} (h : x ∈ w) : ∃ A C, w = A ++ x :: C ∧ x ∉ A := by
  induction w with
  | nil => simp at h
  | cons y r ih =>
    by_cases hy : x = y
    · subst hy; exact ⟨[], r, rfl, by simp⟩
    · have hr : x ∈ r := by rcases List.mem_cons.1 h with e | h; exact absurd e hy; exact h
      obtain ⟨A, C, rfl, hA⟩ := ih hr
      exact ⟨y :: A, C, rfl, by simp [hy, hA]⟩
theorem last_split {w : List Int} {x : Int} (h : x ∈ w) : ∃ A C, w = A ++ x :: C ∧ x ∉ C := by
  obtain ⟨A, C, h1, h2⟩ := first_split (w := w.reverse) (x := x) (by simpa using h)
  refine ⟨C.reverse, A.reverse, ?_, by simpa using h2⟩
  have := congrArg List.reverse h1
  simpa using this

theorem cut_of {w : List Int} {i : Int} (h : stepO w = none) (hnz : ∀ y ∈ w, y ≠ 0) (hi : 0 < i) (h1 : i ∈ w) (h2 : -i ∈ w) : ∃ A B C, CutW w i A B C := by
  obtain ⟨U, C, rfl, hU⟩ := first_split h2
  have hC := sorted_split U (-i) C h hnz (by omega)
  have hiC : i ∉ C := fun k => by have := hC i k; omega
  have hiU : i ∈ U := by
    rcases List.mem_append.1 h1 with k | k
    · exact k
    · rcases List.mem_cons.1 k with k | k
      · omega
      · exact absurd k hiC
  obtain ⟨A, B, rfl, hB⟩ := last_split hiU
  refine ⟨A, B, C, by simp, hB, hiC, fun k => hU (by simp [k]), fun k => hU (by simp [k])⟩

/-- Letters with a number that is one less. -/
def low (x : Int) : Int := if x < 0 then x + 1 else x - 1
theorem cut_unique {w : List Int} {i : Int} {A B C A' B' C' : List Int} (hi : 0 < i) (h : CutW w i A B C) (k : CutW w i A' B' C') : A = A' ∧ B = B' ∧ C = C' := by
  obtain ⟨e, a1, a2, a3, a4⟩ := h
  obtain ⟨e', b1, b2, b3, b4⟩ := k
  have key : ∀ (X X' Y Y' : List Int) (x : Int), x ∉ X → x ∉ X' → X ++ x :: Y = X' ++ x :: Y' → X = X' ∧ Y = Y' := by
    intro X
    induction X with
    | nil =>
      intro X' Y Y' x _ h2 he
      cases X' with
      | nil => simp at he; exact ⟨rfl, he⟩
      | cons a X' => simp at he; exact absurd (by simp [he.1]) h2
    | cons a X ih =>
      intro X' Y Y' x h1 h2 he
      cases X' with
      | nil => simp at he; exact absurd (by simp [he.1]) h1
      | cons b X' =>
        simp at he
        obtain ⟨rfl, he⟩ := he
        obtain ⟨rfl, rfl⟩ := ih X' Y Y' x (fun k => h1 (by simp [k])) (fun k => h2 (by simp [k])) he
        exact ⟨rfl, rfl⟩
  have e2 : (A ++ i :: B) ++ -i :: C = (A' ++ i :: B') ++ -i :: C' := by
    rw [e] at e'; simpa using e'
  have hne : ¬ (-i = i) := by omega
  obtain ⟨h1, h2⟩ := key _ _ _ _ _ (by simp [a3, a4, hne]) (by simp [b3, b4, hne]) e2
  have h3 := congrArg List.reverse h1
  simp only [List.reverse_append, List.reverse_cons, List.append_assoc, List.singleton_append] at h3
  obtain ⟨h4, h5⟩ := key _ _ _ _ _ (by simpa using a1) (by simpa using b1) h3
  exact ⟨by simpa using congrArg List.reverse h5, by simpa using congrArg List.reverse h4, h2⟩

def candB (w : List Int) (i : Int) : Bool := w.contains i && w.contains (-i) && (!w.contains (i + 1) && !w.contains (-i - 1))
/-- The greatest number at most n at which is dropped, or 0. -/
def topC (w : List Int) : Nat → Nat
  | 0 => 0
  | n + 1 => if candB w ((n : Int) + 1) = true then n + 1 else topC w n
theorem topC_le (w : List Int) (n : Nat) : topC w n ≤ n := by
  induction n with
  | zero => exact Nat.le_refl _
  | succ n ih => rw [topC]; split <;> omega
theorem topC_cand {w : List Int} {n i : Nat} (h : topC w n = i) (hi : i ≠ 0) : candB w (i : Int) = true := by
  induction n with
  | zero => rw [topC] at h; omega
  | succ n ih =>
    rw [topC] at h
    split at h
    · next hc => subst h; simpa using hc
    · exact ih h
theorem topC_big {w : List Int} (h : ∀ x ∈ w, x ≤ 21) (n : Nat) : topC w (21 + n) = topC w 21 := by
  induction n with
  | zero => rfl
  | succ n ih =>
    show topC w (21 + n + 1) = _
    rw [topC, if_neg, ih]
    intro hc
    simp only [candB, Bool.and_eq_true, List.contains_iff_mem] at hc
    have := h _ hc.1.1
    omega
open Classical in
/-- A sorted word behind one drop. -/
noncomputable def dropW (w : List Int) : Option (List Int) :=
  if topC w 21 = 0 then none
  else if h : ∃ p : List Int × List Int × List Int, CutW w (topC w 21) p.1 p.2.1 p.2.2 then some (h.choose.1 ++ (h.choose.2.1.map low ++ h.choose.2.2)) else none
theorem dropW_none {w : List Int} (h : topC w 21 = 0) : dropW w = none := by unfold dropW; rw [if_pos h]
theorem dropW_some {w : List Int} {i : Nat} {A B C : List Int} (h : topC w 21 = i) (hi : i ≠ 0) (hc : CutW w i A B C) : dropW w = some (A ++ (B.map low ++ C)) := by
  unfold dropW
  have hex : ∃ p : List Int × List Int × List Int, CutW w (topC w 21) p.1 p.2.1 p.2.2 := ⟨(A, B, C), by rw [h]; exact hc⟩
  rw [if_neg (by omega), dif_pos hex]
  have hs := hex.choose_spec
  generalize hex.choose = q at hs
  rw [h] at hs
  obtain ⟨h1, h2, h3⟩ := cut_unique (by omega) hs hc
  rw [h1, h2, h3]

/-- The first place at which a rule changes a word. -/
theorem stepO_at : ∀ (A : List Int) (x y : Int) (r b : List Int), stepO (A ++ [x]) = none → ruleO x y = some b → stepO (A ++ x :: y :: r) = some (A ++ (b ++ r)) := by
  intro A
  induction A with
  | nil => intro x y r b _ h; rw [List.nil_append, stepO, h]; rfl
  | cons a A ih =>
    intro x y r b h hr
    have h2 := ih x y r b (stepO_tail h) hr
    cases A with
    | nil =>
      have : ruleO a x = none := by
        rw [List.cons_append, List.nil_append, stepO] at h
        split at h
        · simp at h
        · next hh => exact hh
      rw [List.cons_append, List.nil_append, stepO, this]
      simp only [List.nil_append] at h2
      rw [h2]; rfl
    | cons c A =>
      have : ruleO a c = none := by
        rw [List.cons_append, List.cons_append, stepO] at h
        split at h
        · simp at h
        · next hh => exact hh
      rw [List.cons_append, List.cons_append, stepO, this]
      rw [List.cons_append] at h2
      rw [h2]; rfl
theorem stepO_snoc : ∀ (A : List Int) (x y : Int), stepO (A ++ [x]) = none → ruleO x y = none → stepO (A ++ [x, y]) = none := by
  intro A
  induction A with
  | nil => intro x y _ h; simp [stepO, h]
  | cons a A ih =>
    intro x y h hr
    have h2 := ih x y (stepO_tail h) hr
    cases A with
    | nil =>
      rw [List.cons_append, List.nil_append, stepO] at h ⊢
      split at h
      · simp at h
      · next hh => simp only [List.nil_append] at h2; simp only [h2, Option.map_none]
    | cons c A =>
      rw [List.cons_append, List.cons_append, stepO] at h ⊢
      split at h
      · simp at h
      · next hh => rw [List.cons_append] at h2; simp only [h2, Option.map_none]
theorem stepO_take {w : List Int} {k : Nat} (h : k + 1 < w.length) (h0 : stepO (w.take (k + 1)) = none) :
    (∀ b, ruleO (w.getD k 0) (w.getD (k + 1) 0) = some b → stepO w = some (w.take k ++ (b ++ w.drop (k + 2)))) ∧ (ruleO (w.getD k 0) (w.getD (k + 1) 0) = none → stepO (w.take (k + 1 + 1)) = none) := by
  have e1 : w.take (k + 1) = w.take k ++ [w.getD k 0] := by rw [List.take_succ_eq_append_getElem (by omega)]; simp [show k < w.length by omega]
  have e2 : w.take (k + 1 + 1) = w.take k ++ [w.getD k 0, w.getD (k + 1) 0] := by
    rw [List.take_succ_eq_append_getElem (by omega), e1]; simp [h]
  have e3 : w = w.take k ++ w.getD k 0 :: w.getD (k + 1) 0 :: w.drop (k + 2) := by
    have h1 := (List.take_append_drop (k + 2) w).symm
    rw [show k + 2 = k + 1 + 1 from rfl, e2] at h1
    simpa using h1
  rw [e1] at h0
  refine ⟨fun b hb => ?_, fun hn => ?_⟩
  · have := stepO_at (w.take k) _ _ (w.drop (k + 2)) b h0 hb
    rwa [← e3] at this
  · rw [e2]; exact stepO_snoc _ _ _ h0 hn
theorem stepO_small {w : List Int} (h : w.length ≤ 1) : stepO w = none := by
  match w, h with
  | [], _ => rfl
  | [_], _ => rfl

end Go.Proofs.Ytlcepokenaiggab

/-! Base -/
namespace Go.Proofs.Ytlcepokenaiggab
open Go.RowKit

theorem ret_int {k : IntKind} {a b : Int} (h : a = b) : Ending.returned (.int k a) = .returned (.int k b) := by rw [h]
theorem ret_bool {a b : Bool} (h : a = b) : Ending.returned (.bool a) = .returned (.bool b) := by rw [h]
theorem ret_str {a b : ByteArray} (h : a = b) : Ending.returned (.string a) = .returned (.string b) := by rw [h]

theorem i64_bounds {n : Int} (h : (Lit.int .i64 n).wf = true) : -9223372036854775808 ≤ n ∧ n ≤ 9223372036854775807 := by
  simpa [Lit.wf, IntKind.min, IntKind.max, IntKind.signed, IntKind.bits] using h

theorem nx {w w1 w2 : World} (h : Below w.heap.size w w1) (k : Below w1.heap.size w1 w2) : Below w.heap.size w w2 := h.trans (k.mono h.size)
theorem nxAlloc {w w1 : World} (h : Below w.heap.size w w1) (o : Obj) : Below w.heap.size w (w1.alloc o) := nx h ((Below.refl _ _).alloc (Nat.le_refl _) o)

theorem drewB {w w1 : World} (h : Below w.heap.size w w1) (n : Nat) : Below w.heap.size w (w1.drewN n) := ⟨h.os, h.tape, h.output, h.size, h.block⟩

/-- Calls that hand back a value and leave what was there. -/
def Gives (v : Value) (w : World) (e : Ending) (w' : World) : Prop := e = .returned v ∧ Below w.heap.size w w'

end Go.Proofs.Ytlcepokenaiggab

/-! Row -/
namespace Go.Proofs.Ytlcepokenaiggab
open Go.RowKit

theorem info_int : (Try.prog.info? 3).map (fun i => (i.zero, i.size, i.bytes)) = some (some (.int .i64 0), 1, 8) := by kernel_rfl

/-- v is a slice of the integers xs, in a block from base on that the call has made. -/
def OwnI (base : Nat) (w : World) (v : Value) (xs : List Int) : Prop := w.ownsRow base 3 1 v xs.length (xs.map (Value.int .i64))

theorem ownsRow_keep {w w' : World} {base : Nat} {e : TypeId} {size : Nat} {v : Value} {n : Nat} {xs : List Value} (h : w.ownsRow base e size v n xs) (hb : Below w.heap.size w w') : w'.ownsRow base e size v n xs := by
  obtain ⟨h1, h2⟩ := h
  refine ⟨h1, ?_⟩
  rcases h2 with h2 | ⟨g, cap, cur, hv, hg, hh, r⟩
  · exact .inl h2
  · exact .inr ⟨g, cap, cur, hv, hg, (hb.block g (lt_of_block hh)).trans hh, r⟩

theorem OwnI.keep {base : Nat} {w w' : World} {v : Value} {xs : List Int} (h : OwnI base w v xs) (hb : Below w.heap.size w w') : OwnI base w' v xs := ownsRow_keep h hb

theorem OwnI.nil (base : Nat) (w : World) : OwnI base w (.slice none 0 0) [] := World.ownsRow_nil _ _ _ _

/-- What can be read of such a slice. -/
def CellsI (base : Nat) (w : World) (v : Value) (xs : List Int) : Prop :=
  (v = .slice none 0 0 ∧ xs = []) ∨ ∃ g cap : Nat, v = .slice (some ⟨g, 0, none⟩) xs.length cap ∧ base ≤ g ∧ g < w.heap.size ∧ xs.length ≤ cap ∧ cap ≤ maxLen ∧
    (∀ i, i < xs.length → w.cell? ⟨g, i, none⟩ = some (.int .i64 (xs.getD i 0))) ∧ ∀ i, w.frozen? ⟨g, i, none⟩ = false

theorem OwnI.cells {base : Nat} {w : World} {v : Value} {xs : List Int} (h : OwnI base w v xs) : CellsI base w v xs := by
  have h0 := h
  obtain ⟨h1, h2⟩ := h
  rcases h2 with ⟨hv, hn⟩ | ⟨g, cap, cur, hv, hg, hh, r1, r2, r3⟩
  · exact .inl ⟨hv, List.length_eq_zero_iff.1 hn⟩
  · subst hv
    refine .inr ⟨g, cap, rfl, hg, lt_of_block hh, r1, r2, fun i hi => ?_, fun i => World.ownsRow.frozenAt h0 i⟩
    have := World.ownsRow.cellAt h0 i (by omega)
    rw [this]
    simp [List.getElem?_eq_getElem hi]

/-! What an append of one integer to such a slice asks and leaves. -/
theorem new1 (w : World) (v : Value) (e : TypeId) : ∀ (j : Nat) (u : Value), [v][j]? = some u → (w.alloc (.cells #[v] e)).cell? ((⟨w.heap.size, 0, none⟩ : Addr).add j) = some u := by
  intro j u hj
  match j, hj with
  | 0, hj => simp at hj; subst hj; simp [Addr.add]
  | j + 1, hj => simp at hj
theorem one1 (m : Int) : ∀ u ∈ [Value.int .i64 m], u.oneCell' = true := by intro u hu; simp at hu; subst hu; rfl
theorem size_al {w w1 : World} (h : Below w.heap.size w w1) (o : Obj) : w.heap.size ≤ (w1.alloc o).heap.size := by have := h.size; simp; omega

theorem ownsRow_ge {w : World} {base : Nat} {e : TypeId} {size : Nat} {v : Value} {n : Nat} {xs : List Value} (h : w.ownsRow base e size v n xs) : ∀ k, v.ownBlock = some k → base ≤ k := by
  intro k hk
  rcases h.2 with ⟨hv, _⟩ | ⟨g, cap, cur, hv, hg, _⟩
  · subst hv; simp [Value.ownBlock] at hk
  · subst hv; simp [Value.ownBlock] at hk; omega

theorem OwnI.snoc {base : Nat} {w : World} {v : Value} {xs : List Int} {m : Int} (h : w.ownsRow base 3 1 v (xs.length + 1) (xs.map (Value.int .i64) ++ [Value.int .i64 m])) : OwnI base w v (xs ++ [m]) := by
  unfold OwnI; rw [List.length_append, List.map_append]; exact h

theorem below_app {w wr w1 : World} {base : Nat} {e e2 : TypeId} {size : Nat} {v u : Value} {n : Nat} {xs : List Value} (h : Below w.heap.size w wr) (hown : wr.ownsRow base e size v n xs) (hbase : w.heap.size ≤ base)
    (hg : (wr.alloc (.cells #[u] e2)).grownBy w1 v.ownBlock) : Below w.heap.size w w1 :=
  (nxAlloc h (.cells #[u] e2)).grown hg (size_al h _) (fun k hk => Nat.le_trans hbase (ownsRow_ge hown k hk))

/-- A call that hands back a slice of integers of its own. -/
def GivesInts (xs : List Int) (w : World) (e : Ending) (w' : World) : Prop :=
  ∃ v, OwnI w.heap.size w' v xs ∧ Below w.heap.size w w' ∧ e = .returned v

/-- An answer of a slice of the call's own and a bool. -/
def AnsI2 (xs : List Int) (ok : Bool) (w : World) (e : Ending) (w' : World) : Prop :=
  ∃ v, OwnI w.heap.size w' v xs ∧ Below w.heap.size w w' ∧ e = .returned (.tuple #[v, .bool ok])
def AnsIs (o : Option (List Int)) (w : World) (e : Ending) (w' : World) : Prop := AnsI2 (o.getD []) o.isSome w e w'

end Go.Proofs.Ytlcepokenaiggab

/-! In0 -/
namespace Go.Proofs.Ytlcepokenaiggab
open Go.RowKit

theorem l1In_yes (n lo hi : Int) (w : World) (h1 : lo ≤ n) (h2 : n ≤ hi) :
    Calls Try.prog 37 #[.int .i64 n, .int .i64 lo, .int .i64 hi] w fun e w' => e = .returned (.bool true) ∧ w = w' := by
  go_enter Try.func37, Try.ntmps37
  go_wp2_with fail
  go_ret
  exact ⟨rfl, rfl⟩
theorem l1In_no (n lo hi : Int) (w : World) (h : n < lo ∨ hi < n) :
    Calls Try.prog 37 #[.int .i64 n, .int .i64 lo, .int .i64 hi] w fun e w' => e = .returned (.bool false) ∧ w = w' := by
  by_cases h1 : n < lo
  · clear h
    go_enter Try.func37, Try.ntmps37
    go_wp2_with fail
    go_ret
    exact ⟨rfl, rfl⟩
  · have h1' : lo ≤ n := by omega
    have h2 : hi < n := by omega
    clear h h1
    go_enter Try.func37, Try.ntmps37
    go_wp2_with fail
    go_ret
    exact ⟨ret_bool (by simp; omega), rfl⟩

end Go.Proofs.Ytlcepokenaiggab

/-! Quiet -/
namespace Go.Proofs.Ytlcepokenaiggab
open Go.RowKit

theorem quiet_eq {P : Program} {f : FuncId} {args : Array Value} {w : World} {n : Nat} {v : Value} (h : Calls P f args (w.drewN n) fun e w' => e = .returned v ∧ w.drewN n = w') :
    Calls P f args (w.drewN n) fun e w'' => e = .returned v ∧ ∃ m, w'' = w.drewN m :=
  h.mono fun _ _ ⟨he, hm⟩ => ⟨he, n, hm.symm⟩

def Quietly (v : Value) (w : World) (e : Ending) (w' : World) : Prop := e = .returned v ∧ ∃ n, w' = w.drewN n
end Go.Proofs.Ytlcepokenaiggab

/-! Tail -/
namespace Go.Proofs.Ytlcepokenaiggab
open Go.RowKit

theorem CellsI.len {base : Nat} {w : World} {v : Value} {xs : List Int} (h : CellsI base w v xs) : (xs.length : Int) ≤ 9223372036854775807 := by
  rcases h with ⟨_, rfl⟩ | ⟨g, cap, _, _, _, h1, h2, _⟩
  · simp
  · unfold maxLen at h2; omega

theorem CellsI.drewN {base : Nat} {w : World} {v : Value} {xs : List Int} (h : CellsI base w v xs) (n : Nat) : CellsI base (w.drewN n) v xs := h

set_option maxHeartbeats 1000000 in
theorem eqIntS_any (b1 b2 : Nat) (v1 v2 : Value) (xs : List Int) (w : World) (h1 : CellsI b1 w v1 xs) (h2 : CellsI b2 w v2 xs) :
    Calls Try.prog 9 #[v1, v2] w (Quietly (.bool true) w) := by
  have hl := h1.len
  rcases h1 with ⟨rfl, rfl⟩ | ⟨g, cap, rfl, hb1, hg1, hc1, hm1, hx1, _⟩
  · rcases h2 with ⟨rfl, _⟩ | ⟨g, cap, rfl, hb1, hg1, hc1, hm1, hx1, _⟩
    all_goals
      go_enter Try.func9, Try.ntmps9
      go_wp2_with fail
      go_loopw [5] (fun i wr => i = .int .i64 0 ∧ wr = w) (fun _ _ => 0)
      case atStart => exact ⟨rfl, rfl⟩
      case round =>
        obtain ⟨rfl, rfl⟩ := hrel
        go_wp2_with fail
        go_ret
        exact ⟨rfl, 0, rfl⟩
  · rcases h2 with ⟨rfl, rfl⟩ | ⟨g2, cap2, rfl, hb2, hg2, hc2, hm2, hx2, _⟩
    · go_enter Try.func9, Try.ntmps9
      go_wp2_with fail
      go_loopw [5] (fun i wr => i = .int .i64 0 ∧ wr = w) (fun _ _ => 0)
      case atStart => exact ⟨rfl, rfl⟩
      case round =>
        obtain ⟨rfl, rfl⟩ := hrel
        go_wp2_with fail
        go_ret
        exact ⟨rfl, 0, rfl⟩
    · have HX1 := Lib.hid hx1
      have HX2 := Lib.hid hx2
      clear hx1 hx2
      go_enter Try.func9, Try.ntmps9
      go_wp2_with fail
      go_loopw [5] (fun i wr => ∃ k d : Nat, k ≤ xs.length ∧ i = .int .i64 k ∧ wr = w.drewN d) (fun i _ => xs.length - (intOf i).toNat)
      case atStart => exact ⟨0, 0, Nat.zero_le _, rfl, rfl⟩
      case round =>
        obtain ⟨k, d, hk, rfl, rfl⟩ := hrel
        by_cases hlt : k < xs.length
        · have hlt' : (k : Int) < (xs.length : Int) := by omega
          have c1 := HX1.out k hlt
          have c2 := HX2.out k hlt
          obtain ⟨x, hx⟩ : ∃ x, x = xs.getD k 0 := ⟨_, rfl⟩
          rw [← hx] at c1 c2
          clear hx
          go_wp2_with fail
          go_quiet (fail)
          go_wp2_with fail
          go_roundw
          case rel => exact ⟨k + 1, _, by omega, by go_num, rfl⟩
          case measure => simp [intOf]; omega
        · obtain rfl : k = xs.length := by omega
          go_wp2_with fail
          go_ret
          exact ⟨rfl, _, rfl⟩

/-- k, k + 1, .. : n numbers. -/
def marks (k : Int) (n : Nat) : List Int := (List.range n).map fun (i : Nat) => k + (i : Int)
theorem marks_length (k : Int) (n : Nat) : (marks k n).length = n := by simp [marks]
theorem marks_getD (k : Int) {n i : Nat} (h : i < n) : (marks k n).getD i 0 = k + i := by simp [marks, h]

set_option maxHeartbeats 1000000 in
theorem heldIntS_any (b1 : Nat) (v1 : Value) (n : Nat) (k : Int) (w : World) (hk0 : 0 ≤ k) (hk1 : k ≤ 1000000000) (hn9 : n ≤ 1000000000) (h1 : CellsI b1 w v1 (marks k n)) :
    Calls Try.prog 13 #[v1, .int .i64 k] w (Quietly (.int .i64 (k + n)) w) := by
  have hl := h1.len
  rcases h1 with ⟨rfl, hn⟩ | ⟨g, cap, rfl, hb1, hg1, hc1, hm1, hx1, _⟩
  · have hn0 : n = 0 := by have := congrArg List.length hn; simpa [marks_length] using this
    subst hn0
    clear hn
    go_enter Try.func13, Try.ntmps13
    go_wp2_with fail
    go_loopw [1, 5] (fun v i wr => v = .int .i64 k ∧ i = .int .i64 0 ∧ wr = w) (fun _ _ _ => 0)
    case atStart => exact ⟨rfl, rfl, rfl⟩
    case round =>
      obtain ⟨rfl, rfl, rfl⟩ := hrel
      go_wp2_with fail
      go_ret
      exact ⟨ret_int (by simp), 0, rfl⟩
  · rw [marks_length] at hx1 hc1 hl ⊢
    have HX1 := Lib.hid hx1
    clear hx1
    go_enter Try.func13, Try.ntmps13
    go_wp2_with fail
    go_loopw [1, 5] (fun v i wr => ∃ j d : Nat, j ≤ n ∧ i = .int .i64 j ∧ v = .int .i64 (k + j) ∧ wr = w.drewN d) (fun _ i _ => n - (intOf i).toNat)
    case atStart => exact ⟨0, 0, Nat.zero_le _, rfl, by simp, rfl⟩
    case round =>
      obtain ⟨j, d, hj, rfl, rfl, rfl⟩ := hrel
      by_cases hlt : j < n
      · have hlt' : (j : Int) < (n : Int) := by omega
        have c1 := HX1.out j hlt
        rw [marks_getD k hlt] at c1
        go_wp2_with fail
        go_roundw
        case rel => exact ⟨j + 1, _, by omega, by go_num, by go_num, rfl⟩
        case measure => simp [intOf]; omega
      · obtain rfl : j = n := by omega
        go_wp2_with fail
        go_ret
        exact ⟨rfl, _, rfl⟩
theorem marks_set (k : Int) (xs : List Int) (j : Nat) (h : j < xs.length) : (marks k j ++ xs.drop j).set j (k + j) = marks k (j + 1) ++ xs.drop (j + 1) := by
  have hm := marks_length k j
  have e1 : marks k (j + 1) = marks k j ++ [k + j] := by simp [marks, List.range_succ]
  rw [List.set_append_right _ _ (by omega), hm, Nat.sub_self, e1, List.append_assoc]
  congr 1
  rw [List.drop_eq_getElem_cons h]
  rfl

theorem OwnI.set {base : Nat} {w : World} {g cap : Nat} {xs : List Int} {n : Nat} (hn : xs.length = n) (h : OwnI base w (.slice (some ⟨g, 0, none⟩) n cap) xs) (j : Nat) (m : Int) :
    OwnI base (w.setCell ⟨g, j, none⟩ (.int .i64 m)) (.slice (some ⟨g, 0, none⟩) n cap) (xs.set j m) := by
  unfold OwnI at *
  subst hn
  rw [List.length_set, List.map_set]
  exact (World.ownsRow.stored h j _).1

/-- A call that hands back a number, and leaves the slice v with other numbers. -/
def Marked (base : Nat) (r : Int) (v : Value) (xs : List Int) (w : World) (e : Ending) (w' : World) : Prop := e = .returned (.int .i64 r) ∧ OwnI base w' v xs ∧ Below base w w'

set_option maxHeartbeats 1000000 in
theorem markIntS_any (base : Nat) (v : Value) (xs : List Int) (n : Nat) (hn : xs.length = n) (k : Int) (w : World) (hk0 : 0 ≤ k) (hk1 : k ≤ 1000000000) (hn9 : n ≤ 1000000000) (h : OwnI base w v xs) :
    Calls Try.prog 12 #[v, .int .i64 k] w (Marked base (k + n) v (marks k n) w) := by
  have hb0 := Below.refl base w
  rcases h.cells with ⟨rfl, rfl⟩ | ⟨g, cap, rfl, hb1, hg1, hc1, hm1, hx1, hf1⟩
  · obtain rfl : n = 0 := hn.symm
    have H := Lib.hid h
    clear h hn
    go_enter Try.func12, Try.ntmps12
    go_wp2_with fail
    go_loopw [1, 5] (fun v i wr => v = .int .i64 k ∧ i = .int .i64 0 ∧ wr = w) (fun _ _ _ => 0)
    case atStart => exact ⟨rfl, rfl, rfl⟩
    case round =>
      obtain ⟨rfl, rfl, rfl⟩ := hrel
      go_wp2_with fail
      go_ret
      exact ⟨ret_int (by simp), H.out, hb0⟩
  · rw [hn] at hc1 h ⊢
    clear hx1 hf1
    have H := Lib.hid h
    have HN := Lib.hid hn
    clear h hn
    go_enter Try.func12, Try.ntmps12
    go_wp2_with fail
    go_loopw [1, 5] (fun v i wr => ∃ j : Nat, j ≤ n ∧ i = .int .i64 j ∧ v = .int .i64 (k + j) ∧ Hid (OwnI base wr (.slice (some ⟨g, 0, none⟩) n cap) (marks k j ++ xs.drop j)) ∧ Below base w wr) (fun _ i _ => n - (intOf i).toNat)
    case atStart => exact ⟨0, Nat.zero_le _, rfl, by simp, by simpa [marks] using H, hb0⟩
    case round =>
      obtain ⟨j, hj, rfl, rfl, hown, hbw⟩ := hrel
      have hlen : (marks k j ++ xs.drop j).length = n := by have := HN.out; rw [List.length_append, marks_length, List.length_drop]; omega
      by_cases hlt : j < n
      · have hlt' : (j : Int) < (n : Int) := by omega
        have hset := OwnI.set hlen hown.out j (k + j)
        rw [marks_set k xs j (by rw [HN.out]; exact hlt)] at hset
        have hcells := hown.out.cells
        have hfz : wr.frozen? ⟨g, j, none⟩ = false := World.ownsRow.frozenAt (by have := hown.out; unfold OwnI at this; rw [hlen] at this; exact this) j
        obtain ⟨x, hcell⟩ : ∃ x, wr.cell? ⟨g, j, none⟩ = some x := by
          have h1 := hown.out
          unfold OwnI at h1
          rw [hlen] at h1
          have := World.ownsRow.cellAt h1 j (by omega)
          rw [this]
          exact ⟨_, List.getElem?_eq_getElem (by rw [List.length_map, hlen]; exact hlt)⟩
        have hbw' : Below base w (wr.setCell ⟨g, j, none⟩ (.int .i64 (k + j))) := hbw.setCell (by exact hb1) _
        have HSET := Lib.hid hset
        clear hset hcells
        go_wp2_with fail
        go_roundw
        case rel => exact ⟨j + 1, by omega, by go_num, by go_num, HSET, hbw'⟩
        case measure => simp [intOf]; omega
      · obtain rfl : j = n := by omega
        have hend : Hid (OwnI base wr (.slice (some ⟨g, 0, none⟩) j cap) (marks k j)) := by
          have h1 := hown.out
          rw [List.drop_of_length_le (by rw [HN.out]; exact Nat.le_refl _), List.append_nil] at h1
          exact h1
        go_wp2_with fail
        go_ret
        exact ⟨rfl, hend.out, hbw⟩

end Go.Proofs.Ytlcepokenaiggab

/-! RowS -/
namespace Go.Proofs.Ytlcepokenaiggab
open Go.RowKit

theorem info_str : (Try.prog.info? 9).map (fun i => (i.zero, i.size, i.bytes)) = some (some (.string ⟨#[]⟩), 1, 16) := by kernel_rfl

/-- v is a slice of the texts ss, in a block from base on that the call has made. -/
def OwnS (base : Nat) (w : World) (v : Value) (ss : List ByteArray) : Prop := w.ownsRow base 9 1 v ss.length (ss.map Value.string)

theorem OwnS.keep {base : Nat} {w w' : World} {v : Value} {ss : List ByteArray} (h : OwnS base w v ss) (hb : Below w.heap.size w w') : OwnS base w' v ss := ownsRow_keep h hb
theorem OwnS.nil (base : Nat) (w : World) : OwnS base w (.slice none 0 0) [] := World.ownsRow_nil _ _ _ _

theorem ownsRow_mono {w : World} {base base' : Nat} {e : TypeId} {size : Nat} {v : Value} {n : Nat} {xs : List Value} (h : w.ownsRow base e size v n xs) (hb : base' ≤ base) : w.ownsRow base' e size v n xs := by
  obtain ⟨h1, h2⟩ := h
  refine ⟨h1, ?_⟩
  rcases h2 with h2 | ⟨g, cap, cur, hv, hg, r⟩
  · exact .inl h2
  · exact .inr ⟨g, cap, cur, hv, Nat.le_trans hb hg, r⟩
theorem OwnS.mono {base base' : Nat} {w : World} {v : Value} {ss : List ByteArray} (h : OwnS base w v ss) (hb : base' ≤ base) : OwnS base' w v ss := ownsRow_mono h hb
theorem OwnI.mono {base base' : Nat} {w : World} {v : Value} {xs : List Int} (h : OwnI base w v xs) (hb : base' ≤ base) : OwnI base' w v xs := ownsRow_mono h hb

/-- What can be read of such a slice. -/
def CellsS (base : Nat) (w : World) (v : Value) (ss : List ByteArray) : Prop :=
  (v = .slice none 0 0 ∧ ss = []) ∨ ∃ g cap : Nat, v = .slice (some ⟨g, 0, none⟩) ss.length cap ∧ base ≤ g ∧ g < w.heap.size ∧ ss.length ≤ cap ∧ cap ≤ maxLen ∧
    (∀ i, i < ss.length → w.cell? ⟨g, i, none⟩ = some (.string (ss.getD i ⟨#[]⟩))) ∧ ∀ i, w.frozen? ⟨g, i, none⟩ = false

theorem OwnS.cells {base : Nat} {w : World} {v : Value} {ss : List ByteArray} (h : OwnS base w v ss) : CellsS base w v ss := by
  have h0 := h
  obtain ⟨h1, h2⟩ := h
  rcases h2 with ⟨hv, hn⟩ | ⟨g, cap, cur, hv, hg, hh, r1, r2, r3⟩
  · exact .inl ⟨hv, List.length_eq_zero_iff.1 hn⟩
  · subst hv
    refine .inr ⟨g, cap, rfl, hg, lt_of_block hh, r1, r2, fun i hi => ?_, fun i => World.ownsRow.frozenAt h0 i⟩
    have := World.ownsRow.cellAt h0 i (by omega)
    rw [this]
    simp [List.getElem?_eq_getElem hi]

theorem OwnS.shape {base : Nat} {w : World} {v : Value} {ss : List ByteArray} (h : OwnS base w v ss) (hn : 0 < ss.length) : ∃ g cap, v = .slice (some ⟨g, 0, none⟩) ss.length cap := by
  rcases h.2 with ⟨_, h2⟩ | ⟨g, cap, cur, hv, _⟩
  · omega
  · exact ⟨g, cap, hv⟩

/-- One text in a new block. -/
theorem OwnS.one (w : World) (s : ByteArray) : OwnS w.heap.size (w.alloc (.cells #[.string s] 9 (0, 0))) (.slice (some ⟨w.heap.size, 0, none⟩) 1 1) [s] := by
  refine ⟨rfl, .inr ⟨w.heap.size, 1, #[.string s], rfl, Nat.le_refl _, ?_, Nat.le_refl _, by unfold maxLen; omega, rfl, rfl⟩⟩
  show (w.heap.push _)[w.heap.size]? = _
  simp

theorem addr_add (g j : Nat) : (⟨g, 0, none⟩ : Addr).add j = ⟨g, j, none⟩ := by
  unfold Addr.add
  split
  · next h => rw [h]
  · simp

theorem OwnS.news {base : Nat} {w : World} {g cap n : Nat} {ss : List ByteArray} (h : OwnS base w (.slice (some ⟨g, 0, none⟩) n cap) ss) (hn : ss.length = n) :
    ∀ (j : Nat) (u : Value), (ss.map Value.string)[j]? = some u → w.cell? ((⟨g, 0, none⟩ : Addr).add j) = some u := by
  intro j u hj
  subst hn
  have hlt : j < ss.length := by
    rcases Nat.lt_or_ge j ss.length with h | h
    · exact h
    · rw [List.getElem?_eq_none (by simpa using h)] at hj; simp at hj
  have := World.ownsRow.cellAt h j (by omega)
  rw [addr_add, this, hj]
theorem oneS (ss : List ByteArray) : ∀ u ∈ ss.map Value.string, u.oneCell' = true := by
  intro u hu
  rw [List.mem_map] at hu
  obtain ⟨s, _, rfl⟩ := hu
  rfl
theorem OwnS.app {base : Nat} {w : World} {v : Value} {A B : List ByteArray} (h : w.ownsRow base 9 1 v (A.length + B.length) (A.map Value.string ++ B.map Value.string)) : OwnS base w v (A ++ B) := by
  unfold OwnS; rw [List.length_append, List.map_append]; exact h

theorem below_app0 {w wr w1 : World} {base : Nat} {e : TypeId} {size : Nat} {v : Value} {n : Nat} {xs : List Value} (h : Below w.heap.size w wr) (hown : wr.ownsRow base e size v n xs) (hbase : w.heap.size ≤ base)
    (hg : wr.grownBy w1 v.ownBlock) : Below w.heap.size w w1 :=
  h.grown hg h.size (fun k hk => Nat.le_trans hbase (ownsRow_ge hown k hk))

/-- A call that hands back a slice of texts of its own, not empty. -/
def GivesTexts (ss : List ByteArray) (w : World) (e : Ending) (w' : World) : Prop :=
  ∃ g cap : Nat, OwnS w.heap.size w' (.slice (some ⟨g, 0, none⟩) ss.length cap) ss ∧ Below w.heap.size w w' ∧ e = .returned (.slice (some ⟨g, 0, none⟩) ss.length cap)

/-- An answer of a slice of texts of the call's own and a bool. -/
def AnsS2 (ss : List ByteArray) (ok : Bool) (w : World) (e : Ending) (w' : World) : Prop :=
  ∃ v, OwnS w.heap.size w' v ss ∧ Below w.heap.size w w' ∧ e = .returned (.tuple #[v, .bool ok])
def AnsSs (o : Option (List ByteArray)) (w : World) (e : Ending) (w' : World) : Prop := AnsS2 (o.getD []) o.isSome w e w'
end Go.Proofs.Ytlcepokenaiggab

/-! ArgI -/
namespace Go.Proofs.Ytlcepokenaiggab
open Go.RowKit

/-- A slice of integers that came in: it is nil, or leads to a row of 'cap' cells, the first 'len' of which are its elements. -/
def IsInts (w : World) (a : Option Addr) (len cap : Nat) (ss : List Int) : Prop :=
  (a = none ∧ len = 0 ∧ cap = 0 ∧ ss = []) ∨
  ∃ x, a = some x ∧ len ≤ cap ∧ cap ≤ maxLen ∧ ss.length = cap ∧ (∀ i, i < ss.length → w.cell? (x.add i) = some (.int .i64 (ss.getD i 0))) ∧ ∀ s ∈ ss, (Lit.int .i64 s).wf = true

/-- What can be read of a slice of integers: the cells from an address on. -/
def ReadI (w : World) (g off : Nat) (ss : List Int) : Prop := ∀ i, i < ss.length → w.cell? ⟨g, off + i, none⟩ = some (.int .i64 (ss.getD i 0))

theorem ReadI.keep {w w' : World} {g off : Nat} {ss : List Int} (h : ReadI w g off ss) (hb : Below w.heap.size w w') : ReadI w' g off ss := by
  intro i hi
  have := h i hi
  exact (hb.cell (p := ⟨g, off + i, none⟩) (World.block_lt_of_cell? w _ this)).trans this

/-- The slice as the walks take it: empty, or readable from an address on. -/
def InI (w : World) (a : Option Addr) (ss : List Int) : Prop := ss = [] ∨ ∃ g off, a = some ⟨g, off, none⟩ ∧ ReadI w g off ss

theorem IsInts.inI {w : World} {a : Option Addr} {len cap : Nat} {ss : List Int} (h : IsInts w a len cap ss) : InI w a (ss.take len) ∧ (ss.take len).length = len ∧ (len : Int) ≤ 9223372036854775807 ∧ ∀ s ∈ ss.take len, -9223372036854775808 ≤ s ∧ s ≤ 9223372036854775807 := by
  rcases h with ⟨rfl, rfl, rfl, rfl⟩ | ⟨x, rfl, h1, h2, h3, h4, h5⟩
  · exact ⟨.inl rfl, rfl, by omega, by simp⟩
  · have hl : (ss.take len).length = len := by rw [List.length_take]; omega
    unfold maxLen at h2
    refine ⟨?_, hl, by omega, fun s hs => i64_bounds (h5 s (List.mem_of_mem_take hs))⟩
    by_cases h0 : len = 0
    · left; subst h0; rfl
    · right
      obtain ⟨b, off, spot⟩ := x
      have hc := h4 0 (by omega)
      have hspot : spot = none := by simpa [Addr.add] using World.cell?_spot hc
      subst hspot
      refine ⟨b, off, rfl, fun i hi => ?_⟩
      rw [hl] at hi
      have := h4 i (by omega)
      have e : (⟨b, off, none⟩ : Addr).add i = ⟨b, off + i, none⟩ := by
        unfold Addr.add
        split
        · next h => rw [h]; simp
        · rfl
      rw [e] at this
      rw [this]
      simp [List.getD_eq_getElem?_getD, hi]

theorem InI.keep {w w' : World} {a : Option Addr} {ss : List Int} (h : InI w a ss) (hb : Below w.heap.size w w') : InI w' a ss := by
  rcases h with h | ⟨g, off, rfl, hr⟩
  · exact .inl h
  · exact .inr ⟨g, off, rfl, hr.keep hb⟩

/-- A call that hands back a copy, in new memory. -/
def CopyOfI (ss : List Int) (n : Nat) (w : World) (e : Ending) (w' : World) : Prop :=
  ∃ g : Nat, OwnI w.heap.size w' (.slice (some ⟨g, 0, none⟩) n n) ss ∧ Below w.heap.size w w' ∧ e = .returned (.slice (some ⟨g, 0, none⟩) n n)

theorem madeCells_int (n : Nat) : (madeCells (Value.int .i64 0).cells (n * 1)).toList = (List.replicate n (0 : Int)).map (Value.int .i64) := by
  rw [List.map_replicate, Nat.mul_one]
  exact toList_madeCells_one _ _

set_option maxHeartbeats 1000000 in
theorem toIntS_any (a : Option Addr) (cap n : Nat) (ss : List Int) (w : World) (hn : ss.length = n) (hn1 : n ≤ 1048576) (h : InI w a ss) :
    Calls Try.prog 7 #[.slice a n cap] w (CopyOfI ss n w) := by
  obtain ⟨i0, hi, hz0, hz1, hz2⟩ := info_parts info_int
  have HN := Lib.hid hn
  have HI := Lib.hid h
  clear hn h
  go_enter Try.func7, Try.ntmps7
  go_wp2_with (at_make; refine wpList_make_full _ rfl _ _ 22 rfl w.heap.size 3 i0 (.int .i64 0) 1 Try.underlying22 hi hz0 hz1 .i64 .i64 _ _ n rfl rfl rfl rfl (by rw [hz2]; omega) (by unfold maxLen; omega) (Nat.le_refl _) ?_; intro w0 hown0 hgrow0)
  rw [madeCells_int] at hown0
  have hb0 : Below w.heap.size w w0 := (Below.refl _ _).grown hgrow0 (Nat.le_refl _) (fun k hk => by cases hk)
  have hO : OwnI w.heap.size w0 (.slice (some ⟨w.heap.size, 0, none⟩) n n) (List.replicate n (0 : Int)) := by
    unfold OwnI; rw [List.length_replicate]; exact hown0
  have HO := Lib.hid hO
  clear hown0 hgrow0 hO
  go_wp2_with fail
  go_loopw [4] (fun i wr => ∃ k : Nat, k ≤ n ∧ i = .int .i64 k ∧ Hid (OwnI w.heap.size wr (.slice (some ⟨w.heap.size, 0, none⟩) n n) (ss.take k ++ List.replicate (n - k) (0 : Int))) ∧ Below w.heap.size w wr) (fun i _ => n - (intOf i).toNat)
  case atStart => exact ⟨0, Nat.zero_le _, rfl, HO, hb0⟩
  case round =>
    obtain ⟨k, hk, rfl, hown, hbw⟩ := hrel
    have hlen : (ss.take k ++ List.replicate (n - k) (0 : Int)).length = n := by have := HN.out; simp; omega
    by_cases hlt : k < n
    · have hlt' : (k : Int) < (n : Int) := by omega
      have hlk : k < ss.length := by have := HN.out; omega
      rcases HI.out with h0 | ⟨g, off, ha, hr⟩
      · exfalso; rw [h0] at hlk; simp at hlk
      · have c1 := (hr.keep hbw) k hlk
        have hset := OwnI.set hlen hown.out k (ss.getD k 0)
        have hnext : (ss.take k ++ List.replicate (n - k) (0 : Int)).set k (ss.getD k 0) = ss.take (k + 1) ++ List.replicate (n - (k + 1)) (0 : Int) := by
          have e : n - k = (n - (k + 1)) + 1 := by omega
          rw [List.set_append_right _ _ (by simp; omega), e, List.replicate_succ]
          have e2 : k - (ss.take k).length = 0 := by simp; omega
          rw [e2, List.set_cons_zero, List.take_succ_eq_append_getElem hlk, List.append_assoc]
          simp [hlk]
        rw [hnext] at hset
        have hfz : wr.frozen? ⟨w.heap.size, k, none⟩ = false := World.ownsRow.frozenAt (by have := hown.out; unfold OwnI at this; rw [hlen] at this; exact this) k
        obtain ⟨x, hcell⟩ : ∃ x, wr.cell? ⟨w.heap.size, k, none⟩ = some x := by
          have h1 := hown.out
          unfold OwnI at h1
          rw [hlen] at h1
          have := World.ownsRow.cellAt h1 k (by omega)
          rw [this]
          exact ⟨_, List.getElem?_eq_getElem (by rw [List.length_map, hlen]; exact hlt)⟩
        obtain ⟨s, hs⟩ : ∃ s, s = ss.getD k 0 := ⟨_, rfl⟩
        rw [← hs] at c1 hset
        have hbw' : Below w.heap.size w (wr.setCell ⟨w.heap.size, k, none⟩ (.int .i64 s)) := hbw.setCell (Nat.le_refl _) _
        have HSET := Lib.hid hset
        clear hset hs hnext hlk
        subst ha
        go_wp2_with fail
        go_roundw
        case rel => exact ⟨k + 1, by omega, by go_num, HSET, hbw'⟩
        case measure => simp [intOf]; omega
    · obtain rfl : k = n := by omega
      have hend : Hid (OwnI w.heap.size wr (.slice (some ⟨w.heap.size, 0, none⟩) k k) ss) := by
        have h1 := hown.out
        rw [Nat.sub_self, List.replicate_zero, List.append_nil, List.take_of_length_le (by have := HN.out; omega)] at h1
        exact h1
      go_wp2_with fail
      go_ret
      exact ⟨_, hend.out, hbw, rfl⟩
end Go.Proofs.Ytlcepokenaiggab

/-! MarkG -/
namespace Go.Proofs.Ytlcepokenaiggab
open Go.RowKit

/-- A call that hands back a number, and leaves the slice in block g with other numbers; no other block turns. -/
def MarkedG (base : Nat) (g : Nat) (r : Int) (v : Value) (xs : List Int) (w : World) (e : Ending) (w' : World) : Prop := e = .returned (.int .i64 r) ∧ OwnI base w' v xs ∧ w.grownBy w' (some g)

theorem grown_refl (w : World) (r : Option Nat) : w.grownBy w r := ⟨rfl, rfl, rfl, Nat.le_refl _, fun _ _ _ => rfl⟩
theorem grown_trans {a b c : World} {r : Option Nat} (h : a.grownBy b r) (k : b.grownBy c r) : a.grownBy c r :=
  ⟨k.os.trans h.os, k.tape.trans h.tape, k.output.trans h.output, Nat.le_trans h.size k.size, fun i hi hn => (k.block i (Nat.lt_of_lt_of_le hi h.size) hn).trans (h.block i hi hn)⟩
theorem OwnI.kept {base : Nat} {w w' : World} {v : Value} {xs : List Int} {g : Nat} (h : OwnI base w v xs) (hg : w.grownBy w' (some g)) (hne : g < base) : OwnI base w' v xs := by
  refine World.ownsRow.kept h hg ?_
  rcases h.2 with ⟨hv, _⟩ | ⟨g', cap, cur, hv, hb, _⟩
  · subst hv; exact .inl rfl
  · subst hv; right; simp only [Value.ownBlock]; intro e; injection e with e; omega
theorem OwnI.lt {base : Nat} {w : World} {g n cap : Nat} {xs : List Int} (h : OwnI base w (.slice (some ⟨g, 0, none⟩) n cap) xs) : base ≤ g ∧ g < w.heap.size := World.ownsRow.lt h g rfl
theorem grown_below {w w' : World} {g B : Nat} (h : w.grownBy w' (some g)) (hB : B ≤ w.heap.size) (hg : B ≤ g) : Below B w w' := (Below.refl _ _).grown h hB (fun k hk => by injection hk with hk; omega)
theorem OwnI.up {base : Nat} {w : World} {g n cap : Nat} {xs : List Int} (h : OwnI base w (.slice (some ⟨g, 0, none⟩) n cap) xs) : OwnI g w (.slice (some ⟨g, 0, none⟩) n cap) xs := by
  refine ⟨h.1, ?_⟩
  rcases h.2 with ⟨hv, hn⟩ | ⟨g', cap', cur, hv, hb, r⟩
  · cases hv
  · cases hv
    exact .inr ⟨g, cap, cur, rfl, Nat.le_refl _, r⟩

set_option maxHeartbeats 1000000 in
theorem markIntS_one (base : Nat) (g cap n : Nat) (xs : List Int) (hn : xs.length = n) (k : Int) (w : World) (hk0 : 0 ≤ k) (hk1 : k ≤ 1000000000) (hn9 : n ≤ 1000000000) (h : OwnI base w (.slice (some ⟨g, 0, none⟩) n cap) xs) :
    Calls Try.prog 12 #[.slice (some ⟨g, 0, none⟩) n cap, .int .i64 k] w (MarkedG base g (k + n) (.slice (some ⟨g, 0, none⟩) n cap) (marks k n) w) := by
  have hb0 := grown_refl w (some g)
  have H := Lib.hid h
  have HN := Lib.hid hn
  clear h hn
  go_enter Try.func12, Try.ntmps12
  go_wp2_with fail
  go_loopw [1, 5] (fun v i wr => ∃ j : Nat, j ≤ n ∧ i = .int .i64 j ∧ v = .int .i64 (k + j) ∧ Hid (OwnI base wr (.slice (some ⟨g, 0, none⟩) n cap) (marks k j ++ xs.drop j)) ∧ w.grownBy wr (some g)) (fun _ i _ => n - (intOf i).toNat)
  case atStart => exact ⟨0, Nat.zero_le _, rfl, by simp, by simpa [marks] using H, hb0⟩
  case round =>
    obtain ⟨j, hj, rfl, rfl, hown, hbw⟩ := hrel
    have hlen : (marks k j ++ xs.drop j).length = n := by have := HN.out; rw [List.length_append, marks_length, List.length_drop]; omega
    by_cases hlt : j < n
    · have hlt' : (j : Int) < (n : Int) := by omega
      have hset := OwnI.set hlen hown.out j (k + j)
      rw [marks_set k xs j (by rw [HN.out]; exact hlt)] at hset
      have hrow := hown.out
      unfold OwnI at hrow
      rw [hlen] at hrow
      have hfz : wr.frozen? ⟨g, j, none⟩ = false := World.ownsRow.frozenAt hrow j
      obtain ⟨x, hcell⟩ : ∃ x, wr.cell? ⟨g, j, none⟩ = some x := by
        have := World.ownsRow.cellAt hrow j (by omega)
        rw [this]
        exact ⟨_, List.getElem?_eq_getElem (by rw [List.length_map, hlen]; exact hlt)⟩
      have hbw' : w.grownBy (wr.setCell ⟨g, j, none⟩ (.int .i64 (k + j))) (some g) := grown_trans hbw (World.ownsRow.stored hrow j _).2
      have HSET := Lib.hid hset
      clear hset hrow
      go_wp2_with fail
      go_roundw
      case rel => exact ⟨j + 1, by omega, by go_num, by go_num, HSET, hbw'⟩
      case measure => simp [intOf]; omega
    · obtain rfl : j = n := by omega
      have hend : Hid (OwnI base wr (.slice (some ⟨g, 0, none⟩) j cap) (marks k j)) := by
        have h1 := hown.out
        rw [List.drop_of_length_le (by rw [HN.out]; exact Nat.le_refl _), List.append_nil] at h1
        exact h1
      go_wp2_with fail
      go_ret
      exact ⟨rfl, hend.out, hbw⟩
end Go.Proofs.Ytlcepokenaiggab

/-! Form -/
namespace Go.Proofs.Ytlcepokenaiggab
open Go.RowKit

theorem CellsI.form {b1 : Nat} {w : World} {v : Value} {xs : List Int} (h : CellsI b1 w v xs) :
    ∃ oa cap, v = .slice oa xs.length cap ∧ xs.length ≤ cap ∧ cap ≤ maxLen ∧ ∀ i, i < xs.length → ∃ g, oa = some ⟨g, 0, none⟩ ∧ b1 ≤ g ∧ g < w.heap.size ∧ w.cell? ⟨g, i, none⟩ = some (.int .i64 (xs.getD i 0)) := by
  rcases h with ⟨rfl, rfl⟩ | ⟨g, cap, rfl, h1, h2, h3, h4, h5, _⟩
  · exact ⟨none, 0, rfl, Nat.le_refl _, Nat.zero_le _, fun i hi => by simp at hi⟩
  · exact ⟨some ⟨g, 0, none⟩, cap, rfl, h3, h4, fun i hi => ⟨g, rfl, h1, h2, h5 i hi⟩⟩

end Go.Proofs.Ytlcepokenaiggab

/-! Wd1 -/
namespace Go.Proofs.Ytlcepokenaiggab
open Go.RowKit

theorem decide_lt_false {a b : Int} (h : b ≤ a) : decide (a < b) = false := by simp; omega

set_option maxHeartbeats 1000000 in
theorem wdIs_any (v : Value) (b1 : Nat) (L : List Int) (m : Int) (w : World) (hv : CellsI b1 w v L) (hm : 0 ≤ m) (hm2 : m ≤ 1000) :
    Calls Try.prog 27 #[v, .int .i64 m] w fun e w' => e = .returned (.bool (isW (m + 1) L)) ∧ w = w' := by
  obtain ⟨oa, cap, rfl, hcl, hcm, hcc⟩ := hv.form
  unfold maxLen at hcm
  clear hv
  have HC := Lib.hid hcc
  clear hcc
  go_enter Try.func27, Try.ntmps27
  go_wp2_with fail
  go_loop [9] (fun i => ∃ k : Nat, i = .int .i64 k ∧ k ≤ L.length ∧ Hid (isW (m + 1) L = isW (m + 1) (L.drop k))) (fun i => L.length - (intOf i).toNat)
  case atStart => exact ⟨0, rfl, Nat.zero_le _, rfl⟩
  case round =>
    obtain ⟨k, rfl, hk, he⟩ := hrel
    by_cases hlt : k < L.length
    · have hlt' : (k : Int) < (L.length : Int) := by omega
      obtain ⟨g, rfl, _, _, c1⟩ := HC.out k hlt
      have he' := he.out
      rw [isW_drop hlt] at he'
      generalize L.getD k 0 = x at c1 he'
      clear he
      cases hx : okL (m + 1) x with
      | false =>
        rw [hx, Bool.false_and] at he'
        have HE := Lib.hid he'
        have hx' := okL_false.1 hx
        clear he' hx
        by_cases h0 : x = 0
        · subst h0
          clear hx'
          go_wp2_with fail
          go_ret
          exact ⟨ret_bool HE.out.symm, rfl⟩
        · have h0' : (x == 0) = false := by rw [beq_eq_false_iff_ne]; exact h0
          have hno : x < -m - 1 ∨ m + 1 < x := by omega
          have HN := Lib.hid hno
          clear hx' h0 hno
          go_wp2_with fail
          refine (l1In_no x (-m - 1) (m + 1) _ HN.out).mono ?_; rintro e w1 ⟨rfl, rfl⟩
          go_wp2_with fail
          go_ret
          exact ⟨ret_bool HE.out.symm, rfl⟩
      | true =>
        rw [hx, Bool.true_and] at he'
        have HE := Lib.hid he'
        obtain ⟨h0, h1, h2⟩ := okL_iff.1 hx
        have h0' : (x == 0) = false := by rw [beq_eq_false_iff_ne]; exact h0
        have h1' : -m - 1 ≤ x := by omega
        clear he' hx h0 h1
        go_wp2_with fail
        refine (l1In_yes x (-m - 1) (m + 1) _ h1' h2).mono ?_; rintro e w1 ⟨rfl, rfl⟩
        go_wp2_with fail
        go_round
        case rel => exact ⟨k + 1, by go_num, by omega, HE⟩
        case measure => simp [intOf]; omega
    · obtain rfl : k = L.length := by omega
      have he' := he.out
      rw [isW_end] at he'
      have HE := Lib.hid he'
      clear he he'
      go_wp2_with fail
      go_ret
      exact ⟨ret_bool HE.out.symm, rfl⟩

theorem wdGood_any (v : Value) (b1 : Nat) (L : List Int) (w : World) (hv : CellsI b1 w v L) :
    Calls Try.prog 16 #[v] w fun e w' => e = .returned (.bool (goodW L)) ∧ w = w' := by
  have hI := wdIs_any v b1 L 20 w hv (by omega) (by omega)
  obtain ⟨oa, cap, rfl, hcl, hcm, _⟩ := hv.form
  clear hv
  unfold maxLen at hcm
  unfold goodW
  by_cases h : L.length ≤ 20
  · have h' : decide ((L.length : Int) ≤ 20) = true := by simp; omega
    rw [show decide (L.length ≤ 20) = true by simpa using h, Bool.true_and]
    go_enter Try.func16, Try.ntmps16
    go_wp2_with fail
    refine hI.mono ?_; rintro e w1 ⟨rfl, rfl⟩
    go_wp2_with fail
    go_ret
    exact ⟨rfl, rfl⟩
  · have h' : decide ((L.length : Int) ≤ 20) = false := by simp; omega
    rw [show decide (L.length ≤ 20) = false by simpa using h, Bool.false_and]
    clear hI
    go_enter Try.func16, Try.ntmps16
    go_wp2_with fail
    go_ret
    exact ⟨rfl, rfl⟩

set_option maxHeartbeats 1000000 in
theorem implIsWord_any (v : Value) (b1 : Nat) (L : List Int) (w : World) (hv : CellsI b1 w v L) :
    Calls Try.prog 19 #[v] w fun e w' => e = .returned (.bool (goodW L)) ∧ w = w' := by
  obtain ⟨oa, cap, rfl, hcl, hcm, hcc⟩ := hv.form
  unfold maxLen at hcm
  clear hv
  have HC := Lib.hid hcc
  clear hcc
  unfold goodW
  by_cases h : L.length ≤ 20
  · rw [show decide (L.length ≤ 20) = true by simpa using h, Bool.true_and]
    have hn : (L.length : Int) ≤ 20 := by omega
    clear h
    go_enter Try.func19, Try.ntmps19
    go_wp2_with fail
    go_loop [10] (fun i => ∃ k : Nat, i = .int .i64 k ∧ k ≤ L.length ∧ Hid (isW 21 L = isW 21 (L.drop k))) (fun i => L.length - (intOf i).toNat)
    case atStart => exact ⟨0, rfl, Nat.zero_le _, rfl⟩
    case round =>
      obtain ⟨k, rfl, hk, he⟩ := hrel
      by_cases hlt : k < L.length
      · have hlt' : (k : Int) < (L.length : Int) := by omega
        obtain ⟨g, rfl, _, _, c1⟩ := HC.out k hlt
        have he' := he.out
        rw [isW_drop hlt] at he'
        generalize L.getD k 0 = x at c1 he'
        clear he
        cases hx : okL 21 x with
        | false =>
          rw [hx, Bool.false_and] at he'
          have HE := Lib.hid he'
          have hx' := okL_false.1 hx
          clear he' hx
          by_cases h0 : x = 0
          · subst h0
            clear hx'
            go_wp2_with fail
            go_ret
            exact ⟨ret_bool HE.out.symm, rfl⟩
          · have h0' : (x == 0) = false := by rw [beq_eq_false_iff_ne]; exact h0
            by_cases h1 : x < -21
            · have h1' : decide (x < -21) = true := by simpa using h1
              clear hx' h0 h1
              go_wp2_with fail
              go_ret
              exact ⟨ret_bool HE.out.symm, rfl⟩
            · have h1' : decide (x < -21) = false := by simpa using h1
              have h2 : 21 < x := by omega
              clear hx' h0 h1
              go_wp2_with fail
              go_ret
              exact ⟨ret_bool HE.out.symm, rfl⟩
        | true =>
          rw [hx, Bool.true_and] at he'
          have HE := Lib.hid he'
          obtain ⟨h0, h1, h2⟩ := okL_iff.1 hx
          have h0' : (x == 0) = false := by rw [beq_eq_false_iff_ne]; exact h0
          have h1' : decide (x < -21) = false := by simp; omega
          have h2' : decide (21 < x) = false := by simp; omega
          clear he' hx h0 h1 h2
          go_wp2_with fail
          go_round
          case rel => exact ⟨k + 1, by go_num, by omega, HE⟩
          case measure => simp [intOf]; omega
      · obtain rfl : k = L.length := by omega
        have he' := he.out
        rw [isW_end] at he'
        have HE := Lib.hid he'
        clear he he'
        go_wp2_with fail
        go_ret
        exact ⟨ret_bool HE.out.symm, rfl⟩
  · rw [show decide (L.length ≤ 20) = false by simpa using h, Bool.false_and]
    have hn : 20 < (L.length : Int) := by omega
    clear h
    go_enter Try.func19, Try.ntmps19
    go_wp2_with fail
    go_ret
    exact ⟨rfl, rfl⟩

/-- Contracts that say that nothing turns, as those that may make memory. -/
theorem gives_of {P : Program} {f : FuncId} {args : Array Value} {w : World} {v : Value} (h : Calls P f args w fun e w' => e = .returned v ∧ w = w') : Calls P f args w (Gives v w) := h.mono fun _ _ ⟨he, hw⟩ => ⟨he, by rw [← hw]; exact Below.refl _ _⟩
end Go.Proofs.Ytlcepokenaiggab

/-! Wd2 -/
namespace Go.Proofs.Ytlcepokenaiggab
open Go.RowKit

theorem OwnI.cut {base : Nat} {w : World} {oa : Option Addr} {m cap : Nat} {xs : List Int} (h : OwnI base w (.slice oa m cap) xs) (n : Nat) (hn : n ≤ xs.length) (hm : xs.length = m) : OwnI base w (.slice oa n cap) (xs.take n) := by
  obtain ⟨h1, h2⟩ := h
  have hl : (xs.take n).length = n := by rw [List.length_take]; omega
  unfold OwnI
  rw [hl]
  refine ⟨by simp; omega, ?_⟩
  rcases h2 with ⟨hv, hn0⟩ | ⟨g, cap', cur, hv, hb, hh, r1, r2, r3, r4⟩
  · cases hv
    obtain rfl : n = 0 := by omega
    exact .inl ⟨rfl, rfl⟩
  · cases hv
    refine .inr ⟨g, cap, cur, rfl, hb, hh, by omega, r2, r3, ?_⟩
    rw [List.map_take, ← r4, List.take_take, Nat.min_eq_left (by omega), Nat.mul_one]


end Go.Proofs.Ytlcepokenaiggab

/-! Wd3 -/
namespace Go.Proofs.Ytlcepokenaiggab
open Go.RowKit


theorem wdIf_yes (v : Value) (b1 : Nat) (L : List Int) (w : World) (hv : CellsI b1 w v L) (hg : goodW L = true) :
    Calls Try.prog 23 #[v] w fun e w' => e = .returned (.tuple #[v, .bool true]) ∧ w = w' := by
  have hG := wdGood_any v b1 L w hv
  rw [hg] at hG
  clear hg hv
  go_enter Try.func23, Try.ntmps23
  go_wp2_with fail
  refine hG.mono ?_; rintro e w1 ⟨rfl, rfl⟩
  go_wp2_with fail
  go_ret2
  exact ⟨rfl, rfl⟩

theorem wdIf_no (v : Value) (b1 : Nat) (L : List Int) (w : World) (hv : CellsI b1 w v L) (hg : goodW L = false) :
    Calls Try.prog 23 #[v] w fun e w' => e = .returned (.tuple #[.slice none 0 0, .bool false]) ∧ w = w' := by
  have hG := wdGood_any v b1 L w hv
  rw [hg] at hG
  clear hg hv
  go_enter Try.func23, Try.ntmps23
  go_wp2_with fail
  refine hG.mono ?_; rintro e w1 ⟨rfl, rfl⟩
  go_wp2_with fail
  go_ret2
  exact ⟨rfl, rfl⟩

/-- Of a slice of the call's own. -/
theorem wdIf_own (v : Value) (base : Nat) (L : List Int) (w : World) (hv : OwnI base w v L) :
    Calls Try.prog 23 #[v] w fun e w' => ∃ u, e = .returned (.tuple #[u, .bool (ifW L).isSome]) ∧ OwnI base w u ((ifW L).getD []) ∧ w = w' := by
  unfold ifW
  cases hg : goodW L with
  | false => exact (wdIf_no v base L w hv.cells hg).mono fun e w' ⟨he, hw⟩ => ⟨_, he, OwnI.nil _ _, hw⟩
  | true => exact (wdIf_yes v base L w hv.cells hg).mono fun e w' ⟨he, hw⟩ => ⟨_, he, hv, hw⟩

theorem wordWithinLimits_yes (v : Value) (b1 : Nat) (L : List Int) (w : World) (hv : CellsI b1 w v L) (hg : goodW L = true) :
    Calls Try.prog 25 #[v] w fun e w' => e = .returned (.tuple #[v, .bool true]) ∧ w = w' := by
  have hG := implIsWord_any v b1 L w hv
  rw [hg] at hG
  clear hg hv
  go_enter Try.func25, Try.ntmps25
  go_wp2_with fail
  refine hG.mono ?_; rintro e w1 ⟨rfl, rfl⟩
  go_wp2_with fail
  go_ret2
  exact ⟨rfl, rfl⟩

theorem wordWithinLimits_no (v : Value) (b1 : Nat) (L : List Int) (w : World) (hv : CellsI b1 w v L) (hg : goodW L = false) :
    Calls Try.prog 25 #[v] w fun e w' => e = .returned (.tuple #[.slice none 0 0, .bool false]) ∧ w = w' := by
  have hG := implIsWord_any v b1 L w hv
  rw [hg] at hG
  clear hg hv
  go_enter Try.func25, Try.ntmps25
  go_wp2_with fail
  refine hG.mono ?_; rintro e w1 ⟨rfl, rfl⟩
  go_wp2_with fail
  go_ret2
  exact ⟨rfl, rfl⟩

/-- Of a slice of the call's own. -/
theorem wordWithinLimits_own (v : Value) (base : Nat) (L : List Int) (w : World) (hv : OwnI base w v L) :
    Calls Try.prog 25 #[v] w fun e w' => ∃ u, e = .returned (.tuple #[u, .bool (ifW L).isSome]) ∧ OwnI base w u ((ifW L).getD []) ∧ w = w' := by
  unfold ifW
  cases hg : goodW L with
  | false => exact (wordWithinLimits_no v base L w hv.cells hg).mono fun e w' ⟨he, hw⟩ => ⟨_, he, OwnI.nil _ _, hw⟩
  | true => exact (wordWithinLimits_yes v base L w hv.cells hg).mono fun e w' ⟨he, hw⟩ => ⟨_, he, hv, hw⟩

theorem raised_any (x k : Int) (w : World) (h1 : -1000 ≤ x) (h2 : x ≤ 1000) (h3 : -1000 ≤ k) (h4 : k ≤ 1000) :
    Calls Try.prog 39 #[.int .i64 x, .int .i64 k] w fun e w' => e = .returned (.int .i64 (up k x)) ∧ w = w' := by
  unfold up
  by_cases h : x < 0
  · rw [if_pos h]
    go_enter Try.func39, Try.ntmps39
    go_wp2_with fail
    go_ret
    exact ⟨rfl, rfl⟩
  · rw [if_neg h]
    go_enter Try.func39, Try.ntmps39
    go_wp2_with fail
    go_ret
    exact ⟨rfl, rfl⟩
theorem up_take {k : Int} {L : List Int} {j : Nat} (h : j < L.length) : upW k (L.take (j + 1)) = upW k (L.take j) ++ [up k (L.getD j 0)] := by
  unfold upW
  rw [List.take_succ_eq_append_getElem h, List.map_append]
  simp [h]

set_option maxRecDepth 100000 in
set_option maxHeartbeats 2000000 in
theorem raisedAll_any (v : Value) (b1 : Nat) (L : List Int) (q : Int) (w : World) (hv : CellsI b1 w v L) (hz : ∀ x ∈ L, -100 ≤ x ∧ x ≤ 100) (hL : L.length ≤ 1000) (hq1 : -1000 ≤ q) (hq2 : q ≤ 1000) :
    Calls Try.prog 36 #[v, .int .i64 q] w (GivesInts (upW q L) w) := by
  obtain ⟨i0, hi, hz0, hz1, hz2⟩ := info_parts info_int
  obtain ⟨oa, cap, rfl, hcl, hcm, hcc⟩ := hv.form
  unfold maxLen at hcm
  clear hv
  have HC := Lib.hid hcc
  have HZ := Lib.hid hz
  clear hcc hz
  go_enter Try.func36, Try.ntmps36
  go_wp2_with fail
  go_loopw [5, 10] (fun u i wr => ∃ (k : Nat) (xs : List Int), i = .int .i64 k ∧ k ≤ L.length ∧ xs.length = k ∧ OwnI w.heap.size wr u xs ∧ Below w.heap.size w wr ∧ Hid (xs = upW q (L.take k))) (fun _ i _ => L.length - (intOf i).toNat)
  case atStart => exact ⟨0, [], rfl, Nat.zero_le _, rfl, OwnI.nil _ _, Below.refl _ _, rfl⟩
  case round =>
    obtain ⟨k, xs, rfl, hk, hxl, hown, hbw, he⟩ := hrel
    have HX := Lib.hid hxl
    unfold OwnI at hown
    rw [hxl] at hown
    clear hxl
    by_cases hlt : k < L.length
    · have hlt' : (k : Int) < (L.length : Int) := by omega
      obtain ⟨g, rfl, _, hgl, c1⟩ := HC.out k hlt
      replace c1 := (hbw.cell (p := ⟨g, k, none⟩) hgl).trans c1
      have hxm : L.getD k 0 ∈ L := by rw [List.getD_eq_getElem?_getD, List.getElem?_eq_getElem hlt]; exact List.getElem_mem _
      obtain ⟨hx1, hx2⟩ := HZ.out _ hxm
      have hstep := up_take (k := q) hlt
      rw [← he.out] at hstep
      generalize L.getD k 0 = x at c1 hx1 hx2 hstep
      have hR := fun w => raised_any x q w (by omega) (by omega) hq1 hq2
      generalize up q x = y at hstep hR
      have HS := Lib.hid hstep
      clear hxm he hgl hstep
      go_wp2_with fail
      refine (hR _).mono ?_; rintro e w2 ⟨rfl, rfl⟩
      go_wp2_with (at_builtin; refine wpList_append_own _ rfl _ _ 22 rfl w.heap.size 3 i0 (.int .i64 0) 1 8 Try.underlying22 hi hz0 hz1 hz2 rfl (by decide) _ _ _ rfl (hown.alloc _) ⟨wr.heap.size, 0, none⟩ 1 1 [.int .i64 y] rfl rfl (new1 _ _ _) (one1 _) (by unfold maxLen; omega) (by omega) (size_al hbw _) ?_; intro v' w1 hown' hgrow hnn)
      have hbw' := below_app hbw hown (Nat.le_refl _) hgrow
      have hown1 : OwnI w.heap.size w1 v' (xs ++ [y]) := OwnI.snoc (by rw [HX.out]; exact hown')
      clear hown hown' hgrow hbw hnn
      go_wp2_with fail
      go_roundw
      case rel => exact ⟨k + 1, _, by go_num, by omega, by have := HX.out; simp; omega, hown1, hbw', HS.out.symm⟩
      case measure => simp [intOf]; omega
    · obtain rfl : k = L.length := by omega
      have he' := he.out
      rw [List.take_length] at he'
      have HE := Lib.hid he'
      clear he he'
      go_wp2_with fail
      go_ret
      exact ⟨_, by rw [← HE.out]; unfold OwnI; rw [HX.out]; exact hown, hbw, rfl⟩

def ShiftWord_o (L : List Int) (q : Int) : Option (List Int) := if goodW L = true then if 0 ≤ q ∧ q ≤ 20 then ifW (upW q L) else none else none
theorem ShiftWord_len (L : List Int) (q : Int) : ((ShiftWord_o L q).getD []).length ≤ 1000000000 := by
  unfold ShiftWord_o ifW
  split
  · next h =>
    have := (goodW_iff.1 h).1
    split
    · split
      · simp [upW]; omega
      · simp
    · simp
  · simp
theorem up_pos {q x : Int} (h : 0 < x) : up q x = x + q := by unfold up; rw [if_neg (by omega)]
theorem up_neg {q x : Int} (h : ¬ 0 < x) (h0 : x ≠ 0) : up q x = x - q := by unfold up; rw [if_pos (by omega)]

end Go.Proofs.Ytlcepokenaiggab

/-! Ru5 -/
namespace Go.Proofs.Ytlcepokenaiggab
open Go.RowKit

/-- Whether a rule of the program's list changes two letters. -/
def chI : Nat → Int → Int → Bool
  | 0, x, y => x == -y
  | 1, x, y => decide (0 < y) && decide (y < x)
  | 2, x, y => decide (x < 0) && decide (y < x)
  | 3, x, y => decide (x < 0) && decide (-x < y)
  | _, x, y => decide (0 < y) && decide (y < -x)
def rais (x : Int) : Int := if x < 0 then x - 1 else x + 1
def behI : Nat → Int → Int → List Int
  | 0, _, _ => []
  | 1, x, y => [y, rais x]
  | 2, x, y => [rais y, x]
  | 3, x, y => [rais y, x]
  | _, x, y => [y, rais x]
theorem rule_none {x y : Int} (h : ∀ j, j < 5 → chI j x y = false) : ruleO x y = none := by
  have h0 := h 0 (by omega)
  have h1 := h 1 (by omega)
  have h2 := h 2 (by omega)
  have h3 := h 3 (by omega)
  have h4 := h 4 (by omega)
  simp only [chI, beq_eq_false_iff_ne, Bool.and_eq_false_iff, decide_eq_false_iff_not] at h0 h1 h2 h3 h4
  unfold ruleO
  rw [if_neg h0, if_neg (by omega), if_neg (by omega), if_neg (by omega), if_neg (by omega)]
theorem rule_some {x y : Int} {j : Nat} (hj : j < 5) (h : ∀ i, i < j → chI i x y = false) (hc : chI j x y = true) : ruleO x y = some (behI j x y) := by
  match j, hj with
  | 0, _ =>
    simp only [chI, beq_iff_eq] at hc
    unfold ruleO
    rw [if_pos hc]
    rfl
  | 1, _ =>
    have h0 := h 0 (by omega)
    simp only [chI, beq_eq_false_iff_ne, Bool.and_eq_true, decide_eq_true_eq] at h0 hc
    show ruleO x y = some [y, rais x]
    unfold ruleO rais
    rw [if_neg h0, if_pos (by omega), if_neg (by omega)]
  | 2, _ =>
    have h0 := h 0 (by omega)
    simp only [chI, beq_eq_false_iff_ne, Bool.and_eq_true, decide_eq_true_eq] at h0 hc
    show ruleO x y = some [rais y, x]
    unfold ruleO rais
    rw [if_neg h0, if_neg (by omega), if_pos (by omega), if_pos (by omega)]
  | 3, _ =>
    have h0 := h 0 (by omega)
    simp only [chI, beq_eq_false_iff_ne, Bool.and_eq_true, decide_eq_true_eq] at h0 hc
    show ruleO x y = some [rais y, x]
    unfold ruleO rais
    rw [if_neg h0, if_neg (by omega), if_neg (by omega), if_pos (by omega), if_neg (by omega)]
  | 4, _ =>
    have h0 := h 0 (by omega)
    have h1 := h 1 (by omega)
    simp only [chI, beq_eq_false_iff_ne, Bool.and_eq_true, Bool.and_eq_false_iff, decide_eq_true_eq, decide_eq_false_iff_not] at h0 h1 hc
    show ruleO x y = some [y, rais x]
    unfold ruleO rais
    rw [if_neg h0, if_neg (by omega), if_neg (by omega), if_neg (by omega), if_pos (by omega), if_pos (by omega)]

theorem changes0_any (x y : Int) (w : World) (_h1 : -1000 ≤ x) (_h2 : x ≤ 1000) (_h3 : -1000 ≤ y) (_h4 : y ≤ 1000) : Calls Try.prog 55 #[.agg #[], .int .i64 x, .int .i64 y] w (Gives (.bool (chI 0 x y)) w) := by
  have hb := nxAlloc (Below.refl w.heap.size w) (.cells #[] 44 (0, 0))
  show Calls _ _ _ _ (Gives (.bool (x == -y)) w)
  go_enter Try.func55, Try.ntmps55
  go_wp2_with fail
  go_ret
  exact ⟨rfl, hb⟩

theorem changes1_any (x y : Int) (w : World) (_h1 : -1000 ≤ x) (_h2 : x ≤ 1000) (_h3 : -1000 ≤ y) (_h4 : y ≤ 1000) : Calls Try.prog 56 #[.agg #[], .int .i64 x, .int .i64 y] w (Gives (.bool (chI 1 x y)) w) := by
  have hb := nxAlloc (Below.refl w.heap.size w) (.cells #[] 45 (0, 0))
  show Calls _ _ _ _ (Gives (.bool (decide (0 < y) && decide (y < x))) w)
  by_cases h : 0 < y
  · rw [decide_eq_true h, Bool.true_and]
    go_enter Try.func56, Try.ntmps56
    go_wp2_with fail
    go_ret
    exact ⟨rfl, hb⟩
  · rw [decide_eq_false h, Bool.false_and]
    go_enter Try.func56, Try.ntmps56
    go_wp2_with fail
    go_ret
    exact ⟨rfl, hb⟩

theorem changes2_any (x y : Int) (w : World) (_h1 : -1000 ≤ x) (_h2 : x ≤ 1000) (_h3 : -1000 ≤ y) (_h4 : y ≤ 1000) : Calls Try.prog 57 #[.agg #[], .int .i64 x, .int .i64 y] w (Gives (.bool (chI 2 x y)) w) := by
  have hb := nxAlloc (Below.refl w.heap.size w) (.cells #[] 46 (0, 0))
  show Calls _ _ _ _ (Gives (.bool (decide (x < 0) && decide (y < x))) w)
  by_cases h : x < 0
  · rw [decide_eq_true h, Bool.true_and]
    go_enter Try.func57, Try.ntmps57
    go_wp2_with fail
    go_ret
    exact ⟨rfl, hb⟩
  · rw [decide_eq_false h, Bool.false_and]
    go_enter Try.func57, Try.ntmps57
    go_wp2_with fail
    go_ret
    exact ⟨rfl, hb⟩

theorem changes3_any (x y : Int) (w : World) (_h1 : -1000 ≤ x) (_h2 : x ≤ 1000) (_h3 : -1000 ≤ y) (_h4 : y ≤ 1000) : Calls Try.prog 58 #[.agg #[], .int .i64 x, .int .i64 y] w (Gives (.bool (chI 3 x y)) w) := by
  have hb := nxAlloc (Below.refl w.heap.size w) (.cells #[] 47 (0, 0))
  show Calls _ _ _ _ (Gives (.bool (decide (x < 0) && decide (-x < y))) w)
  by_cases h : x < 0
  · rw [decide_eq_true h, Bool.true_and]
    go_enter Try.func58, Try.ntmps58
    go_wp2_with fail
    go_ret
    exact ⟨rfl, hb⟩
  · rw [decide_eq_false h, Bool.false_and]
    go_enter Try.func58, Try.ntmps58
    go_wp2_with fail
    go_ret
    exact ⟨rfl, hb⟩

theorem changes4_any (x y : Int) (w : World) (_h1 : -1000 ≤ x) (_h2 : x ≤ 1000) (_h3 : -1000 ≤ y) (_h4 : y ≤ 1000) : Calls Try.prog 59 #[.agg #[], .int .i64 x, .int .i64 y] w (Gives (.bool (chI 4 x y)) w) := by
  have hb := nxAlloc (Below.refl w.heap.size w) (.cells #[] 48 (0, 0))
  show Calls _ _ _ _ (Gives (.bool (decide (0 < y) && decide (y < -x))) w)
  by_cases h : 0 < y
  · rw [decide_eq_true h, Bool.true_and]
    go_enter Try.func59, Try.ntmps59
    go_wp2_with fail
    go_ret
    exact ⟨rfl, hb⟩
  · rw [decide_eq_false h, Bool.false_and]
    go_enter Try.func59, Try.ntmps59
    go_wp2_with fail
    go_ret
    exact ⟨rfl, hb⟩

theorem raised1_any (x : Int) (w : World) (h1 : -1000 ≤ x) (h2 : x ≤ 1000) : Calls Try.prog 39 #[.int .i64 x, .int .i64 1] w fun e w' => e = .returned (.int .i64 (rais x)) ∧ w = w' := by
  have h := raised_any x 1 w h1 h2 (by omega) (by omega)
  exact h
/-- The rules as values. -/
def ruleV : Nat → Value
  | 0 => .iface 44 (.agg #[])
  | 1 => .iface 45 (.agg #[])
  | 2 => .iface 46 (.agg #[])
  | 3 => .iface 47 (.agg #[])
  | _ => .iface 48 (.agg #[])
theorem rule_cells (w : World) (t : TypeId) (j : Nat) (h : j < 5) : (w.alloc (.cells #[ruleV 0, ruleV 1, ruleV 2, ruleV 3, ruleV 4] t (0, 0))).cell? ⟨w.heap.size, j, none⟩ = some (ruleV j) := by
  have hb : (w.alloc (.cells #[ruleV 0, ruleV 1, ruleV 2, ruleV 3, ruleV 4] t (0, 0))).heap[w.heap.size]? = some (.cells #[ruleV 0, ruleV 1, ruleV 2, ruleV 3, ruleV 4] t (0, 0)) := by show (w.heap.push _)[w.heap.size]? = _; simp
  show ((match (w.alloc (.cells #[ruleV 0, ruleV 1, ruleV 2, ruleV 3, ruleV 4] t (0, 0))).heap[w.heap.size]? with
    | some (.cells c _ _) => c[j]?
    | _ => none) : Option Value) = _
  rw [hb]
  match j, h with
  | 0, _ => rfl
  | 1, _ => rfl
  | 2, _ => rfl
  | 3, _ => rfl
  | 4, _ => rfl
theorem allRules_any (w : World) : Calls Try.prog 32 #[] w fun e w' => e = .returned (.slice (some ⟨w.heap.size, 0, none⟩) 5 5) ∧ (∀ j, j < 5 → w'.cell? ⟨w.heap.size, j, none⟩ = some (ruleV j)) ∧ w.heap.size < w'.heap.size ∧ Below w.heap.size w w' := by
  have hc := rule_cells w 37
  have hb := nxAlloc (Below.refl w.heap.size w) (.cells #[ruleV 0, ruleV 1, ruleV 2, ruleV 3, ruleV 4] 37 (0, 0))
  unfold ruleV at hb
  go_enter Try.func32, Try.ntmps32
  go_wp2_with fail
  go_ret
  exact ⟨rfl, hc, by simp, hb⟩

theorem behindRule0_any (x y : Int) (w : World) (_h1 : -1000 ≤ x) (_h2 : x ≤ 1000) (_h3 : -1000 ≤ y) (_h4 : y ≤ 1000) : Calls Try.prog 34 #[.iface 44 (.agg #[]), .int .i64 x, .int .i64 y] w (GivesInts (behI 0 x y) w) := by
  have ta1 : ∀ w : World, (Instr.typeAssert (.iface 44 (.agg #[])) 37 45 true).run Try.prog w = .ok (.tuple #[.agg #[], .bool false]) w := fun w => by kernel_rfl
  have ta4 : ∀ w : World, (Instr.typeAssert (.iface 44 (.agg #[])) 37 48 true).run Try.prog w = .ok (.tuple #[.agg #[], .bool false]) w := fun w => by kernel_rfl
  have ta2 : ∀ w : World, (Instr.typeAssert (.iface 44 (.agg #[])) 37 46 true).run Try.prog w = .ok (.tuple #[.agg #[], .bool false]) w := fun w => by kernel_rfl
  have ta3 : ∀ w : World, (Instr.typeAssert (.iface 44 (.agg #[])) 37 47 true).run Try.prog w = .ok (.tuple #[.agg #[], .bool false]) w := fun w => by kernel_rfl
  go_enter Try.func34, Try.ntmps34
  go_wp2_with fail
  go_ret
  exact ⟨_, OwnI.nil _ _, Below.refl _ _, rfl⟩

theorem behindRule1_any (x y : Int) (w : World) (_h1 : -1000 ≤ x) (_h2 : x ≤ 1000) (_h3 : -1000 ≤ y) (_h4 : y ≤ 1000) : Calls Try.prog 34 #[.iface 45 (.agg #[]), .int .i64 x, .int .i64 y] w (GivesInts (behI 1 x y) w) := by
  have hR := fun w => raised1_any x w (by omega) (by omega)
  have hl := fun w : World => World.ownsRow_lit (base := w.heap.size) (e := 3) (size := 1) w #[.int .i64 y, .int .i64 (rais x)] 2 (Nat.le_refl _) (by unfold maxLen; omega) rfl
  have hb := fun w : World => nxAlloc (Below.refl w.heap.size w) (.cells #[.int .i64 y, .int .i64 (rais x)] 3 (0, 0))
  show Calls _ _ _ _ (GivesInts [y, rais x] w)
  generalize rais x = r at *
  have ta1 : ∀ w : World, (Instr.typeAssert (.iface 45 (.agg #[])) 37 45 true).run Try.prog w = .ok (.tuple #[.agg #[], .bool true]) w := fun w => by kernel_rfl
  have ta4 : ∀ w : World, (Instr.typeAssert (.iface 45 (.agg #[])) 37 48 true).run Try.prog w = .ok (.tuple #[.agg #[], .bool false]) w := fun w => by kernel_rfl
  go_enter Try.func34, Try.ntmps34
  go_wp2_with fail
  refine (hR _).mono ?_; rintro e w1 ⟨rfl, rfl⟩
  go_wp2_with fail
  go_ret
  exact ⟨_, hl _, hb _, rfl⟩

theorem behindRule2_any (x y : Int) (w : World) (_h1 : -1000 ≤ x) (_h2 : x ≤ 1000) (_h3 : -1000 ≤ y) (_h4 : y ≤ 1000) : Calls Try.prog 34 #[.iface 46 (.agg #[]), .int .i64 x, .int .i64 y] w (GivesInts (behI 2 x y) w) := by
  have hR := fun w => raised1_any y w (by omega) (by omega)
  have hl := fun w : World => World.ownsRow_lit (base := w.heap.size) (e := 3) (size := 1) w #[.int .i64 (rais y), .int .i64 x] 2 (Nat.le_refl _) (by unfold maxLen; omega) rfl
  have hb := fun w : World => nxAlloc (Below.refl w.heap.size w) (.cells #[.int .i64 (rais y), .int .i64 x] 3 (0, 0))
  show Calls _ _ _ _ (GivesInts [rais y, x] w)
  generalize rais y = r at *
  have ta1 : ∀ w : World, (Instr.typeAssert (.iface 46 (.agg #[])) 37 45 true).run Try.prog w = .ok (.tuple #[.agg #[], .bool false]) w := fun w => by kernel_rfl
  have ta4 : ∀ w : World, (Instr.typeAssert (.iface 46 (.agg #[])) 37 48 true).run Try.prog w = .ok (.tuple #[.agg #[], .bool false]) w := fun w => by kernel_rfl
  have ta2 : ∀ w : World, (Instr.typeAssert (.iface 46 (.agg #[])) 37 46 true).run Try.prog w = .ok (.tuple #[.agg #[], .bool true]) w := fun w => by kernel_rfl
  have ta3 : ∀ w : World, (Instr.typeAssert (.iface 46 (.agg #[])) 37 47 true).run Try.prog w = .ok (.tuple #[.agg #[], .bool false]) w := fun w => by kernel_rfl
  go_enter Try.func34, Try.ntmps34
  go_wp2_with fail
  refine (hR _).mono ?_; rintro e w1 ⟨rfl, rfl⟩
  go_wp2_with fail
  go_ret
  exact ⟨_, hl _, hb _, rfl⟩

theorem behindRule3_any (x y : Int) (w : World) (_h1 : -1000 ≤ x) (_h2 : x ≤ 1000) (_h3 : -1000 ≤ y) (_h4 : y ≤ 1000) : Calls Try.prog 34 #[.iface 47 (.agg #[]), .int .i64 x, .int .i64 y] w (GivesInts (behI 3 x y) w) := by
  have hR := fun w => raised1_any y w (by omega) (by omega)
  have hl := fun w : World => World.ownsRow_lit (base := w.heap.size) (e := 3) (size := 1) w #[.int .i64 (rais y), .int .i64 x] 2 (Nat.le_refl _) (by unfold maxLen; omega) rfl
  have hb := fun w : World => nxAlloc (Below.refl w.heap.size w) (.cells #[.int .i64 (rais y), .int .i64 x] 3 (0, 0))
  show Calls _ _ _ _ (GivesInts [rais y, x] w)
  generalize rais y = r at *
  have ta1 : ∀ w : World, (Instr.typeAssert (.iface 47 (.agg #[])) 37 45 true).run Try.prog w = .ok (.tuple #[.agg #[], .bool false]) w := fun w => by kernel_rfl
  have ta4 : ∀ w : World, (Instr.typeAssert (.iface 47 (.agg #[])) 37 48 true).run Try.prog w = .ok (.tuple #[.agg #[], .bool false]) w := fun w => by kernel_rfl
  have ta2 : ∀ w : World, (Instr.typeAssert (.iface 47 (.agg #[])) 37 46 true).run Try.prog w = .ok (.tuple #[.agg #[], .bool false]) w := fun w => by kernel_rfl
  have ta3 : ∀ w : World, (Instr.typeAssert (.iface 47 (.agg #[])) 37 47 true).run Try.prog w = .ok (.tuple #[.agg #[], .bool true]) w := fun w => by kernel_rfl
  go_enter Try.func34, Try.ntmps34
  go_wp2_with fail
  refine (hR _).mono ?_; rintro e w1 ⟨rfl, rfl⟩
  go_wp2_with fail
  go_ret
  exact ⟨_, hl _, hb _, rfl⟩

theorem behindRule4_any (x y : Int) (w : World) (_h1 : -1000 ≤ x) (_h2 : x ≤ 1000) (_h3 : -1000 ≤ y) (_h4 : y ≤ 1000) : Calls Try.prog 34 #[.iface 48 (.agg #[]), .int .i64 x, .int .i64 y] w (GivesInts (behI 4 x y) w) := by
  have hR := fun w => raised1_any x w (by omega) (by omega)
  have hl := fun w : World => World.ownsRow_lit (base := w.heap.size) (e := 3) (size := 1) w #[.int .i64 y, .int .i64 (rais x)] 2 (Nat.le_refl _) (by unfold maxLen; omega) rfl
  have hb := fun w : World => nxAlloc (Below.refl w.heap.size w) (.cells #[.int .i64 y, .int .i64 (rais x)] 3 (0, 0))
  show Calls _ _ _ _ (GivesInts [y, rais x] w)
  generalize rais x = r at *
  have ta1 : ∀ w : World, (Instr.typeAssert (.iface 48 (.agg #[])) 37 45 true).run Try.prog w = .ok (.tuple #[.agg #[], .bool false]) w := fun w => by kernel_rfl
  have ta4 : ∀ w : World, (Instr.typeAssert (.iface 48 (.agg #[])) 37 48 true).run Try.prog w = .ok (.tuple #[.agg #[], .bool true]) w := fun w => by kernel_rfl
  go_enter Try.func34, Try.ntmps34
  go_wp2_with fail
  refine (hR _).mono ?_; rintro e w1 ⟨rfl, rfl⟩
  go_wp2_with fail
  go_ret
  exact ⟨_, hl _, hb _, rfl⟩
end Go.Proofs.Ytlcepokenaiggab

/-! Ru1 -/
namespace Go.Proofs.Ytlcepokenaiggab
open Go.RowKit

set_option maxRecDepth 100000 in
set_option maxHeartbeats 2000000 in
theorem wdRule_any (x y : Int) (w : World) (hx : -1000 ≤ x) (hx2 : x ≤ 1000) (hy : -1000 ≤ y) (hy2 : y ≤ 1000) :
    Calls Try.prog 31 #[.int .i64 x, .int .i64 y] w (AnsI2 ((ruleO x y).getD []) (ruleO x y).isSome w) := by
  by_cases c1 : x = -y
  · rw [show ruleO x y = some [] by unfold ruleO; rw [if_pos c1]]
    have e1 : (x == -y) = true := by simp [c1]
    go_enter Try.func31, Try.ntmps31
    go_wp2_with fail
    go_ret2
    exact ⟨_, OwnI.nil _ _, Below.refl _ _, rfl⟩
  have e1 : (x == -y) = false := by simp [c1]
  by_cases c2 : x > 0 ∧ y > 0 ∧ y < x
  · rw [show ruleO x y = some [y, x + 1] by unfold ruleO; rw [if_neg c1, if_pos c2]]
    obtain ⟨d1, d2, d3⟩ := c2
    clear c1
    have hl := World.ownsRow_lit (base := w.heap.size) (e := 3) (size := 1) w #[.int .i64 (y), .int .i64 (x + 1)] 2 (Nat.le_refl _) (by unfold maxLen; omega) rfl
    go_enter Try.func31, Try.ntmps31
    go_wp2_with fail
    go_ret2
    exact ⟨_, hl, nxAlloc (Below.refl _ _) _, rfl⟩
  by_cases c3 : x < 0 ∧ y < 0 ∧ -x < -y
  · rw [show ruleO x y = some [y - 1, x] by unfold ruleO; rw [if_neg c1, if_neg c2, if_pos c3]]
    obtain ⟨d1, d2, d3⟩ := c3
    clear c1 c2
    have hl := World.ownsRow_lit (base := w.heap.size) (e := 3) (size := 1) w #[.int .i64 (y - 1), .int .i64 (x)] 2 (Nat.le_refl _) (by unfold maxLen; omega) rfl
    go_enter Try.func31, Try.ntmps31
    go_wp2_with fail
    go_ret2
    exact ⟨_, hl, nxAlloc (Below.refl _ _) _, rfl⟩
  by_cases c4 : x < 0 ∧ 0 < y ∧ -x < y
  · rw [show ruleO x y = some [y + 1, x] by unfold ruleO; rw [if_neg c1, if_neg c2, if_neg c3, if_pos c4]]
    obtain ⟨d1, d2, d3⟩ := c4
    clear c1 c2 c3
    have hl := World.ownsRow_lit (base := w.heap.size) (e := 3) (size := 1) w #[.int .i64 (y + 1), .int .i64 (x)] 2 (Nat.le_refl _) (by unfold maxLen; omega) rfl
    go_enter Try.func31, Try.ntmps31
    go_wp2_with fail
    go_ret2
    exact ⟨_, hl, nxAlloc (Below.refl _ _) _, rfl⟩
  by_cases c5 : x < 0 ∧ 0 < y ∧ y < -x
  · rw [show ruleO x y = some [y, x - 1] by unfold ruleO; rw [if_neg c1, if_neg c2, if_neg c3, if_neg c4, if_pos c5]]
    obtain ⟨d1, d2, d3⟩ := c5
    clear c1 c2 c3 c4
    have hl := World.ownsRow_lit (base := w.heap.size) (e := 3) (size := 1) w #[.int .i64 (y), .int .i64 (x - 1)] 2 (Nat.le_refl _) (by unfold maxLen; omega) rfl
    go_enter Try.func31, Try.ntmps31
    go_wp2_with fail
    go_ret2
    exact ⟨_, hl, nxAlloc (Below.refl _ _) _, rfl⟩
  rw [show ruleO x y = none by unfold ruleO; rw [if_neg c1, if_neg c2, if_neg c3, if_neg c4, if_neg c5]]
  show Calls _ _ _ _ (AnsI2 [] false w)
  by_cases hx0 : 0 < x
  · by_cases hy0 : 0 < y
    · have d : ¬ y < x := by omega
      have d2 : ¬ x < 0 := by omega
      clear c1 c2 c3 c4 c5
      go_enter Try.func31, Try.ntmps31
      go_wp2_with fail
      go_ret2
      exact ⟨_, OwnI.nil _ _, Below.refl _ _, rfl⟩
    · have d2 : ¬ x < 0 := by omega
      clear c1 c2 c3 c4 c5
      go_enter Try.func31, Try.ntmps31
      go_wp2_with fail
      go_ret2
      exact ⟨_, OwnI.nil _ _, Below.refl _ _, rfl⟩
  · by_cases hx1 : x < 0
    · by_cases hy0 : 0 < y
      · have d : ¬ -x < y := by omega
        have d2 : ¬ y < -x := by omega
        have d3 : ¬ y < 0 := by omega
        clear c1 c2 c3 c4 c5
        go_enter Try.func31, Try.ntmps31
        go_wp2_with fail
        go_ret2
        exact ⟨_, OwnI.nil _ _, Below.refl _ _, rfl⟩
      · by_cases hy1 : y < 0
        · have d : ¬ -x < -y := by omega
          clear c1 c2 c3 c4 c5
          go_enter Try.func31, Try.ntmps31
          go_wp2_with fail
          go_ret2
          exact ⟨_, OwnI.nil _ _, Below.refl _ _, rfl⟩
        · clear c1 c2 c3 c4 c5
          go_enter Try.func31, Try.ntmps31
          go_wp2_with fail
          go_ret2
          exact ⟨_, OwnI.nil _ _, Below.refl _ _, rfl⟩
    · clear c1 c2 c3 c4 c5
      go_enter Try.func31, Try.ntmps31
      go_wp2_with fail
      go_ret2
      exact ⟨_, OwnI.nil _ _, Below.refl _ _, rfl⟩
end Go.Proofs.Ytlcepokenaiggab

/-! Src -/
namespace Go.Proofs.Ytlcepokenaiggab
open Go.RowKit

theorem CellsS.form0 {b1 : Nat} {w : World} {v : Value} {xs : List ByteArray} (h : CellsS b1 w v xs) :
    ∃ oa cap, v = .slice oa xs.length cap ∧ xs.length ≤ cap ∧ cap ≤ maxLen ∧ ∀ i, i < xs.length → ∃ g, oa = some ⟨g, 0, none⟩ ∧ b1 ≤ g ∧ g < w.heap.size ∧ w.cell? ⟨g, i, none⟩ = some (.string (xs.getD i ⟨#[]⟩)) := by
  rcases h with ⟨rfl, rfl⟩ | ⟨g, cap, rfl, h1, h2, h3, h4, h5, _⟩
  · exact ⟨none, 0, rfl, Nat.le_refl _, Nat.zero_le _, fun i hi => by simp at hi⟩
  · exact ⟨some ⟨g, 0, none⟩, cap, rfl, h3, h4, fun i hi => ⟨g, rfl, h1, h2, h5 i hi⟩⟩

theorem CellsS.at1 {b1 : Nat} {w : World} {g n cap : Nat} {ss : List ByteArray} (h : CellsS b1 w (.slice (some ⟨g, 0, none⟩) n cap) ss) {i : Nat} {t : ByteArray} (hi : ss[i]? = some t) : w.cell? ⟨g, i, none⟩ = some (.string t) := by
  rcases h with ⟨h, _⟩ | ⟨g', cap', h, _, _, _, _, hc, _⟩
  · cases h
  · cases h
    have hl := (List.getElem?_eq_some_iff.1 hi).1
    rw [hc i hl]
    simp [List.getD_eq_getElem?_getD, hi]

/-- A slice value from which the cells ys can be read. -/
def SrcV (w : World) (u : Value) (ys : List Value) : Prop :=
  (u = .slice none 0 0 ∧ ys = []) ∨ ∃ ad c, u = .slice (some ad) ys.length c ∧ ∀ j x, ys[j]? = some x → w.cell? (ad.add j) = some x

theorem SrcV.keep {w w' : World} {u : Value} {ys : List Value} (h : SrcV w u ys) (hb : Below w.heap.size w w') : SrcV w' u ys := by
  rcases h with h | ⟨ad, c, h1, h2⟩
  · exact .inl h
  · refine .inr ⟨ad, c, h1, fun j x hj => ?_⟩
    have hc := h2 j x hj
    exact (hb.cell (World.block_lt_of_cell? w _ hc)).trans hc

theorem wpList_appSrc {P : Program} {w : World} {ops : Array Oper} {rest : List Oper} {o : Oper} {a : Act} {Q : Exit → Act → World → Prop} (hgd : o.guard = none) (s x : Operand) (t : TypeId)
    (ho : o.op = .call { callee := .builtin .append, args := #[s, x], argTypes := #[t, t] })
    (base : Nat) (e : TypeId) (i : TypeInfo) (z : Value) (bytes : Nat) (ht : P.underlying t = some (.slice e)) (hi : P.info? e = some i) (hz : i.zero = some z)
    (hsize : i.size = 1) (hby : i.bytes = bytes) (hzs : z.cells.size = 1)
    (v : Value) (n : Nat) (xs : List Value) (hs : a.eval s = v) (hown : w.ownsRow base e 1 v n xs)
    (u : Value) (ys : List Value) (hx : a.eval x = u) (hsrc : SrcV w u ys) (h1 : ∀ y ∈ ys, y.oneCell' = true)
    (h63 : n + ys.length ≤ maxLen) (hbytes : (n + ys.length) * bytes ≤ 140737488355328) (hbase : base ≤ w.heap.size)
    (h : ∀ v' w', w'.ownsRow base e 1 v' (n + ys.length) (xs ++ ys) → Below base w w' → (v' = .slice none 0 0 → v = .slice none 0 0) → wpList P ops Q rest (a.put o.dst v') w') : wpList P ops Q (o :: rest) a w := by
  rcases hsrc with ⟨rfl, rfl⟩ | ⟨ad, c, rfl, hc⟩
  · refine wpList_append_own_none hgd s x t ho base e i 1 ht hi v n xs hs hown hx ?_
    exact h v w (by simpa using hown) (Below.refl _ _) id
  · refine wpList_append_own w hgd s x t ho base e i z 1 bytes ht hi hz hsize hby hzs (by decide) v n xs hs hown ad ys.length c ys hx (by simp) hc h1 h63 hbytes hbase ?_
    intro v' w' hown' hg hn
    exact h v' w' hown' ((Below.refl base w).grown hg hbase (fun k hk => ownsRow_ge hown k hk)) (fun e => (hn.1 e).1)

theorem row_shape {w : World} {base : Nat} {e : TypeId} {size : Nat} {v : Value} {n : Nat} {xs : List Value} (h : w.ownsRow base e size v n xs) (hn : v ≠ .slice none 0 0) : ∃ g cap, v = .slice (some ⟨g, 0, none⟩) n cap ∧ base ≤ g := by
  rcases h.2 with ⟨hv, _⟩ | ⟨g, cap, cur, hv, hb, _⟩
  · exact absurd hv hn
  · exact ⟨g, cap, hv, hb⟩

/-- An empty slice in a block of its own. -/
theorem ownsRow_empty (w : World) (e : TypeId) : (w.alloc (.cells #[] e (0, 0))).ownsRow w.heap.size e 1 (.slice (some ⟨w.heap.size, 0, none⟩) 0 0) 0 [] :=
  World.ownsRow_made w #[] 0 (Nat.le_refl _) (Nat.zero_le _) rfl

/-- The parts of a slice of the call's own, as sources. -/
theorem src_take {base : Nat} {w : World} {e : TypeId} {g n cap : Nat} {xs : List Value} (h : w.ownsRow base e 1 (.slice (some ⟨g, 0, none⟩) n cap) n xs) (k : Nat) (hk : k ≤ n) (c : Nat) : SrcV w (.slice (some ⟨g, 0, none⟩) k c) (xs.take k) := by
  have hl := h.1
  refine .inr ⟨_, c, by rw [List.length_take]; congr 1; omega, fun j x hj => ?_⟩
  have hj' := (List.getElem?_eq_some_iff.1 hj).1
  rw [List.length_take] at hj'
  rw [List.getElem?_take_of_lt (by omega)] at hj
  rw [addr_add, World.ownsRow.cellAt h j (by omega)]
  exact hj
theorem src_drop {base : Nat} {w : World} {e : TypeId} {g n cap : Nat} {xs : List Value} (h : w.ownsRow base e 1 (.slice (some ⟨g, 0, none⟩) n cap) n xs) (k : Nat) (hk : k ≤ n) (c : Nat) : SrcV w (.slice (some ⟨g, k, none⟩) (n - k) c) (xs.drop k) := by
  have hl := h.1
  refine .inr ⟨_, c, by rw [List.length_drop]; congr 1; omega, fun j x hj => ?_⟩
  have hj' := (List.getElem?_eq_some_iff.1 hj).1
  rw [List.length_drop] at hj'
  rw [List.getElem?_drop] at hj
  have ea : (⟨g, k, none⟩ : Addr).add j = ⟨g, k + j, none⟩ := by
    unfold Addr.add
    split
    · next h0 => rw [h0]; simp
    · rfl
  rw [ea, World.ownsRow.cellAt h (k + j) (by omega)]
  exact hj
theorem src_cells {b1 : Nat} {w : World} {g n cap : Nat} {xs : List ByteArray} (h : CellsS b1 w (.slice (some ⟨g, 0, none⟩) n cap) xs) (k : Nat) (hk : k ≤ xs.length) (c : Nat) : SrcV w (.slice (some ⟨g, 0, none⟩) k c) ((xs.take k).map Value.string) := by
  rcases h with ⟨h, _⟩ | ⟨g', cap', h, _, _, _, _, hc, _⟩
  · cases h
  · cases h
    refine .inr ⟨_, c, by rw [List.length_map, List.length_take]; congr 1; omega, fun j x hj => ?_⟩
    have hj' := (List.getElem?_eq_some_iff.1 hj).1
    rw [List.length_map, List.length_take] at hj'
    rw [List.getElem?_map, List.getElem?_take_of_lt (by omega), List.getElem?_eq_getElem (by omega)] at hj
    have hx := hc j (by omega)
    rw [List.getD_eq_getElem?_getD, List.getElem?_eq_getElem (by omega)] at hx
    rw [addr_add, hx]
    exact hj
theorem src_end {w : World} (a : Option Addr) (c : Nat) (h : a = none → c = 0) : SrcV w (.slice a 0 c) [] := by
  cases a with
  | none => rw [h rfl]; exact .inl ⟨rfl, rfl⟩
  | some ad => exact .inr ⟨ad, c, rfl, fun j x hj => by simp at hj⟩
end Go.Proofs.Ytlcepokenaiggab

/-! Ru2 -/
namespace Go.Proofs.Ytlcepokenaiggab
open Go.RowKit

/-- A call that hands back a slice in a block of the call's own. -/
def GivesBlk (L : List Int) (w : World) (e : Ending) (w' : World) : Prop :=
  ∃ g cap, OwnI w.heap.size w' (.slice (some ⟨g, 0, none⟩) L.length cap) L ∧ Below w.heap.size w w' ∧ e = .returned (.slice (some ⟨g, 0, none⟩) L.length cap)
set_option maxRecDepth 100000 in
set_option maxHeartbeats 2000000 in
theorem l1Own_any (u : Value) (L : List Int) (w : World) (hs : SrcV w u (L.map (Value.int .i64))) (hn : L.length ≤ 1000) :
    Calls Try.prog 29 #[u] w (GivesBlk L w) := by
  obtain ⟨i0, hi, hz0, hz1, hz2⟩ := info_parts info_int
  have hown := ownsRow_empty w 3
  have hsA := hs.keep ((Below.refl w.heap.size w).alloc (Nat.le_refl _) (.cells #[] 3 (0, 0)))
  have hlen : (L.map (Value.int .i64)).length = L.length := by simp
  have h1 : ∀ y ∈ L.map (Value.int .i64), y.oneCell' = true := by
    intro y hy
    rw [List.mem_map] at hy
    obtain ⟨k, _, rfl⟩ := hy
    rfl
  clear hs
  go_enter Try.func29, Try.ntmps29
  go_wp2_with (at_builtin; refine wpList_appSrc rfl _ _ 22 rfl w.heap.size 3 i0 (.int .i64 0) 8 Try.underlying22 hi hz0 hz1 hz2 rfl _ 0 _ rfl hown _ _ rfl hsA h1 (by rw [hlen]; unfold maxLen; omega) (by rw [hlen]; omega) (by simp) ?_; intro v' w1 hown1 hb1 hnn)
  have hb1' := ((Below.refl w.heap.size w).alloc (Nat.le_refl _) _).trans hb1
  rw [hlen, Nat.zero_add, List.nil_append] at hown1
  obtain ⟨g, cap, rfl, hg⟩ := row_shape hown1 (fun h => by have := hnn h; cases this)
  go_wp2_with fail
  go_ret
  exact ⟨g, cap, hown1, hb1', rfl⟩
end Go.Proofs.Ytlcepokenaiggab

/-! Ru3 -/
namespace Go.Proofs.Ytlcepokenaiggab
open Go.RowKit

theorem step_appSrc {P : Program} {w : World} {ops : Array Oper} {o : Oper} {a : Act} {K : Act → World → Prop} {Q : Exit → Act → World → Prop} {E : Prop} (hgd : o.guard = none) (s x : Operand) (t : TypeId)
    (ho : o.op = .call { callee := .builtin .append, args := #[s, x], argTypes := #[t, t] })
    (base : Nat) (e : TypeId) (i : TypeInfo) (z : Value) (bytes : Nat) (ht : P.underlying t = some (.slice e)) (hi : P.info? e = some i) (hz : i.zero = some z)
    (hsize : i.size = 1) (hby : i.bytes = bytes) (hzs : z.cells.size = 1)
    (v : Value) (n : Nat) (xs : List Value) (hs : a.eval s = v) (hown : w.ownsRow base e 1 v n xs)
    (u : Value) (ys : List Value) (hx : a.eval x = u) (hsrc : SrcV w u ys) (h1 : ∀ y ∈ ys, y.oneCell' = true)
    (h63 : n + ys.length ≤ maxLen) (hbytes : (n + ys.length) * bytes ≤ 140737488355328) (hbase : base ≤ w.heap.size)
    (h : ∀ v' w', w'.ownsRow base e 1 v' (n + ys.length) (xs ++ ys) → Below base w w' → K (a.put o.dst v') w') :
    if Region.wanted o (yielded ops a.tmps) = true then Oper.wp P o a w K Q else E := by
  rw [if_pos (by simp [Region.wanted, hgd])]
  rcases hsrc with ⟨rfl, rfl⟩ | ⟨ad, c, rfl, hc⟩
  · have hrun := run_append_owned_none (P := P) (w := w) base t o.type e i 1 ht hi v n xs hown
    unfold Oper.wp
    simp [execOp, ho, resolve, invoke, builtin, hs, hx, hrun, Result.andThen]
    exact h v w (by simpa using hown) (Below.refl _ _)
  · exact wp_append_own w s x t ho base e i z 1 bytes ht hi hz hsize hby hzs (by decide) v n xs hs hown ad ys.length c ys hx (by simp) hc h1 h63 hbytes hbase fun v' w' hown' hg _ => h v' w' hown' ((Below.refl base w).grown hg hbase (fun k hk => ownsRow_ge hown k hk))
theorem one_ints (L : List Int) : ∀ y ∈ L.map (Value.int .i64), y.oneCell' = true := by
  intro y hy
  rw [List.mem_map] at hy
  obtain ⟨k, _, rfl⟩ := hy
  rfl
theorem OwnI.src {base : Nat} {w : World} {v : Value} {L : List Int} (h : OwnI base w v L) : SrcV w v (L.map (Value.int .i64)) := by
  rcases h.cells with ⟨rfl, rfl⟩ | ⟨g, cap, rfl, _, _, _, _, hx, _⟩
  · exact .inl ⟨rfl, rfl⟩
  · refine .inr ⟨⟨g, 0, none⟩, cap, by simp, fun j x hj => ?_⟩
    have hj' : j < L.length := by have := (List.getElem?_eq_some_iff.1 hj).1; simpa using this
    rw [addr_add, hx j hj', ← hj]
    simp [hj']
/-- The part of a word in front of a place, and that behind. -/
theorem word_front {w : World} {g cap j : Nat} {L : List Int} (hj : j ≤ L.length) (hx : ∀ i, i < L.length → w.cell? ⟨g, i, none⟩ = some (.int .i64 (L.getD i 0))) : SrcV w (.slice (some ⟨g, 0, none⟩) j cap) ((L.take j).map (Value.int .i64)) := by
  refine .inr ⟨_, cap, by rw [List.length_map, List.length_take]; congr 1; omega, fun i x hi => ?_⟩
  have hi' : i < (L.take j).length := by have := (List.getElem?_eq_some_iff.1 hi).1; simpa using this
  rw [List.length_take] at hi'
  rw [addr_add, hx i (by omega), ← hi]
  simp [show i < j by omega, show i < L.length by omega]
theorem word_back {w : World} {g cap j : Nat} {L : List Int} (hj : j ≤ L.length) (hx : ∀ i, i < L.length → w.cell? ⟨g, i, none⟩ = some (.int .i64 (L.getD i 0))) : SrcV w (.slice (some ⟨g, j, none⟩) (L.length - j) cap) ((L.drop j).map (Value.int .i64)) := by
  refine .inr ⟨_, cap, by rw [List.length_map, List.length_drop], fun i x hi => ?_⟩
  have hi' : i < (L.drop j).length := by have := (List.getElem?_eq_some_iff.1 hi).1; simpa using this
  rw [List.length_drop] at hi'
  have e : (⟨g, j, none⟩ : Addr).add i = ⟨g, j + i, none⟩ := by unfold Addr.add; split <;> simp_all
  rw [e, hx (j + i) (by omega), ← hi]
  simp [show j + i < L.length by omega]
end Go.Proofs.Ytlcepokenaiggab

/-! HeldW -/
namespace Go.Proofs.Ytlcepokenaiggab
open Go.RowKit

section
variable {P : Program} {ops : Array Oper} {Q : Exit → Act → World → Prop} {md : Region.Mode}

theorem held_mono {S S' : World → Prop} (hSS : ∀ w, S' w → S w) : ∀ (fuel : Nat) (listed : Array Bool) (a : Act) (w : World),
    wpAnyH P md ops Q S' fuel listed a w → wpAnyH P md ops Q S fuel listed a w
  | 0, _, _, _, h => h
  | fuel + 1, _, _, _, h => ⟨h.1, fun i hi => wpOp_mono (fun a' w' h' => ⟨hSS _ h'.1, held_mono hSS fuel _ a' w' h'.2⟩) (h.2 i hi)⟩

/-- One operation alone may come up; behind it the condition may be another one. -/
theorem held_one {S : World → Prop} {fuel : Nat} {listed : Array Bool} {a : Act} {w : World} (i : Nat) {o : Oper} (ho : ops[i]? = some o) (hr : Region.ready md ops listed = [i])
    (h : ∀ K' : Act → World → Prop, Shut (∀ (S' : World → Prop) a w, (∀ w, S' w → S w) → S' w → wpAnyH P md ops Q S' fuel (listed.setIfInBounds i true) a w → K' a w) → if Region.wanted o (yielded ops a.tmps) = true then Oper.wp P o a w K' Q else K' (a.put o.dst undef) w) :
    wpAnyH P md ops Q S (fuel + 1) listed a w :=
  wpAnyH_ready hr (by simp) (AllReadyH.cons ho (fun K hK => h K (fun _ a w hSS hS hW => hK.out a w (hSS _ hS) (fun _ => held_mono hSS _ _ _ _ hW))) AllReadyH.nil)
/-- Two operations may come up, whichever first. -/
theorem held_two {S : World → Prop} {fuel : Nat} {listed : Array Bool} {a : Act} {w : World} (i j : Nat) {oi oj : Oper} (hoi : ops[i]? = some oi) (hoj : ops[j]? = some oj) (hr : Region.ready md ops listed = [i, j])
    (h : ∀ K' : Act → World → Prop, Shut (∀ (S' : World → Prop) a w, (∀ w, S' w → S w) → S' w → wpAnyH P md ops Q S' fuel (listed.setIfInBounds i true) a w → K' a w) → if Region.wanted oi (yielded ops a.tmps) = true then Oper.wp P oi a w K' Q else K' (a.put oi.dst undef) w)
    (k : ∀ K' : Act → World → Prop, Shut (∀ (S' : World → Prop) a w, (∀ w, S' w → S w) → S' w → wpAnyH P md ops Q S' fuel (listed.setIfInBounds j true) a w → K' a w) → if Region.wanted oj (yielded ops a.tmps) = true then Oper.wp P oj a w K' Q else K' (a.put oj.dst undef) w) :
    wpAnyH P md ops Q S (fuel + 1) listed a w :=
  wpAnyH_ready hr (by simp) (AllReadyH.cons hoi (fun K hK => h K (fun _ a w hSS hS hW => hK.out a w (hSS _ hS) (fun _ => held_mono hSS _ _ _ _ hW)))
    (AllReadyH.cons hoj (fun K hK => k K (fun _ a w hSS hS hW => hK.out a w (hSS _ hS) (fun _ => held_mono hSS _ _ _ _ hW))) AllReadyH.nil))
end
end Go.Proofs.Ytlcepokenaiggab

/-! Pure -/
namespace Go.Proofs.Ytlcepokenaiggab

/-- The byte at an index of a text (0 behind its end). -/
def byteAt (s : ByteArray) (a : Int) : Int := if h : a.toNat < s.size then ((s[a.toNat]'h).toNat : Int) else 0

theorem byteAt_eq (s : ByteArray) (a : Int) (h : a.toNat < s.size) : byteAt s a = ((s[a.toNat]'h).toNat : Int) := by unfold byteAt; rw [dif_pos h]

/-- The index behind the tree at an index, or -1 (k: the depth that is left). -/
def endI : Nat → ByteArray → Int → Int
  | 0, _, _ => -1
  | k + 1, s, a =>
    if a < s.size then
      if byteAt s a = 46 then a + 1
      else if byteAt s a ≠ 40 then -1
      else if endI k s (a + 1) < 0 then -1
      else if endI k s (endI k s (a + 1)) < 0 then -1
      else if (s.size : Int) ≤ endI k s (endI k s (a + 1)) then -1
      else if byteAt s (endI k s (endI k s (a + 1))) ≠ 41 then -1
      else endI k s (endI k s (a + 1)) + 1
    else -1

theorem endI_le (k : Nat) : ∀ (s : ByteArray) (a : Int), 0 ≤ a → -1 ≤ endI k s a ∧ endI k s a ≤ s.size := by
  induction k with
  | zero => intro s a _; simp [endI]
  | succ k ih =>
    intro s a ha
    have h1 := ih s (a + 1) (by omega)
    have h2 := fun h => ih s (endI k s (a + 1)) h
    rw [endI]
    repeat' split
    all_goals first | omega | (have := h2 (by omega); omega)

/-- How many of the first k bytes are carets' beginnings. -/
def cnt (s : ByteArray) : Nat → Int
  | 0 => 0
  | k + 1 => cnt s k + if byteAt s k = 40 then 1 else 0

theorem cnt_le (s : ByteArray) (k : Nat) : 0 ≤ cnt s k ∧ cnt s k ≤ k := by
  induction k with
  | zero => simp [cnt]
  | succ k ih => rw [cnt]; split <;> omega

/-- The text is a tree, as the spec tells it. -/
def isTreeB (s : ByteArray) : Bool := decide ((s.size : Int) ≤ 33) && decide (cnt s s.size ≤ 8) && endI 61 s 0 == (s.size : Int)

theorem isTreeB_size {s : ByteArray} (h : isTreeB s = true) : s.size ≤ 33 := by
  unfold isTreeB at h; simp at h; omega

end Go.Proofs.Ytlcepokenaiggab

/-! Tr -/
namespace Go.Proofs.Ytlcepokenaiggab

inductive Tr where
  | lf
  | nd (l r : Tr)

namespace Tr
def text : Tr → List UInt8
  | lf => [46]
  | nd l r => 40 :: (l.text ++ (r.text ++ [41]))
def carets : Tr → Nat
  | lf => 0
  | nd l r => l.carets + r.carets + 1
def str (t : Tr) : ByteArray := ⟨t.text.toArray⟩
end Tr

theorem Tr.text_len (t : Tr) : t.text.length = 3 * t.carets + 1 := by
  induction t with
  | lf => rfl
  | nd l r ihl ihr => simp [Tr.text, Tr.carets, ihl, ihr]; omega

theorem Tr.str_list (t : Tr) : t.str.data.toList = t.text := by simp [Tr.str]
theorem Tr.str_size (t : Tr) : t.str.size = 3 * t.carets + 1 := by
  rw [← Tr.text_len]; show t.str.data.size = _; simp [Tr.str]
theorem ba_ext {a b : ByteArray} (h : a.data.toList = b.data.toList) : a = b := by
  cases a; cases b; simpa using h

/-- Reading a tree at the beginning of a text. -/
def parseN : Nat → List UInt8 → Option (Tr × List UInt8)
  | 0, _ => none
  | _ + 1, [] => none
  | k + 1, c :: r =>
    if c = 46 then some (.lf, r)
    else if c = 40 then
      match parseN k r with
      | none => none
      | some (t1, r1) =>
        match parseN k r1 with
        | none => none
        | some (t2, r2) =>
          match r2 with
          | [] => none
          | d :: r3 => if d = 41 then some (.nd t1 t2, r3) else none
    else none

theorem parseN_sound (k : Nat) : ∀ (l : List UInt8) (t : Tr) (r : List UInt8), parseN k l = some (t, r) → l = t.text ++ r := by
  induction k with
  | zero => intro l t r h; simp [parseN] at h
  | succ k ih =>
    intro l t r h
    match l with
    | [] => simp [parseN] at h
    | c :: l' =>
      rw [parseN] at h
      split at h
      · next hc => simp at h; obtain ⟨rfl, rfl⟩ := h; simp [Tr.text, hc]
      · split at h
        · next hc =>
          split at h
          · simp at h
          · next t1 r1 h1 =>
            split at h
            · simp at h
            · next t2 r2 h2 =>
              split at h
              · simp at h
              · next d r3 =>
                split at h
                · next hd =>
                  simp at h
                  obtain ⟨rfl, rfl⟩ := h
                  rw [ih _ _ _ h1, ih _ _ _ h2, hc, hd]
                  simp [Tr.text]
                · simp at h
        · simp at h

theorem parseN_complete (t : Tr) : ∀ (k : Nat) (r : List UInt8), t.text.length ≤ k → parseN k (t.text ++ r) = some (t, r) := by
  induction t with
  | lf => intro k r h; cases k with | zero => simp [Tr.text] at h | succ k => simp [Tr.text, parseN]
  | nd a b iha ihb =>
    intro k r h
    cases k with
    | zero => simp [Tr.text] at h
    | succ k =>
      have h' : a.text.length + b.text.length + 2 ≤ k + 1 := by simp [Tr.text] at h; omega
      show parseN (k + 1) (40 :: (a.text ++ (b.text ++ [41])) ++ r) = _
      have e : (40 : UInt8) :: (a.text ++ (b.text ++ [41])) ++ r = 40 :: (a.text ++ (b.text ++ (41 :: r))) := by simp
      rw [e, parseN, if_neg (by decide), if_pos rfl, iha k _ (by omega)]
      show (match parseN k (b.text ++ (41 :: r)) with | none => none | some (t2, r2) => _) = _
      rw [ihb k _ (by omega)]
      simp

theorem Tr.text_inj {t u : Tr} {r q : List UInt8} (h : t.text ++ r = u.text ++ q) : t = u ∧ r = q := by
  have h1 := parseN_complete t (t.text.length + u.text.length) r (by omega)
  have h2 := parseN_complete u (t.text.length + u.text.length) q (by omega)
  rw [h, h2] at h1
  simp at h1
  exact ⟨h1.1.symm, h1.2.symm⟩

theorem parseN_len {k : Nat} {l : List UInt8} {t : Tr} {r : List UInt8} (h : parseN k l = some (t, r)) : r.length + 1 ≤ l.length := by
  have := parseN_sound k l t r h
  have := t.text_len
  subst l; simp; omega

end Go.Proofs.Ytlcepokenaiggab

/-! Cut -/
namespace Go.Proofs.Ytlcepokenaiggab
open Go.RowKit


def CutOk (s : ByteArray) (r : List UInt8) (w : World) (e : Ending) (w' : World) : Prop :=
  ∃ s' : ByteArray, s'.data.toList = r ∧ s'.size < s.size ∧ e = .returned (.tuple #[.string s', .bool true]) ∧ w = w'

end Go.Proofs.Ytlcepokenaiggab

/-! Node -/
namespace Go.Proofs.Ytlcepokenaiggab
open Go.RowKit

theorem two_left {w : World} {b : Nat} {u v : Value} {t : TypeId} (h : w.heap[b]? = some (.cells #[u, v] t (0, 0))) : w.cell? ⟨b, 0, none⟩ = some u := by simp [World.cell?, h]
theorem two_right {w : World} {b : Nat} {u v : Value} {t : TypeId} (h : w.heap[b]? = some (.cells #[u, v] t (0, 0))) : w.cell? ⟨b, 1, none⟩ = some v := by simp [World.cell?, h]

theorem heap_alloc_at (w : World) (o : Obj) : (w.alloc o).heap[w.heap.size]? = some o := by
  show (w.heap.push o)[w.heap.size]? = _
  simp

def PlaceNo (w : World) (e : Ending) (w' : World) : Prop :=
  Below w.heap.size w w' ∧ e = .returned (.tuple #[.pointer none, .string ⟨#[]⟩])
end Go.Proofs.Ytlcepokenaiggab

/-! Place -/
namespace Go.Proofs.Ytlcepokenaiggab
open Go.RowKit

theorem head_of {l : List UInt8} {c : UInt8} (h : (l.head? == some c) = true) : ∃ r, l = c :: r := by
  cases l with
  | nil => simp at h
  | cons a r => simp at h; exact ⟨r, by rw [h]⟩

end Go.Proofs.Ytlcepokenaiggab

/-! TrOf -/
namespace Go.Proofs.Ytlcepokenaiggab

theorem ext_end (s : ByteArray) (k : Nat) : (s.extract k s.size).data.toList = s.data.toList.drop k := by
  rw [Lib.extract_data]
  exact List.take_of_length_le (by rw [List.length_drop, ← Lib.size_eq]; exact Nat.le_refl _)

theorem byteAt_drop {s : ByteArray} {a : Nat} {c : UInt8} {r : List UInt8} (h : s.data.toList.drop a = c :: r) : a < s.size ∧ byteAt s a = c.toNat := by
  have hl : a < s.data.toList.length := by
    have := congrArg List.length h
    simp at this
    simp; omega
  have hz : a < s.size := by rw [Lib.size_eq]; exact hl
  refine ⟨hz, ?_⟩
  rw [byteAt_eq s a (by simpa using hz)]
  have hc : s.data.toList[a] = c := by
    rw [List.drop_eq_getElem_cons hl] at h
    injection h
  have : (s[((a : Int)).toNat]'(by simpa using hz)) = s.data.toList[a] := by simp; rfl
  rw [this, hc]

theorem drop_of_byteAt {s : ByteArray} {a : Nat} (h : a < s.size) : ∃ c r, s.data.toList.drop a = c :: r ∧ byteAt s a = (c.toNat : Int) ∧ s.data.toList.drop (a + 1) = r := by
  have hl : a < s.data.toList.length := by rw [← Lib.size_eq]; exact h
  have e := List.drop_eq_getElem_cons hl
  exact ⟨_, _, e, (byteAt_drop e).2, rfl⟩

theorem u8_eq {c : UInt8} {n : Nat} (hn : n < 256) (h : (c.toNat : Int) = (n : Int)) : c = UInt8.ofNat n := by
  have h : c.toNat = n := by omega
  subst h; simp

theorem drop_succ {l r : List UInt8} {a : Nat} {c : UInt8} (h : l.drop a = c :: r) : l.drop (a + 1) = r := by
  rw [← List.drop_drop, h]; rfl

theorem drop_add_of {l x y : List UInt8} {a : Nat} (h : l.drop a = x ++ y) : l.drop (a + x.length) = y := by
  rw [← List.drop_drop, h]; simp

theorem endI_complete (t : Tr) : ∀ (k : Nat) (s : ByteArray) (a : Nat) (r : List UInt8), t.carets < k → s.data.toList.drop a = t.text ++ r → endI k s a = a + t.text.length := by
  induction t with
  | lf =>
    intro k s a r hk h
    cases k with
    | zero => omega
    | succ k =>
      have hb := byteAt_drop (show s.data.toList.drop a = 46 :: r from h)
      rw [endI, if_pos (by omega), if_pos (by rw [hb.2]; rfl)]
      rfl
  | nd l rr ihl ihr =>
    intro k s a q hk h
    cases k with
    | zero => omega
    | succ k =>
      have hk' : l.carets < k ∧ rr.carets < k := by simp [Tr.carets] at hk; omega
      have h0 : s.data.toList.drop a = 40 :: (l.text ++ (rr.text ++ (41 :: q))) := by rw [h]; simp [Tr.text]
      have hb := byteAt_drop h0
      have h1 := drop_succ h0
      have e1 := ihl k s (a + 1) _ hk'.1 h1
      have h2 := drop_add_of h1
      have e2 := ihr k s (a + 1 + l.text.length) _ hk'.2 h2
      have h3 := drop_add_of h2
      have hb3 := byteAt_drop h3
      have c1 : endI k s ((a : Int) + 1) = ((a + 1 + l.text.length : Nat) : Int) := by
        have : ((a : Int) + 1) = ((a + 1 : Nat) : Int) := by omega
        rw [this, e1]; omega
      have c2 : endI k s ((a + 1 + l.text.length : Nat) : Int) = ((a + 1 + l.text.length + rr.text.length : Nat) : Int) := by
        rw [e2]; omega
      rw [endI, if_pos (by omega), if_neg (by rw [hb.2]; decide), if_neg (by rw [hb.2]; decide), c1, if_neg (by omega), c2, if_neg (by omega), if_neg (by omega), if_neg (by rw [hb3.2]; decide)]
      simp [Tr.text]; omega

theorem endI_sound (k : Nat) : ∀ (s : ByteArray) (a : Nat), 0 ≤ endI k s a → ∃ t : Tr, ∃ r, s.data.toList.drop a = t.text ++ r ∧ endI k s a = a + t.text.length := by
  induction k with
  | zero => intro s a h; simp [endI] at h
  | succ k ih =>
    intro s a h
    rw [endI] at h ⊢
    split at h
    · next hlt =>
      obtain ⟨c, r, hd, hb, hd1⟩ := drop_of_byteAt (s := s) (a := a) (by omega)
      split at h
      · next h46 =>
        rw [hb] at h46
        have := u8_eq (n := 46) (by omega) h46
        refine ⟨.lf, r, ?_, ?_⟩
        · rw [hd, this]; rfl
        · rw [if_pos hlt, if_pos (by rw [hb]; exact h46)]; rfl
      · next h46 =>
        split at h
        · omega
        · next h40 =>
          split at h
          · omega
          · next hl =>
            have cast1 : ((a : Int) + 1) = ((a + 1 : Nat) : Int) := by omega
            have hl' : 0 ≤ endI k s ((a + 1 : Nat) : Int) := by rw [← cast1]; omega
            obtain ⟨t1, r1, e1, f1⟩ := ih s (a + 1) hl'
            have g1 : endI k s ((a : Int) + 1) = ((a + 1 + t1.text.length : Nat) : Int) := by rw [cast1, f1]; omega
            split at h
            · omega
            · next hr =>
              rw [g1] at hr
              obtain ⟨t2, r2, e2, f2⟩ := ih s (a + 1 + t1.text.length) (by omega)
              have g2 : endI k s (endI k s ((a : Int) + 1)) = ((a + 1 + t1.text.length + t2.text.length : Nat) : Int) := by rw [g1, f2]; omega
              split at h
              · omega
              · next hz =>
                split at h
                · omega
                · next h41 =>
                  rw [g2] at hz h41
                  obtain ⟨d, q, e3, b3, _⟩ := drop_of_byteAt (s := s) (a := a + 1 + t1.text.length + t2.text.length) (by omega)
                  have hd41 := u8_eq (n := 41) (by omega) (show ((d.toNat : Int)) = ((41 : Nat) : Int) by rw [← b3]; simpa using h41)
                  have hc40 := u8_eq (n := 40) (by omega) (show ((c.toNat : Int)) = ((40 : Nat) : Int) by rw [← hb]; simpa using h40)
                  refine ⟨.nd t1 t2, q, ?_, ?_⟩
                  · have x2 := drop_add_of e1
                    rw [e2] at x2
                    have x3 := drop_add_of e2
                    rw [e3] at x3
                    rw [hd, hc40]
                    have : r = t1.text ++ (t2.text ++ (41 :: q)) := by
                      rw [← hd1, e1, ← x2, ← x3, hd41]; rfl
                    rw [this]; simp [Tr.text]
                  · rw [if_pos hlt, if_neg h46, if_neg h40, if_neg hl, if_neg (by omega), if_neg (by omega), if_neg (by rw [g2]; exact h41), g2]
                    simp [Tr.text]; omega
    · omega

theorem text_count (t : Tr) : t.text.count 40 = t.carets := by
  induction t with
  | lf => rfl
  | nd l r ihl ihr => simp [Tr.text, Tr.carets, List.count_append, ihl, ihr]

theorem cnt_count (s : ByteArray) (k : Nat) (hk : k ≤ s.size) : cnt s k = ((s.data.toList.take k).count 40 : Nat) := by
  induction k with
  | zero => simp [cnt]
  | succ k ih =>
    obtain ⟨c, r, hd, hb, _⟩ := drop_of_byteAt (s := s) (a := k) (by omega)
    have hl : k < s.data.toList.length := by rw [← Lib.size_eq]; omega
    have hc : s.data.toList[k] = c := by
      rw [List.drop_eq_getElem_cons hl] at hd
      injection hd
    rw [cnt, ih (by omega), hb, List.take_succ_eq_append_getElem hl, hc, List.count_append]
    by_cases h : c = 40
    · subst h; simp
    · have h' : ¬ ((c.toNat : Int) = 40) := fun e => h (u8_eq (n := 40) (by omega) e)
      rw [if_neg h']
      simp [h]

theorem cnt_str (t : Tr) : cnt t.str t.str.size = t.carets := by
  rw [cnt_count _ _ (Nat.le_refl _), ← text_count, ← Tr.str_list, List.take_of_length_le]
  rw [Lib.size_eq]; exact Nat.le_refl _

/-- The tree of a text, if it is one. -/
def treeOf (s : ByteArray) : Option Tr :=
  match parseN (s.size + 1) s.data.toList with
  | some (t, []) => if t.carets ≤ 8 then some t else none
  | _ => none

theorem str_of_list {s : ByteArray} {t : Tr} (h : s.data.toList = t.text) : s = t.str := ba_ext (by rw [h, Tr.str_list])

theorem treeOf_some {s : ByteArray} {t : Tr} (h : treeOf s = some t) : s = t.str ∧ t.carets ≤ 8 := by
  unfold treeOf at h
  split at h
  · next u hp =>
    split at h
    · next hc =>
      injection h with h
      subst h
      have := parseN_sound _ _ _ _ hp
      exact ⟨str_of_list (by simpa using this), hc⟩
    · simp at h
  · simp at h

theorem parse_str (t : Tr) (k : Nat) (h : t.text.length ≤ k) : parseN k t.str.data.toList = some (t, []) := by
  have := parseN_complete t k [] h
  rwa [List.append_nil, ← Tr.str_list] at this

theorem treeOf_str (t : Tr) (h : t.carets ≤ 8) : treeOf t.str = some t := by
  unfold treeOf
  rw [parse_str t _ (by have := t.str_size; have := t.text_len; omega)]
  simp [h]

theorem endI_str (t : Tr) (h : t.carets ≤ 8) : endI 61 t.str 0 = t.str.size := by
  have := endI_complete t 61 t.str 0 [] (by omega) (by rw [Tr.str_list]; simp)
  rw [Tr.str_size, ← Tr.text_len]
  simpa using this

theorem isTreeB_str (t : Tr) (h : t.carets ≤ 8) : isTreeB t.str = true := by
  unfold isTreeB
  rw [cnt_str, endI_str t h, Tr.str_size]
  simp; omega

theorem treeOf_of_isTreeB {s : ByteArray} (h : isTreeB s = true) : ∃ t : Tr, s = t.str ∧ t.carets ≤ 8 := by
  unfold isTreeB at h
  simp at h
  obtain ⟨⟨h1, h2⟩, h3⟩ := h
  obtain ⟨t, r, e, f⟩ := endI_sound 61 s 0 (by rw [show ((0 : Nat) : Int) = 0 from rfl, h3]; omega)
  have hz : s.size = t.text.length := by
    rw [show ((0 : Nat) : Int) = 0 from rfl] at f
    omega
  have hr : r = [] := by
    have := congrArg List.length e
    simp only [List.drop_zero, List.length_append, ← Lib.size_eq] at this
    exact List.length_eq_zero_iff.1 (by omega)
  have hs : s = t.str := str_of_list (by rw [hr] at e; simpa using e)
  refine ⟨t, hs, ?_⟩
  rw [hs, cnt_str] at h2
  omega

theorem isTreeB_eq (s : ByteArray) : isTreeB s = (treeOf s).isSome := by
  cases h : treeOf s with
  | some t =>
    obtain ⟨rfl, hc⟩ := treeOf_some h
    exact isTreeB_str t hc
  | none =>
    cases hb : isTreeB s with
    | false => rfl
    | true =>
      obtain ⟨t, rfl, hc⟩ := treeOf_of_isTreeB hb
      rw [treeOf_str t hc] at h
      simp at h

end Go.Proofs.Ytlcepokenaiggab

/-! Read -/
namespace Go.Proofs.Ytlcepokenaiggab
open Go.RowKit

def ReadNo (w : World) (e : Ending) (w' : World) : Prop :=
  Below w.heap.size w w' ∧ e = .returned (.tuple #[.pointer none, .bool false])

theorem treeOf_of_parse {s : ByteArray} {t : Tr} (h : parseN (s.size + 1) s.data.toList = some (t, [])) (hz : s.size ≤ 25) : treeOf s = some t := by
  have e := str_of_list (show s.data.toList = t.text by simpa using parseN_sound _ _ _ _ h)
  subst e
  exact treeOf_str t (by rw [Tr.str_size] at hz; omega)

end Go.Proofs.Ytlcepokenaiggab

/-! End -/
namespace Go.Proofs.Ytlcepokenaiggab
open Go.RowKit


end Go.Proofs.Ytlcepokenaiggab

/-! Carets -/
namespace Go.Proofs.Ytlcepokenaiggab
open Go.RowKit

end Go.Proofs.Ytlcepokenaiggab

/-! TrFn -/
namespace Go.Proofs.Ytlcepokenaiggab
namespace Tr
def mir : Tr → Tr
  | lf => lf
  | nd l r => nd r.mir l.mir
def join : Tr → Tr → Tr
  | lf, b => b
  | nd l r, lf => nd l r
  | nd l r, nd p q => nd (join l p) (join r q)
def com : Tr → Tr → Tr
  | lf, _ => lf
  | nd _ _, lf => lf
  | nd l r, nd p q => nd (com l p) (com r q)
def part : Tr → Tr → Bool
  | lf, _ => true
  | nd _ _, lf => false
  | nd l r, nd p q => part l p && part r q
def isLf : Tr → Bool
  | lf => true
  | nd _ _ => false
end Tr

theorem mir_carets (t : Tr) : t.mir.carets = t.carets := by
  induction t with
  | lf => rfl
  | nd l r ihl ihr => simp [Tr.mir, Tr.carets, ihl, ihr]; omega

theorem join_carets (a : Tr) : ∀ b : Tr, (a.join b).carets ≤ a.carets + b.carets := by
  induction a with
  | lf => intro b; simp [Tr.join]
  | nd l r ihl ihr =>
    intro b
    cases b with
    | lf => simp [Tr.join]
    | nd p q => have := ihl p; have := ihr q; simp [Tr.join, Tr.carets]; omega

theorem com_carets (a : Tr) : ∀ b : Tr, (a.com b).carets ≤ a.carets := by
  induction a with
  | lf => intro b; simp [Tr.com]
  | nd l r ihl ihr =>
    intro b
    cases b with
    | lf => simp [Tr.com, Tr.carets]
    | nd p q => have := ihl p; have := ihr q; simp [Tr.com, Tr.carets]; omega

theorem com_eq_part (a : Tr) : ∀ b : Tr, a.com b = a ↔ a.part b = true := by
  induction a with
  | lf => intro b; simp [Tr.com, Tr.part]
  | nd l r ihl ihr =>
    intro b
    cases b with
    | lf => simp [Tr.com, Tr.part]
    | nd p q => simp [Tr.com, Tr.part, ihl, ihr]

end Go.Proofs.Ytlcepokenaiggab

/-! SpecTr -/
namespace Go.Proofs.Ytlcepokenaiggab
open Go.RowKit

theorem isLf_eq (t : Tr) : (t.str.toList == [46]) = t.isLf := by
  rw [Lib.toList_data, Tr.str_list]
  cases t <;> simp [Tr.text, Tr.isLf]

theorem str_lf : Tr.lf.str = ⟨#[46]⟩ := rfl
theorem str_nd (l r : Tr) : (Tr.nd l r).str = ⟨#[40]⟩ ++ l.str ++ r.str ++ ⟨#[41]⟩ := by
  apply ba_ext
  simp [Tr.str, Tr.text]

theorem ret_str2 {a b c d : ByteArray} (h : a = c) (k : b = d) : Ending.returned (.tuple #[.string a, .string b]) = .returned (.tuple #[.string c, .string d]) := by rw [h, k]

theorem side_left (l r : Tr) (e : Nat) (he : e = 3 * l.carets + 2) : (Tr.nd l r).str.extract 1 e = l.str := by
  apply ba_ext
  rw [Lib.extract_data, Tr.str_list, Tr.str_list]
  have : e - 1 = l.text.length := by rw [l.text_len]; omega
  rw [this]
  simp [Tr.text]

theorem side_right (l r : Tr) (e f : Nat) (he : e = 3 * l.carets + 2) (hf : f = 3 * l.carets + 3 * r.carets + 3) : (Tr.nd l r).str.extract e f = r.str := by
  apply ba_ext
  rw [Lib.extract_data, Tr.str_list, Tr.str_list]
  have h1 : e = l.text.length + 1 := by rw [l.text_len]; omega
  have h2 : f - e = r.text.length := by rw [r.text_len]; omega
  rw [h2, h1]
  show ((40 :: (l.text ++ (r.text ++ [41]))).drop (l.text.length + 1)).take _ = _
  rw [List.drop_succ_cons, List.drop_left, List.take_left]

end Go.Proofs.Ytlcepokenaiggab

/-! Text -/
namespace Go.Proofs.Ytlcepokenaiggab
open Go.RowKit

end Go.Proofs.Ytlcepokenaiggab

/-! Mir -/
namespace Go.Proofs.Ytlcepokenaiggab
open Go.RowKit

theorem below_two {w w1 : World} {b : Nat} {u v : Value} (hb : Below w.heap.size w w1) (h1 : w.cell? ⟨b, 0, none⟩ = some u) (h2 : w.cell? ⟨b, 1, none⟩ = some v) :
    w1.cell? ⟨b, 0, none⟩ = some u ∧ w1.cell? ⟨b, 1, none⟩ = some v := by
  have hl := World.block_lt_of_cell? w _ h1
  exact ⟨(hb.cell (p := ⟨b, 0, none⟩) hl).trans h1, (hb.cell (p := ⟨b, 1, none⟩) hl).trans h2⟩

end Go.Proofs.Ytlcepokenaiggab

/-! TreeO -/
namespace Go.Proofs.Ytlcepokenaiggab
open Go.RowKit

theorem keep_cell {w w' : World} {b o : Nat} {v : Value} (hb : Below w.heap.size w w') (h : w.cell? ⟨b, o, none⟩ = some v) : w'.cell? ⟨b, o, none⟩ = some v :=
  (hb.cell (p := ⟨b, o, none⟩) (World.block_lt_of_cell? _ _ h)).trans h

end Go.Proofs.Ytlcepokenaiggab
