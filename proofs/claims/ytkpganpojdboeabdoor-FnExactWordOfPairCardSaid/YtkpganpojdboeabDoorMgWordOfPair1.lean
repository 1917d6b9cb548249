/- Texts that the claim needs, part 2. -/
import Derived.Test.YtkpganpojdboeabDoorMgWordOfPair0
import Derived.WalkKit
import Derived.RangeFuncBox
import Derived.RangeFuncLeaves
import Derived.Shelf.Abstract
import Derived.OwnWalkIn
import Derived.TacticsInMore
import Derived.LoopNIn
import Derived.LoopIn
import Derived.Maps.AppendAt
import Derived.Lib.Bytealg
import Derived.Deep.RegionHeld3
import Derived.StillTail
import Derived.Deep.QuietTactic
import Derived.BigQuiet
import Derived.Lib.SmallJoins
import Derived.IntWalk
import Derived.RangeFuncNested
/-! TeP -/
namespace Go.Proofs.YtkpganpojdboeabDoor

theorem joinJ_succ : ∀ (a : Nat) (s : List Tr) (t u : Tr) (r : List Tr), joinJ a s = t :: u :: r → a < s.length → joinJ (a + 1) s = .nd t u :: r := by
  intro a
  induction a with
  | zero => intro s t u r h _; rw [joinJ] at h; rw [h]; rfl
  | succ a ih =>
    intro s t u r h hl
    match s, hl with
    | [], hl => simp at hl
    | [x], hl => simp at hl
    | x :: y :: q, hl =>
      rw [joinJ] at h
      show joinJ (a + 1) (.nd x y :: q) = _
      exact ih _ _ _ _ h (by simp at hl ⊢; omega)
def sumT (s : List Tr) : Nat := (s.map Tr.carets).sum
theorem sumT_cons (t : Tr) (s : List Tr) : sumT (t :: s) = t.carets + sumT s := by simp [sumT]
theorem sumT_app (s u : List Tr) : sumT (s ++ u) = sumT s + sumT u := by simp [sumT]
theorem sumT_lf (n : Nat) : sumT (List.replicate n .lf) = 0 := by
  induction n with
  | zero => rfl
  | succ n ih => rw [List.replicate_succ, sumT_cons, ih]; rfl
theorem sumT_mem {s : List Tr} {t : Tr} (h : t ∈ s) : t.carets ≤ sumT s := by
  induction s with
  | nil => simp at h
  | cons x s ih =>
    rw [sumT_cons]
    rcases List.mem_cons.1 h with rfl | h
    · omega
    · have := ih h; omega
theorem sumT_join : ∀ (a : Nat) (s : List Tr), a < s.length → sumT (joinJ a s) = sumT s + a := by
  intro a
  induction a with
  | zero => intro s _; rfl
  | succ a ih =>
    intro s h
    match s, h with
    | [], h => simp at h
    | [_], h => simp at h
    | x :: y :: q, h =>
      rw [joinJ, ih _ (by simp at h ⊢; omega), sumT_cons, sumT_cons, sumT_cons]
      simp [Tr.carets]; omega
theorem sumT_stack (n : Nat) : ∀ L : List Nat, L.sum ≤ n → sumT (stackD n L) = L.sum := by
  intro L
  induction L with
  | nil => intro _; exact sumT_lf n
  | cons e L ih =>
    intro h
    rw [List.sum_cons] at h
    have hl := stackD_length n L (by omega)
    rw [stackD, sumT_join _ _ (by simp; omega), sumT_cons, ih (by omega), List.sum_cons]
    simp [Tr.carets]; omega
theorem foldE_carets : ∀ (L A : List Nat) (t : Tr), InvE A t → t.carets ≤ (foldE t A.length L).carets := by
  intro L
  induction L with
  | nil => intro A t _; exact Nat.le_refl _
  | cons e L ih =>
    intro A t h
    have h1 := ih (A ++ [e]) _ (invE_step h e)
    rw [List.length_append] at h1
    have h2 := (stepE_carets t A.length e (invE_carets h)).1
    show _ ≤ (foldE (stepE t A.length e) (A.length + 1) L).carets
    rw [show A.length + [e].length = A.length + 1 from rfl] at h1
    omega
theorem stripT_take {s : List Tr} {n : Nat} {t : Tr} (h : s[n]? = some t) (ht : t.isLf = true) : stripT (s.take (n + 1)) = stripT (s.take n) := by
  obtain ⟨hn, rfl⟩ := List.getElem?_eq_some_iff.1 h
  rw [List.take_succ_eq_append_getElem hn]
  have := (isLf_iff _).1 ht
  rw [this]
  exact stripT_lf (s.take n) 1
theorem stripT_stop {s : List Tr} {n : Nat} {t : Tr} (h : s[n]? = some t) (ht : t.isLf = false) : stripT (s.take (n + 1)) = s.take (n + 1) := by
  obtain ⟨hn, rfl⟩ := List.getElem?_eq_some_iff.1 h
  rw [List.take_succ_eq_append_getElem hn]
  exact stripT_last _ _ ht

/-- Is a list one of exponents? -/
def exOk (L : List Int) : Bool := decide (L.length ≤ 9) && (L.all (fun x => decide (0 ≤ x) && decide (x ≤ 8)) && !(L.getLast? == some 0))
theorem exOk_iff {L : List Int} : exOk L = true ↔ L.length ≤ 9 ∧ (∀ x ∈ L, 0 ≤ x ∧ x ≤ 8) ∧ L.getLast? ≠ some 0 := by simp [exOk]
def toN (L : List Int) : List Nat := L.map Int.toNat
theorem toN_length (L : List Int) : (toN L).length = L.length := by simp [toN]
theorem toN_sum {L : List Int} (h : ∀ x ∈ L, 0 ≤ x ∧ x ≤ 8) : (toN L).sum ≤ 8 * L.length := by
  induction L with
  | nil => simp [toN]
  | cons x L ih =>
    have h1 := h x (by simp)
    have h2 := ih (fun y hy => h y (by simp [hy]))
    have h3 : (toN (x :: L)).sum = x.toNat + (toN L).sum := by simp [toN]
    rw [h3, List.length_cons]; omega
theorem toN_end {L : List Int} (h : L.getLast? ≠ some 0) (hp : ∀ x ∈ L, 0 ≤ x ∧ x ≤ 8) : ∀ B, toN L ≠ B ++ [0] := by
  intro B hB
  apply h
  have h1 := congrArg List.getLast? hB
  rw [List.getLast?_append] at h1
  simp only [toN, List.getLast?_map, List.getLast?_singleton, Option.or] at h1
  cases hl : L.getLast? with
  | none => rw [hl] at h1; simp at h1
  | some x =>
    rw [hl] at h1
    simp only [Option.map_some, Option.some.injEq] at h1
    have := hp x (List.mem_of_getLast? hl)
    congr 1; omega
end Go.Proofs.YtkpganpojdboeabDoor

/-! PrP -/
namespace Go.Proofs.YtkpganpojdboeabDoor

/-- A pair of trees. -/
abbrev Pr := Tr × Tr

/-- The left leaves with which both trees have exposed carets. -/
def both (p : Pr) : List Int := (p.1.exps 0).filter fun n => (p.2.exps 0).contains n

/-- Both carets dropped. -/
def dropP (p : Pr) (n : Int) : Pr := (p.1.dropAt n, p.2.dropAt n)

/-- Which of so many a step takes: the first choice modulo their number, or the first one. -/
def pickI (cs : List Int) (k : Nat) : Nat := match cs with
  | [] => 0
  | c :: _ => (c % k).toNat

/-- The reduced pair by choices (fuel: the number of steps that are left at most). -/
def redF : Nat → Pr → List Int → Pr
  | 0, p, _ => p
  | k + 1, p, cs => match both p with
    | [] => p
    | n :: ns => redF k (dropP p ((n :: ns).getD (pickI cs (ns.length + 1)) 0)) cs.tail
def redBy (p : Pr) (cs : List Int) : Pr := redF p.1.carets p cs
def red (p : Pr) : Pr := redBy p []

theorem mem_both {p : Pr} {n : Int} : n ∈ both p ↔ n ∈ p.1.exps 0 ∧ n ∈ p.2.exps 0 := by
  simp [both]

theorem both_length (p : Pr) : (both p).length ≤ p.1.carets :=
  Nat.le_trans (List.length_filter_le _ _) (exps_length _ _)

theorem both_empty {p : Pr} (h : p.1.carets = 0) : both p = [] := by
  have := both_length p
  exact List.length_eq_zero_iff.1 (by omega)

theorem pickI_lt (cs : List Int) (k : Nat) (h : 0 < k) : pickI cs k < k := by
  unfold pickI
  split
  · exact h
  · next c _ =>
    have h1 := Int.emod_lt_of_pos c (show (0 : Int) < k by omega)
    have h2 := Int.emod_nonneg c (show (k : Int) ≠ 0 by omega)
    omega

theorem pick_mem {p : Pr} {n : Int} {ns : List Int} (h : both p = n :: ns) (cs : List Int) : (n :: ns).getD (pickI cs (ns.length + 1)) 0 ∈ both p := by
  rw [h]
  have := pickI_lt cs (ns.length + 1) (by omega)
  rw [List.getD_eq_getElem?_getD, List.getElem?_eq_getElem (by simpa using this)]
  exact List.getElem_mem _

theorem dropP_carets {p : Pr} {n : Int} (h : n ∈ both p) : (dropP p n).1.carets + 1 = p.1.carets ∧ (dropP p n).2.carets + 1 = p.2.carets :=
  ⟨dropAt_carets _ _ (mem_both.1 h).1, dropAt_carets _ _ (mem_both.1 h).2⟩

/-- One step. -/
theorem redBy_step {p : Pr} {n : Int} {ns : List Int} (h : both p = n :: ns) (cs : List Int) :
    redBy p cs = redBy (dropP p ((n :: ns).getD (pickI cs (ns.length + 1)) 0)) cs.tail := by
  have hc := (dropP_carets (pick_mem h cs)).1
  unfold redBy
  obtain ⟨k, hk⟩ : ∃ k, p.1.carets = k + 1 := ⟨p.1.carets - 1, by omega⟩
  rw [hk, redF, h]
  have : (dropP p ((n :: ns).getD (pickI cs (ns.length + 1)) 0)).1.carets = k := by omega
  rw [this]
theorem redBy_end {p : Pr} (h : both p = []) (cs : List Int) : redBy p cs = p := by
  unfold redBy
  cases hk : p.1.carets with
  | zero => rfl
  | succ k => rw [redF, h]

theorem redF_carets (k : Nat) : ∀ (p : Pr) (cs : List Int), (redF k p cs).1.carets ≤ p.1.carets ∧ (redF k p cs).2.carets ≤ p.2.carets ∧ (redF k p cs).1.carets + p.2.carets = (redF k p cs).2.carets + p.1.carets := by
  induction k with
  | zero => intro p cs; simp [redF]; omega
  | succ k ih =>
    intro p cs
    rw [redF]
    split
    · refine ⟨Nat.le_refl _, Nat.le_refl _, by omega⟩
    · next n ns h =>
      have h1 := dropP_carets (pick_mem h cs)
      have h2 := ih (dropP p ((n :: ns).getD (pickI cs (ns.length + 1)) 0)) cs.tail
      omega
theorem redBy_carets (p : Pr) (cs : List Int) : (redBy p cs).1.carets ≤ p.1.carets ∧ (redBy p cs).2.carets ≤ p.2.carets ∧ (redBy p cs).1.carets + p.2.carets = (redBy p cs).2.carets + p.1.carets := redF_carets _ p cs

theorem redF_both (k : Nat) : ∀ (p : Pr) (cs : List Int), p.1.carets ≤ k → both (redF k p cs) = [] := by
  induction k with
  | zero => intro p cs h; rw [redF]; exact both_empty (by omega)
  | succ k ih =>
    intro p cs hk
    rw [redF]
    split
    · next h => exact h
    · next n ns h =>
      have h1 := dropP_carets (pick_mem h cs)
      exact ih _ _ (by omega)
theorem red_both (p : Pr) (cs : List Int) : both (redBy p cs) = [] := redF_both _ p cs (Nat.le_refl _)

/-- A pair is what is left of it just if it is reduced. -/
theorem red_self (p : Pr) : red p = p ↔ both p = [] := by
  constructor
  · intro h; rw [← h]; exact red_both p []
  · exact fun h => redBy_end h []

namespace Tr
/-- What a greater tree has at the leaves of one that is part of it. -/
def subs : Tr → Tr → List Tr
  | lf, g => [g]
  | nd l r, nd p q => l.subs p ++ r.subs q
  | nd _ _, lf => []
/-- A tree with others in place of its leaves, and those that are left. -/
def fillR : Tr → List Tr → Tr × List Tr
  | lf, [] => (lf, [])
  | lf, u :: us => (u, us)
  | nd l r, us => (nd (l.fillR us).1 (r.fillR (l.fillR us).2).1, (r.fillR (l.fillR us).2).2)
def fill (t : Tr) (us : List Tr) : Tr := (t.fillR us).1
end Tr

theorem below_length (a : Tr) : ∀ b : Tr, (a.subs (a.join b)).length = a.leaves := by
  induction a with
  | lf => intro b; rfl
  | nd l r ihl ihr =>
    intro b
    cases b with
    | lf =>
      have h1 := ihl .lf
      have h2 := ihr .lf
      rw [leaves_nd]
      have j : ∀ t : Tr, t.join .lf = t := fun t => by cases t <;> rfl
      rw [j] at h1 h2
      show ((Tr.nd l r).subs (.nd l r)).length = _
      simp [Tr.subs, h1, h2]
    | nd p q =>
      rw [leaves_nd]
      simp [Tr.join, Tr.subs, ihl p, ihr q]

theorem join_comm (a : Tr) : ∀ b : Tr, a.join b = b.join a := by
  induction a with
  | lf => intro b; cases b <;> rfl
  | nd l r ihl ihr =>
    intro b
    cases b with
    | lf => rfl
    | nd p q => simp [Tr.join, ihl p, ihr q]

/-- a is part of g, whose texts below a are told. -/
def sumC (us : List Tr) : Nat := (us.map Tr.carets).sum

theorem sumC_cons (u : Tr) (us : List Tr) : sumC (u :: us) = u.carets + sumC us := by simp [sumC]
theorem sumC_append (us vs : List Tr) : sumC (us ++ vs) = sumC us + sumC vs := by simp [sumC]

theorem below_carets (a : Tr) : ∀ g : Tr, a.part g = true → a.carets + sumC (a.subs g) = g.carets ∧ (a.subs g).length = a.leaves := by
  induction a with
  | lf => intro g _; simp [Tr.subs, sumC, Tr.carets, Tr.leaves]
  | nd l r ihl ihr =>
    intro g h
    cases g with
    | lf => simp [Tr.part] at h
    | nd p q =>
      simp [Tr.part] at h
      have h1 := ihl p h.1
      have h2 := ihr q h.2
      rw [leaves_nd]
      simp only [Tr.subs, sumC_append, Tr.carets, List.length_append]
      omega

theorem part_refl (a : Tr) : a.part a = true := by
  induction a with
  | lf => rfl
  | nd l r ihl ihr => simp [Tr.part, ihl, ihr]

theorem part_join (a : Tr) : ∀ b : Tr, a.part (a.join b) = true := by
  induction a with
  | lf => intro b; rfl
  | nd l r ihl ihr =>
    intro b
    cases b with
    | lf => show (Tr.nd l r).part (.nd l r) = true; exact part_refl _
    | nd p q => simp [Tr.join, Tr.part, ihl p, ihr q]
theorem part_join' (a b : Tr) : b.part (a.join b) = true := by rw [join_comm]; exact part_join b a

theorem fillR_carets (t : Tr) : ∀ us : List Tr, t.leaves ≤ us.length → (t.fillR us).1.carets + sumC (t.fillR us).2 = t.carets + sumC us ∧ (t.fillR us).2.length + t.leaves = us.length := by
  induction t with
  | lf =>
    intro us h
    cases us with
    | nil => simp [Tr.leaves] at h
    | cons u us => simp [Tr.fillR, sumC_cons, Tr.carets, Tr.leaves]
  | nd l r ihl ihr =>
    intro us h
    rw [leaves_nd] at *
    have h1 := ihl us (by omega)
    have h2 := ihr (l.fillR us).2 (by omega)
    simp only [Tr.fillR, Tr.carets]
    omega

theorem fill_carets (t : Tr) (us : List Tr) (h : us.length = t.leaves) : (t.fill us).carets = t.carets + sumC us := by
  have h1 := fillR_carets t us (by omega)
  have : (t.fillR us).2 = [] := List.length_eq_zero_iff.1 (by omega)
  rw [this] at h1
  have h2 := h1.1
  show (t.fillR us).1.carets = _
  simp [sumC] at h2 ⊢
  exact h2

/-- The text of a tree with texts in place of its leaves: the texts that are left. -/
def fillL : List UInt8 → List ByteArray → List UInt8
  | [], _ => []
  | c :: r, us => if c = 46 then (us.getD 0 ⟨#[]⟩).data.toList ++ fillL r us.tail else c :: fillL r us

theorem fillL_text (t : Tr) : ∀ (us : List Tr) (q : List UInt8), t.leaves ≤ us.length → fillL (t.text ++ q) (us.map Tr.str) = (t.fillR us).1.text ++ fillL q ((t.fillR us).2.map Tr.str) := by
  induction t with
  | lf =>
    intro us q h
    cases us with
    | nil => simp [Tr.leaves] at h
    | cons u us => simp [Tr.fillR, Tr.text, fillL, Tr.str_list]
  | nd l r ihl ihr =>
    intro us q h
    rw [leaves_nd] at h
    have e : (Tr.nd l r).text ++ q = 40 :: (l.text ++ (r.text ++ (41 :: q))) := by simp [Tr.text]
    have h1 := fillR_carets l us (by omega)
    rw [e, fillL, if_neg (by decide), ihl us _ (by omega), ihr _ _ (by omega), fillL, if_neg (by decide)]
    simp [Tr.fillR, Tr.text]

theorem fill_text (t : Tr) (us : List Tr) (h : us.length = t.leaves) : fillL t.text (us.map Tr.str) = (t.fill us).text := by
  have := fillL_text t us [] (by omega)
  show _ = (t.fillR us).1.text
  simpa [fillL] using this

/-- The product, before it is reduced. -/
def rawP (p q : Pr) : Pr := (p.1.fill (p.2.subs (p.2.join q.1)), q.2.fill (q.1.subs (p.2.join q.1)))
/-- The product. -/
def mulP (p q : Pr) : Pr := red (rawP p q)
def invP (p : Pr) : Pr := (p.2, p.1)
/-- A pair: as many leaves. -/
def okP (p : Pr) : Prop := p.1.carets = p.2.carets

theorem rawP_carets {p q : Pr} (hp : okP p) (hq : okP q) : (rawP p q).1.carets = (p.2.join q.1).carets ∧ (rawP p q).2.carets = (p.2.join q.1).carets := by
  unfold okP at *
  have h1 := below_carets p.2 _ (part_join p.2 q.1)
  have h2 := below_carets q.1 _ (part_join' p.2 q.1)
  have f1 := fill_carets p.1 (p.2.subs (p.2.join q.1)) (by rw [h1.2]; simp [Tr.leaves, hp])
  have f2 := fill_carets q.2 (q.1.subs (p.2.join q.1)) (by rw [h2.2]; simp [Tr.leaves, hq])
  show (p.1.fill _).carets = _ ∧ (q.2.fill _).carets = _
  omega
theorem rawP_ok {p q : Pr} (hp : okP p) (hq : okP q) : okP (rawP p q) := by
  have := rawP_carets hp hq; unfold okP; omega
theorem red_ok {p : Pr} (hp : okP p) (cs : List Int) : okP (redBy p cs) := by
  have := redBy_carets p cs; unfold okP at *; omega
theorem mulP_ok {p q : Pr} (hp : okP p) (hq : okP q) : okP (mulP p q) := red_ok (rawP_ok hp hq) []
theorem mulP_carets {p q : Pr} (hp : okP p) (hq : okP q) : (mulP p q).1.carets ≤ p.2.carets + q.1.carets := by
  have h1 := rawP_carets hp hq
  have h2 := redBy_carets (rawP p q) []
  have h3 := join_carets p.2 q.1
  show (redBy _ _).1.carets ≤ _
  omega
end Go.Proofs.YtkpganpojdboeabDoor

/-! PairOf -/
namespace Go.Proofs.YtkpganpojdboeabDoor

/-- The pair of two texts, if they are one. -/
def pairOf (a b : ByteArray) : Option Pr :=
  match treeOf a, treeOf b with
  | some t, some u => if t.carets = u.carets then some (t, u) else none
  | _, _ => none

theorem pairOf_some {a b : ByteArray} {p : Pr} (h : pairOf a b = some p) : a = p.1.str ∧ b = p.2.str ∧ okP p ∧ p.1.carets ≤ 8 ∧ p.2.carets ≤ 8 := by
  unfold pairOf at h
  split at h
  · next t u ht hu =>
    split at h
    · next hc =>
      injection h with h
      subst h
      obtain ⟨rfl, h1⟩ := treeOf_some ht
      obtain ⟨rfl, h2⟩ := treeOf_some hu
      exact ⟨rfl, rfl, hc, h1, h2⟩
    · simp at h
  · simp at h

theorem pairOf_str {p : Pr} (h : okP p) (k : p.1.carets ≤ 8) : pairOf p.1.str p.2.str = some p := by
  unfold pairOf
  rw [treeOf_str p.1 k, treeOf_str p.2 (by unfold okP at h; omega)]
  simp [show p.1.carets = p.2.carets from h]

/-- The texts are no pair: why. -/
theorem pairOf_none {a b : ByteArray} (h : pairOf a b = none) : treeOf a = none ∨ (∃ t : Tr, a = t.str ∧ t.carets ≤ 8 ∧ treeOf b = none) ∨ ∃ t u : Tr, a = t.str ∧ b = u.str ∧ t.carets ≤ 8 ∧ u.carets ≤ 8 ∧ ¬ t.carets = u.carets := by
  cases ha : treeOf a with
  | none => exact .inl rfl
  | some t =>
    obtain ⟨rfl, h1⟩ := treeOf_some ha
    cases hb : treeOf b with
    | none => exact .inr (.inl ⟨t, rfl, h1, rfl⟩)
    | some u =>
      obtain ⟨rfl, h2⟩ := treeOf_some hb
      refine .inr (.inr ⟨t, u, rfl, rfl, h1, h2, ?_⟩)
      intro e
      unfold pairOf at h
      rw [ha, hb] at h
      simp [e] at h
end Go.Proofs.YtkpganpojdboeabDoor

/-! FfP -/
namespace Go.Proofs.YtkpganpojdboeabDoor

/-- The trees of a list of texts, if all are trees of at most eight carets. -/
def treesOf : List ByteArray → Option (List Tr)
  | [] => some []
  | s :: L =>
    match treeOf s with
    | none => none
    | some t =>
      match treesOf L with
      | none => none
      | some us => some (t :: us)

theorem treesOf_some : ∀ (L : List ByteArray) (us : List Tr), treesOf L = some us → L = us.map Tr.str ∧ ∀ u ∈ us, u.carets ≤ 8 := by
  intro L
  induction L with
  | nil => intro us h; simp [treesOf] at h; subst h; simp
  | cons s L ih =>
    intro us h
    rw [treesOf] at h
    cases hs : treeOf s with
    | none => rw [hs] at h; cases h
    | some t =>
      rw [hs] at h
      cases hL : treesOf L with
      | none => rw [hL] at h; cases h
      | some vs =>
        rw [hL] at h
        injection h with h
        subst h
        obtain ⟨h1, h2⟩ := ih vs hL
        obtain ⟨h3, h4⟩ := treeOf_some hs
        refine ⟨by rw [h3, h1]; rfl, ?_⟩
        intro u hu
        rcases List.mem_cons.1 hu with rfl | hu
        · exact h4
        · exact h2 u hu
theorem treesOf_map (us : List Tr) (h : ∀ u ∈ us, u.carets ≤ 8) : treesOf (us.map Tr.str) = some us := by
  induction us with
  | nil => rfl
  | cons u us ih =>
    rw [List.map_cons, treesOf, treeOf_str u (h u (by simp)), ih (fun v hv => h v (by simp [hv]))]
theorem treesOf_none : ∀ (L : List ByteArray), treesOf L = none → ∃ k, k < L.length ∧ treeOf (L.getD k ⟨#[]⟩) = none ∧ ∃ us, treesOf (L.take k) = some us := by
  intro L
  induction L with
  | nil => intro h; cases h
  | cons s L ih =>
    intro h
    rw [treesOf] at h
    cases hs : treeOf s with
    | none => exact ⟨0, by simp, by simpa using hs, [], rfl⟩
    | some t =>
      rw [hs] at h
      cases hL : treesOf L with
      | some vs => rw [hL] at h; cases h
      | none =>
        obtain ⟨k, h1, h2, us, h3⟩ := ih hL
        exact ⟨k + 1, by simp; omega, by simpa using h2, t :: us, by rw [List.take_succ_cons, treesOf, hs, h3]⟩

/-- The last tree is no leaf. -/
def lastB (us : List Tr) : Bool := match us.getLast? with | none => true | some u => !u.isLf
/-- A forest. -/
def okF (us : List Tr) : Bool := decide (us.length ≤ 8) && (decide (sumT us ≤ 8) && lastB us)
theorem okF_iff {us : List Tr} : okF us = true ↔ us.length ≤ 8 ∧ sumT us ≤ 8 ∧ lastB us = true := by simp [okF]
def forOf (L : List ByteArray) : Option (List Tr) := (treesOf L).bind fun us => if okF us = true then some us else none
theorem forOf_some {L : List ByteArray} {us : List Tr} (h : forOf L = some us) : L = us.map Tr.str ∧ us.length ≤ 8 ∧ sumT us ≤ 8 ∧ lastB us = true := by
  unfold forOf at h
  cases hL : treesOf L with
  | none => rw [hL] at h; cases h
  | some vs =>
    rw [hL] at h
    simp only [Option.bind_some] at h
    split at h
    · next ho => injection h with h; subst h; exact ⟨(treesOf_some L _ hL).1, okF_iff.1 ho⟩
    · cases h
theorem forOf_map {us : List Tr} (h : okF us = true) : forOf (us.map Tr.str) = some us := by
  have h2 := (okF_iff.1 h).2.1
  unfold forOf
  rw [treesOf_map us (fun u hu => by have := sumT_mem hu; omega)]
  simp [h]

theorem lastB_nil : lastB [] = true := rfl
theorem lastB_cons (u : Tr) {us : List Tr} (h : us ≠ []) : lastB (u :: us) = lastB us := by
  cases us with
  | nil => exact absurd rfl h
  | cons v vs => simp [lastB, List.getLast?_cons_cons]
theorem lastB_one (u : Tr) : lastB [u] = !u.isLf := rfl
theorem lastB_strip (us : List Tr) : lastB us = true ↔ stripT us = us := by
  rcases List.eq_nil_or_concat us with rfl | ⟨init, x, rfl⟩
  · simp [lastB, stripT]
  · rw [List.concat_eq_append]
    cases hx : x.isLf with
    | false => rw [stripT_last _ _ hx]; simp [lastB, hx]
    | true =>
      obtain rfl := (isLf_iff x).1 hx
      have h1 := stripT_lf init 1
      rw [show List.replicate 1 Tr.lf = [Tr.lf] from rfl] at h1
      rw [h1]
      constructor
      · intro h; simp [lastB, Tr.isLf] at h
      · intro h
        have h2 : (stripT init).length ≤ init.length := by
          unfold stripT
          rw [List.length_reverse]
          exact Nat.le_trans (List.Sublist.length_le (List.dropWhile_sublist _)) (by simp)
        have := congrArg List.length h
        simp at this
        omega
theorem stripT_length (us : List Tr) : (stripT us).length ≤ us.length := by
  unfold stripT
  rw [List.length_reverse]
  exact Nat.le_trans (List.Sublist.length_le (List.dropWhile_sublist _)) (by simp)
theorem dropLf_last (l : List Tr) : lastB ((l.dropWhile Tr.isLf).reverse) = true := by
  induction l with
  | nil => rfl
  | cons x l ih =>
    cases hx : x.isLf with
    | true => rw [List.dropWhile_cons_of_pos hx]; exact ih
    | false => rw [List.dropWhile_cons_of_neg (by rw [hx]; decide)]; simp [lastB, hx]
theorem stripT_lastB (us : List Tr) : lastB (stripT us) = true := dropLf_last us.reverse
theorem stripT_stripT (us : List Tr) : stripT (stripT us) = stripT us := (lastB_strip _).1 (stripT_lastB us)
theorem sumT_rev (us : List Tr) : sumT us.reverse = sumT us := by
  induction us with
  | nil => rfl
  | cons u us ih => rw [List.reverse_cons, sumT_app, ih, sumT_cons]; simp [sumT]; omega
theorem sumT_dropLf (l : List Tr) : sumT (l.dropWhile Tr.isLf) = sumT l := by
  induction l with
  | nil => rfl
  | cons x l ih =>
    cases hx : x.isLf with
    | true =>
      obtain rfl := (isLf_iff x).1 hx
      rw [List.dropWhile_cons_of_pos rfl, ih, sumT_cons]; simp [Tr.carets]
    | false => rw [List.dropWhile_cons_of_neg (by rw [hx]; decide)]
theorem sumT_strip (us : List Tr) : sumT (stripT us) = sumT us := by
  unfold stripT
  rw [sumT_rev, sumT_dropLf, sumT_rev]

theorem sides_sum (t : Tr) : sumT (sidesT t) + (sidesT t).length = t.carets := by
  induction t with
  | lf => rfl
  | nd l r _ ihr => rw [sidesT, sumT_cons, List.length_cons, Tr.carets]; omega
/-- What hangs at the left sides of the right side. -/
def hangT (t : Tr) : List Tr := stripT (sidesT t)
theorem hang_ok {t : Tr} (h : t.carets ≤ 8) : okF (hangT t) = true := by
  have h1 := sides_sum t
  have h2 := stripT_length (sidesT t)
  have h3 := sumT_strip (sidesT t)
  rw [okF_iff]
  unfold hangT
  exact ⟨by omega, by omega, stripT_lastB _⟩

/-- Each tree of the first list is part of that of the second one. -/
def partF : List Tr → List Tr → Bool
  | [], _ => true
  | u :: us, [] => u.isLf && partF us []
  | u :: us, v :: vs => u.part v && partF us vs
theorem partF_nil (us : List Tr) (h : lastB us = true) (hn : us ≠ []) : partF us [] = false := by
  induction us with
  | nil => exact absurd rfl hn
  | cons u us ih =>
    rw [partF]
    by_cases hu : us = []
    · subst hu
      rw [lastB_one] at h
      cases hx : u.isLf with
      | true => rw [hx] at h; cases h
      | false => rfl
    · rw [lastB_cons u hu] at h
      rw [ih h hu, Bool.and_false]
theorem part_comb (us : List Tr) : ∀ vs : List Tr, lastB us = true → (combT us).part (combT vs) = partF us vs := by
  induction us with
  | nil => intro vs _; cases vs <;> rfl
  | cons u us ih =>
    intro vs h
    cases vs with
    | nil => rw [partF_nil _ h (by simp)]; rfl
    | cons v vs =>
      show (u.part v && (combT us).part (combT vs)) = (u.part v && partF us vs)
      by_cases hu : us = []
      · subst hu; rw [ih vs rfl]
      · rw [lastB_cons u hu] at h; rw [ih vs h]
theorem part_iff_join (a : Tr) : ∀ b : Tr, a.part b = true ↔ a.join b = b := by
  induction a with
  | lf => intro b; simp [Tr.part, Tr.join]
  | nd l r ihl ihr =>
    intro b
    cases b with
    | lf => simp [Tr.part, Tr.join]
    | nd p q => simp [Tr.part, Tr.join, ihl, ihr]
def atF (us : List Tr) (k : Nat) : Tr := us.getD k .lf
theorem part_lf (u : Tr) : u.part .lf = u.isLf := by cases u <;> rfl
theorem partF_all (us : List Tr) : ∀ vs : List Tr, partF us vs = true ↔ ∀ k, k < us.length → (us.getD k .lf).part (vs.getD k .lf) = true := by
  induction us with
  | nil => intro vs; simp [partF]
  | cons u us ih =>
    intro vs
    have hsplit : (∀ k, k < (u :: us).length → ((u :: us).getD k .lf).part (vs.getD k .lf) = true) ↔ u.part (vs.getD 0 .lf) = true ∧ ∀ k, k < us.length → (us.getD k .lf).part (vs.tail.getD k .lf) = true := by
      constructor
      · intro h
        refine ⟨by simpa using h 0 (by simp), fun k hk => ?_⟩
        have := h (k + 1) (by simp; omega)
        cases vs <;> simpa using this
      · intro ⟨h0, h1⟩ k hk
        cases k with
        | zero => simpa using h0
        | succ k =>
          have := h1 k (by simp at hk; omega)
          cases vs <;> simpa using this
    rw [hsplit]
    cases vs with
    | nil => rw [partF, Bool.and_eq_true, ih []]; simp [part_lf]
    | cons v vs => rw [partF, Bool.and_eq_true, ih vs]; simp

/-- Joined trees of two lists. -/
def joinF : List Tr → List Tr → List Tr
  | [], vs => vs
  | u :: us, [] => u :: us
  | u :: us, v :: vs => u.join v :: joinF us vs
theorem join_comb (us : List Tr) : ∀ vs : List Tr, (combT us).join (combT vs) = combT (joinF us vs) := by
  induction us with
  | nil => intro vs; rfl
  | cons u us ih =>
    intro vs
    cases vs with
    | nil => rfl
    | cons v vs => show Tr.nd (u.join v) ((combT us).join (combT vs)) = _; rw [ih]; rfl
theorem join_lf (u : Tr) : u.join .lf = u := by cases u <;> rfl
theorem joinF_length (us : List Tr) : ∀ vs : List Tr, (joinF us vs).length = max us.length vs.length := by
  induction us with
  | nil => intro vs; simp [joinF]
  | cons u us ih =>
    intro vs
    cases vs with
    | nil => simp [joinF]
    | cons v vs => simp [joinF, ih]
theorem joinF_get (us : List Tr) : ∀ (vs : List Tr) (k : Nat), (joinF us vs).getD k .lf = (us.getD k .lf).join (vs.getD k .lf) := by
  induction us with
  | nil => intro vs k; simp [joinF, Tr.join]
  | cons u us ih =>
    intro vs k
    cases vs with
    | nil => simp [joinF, join_lf]
    | cons v vs =>
      cases k with
      | zero => simp [joinF]
      | succ k => simpa [joinF] using ih vs k
/-- Common trees of two lists. -/
def comF : List Tr → List Tr → List Tr
  | u :: us, v :: vs => u.com v :: comF us vs
  | _, _ => []
theorem com_comb (us : List Tr) : ∀ vs : List Tr, (combT us).com (combT vs) = combT (comF us vs) := by
  induction us with
  | nil => intro vs; cases vs <;> rfl
  | cons u us ih =>
    intro vs
    cases vs with
    | nil => rfl
    | cons v vs => show Tr.nd (u.com v) ((combT us).com (combT vs)) = _; rw [ih]; rfl
theorem com_lf (u : Tr) : u.com .lf = .lf := by cases u <;> rfl
/-- Common trees of two lists, leaves behind the shorter one. -/
def comL (us vs : List Tr) : List Tr := (List.range (max us.length vs.length)).map fun k => (us.getD k .lf).com (vs.getD k .lf)
def joinL (us vs : List Tr) : List Tr := (List.range (max us.length vs.length)).map fun k => (us.getD k .lf).join (vs.getD k .lf)
theorem joinL_eq (us vs : List Tr) : joinL us vs = joinF us vs := by
  apply List.ext_getElem
  · simp [joinL, joinF_length]
  · intro k h1 h2
    have h3 := joinF_get us vs k
    rw [List.getD_eq_getElem?_getD, List.getElem?_eq_getElem h2, Option.getD_some] at h3
    rw [h3]
    simp [joinL]
theorem comL_cons (u v : Tr) (us vs : List Tr) : comL (u :: us) (v :: vs) = u.com v :: comL us vs := by
  unfold comL
  rw [show max (u :: us).length (v :: vs).length = max us.length vs.length + 1 by simp, List.range_succ_eq_map]
  simp
theorem comL_nil1 (vs : List Tr) : comL [] vs = List.replicate vs.length .lf := by
  unfold comL
  apply List.ext_getElem
  · simp
  · intro k h1 h2; simp [Tr.com]
theorem comL_nil2 (us : List Tr) : comL us [] = List.replicate us.length .lf := by
  unfold comL
  apply List.ext_getElem
  · simp
  · intro k h1 h2; simp [com_lf]
theorem comL_eq (us : List Tr) : ∀ vs : List Tr, ∃ m, comL us vs = comF us vs ++ List.replicate m .lf := by
  induction us with
  | nil => intro vs; exact ⟨vs.length, by rw [comL_nil1]; simp [comF]⟩
  | cons u us ih =>
    intro vs
    cases vs with
    | nil => exact ⟨(u :: us).length, by rw [comL_nil2]; simp [comF]⟩
    | cons v vs => obtain ⟨m, hm⟩ := ih vs; exact ⟨m, by rw [comL_cons, hm]; rfl⟩
theorem comL_strip (us vs : List Tr) : stripT (comL us vs) = stripT (comF us vs) := by
  obtain ⟨m, hm⟩ := comL_eq us vs
  rw [hm, stripT_lf]
theorem comF_length (us : List Tr) : ∀ vs : List Tr, (comF us vs).length ≤ us.length := by
  induction us with
  | nil => intro vs; simp [comF]
  | cons u us ih =>
    intro vs
    cases vs with
    | nil => simp [comF]
    | cons v vs => have := ih vs; simp [comF]; omega
theorem comF_sum (us : List Tr) : ∀ vs : List Tr, sumT (comF us vs) ≤ sumT us := by
  induction us with
  | nil => intro vs; simp [comF, sumT]
  | cons u us ih =>
    intro vs
    cases vs with
    | nil => simp [comF, sumT]
    | cons v vs => have := ih vs; have := com_carets u v; rw [comF, sumT_cons, sumT_cons]; omega
theorem joinF_sum (us : List Tr) : ∀ vs : List Tr, sumT (joinF us vs) ≤ sumT us + sumT vs := by
  induction us with
  | nil => intro vs; simp [joinF, sumT]
  | cons u us ih =>
    intro vs
    cases vs with
    | nil => simp [joinF, sumT]
    | cons v vs => have := ih vs; have := join_carets u v; rw [joinF, sumT_cons, sumT_cons, sumT_cons]; omega
theorem join_lf_iff (u v : Tr) : (u.join v).isLf = (u.isLf && v.isLf) := by cases u <;> cases v <;> rfl
theorem joinF_last (us : List Tr) : ∀ vs : List Tr, lastB us = true → lastB vs = true → lastB (joinF us vs) = true := by
  induction us with
  | nil => intro vs _ h; exact h
  | cons u us ih =>
    intro vs h k
    cases vs with
    | nil => exact h
    | cons v vs =>
      rw [joinF]
      by_cases hu : us = []
      · subst hu
        rw [joinF]
        by_cases hv : vs = []
        · subst hv
          rw [lastB_one] at h k ⊢
          rw [join_lf_iff]
          cases h1 : u.isLf with
          | true => rw [h1] at h; cases h
          | false => rfl
        · rw [lastB_cons _ hv] at k ⊢; exact k
      · rw [lastB_cons _ hu] at h
        by_cases hv : vs = []
        · subst hv
          have e : joinF us [] = us := by cases us <;> rfl
          rw [e, lastB_cons _ hu]; exact h
        · rw [lastB_cons _ hv] at k
          have hne : joinF us vs ≠ [] := by
            intro e
            have := joinF_length us vs
            rw [e] at this
            have h2 : 0 < us.length := List.length_pos_iff.2 hu
            simp at this
            omega
          rw [lastB_cons _ hne]
          exact ih vs h k
end Go.Proofs.YtkpganpojdboeabDoor

/-! FfQ -/
namespace Go.Proofs.YtkpganpojdboeabDoor

/-- The right comb. -/
def combR : Nat → Tr
  | 0 => .lf
  | n + 1 => .nd .lf (combR n)
theorem combR_carets (n : Nat) : (combR n).carets = n := by induction n with | zero => rfl | succ n ih => simp [combR, Tr.carets, ih]
theorem combR_exps (n : Nat) : ∀ m x : Int, x ∈ (combR n).exps m → x + 2 = m + (combR n).leaves := by
  induction n with
  | zero => intro m x h; simp [combR, Tr.exps] at h
  | succ n ih =>
    intro m x h
    rw [combR, Tr.exps] at h
    rw [combR, leaves_nd]
    simp only [List.mem_append] at h
    have hl : (Tr.lf).leaves = 1 := rfl
    rcases h with h | h | h
    · cases n with
      | zero => simp [combR, Tr.isLf] at h; subst h; simp [combR, Tr.leaves, Tr.carets]
      | succ n => simp [combR, Tr.isLf] at h
    · simp [Tr.exps] at h
    · have := ih _ _ h
      rw [hl] at this ⊢
      push_cast at this ⊢
      omega
theorem combT_exps (us : List Tr) : lastB us = true → ∀ m x : Int, x ∈ (combT us).exps m → x + 2 < m + (combT us).leaves := by
  induction us with
  | nil => intro _ m x h; simp [combT, Tr.exps] at h
  | cons u us ih =>
    intro h m x hx
    rw [combT, Tr.exps] at hx
    rw [combT, leaves_nd]
    simp only [List.mem_append] at hx
    by_cases hu : us = []
    · subst hu
      rw [lastB_one] at h
      have hlf : u.isLf = false := by simpa using h
      have hl : (combT []).leaves = 1 := rfl
      rcases hx with hx | hx | hx
      · simp [hlf] at hx
      · have := exps_range u _ _ hx; rw [hl]; omega
      · simp [combT, Tr.exps] at hx
    · rw [lastB_cons u hu] at h
      have h2 : 2 ≤ (combT us).leaves := by
        cases us with
        | nil => exact absurd rfl hu
        | cons v vs => rw [combT, leaves_nd]; have := leaves_pos v; have := leaves_pos (combT vs); omega
      have hnl : (combT us).isLf = false := by
        cases us with
        | nil => exact absurd rfl hu
        | cons v vs => rfl
      rcases hx with hx | hx | hx
      · simp [hnl] at hx
      · have := exps_range u _ _ hx; omega
      · have := ih h _ _ hx
        push_cast
        omega
/-- The pair of a forest. -/
def pairF (us : List Tr) : Pr := (combT us, combR (combT us).carets)
theorem pairF_ok (us : List Tr) : okP (pairF us) := by unfold okP pairF; rw [combR_carets]
theorem pairF_both (us : List Tr) (h : lastB us = true) : both (pairF us) = [] := by
  rw [List.eq_nil_iff_forall_not_mem]
  intro x hx
  obtain ⟨h1, h2⟩ := mem_both.1 hx
  have h3 := combT_exps us h _ _ h1
  have h4 := combR_exps _ _ _ h2
  unfold pairF at h2 h3
  have h5 : (combR (combT us).carets).leaves = (combT us).leaves := by unfold Tr.leaves; rw [combR_carets]
  omega
theorem pairF_red (us : List Tr) (h : lastB us = true) : red (pairF us) = pairF us := (red_self _).2 (pairF_both us h)
theorem combT_carets (us : List Tr) : (combT us).carets = sumT us + us.length := by
  induction us with
  | nil => rfl
  | cons u us ih => rw [combT, Tr.carets, ih, sumT_cons, List.length_cons]; omega

/-- The leaves of a forest's trees. -/
def leavesL (us : List Tr) : Nat := sumT us + us.length
theorem fillR_rest (t : Tr) : ∀ us : List Tr, (t.fillR us).2 = us.drop t.leaves := by
  induction t with
  | lf => intro us; cases us <;> rfl
  | nd l r ihl ihr => intro us; rw [Tr.fillR, leaves_nd]; show (r.fillR (l.fillR us).2).2 = _; rw [ihr, ihl, List.drop_drop]
theorem fillR_app (t : Tr) : ∀ (A B : List Tr), t.leaves ≤ A.length → (t.fillR (A ++ B)).1 = (t.fillR A).1 := by
  induction t with
  | lf => intro A B h; cases A with | nil => simp [Tr.leaves] at h | cons a A => rfl
  | nd l r ihl ihr =>
    intro A B h
    rw [leaves_nd] at h
    rw [Tr.fillR, Tr.fillR]
    show Tr.nd _ _ = Tr.nd _ _
    rw [ihl A B (by omega), fillR_rest, fillR_rest, List.drop_append_of_le_length (by omega), ihr _ B (by rw [List.length_drop]; omega)]
theorem fillR_lfs (t : Tr) : ∀ m : Nat, (t.fillR (List.replicate m .lf)).1 = t := by
  induction t with
  | lf => intro m; cases m <;> rfl
  | nd l r ihl ihr =>
    intro m
    rw [Tr.fillR]
    show Tr.nd _ _ = _
    rw [ihl, fillR_rest, List.drop_replicate, ihr]
theorem fillR_pad (t : Tr) : ∀ (us : List Tr) (m : Nat), (t.fillR (us ++ List.replicate m .lf)).1 = (t.fillR us).1 := by
  induction t with
  | lf => intro us m; cases us with | nil => cases m <;> rfl | cons u us => rfl
  | nd l r ihl ihr =>
    intro us m
    rw [Tr.fillR, Tr.fillR]
    show Tr.nd _ _ = Tr.nd _ _
    rw [ihl, fillR_rest, fillR_rest, List.drop_append, List.drop_replicate, ihr]
/-- The trees of a list with others in place of their leaves, in order. -/
def fillLs : List Tr → List Tr → List Tr
  | [], _ => []
  | u :: us, vs => (u.fillR vs).1 :: fillLs us (vs.drop u.leaves)
theorem fillLs_length (us : List Tr) : ∀ vs : List Tr, (fillLs us vs).length = us.length := by
  induction us with
  | nil => intro vs; rfl
  | cons u us ih => intro vs; simp [fillLs, ih]
theorem leavesL_cons (u : Tr) (us : List Tr) : leavesL (u :: us) = u.leaves + leavesL us := by
  unfold leavesL Tr.leaves; rw [sumT_cons, List.length_cons]; omega
theorem fillLs_app (us : List Tr) : ∀ (A B : List Tr), leavesL us ≤ A.length → fillLs us (A ++ B) = fillLs us A := by
  induction us with
  | nil => intro A B _; rfl
  | cons u us ih =>
    intro A B h
    rw [leavesL_cons] at h
    rw [fillLs, fillLs, fillR_app u A B (by omega), List.drop_append_of_le_length (by omega), ih _ B (by rw [List.length_drop]; omega)]
theorem fillLs_pad (us : List Tr) : ∀ (vs : List Tr) (m : Nat), fillLs us (vs ++ List.replicate m .lf) = fillLs us vs := by
  induction us with
  | nil => intro vs m; rfl
  | cons u us ih => intro vs m; rw [fillLs, fillLs, fillR_pad, List.drop_append, List.drop_replicate, ih]
theorem fillLs_take (us vs : List Tr) : fillLs us (vs.take (leavesL us)) = fillLs us vs := by
  by_cases h : leavesL us ≤ vs.length
  · have h1 := fillLs_app us (vs.take (leavesL us)) (vs.drop (leavesL us)) (by rw [List.length_take]; omega)
    rw [List.take_append_drop] at h1
    exact h1.symm
  · rw [List.take_of_length_le (by omega)]
/-- f with g stacked. -/
def stackF (us vs : List Tr) : List Tr := stripT (fillLs us vs ++ vs.drop (leavesL us))
/-- The tree with trees at the left sides of its right side, and another one at the end. -/
def combE (us : List Tr) (e : Tr) : Tr := us.foldr Tr.nd e
theorem combE_lf (us : List Tr) : combE us .lf = combT us := by
  induction us with
  | nil => rfl
  | cons u us ih => show Tr.nd u (combE us .lf) = _; rw [ih]; rfl
theorem sides_combE (us : List Tr) (e : Tr) : sidesT (combE us e) = us ++ sidesT e := by
  induction us with
  | nil => rfl
  | cons u us ih => show u :: sidesT (combE us e) = _; rw [ih]; rfl
theorem fillR_comb (us : List Tr) : ∀ vs : List Tr, ((combT us).fillR vs).1 = combE (fillLs us vs) ((vs.drop (leavesL us)).headD .lf) := by
  induction us with
  | nil => intro vs; cases vs <;> rfl
  | cons u us ih =>
    intro vs
    rw [combT, Tr.fillR, leavesL_cons]
    show Tr.nd _ _ = Tr.nd (u.fillR vs).1 _
    rw [ih, fillR_rest, List.drop_drop]
    rfl
/-- What hangs in the tree of f with the trees of g in place of its leaves. -/
theorem stack_hang (us vs : List Tr) (c : Nat) (hc : c = min (leavesL us) vs.length) :
    hangT ((combT us).fill (vs.take c ++ (List.replicate (leavesL us - c) .lf ++ [combT (vs.drop c)]))) = stackF us vs := by
  have hlen : (vs.take c ++ List.replicate (leavesL us - c) Tr.lf).length = leavesL us := by simp; omega
  unfold hangT stackF Tr.fill
  rw [← List.append_assoc, fillR_comb, fillLs_app us _ _ (by omega), fillLs_pad, List.drop_append_of_le_length (by omega), List.drop_of_length_le (by omega)]
  show stripT (sidesT (combE _ (combT (vs.drop c)))) = _
  rw [sides_combE, sides_comb]
  by_cases h : leavesL us ≤ vs.length
  · obtain rfl : c = leavesL us := by omega
    rw [fillLs_take]
  · obtain rfl : c = vs.length := by omega
    rw [List.take_of_length_le (by omega), List.drop_of_length_le (by omega), List.drop_of_length_le (by omega)]

/-- What the trees of h have at the leaves of those of f. -/
def quoF : List Tr → List Tr → List Tr
  | [], vs => vs
  | u :: us, [] => u.subs .lf ++ quoF us []
  | u :: us, v :: vs => u.subs v ++ quoF us vs
theorem subs_comb (us : List Tr) : ∀ vs : List Tr, lastB us = true → partF us vs = true → ∃ A E, (combT us).subs (combT vs) = A ++ [E] ∧ A ++ sidesT E = quoF us vs := by
  induction us with
  | nil => intro vs _ _; exact ⟨[], combT vs, by cases vs <;> rfl, by rw [sides_comb]; rfl⟩
  | cons u us ih =>
    intro vs h k
    cases vs with
    | nil => rw [partF_nil _ h (by simp)] at k; cases k
    | cons v vs =>
      rw [partF, Bool.and_eq_true] at k
      have hl : lastB us = true := by
        by_cases hu : us = []
        · subst hu; rfl
        · rwa [lastB_cons u hu] at h
      obtain ⟨A, E, h1, h2⟩ := ih vs hl k.2
      refine ⟨u.subs v ++ A, E, ?_, ?_⟩
      · show u.subs v ++ (combT us).subs (combT vs) = _
        rw [h1, List.append_assoc]
      · rw [List.append_assoc, h2]; rfl
end Go.Proofs.YtkpganpojdboeabDoor

/-! WdP -/
namespace Go.Proofs.YtkpganpojdboeabDoor

/-- A letter with a number less than m. -/
def okL (m : Int) (x : Int) : Bool := !(x == 0) && (decide (-m ≤ x) && decide (x ≤ m))
theorem okL_iff {m x : Int} : okL m x = true ↔ x ≠ 0 ∧ -m ≤ x ∧ x ≤ m := by simp [okL]
theorem okL_false {m x : Int} : okL m x = false ↔ x = 0 ∨ x < -m ∨ m < x := by
  rw [Bool.eq_false_iff, Ne, okL_iff]; omega
def isW (m : Int) (w : List Int) : Bool := w.all (okL m)
/-- Is it a word? -/
def goodW (w : List Int) : Bool := decide (w.length ≤ 20) && isW 21 w
theorem goodW_iff {w : List Int} : goodW w = true ↔ w.length ≤ 20 ∧ ∀ x ∈ w, x ≠ 0 ∧ -21 ≤ x ∧ x ≤ 21 := by
  simp only [goodW, isW, Bool.and_eq_true, decide_eq_true_eq, List.all_eq_true, okL_iff]
theorem isW_drop {m : Int} {w : List Int} {k : Nat} (h : k < w.length) : isW m (w.drop k) = (okL m (w.getD k 0) && isW m (w.drop (k + 1))) := by
  unfold isW; rw [List.drop_eq_getElem_cons h, List.all_cons]; simp [h]
theorem isW_end (m : Int) (w : List Int) : isW m (w.drop w.length) = true := by simp [isW]

/-- The word of all inverses, backwards. -/
def invW (w : List Int) : List Int := (w.map fun x => -x).reverse
theorem invW_length (w : List Int) : (invW w).length = w.length := by simp [invW]

/-- One letter more behind a word without letters and inverses next to each other. -/
def free1 (out : List Int) (x : Int) : List Int := if out.getLast? = some (-x) then out.dropLast else out ++ [x]
def freeW (w : List Int) : List Int := w.foldl free1 []
theorem free1_length (out : List Int) (x : Int) : (free1 out x).length ≤ out.length + 1 := by
  unfold free1; split <;> simp; omega
theorem freeW_take {w : List Int} {k : Nat} (h : k < w.length) : freeW (w.take (k + 1)) = free1 (freeW (w.take k)) (w.getD k 0) := by
  unfold freeW
  rw [List.take_succ_eq_append_getElem h, List.foldl_append]
  simp [h]
theorem freeW_length (w : List Int) : (freeW w).length ≤ w.length := by
  have : ∀ (l a : List Int), (l.foldl free1 a).length ≤ a.length + l.length := by
    intro l
    induction l with
    | nil => intro a; simp
    | cons x l ih => intro a; have := ih (free1 a x); have := free1_length a x; simp only [List.foldl_cons, List.length_cons]; omega
  have := this w []
  simpa [freeW] using this
theorem free1_last {out : List Int} {x : Int} (h : 0 < out.length) : free1 out x = if out.getD (out.length - 1) 0 = -x then out.take (out.length - 1) else out ++ [x] := by
  unfold free1
  rw [List.getLast?_eq_getElem?, List.getElem?_eq_getElem (by omega)]
  have : out.getD (out.length - 1) 0 = out[out.length - 1]'(by omega) := by simp [List.getD_eq_getElem?_getD, List.getElem?_eq_getElem (show out.length - 1 < out.length by omega)]
  rw [this, List.dropLast_eq_take]
  simp

/-- What two letters next to each other become. -/
def ruleO (x y : Int) : Option (List Int) :=
  if x = -y then some []
  else if 0 < x ∧ 0 < y ∧ y < x then some [y, x + 1]
  else if x < 0 ∧ y < 0 ∧ -x < -y then some [y - 1, x]
  else if x < 0 ∧ 0 < y ∧ -x < y then some [y + 1, x]
  else if x < 0 ∧ 0 < y ∧ y < -x then some [y, x - 1]
  else none
/-- A word behind the first rule. -/
def stepO : List Int → Option (List Int)
  | x :: y :: r => match ruleO x y with
    | some b => some (b ++ r)
    | none => (stepO (y :: r)).map (x :: ·)
  | _ => none

/-- Letters with numbers that are greater by so much. -/
def up (k : Int) (x : Int) : Int := if x < 0 then x - k else x + k
def upW (k : Int) (w : List Int) : List Int := w.map (up k)

/-- A word, if it is one. -/
def ifW (w : List Int) : Option (List Int) := if goodW w = true then some w else none

/-- The sums of a word: of x(0), of all others. -/
def sgn (x : Int) : Int := if x < 0 then -1 else 1
def num (x : Int) : Int := (if x < 0 then -x else x) - 1
def sumZ (w : List Int) : Int := (w.map fun x => if num x = 0 then sgn x else 0).sum
def sumO (w : List Int) : Int := (w.map fun x => if num x = 0 then 0 else sgn x).sum

end Go.Proofs.YtkpganpojdboeabDoor

/-! WdR -/
namespace Go.Proofs.YtkpganpojdboeabDoor

/-- x(k) as often as the exponent of the leaf k tells, k leaves being in front. -/
def lettersE : List Nat → Nat → List Int
  | [], _ => []
  | a :: L, k => List.replicate a ((k : Int) + 1) ++ lettersE L (k + 1)
theorem lettersE_length : ∀ (L : List Nat) (k : Nat), (lettersE L k).length = L.sum := by
  intro L
  induction L with
  | nil => intro k; rfl
  | cons a L ih => intro k; simp [lettersE, ih]
theorem lettersE_mem : ∀ (L : List Nat) (k : Nat), ∀ x ∈ lettersE L k, (k : Int) + 1 ≤ x ∧ x ≤ (k : Int) + L.length := by
  intro L
  induction L with
  | nil => intro k x h; simp [lettersE] at h
  | cons a L ih =>
    intro k x h
    rw [lettersE, List.mem_append] at h
    rcases h with h | h
    · have := (List.mem_replicate.1 h).2; simp; omega
    · have := ih (k + 1) x h; simp; omega
theorem lettersE_snoc : ∀ (L : List Nat) (a k : Nat), lettersE (L ++ [a]) k = lettersE L k ++ List.replicate a (((k + L.length : Nat) : Int) + 1) := by
  intro L
  induction L with
  | nil => intro a k; simp [lettersE]
  | cons b L ih =>
    intro a k
    rw [List.cons_append, lettersE, ih, lettersE, List.append_assoc]
    congr 4
    simp; omega
/-- The letters of a tree. -/
def Tr.letters (t : Tr) : List Int := lettersE t.expR 0
theorem letters_length (t : Tr) : t.letters.length ≤ t.carets := by unfold Tr.letters; rw [lettersE_length]; exact expR_sum t
theorem letters_mem (t : Tr) : ∀ x ∈ t.letters, 1 ≤ x ∧ x ≤ (t.carets : Int) + 1 := by
  intro x h
  have := lettersE_mem _ _ x h
  rw [expR_length] at this
  simp at this; omega
/-- The normal word of a reduced pair of trees. -/
def wordT (a b : Tr) : List Int := a.letters ++ invW b.letters
theorem wordT_good {a b : Tr} (h : a.carets ≤ 8) (k : b.carets ≤ 8) : goodW (wordT a b) = true := by
  rw [goodW_iff]
  have h1 := letters_length a
  have h2 := letters_length b
  refine ⟨by unfold wordT; rw [List.length_append, invW_length]; omega, fun x hx => ?_⟩
  rcases List.mem_append.1 hx with hx | hx
  · have := letters_mem a x hx; omega
  · unfold invW at hx
    rw [List.mem_reverse, List.mem_map] at hx
    obtain ⟨y, hy, rfl⟩ := hx
    have := letters_mem b y hy; omega

/-- The letters of x(0), x(1) that stand for one. -/
def twoL (x : Int) : List Int :=
  if num x = 0 then [x] else List.replicate (num x - 1).toNat (-1) ++ ((if 0 < x then 2 else -2) :: List.replicate (num x - 1).toNat 1)
def twoW (w : List Int) : List Int := w.flatMap twoL
def twoO (w : List Int) : Option (List Int) := if goodW w = true then if (twoW w).length ≤ 300 then some (freeW (twoW w)) else none else none
theorem twoL_length {x : Int} (_h : x ≠ 0) (h1 : -21 ≤ x) (h2 : x ≤ 21) : (twoL x).length ≤ 39 := by
  unfold twoL
  split
  · simp
  · simp only [List.length_append, List.length_replicate, List.length_cons]
    unfold num at *
    split <;> omega
theorem twoW_length {w : List Int} (h : goodW w = true) : (twoW w).length ≤ 39 * w.length := by
  have hm := (goodW_iff.1 h).2
  clear h
  induction w with
  | nil => simp [twoW]
  | cons x w ih =>
    have h1 := hm x (by simp)
    have h2 := twoL_length h1.1 h1.2.1 h1.2.2
    have h3 := ih (fun y hy => hm y (by simp [hy]))
    have h4 : twoW (x :: w) = twoL x ++ twoW w := rfl
    rw [h4, List.length_append, List.length_cons]; omega

end Go.Proofs.YtkpganpojdboeabDoor

/-! FfW -/
namespace Go.Proofs.YtkpganpojdboeabDoor

/-- The exponents of a forest's leaves. -/
def exG : List Tr → List Nat
  | [] => []
  | u :: us => u.expN 0 ++ exG us
theorem exG_app (us vs : List Tr) : exG (us ++ vs) = exG us ++ exG vs := by
  induction us with
  | nil => rfl
  | cons u us ih => rw [List.cons_append, exG, ih, exG, List.append_assoc]
theorem exG_length (us : List Tr) : (exG us).length = sumT us + us.length := by
  induction us with
  | nil => rfl
  | cons u us ih =>
    rw [exG, List.length_append, ih, expN_length]
    show _ = (u.carets + sumT us) + (us.length + 1)
    omega
theorem exG_sum (us : List Tr) : (exG us).sum = sumT us := by
  induction us with
  | nil => rfl
  | cons u us ih =>
    rw [exG, List.sum_append, ih, expN_sum]
    show _ = u.carets + sumT us
    omega
theorem combT_expR (us : List Tr) : (combT us).expR = exG us ++ [0] := by
  induction us with
  | nil => rfl
  | cons u us ih => rw [combT, Tr.expR, ih, exG, List.append_assoc]
/-- The letters of a forest's word. -/
def worL (us : List Tr) : List Int := lettersE (exG us) 0
theorem worL_comb (us : List Tr) : lettersE (combT us).expR 0 = worL us := by
  rw [combT_expR, lettersE_snoc]; simp [worL]
theorem worL_length (us : List Tr) : (worL us).length = sumT us := by unfold worL; rw [lettersE_length, exG_sum]
theorem worL_good {us : List Tr} (h : sumT us ≤ 8) (hl : us.length ≤ 8) : goodW (worL us) = true := by
  rw [goodW_iff]
  refine ⟨by rw [worL_length]; omega, fun x hx => ?_⟩
  have := lettersE_mem _ _ x hx
  rw [exG_length] at this
  omega
theorem exG_take {us : List Tr} {k : Nat} (h : k < us.length) : exG (us.take (k + 1)) = exG (us.take k) ++ (us.getD k .lf).expN 0 := by
  rw [List.take_succ_eq_append_getElem h, exG_app]
  simp [exG, h]
theorem sum_takeG (L : List Nat) (k : Nat) : (L.take k).sum ≤ L.sum := by
  have h := congrArg List.sum (List.take_append_drop k L)
  rw [List.sum_append] at h
  omega
theorem exG_bd {us : List Tr} (h : sumT us ≤ 8) (hl : us.length ≤ 8) (k : Nat) : (exG (us.take k)).length ≤ 16 ∧ (exG (us.take k)).sum ≤ 8 := by
  have h1 := congrArg exG (List.take_append_drop k us)
  rw [exG_app] at h1
  have h2 := congrArg List.length h1
  have h3 := congrArg List.sum h1
  rw [List.length_append, exG_length us] at h2
  rw [List.sum_append, exG_sum us] at h3
  omega
theorem lettersE_step (L : List Nat) (x p : Nat) (hp : p = L.length) : lettersE (L ++ [x]) 0 = lettersE L 0 ++ List.replicate x ((p : Int) + 1) := by
  rw [lettersE_snoc, hp, Nat.zero_add]
theorem take_nextG (L : List Nat) {k : Nat} (h : k < L.length) : L.take (k + 1) = L.take k ++ [L.getD k 0] := by
  rw [List.take_succ_eq_append_getElem h]; simp [h]
end Go.Proofs.YtkpganpojdboeabDoor

/-! BackS -/
namespace Go.Proofs.YtkpganpojdboeabDoor
open Go.RowKit Go.Shelf

attribute [local go_sem] Oper.semAt_some

/-- An index with the short text that stands there. -/
abbrev IxS := { p : Nat × ByteArray // p.2.size ≤ 1000 }
theorem getD_short {L : List ByteArray} (h : ∀ x ∈ L, x.size ≤ 1000) (k : Nat) : (L[k]?.getD ⟨#[]⟩).size ≤ 1000 := by
  by_cases hk : k < L.length
  · rw [List.getElem?_eq_getElem hk]; exact h _ (List.getElem_mem _)
  · rw [List.getElem?_eq_none (by omega)]; exact Nat.zero_le _
/-- What comes in the round number k. -/
def bkAtS (L : List ByteArray) (h : ∀ x ∈ L, x.size ≤ 1000) (k : Nat) : IxS := ⟨(L.length - 1 - k, L[L.length - 1 - k]?.getD ⟨#[]⟩), getD_short h _⟩
def bkToS (L : List ByteArray) (h : ∀ x ∈ L, x.size ≤ 1000) (k : Nat) : List IxS := (List.range k).map (bkAtS L h)
theorem bkToS_succ (L : List ByteArray) (h : ∀ x ∈ L, x.size ≤ 1000) (k : Nat) : bkToS L h (k + 1) = bkToS L h k ++ [bkAtS L h k] := by simp [bkToS, List.range_succ]
theorem bkToS_length (L : List ByteArray) (h : ∀ x ∈ L, x.size ≤ 1000) (k : Nat) : (bkToS L h k).length = k := by simp [bkToS]

/-- What the body of the loop must keep: what lay below n₀, and the slice's own box. -/
def KpS (n₀ Bs : Nat) (W W' : World) : Prop := Below n₀ W W' ∧ ∀ v, Boxed W Bs 59 v → Boxed W' Bs 59 v
theorem KpS.refl (n₀ Bs : Nat) (W : World) : KpS n₀ Bs W W := ⟨Below.refl _ _, fun _ h => h⟩
theorem KpS.trans {n₀ Bs : Nat} {A B C : World} (h : KpS n₀ Bs A B) (k : KpS n₀ Bs B C) : KpS n₀ Bs A C := ⟨h.1.trans k.1, fun v hv => k.2 v (h.2 v hv)⟩
theorem KpS.put {n₀ Bs : Nat} {w : World} (hn : n₀ ≤ w.heap.size) (W : World) (l : Nat) (o o' : Obj) (hl : w.heap.size ≤ l) (h : W.heap[l]? = some o) (hc : o.isCells = false) (hw : o.isWalk = false) : KpS n₀ Bs W (W.putObj l o') :=
  ⟨belowK_b hn W l o o' hl h hc hw, fun v hv => hv.kept (grownBy_putObj' W l o') (fun e => by
    cases e
    rw [show W.heap[Bs]? = _ from hv] at h
    cases h; cases hc)⟩

end Go.Proofs.YtkpganpojdboeabDoor

/-! Count -/
namespace Go.Proofs.YtkpganpojdboeabDoor
open Go.RowKit

set_option maxHeartbeats 1000000 in
set_option maxRecDepth 100000 in
theorem count_any (s : ByteArray) (w : World) :
    Calls Tryd.prog 49 #[.string s, .string ⟨#[40]⟩] w fun e w' => e = .returned (.int .i64 (Lib.countByte s.data.toList 40 : Nat)) ∧ w = w' := by
  go_enter Tryd.func49, Tryd.ntmps49
  go_wp2
  rw [run_callFunc_extern Tryd.func88 (by kernel_rfl) (by kernel_rfl) (by kernel_rfl) (e := Extern.BytealgCount.count) (by kernel_rfl), Lib.run_countString]
  simp only [Result.andThen]
  rw [Oper.upon_value]
  go_wp2
  go_ret
  exact ⟨rfl, rfl⟩

theorem countCarets_any (t : Tr) (w : World) (_h : t.carets ≤ 1000) :
    Calls Tryd.prog 36 #[.string t.str] w (Gives (.int .i64 t.carets) w) := by
  have e : Hid (Lib.countByte t.str.data.toList 40 = t.carets) := by rw [show Hid _ = _ from rfl, Tr.str_list, ← text_count]; rfl
  go_enter Tryd.func36, Tryd.ntmps36
  go_wp2_with fail
  refine (count_any t.str _).mono ?_; rintro _ w1 ⟨rfl, rfl⟩
  rw [e.out]
  go_wp2_with fail
  go_ret
  exact ⟨rfl, Below.refl _ _⟩
end Go.Proofs.YtkpganpojdboeabDoor

/-! Pair -/
namespace Go.Proofs.YtkpganpojdboeabDoor
open Go.RowKit

/-- A pair of texts as a value. -/
abbrev pv (a b : ByteArray) : Value := .agg #[.string a, .string b]

theorem toPair_any (a b : ByteArray) (w : World) :
    Calls Tryd.prog 9 #[.agg #[.string a, .string b]] w (Gives (.agg #[.string a, .string b]) w) := by
  go_enter Tryd.func9, Tryd.ntmps9
  go_wp2
  refine bodyPost_ret (v := .agg #[.string a, .string b]) (by simp [results, Tryd.results9, go_sem]) rfl ⟨rfl, ?_⟩
  exact nxAlloc (nxAlloc (nxAlloc (Below.refl _ _) _) _) _

theorem szPair_any (a b : ByteArray) (w : World) (ha : a.size ≤ 9223372036854775807) (hb : b.size ≤ 9223372036854775807) (n : Int) (h0 : 0 ≤ n) (h1 : n ≤ 1048576) :
    Calls Tryd.prog 7 #[.agg #[.string a, .string b], .int .i64 n] w (Gives (.int .i64 (if (a.size : Int) + b.size ≤ n then n - a.size - b.size else -1)) w) := by
  by_cases h2 : n - a.size < 0
  · rw [if_neg (by omega)]
    go_enter Tryd.func7, Tryd.ntmps7
    go_wp2
    go_ret
    exact ⟨rfl, (Below.refl _ _).alloc (Nat.le_refl _) _⟩
  · by_cases h3 : n - a.size - b.size < 0
    · rw [if_neg (by omega)]
      go_enter Tryd.func7, Tryd.ntmps7
      go_wp2
      go_ret
      exact ⟨rfl, (Below.refl _ _).alloc (Nat.le_refl _) _⟩
    · rw [if_pos (by omega)]
      go_enter Tryd.func7, Tryd.ntmps7
      go_wp2
      go_ret
      exact ⟨rfl, (Below.refl _ _).alloc (Nat.le_refl _) _⟩

theorem eqPair_same (a b : ByteArray) (w : World) :
    Calls Tryd.prog 21 #[.agg #[.string a, .string b], .agg #[.string a, .string b]] w (Gives (.bool true) w) := by
  go_enter Tryd.func21, Tryd.ntmps21
  go_wp2
  go_ret
  exact ⟨rfl, ((Below.refl _ _).alloc (Nat.le_refl _) _).alloc (by simp) _⟩

theorem pairOf_isSome (a b : ByteArray) (t u : Tr) (ha : treeOf a = some t) (hb : treeOf b = some u) : (pairOf a b).isSome = ((t.carets : Int) == (u.carets : Int)) := by
  unfold pairOf
  rw [ha, hb, Bool.eq_iff_iff, beq_iff_eq]
  by_cases h : t.carets = u.carets
  · simp [h]
  · simp only [h, if_false]; simp; omega

set_option maxRecDepth 100000 in
set_option maxHeartbeats 1000000 in
theorem prGood_any (a b : ByteArray) (w : World) (ha : a.size ≤ 9223372036854775806) (hb : b.size ≤ 9223372036854775806) :
    Calls Tryd.prog 22 #[.agg #[.string a, .string b]] w (Gives (.bool (pairOf a b).isSome) w) := by
  cases h : treeOf a with
  | none =>
    have e : (pairOf a b).isSome = false := by unfold pairOf; rw [h]; rfl
    rw [e]
    have T := fun w => trIs_no a w ha h
    clear h e
    go_enter Tryd.func22, Tryd.ntmps22
    go_wp2_with fail
    go_quiet ((go_at_call 32; with_reducible exact quiet_eq (T _)))
    go_wp2_with fail
    go_ret
    exact ⟨rfl, drewB (nxAlloc (Below.refl _ _) _) _⟩
  | some t =>
    cases k : treeOf b with
    | none =>
      have e : (pairOf a b).isSome = false := by unfold pairOf; rw [h, k]; rfl
      rw [e]
      obtain ⟨rfl, hc⟩ := treeOf_some h
      have T := fun w => trIs_yes t w hc
      have U := fun w => trIs_no b w hb k
      clear h k e
      go_enter Tryd.func22, Tryd.ntmps22
      go_wp2_with fail
      go_quiet ((go_at_call 32; first | (with_reducible exact quiet_eq (T _)) | (with_reducible exact quiet_eq (U _))))
      go_wp2_with fail
      go_ret
      exact ⟨rfl, drewB (nxAlloc (Below.refl _ _) _) _⟩
    | some u =>
      rw [pairOf_isSome a b t u h k]
      obtain ⟨rfl, hc⟩ := treeOf_some h
      obtain ⟨rfl, hd⟩ := treeOf_some k
      have T := fun w => trIs_yes t w hc
      have U := fun w => trIs_yes u w hd
      have C := fun w => carets_str t w (by omega)
      have D := fun w => carets_str u w (by omega)
      clear h k
      go_enter Tryd.func22, Tryd.ntmps22
      go_wp2_with fail
      go_quiet ((first | (go_at_call 32; first | (with_reducible exact quiet_eq (T _)) | (with_reducible exact quiet_eq (U _))) | (go_at_call 33; first | (with_reducible exact quiet_eq (C _)) | (with_reducible exact quiet_eq (D _)))))
      go_wp2_with fail
      go_ret
      exact ⟨rfl, drewB (nxAlloc (Below.refl _ _) _) _⟩
end Go.Proofs.YtkpganpojdboeabDoor

/-! RegT -/
namespace Go.Proofs.YtkpganpojdboeabDoor
open Go.RowKit

section
variable {P : Program} {ops : Array Oper} {md : Region.Mode} {C : World → Prop}

/-- Whatever order is drawn for the first n operations. -/
def headQ (P : Program) (md : Region.Mode) (ops : Array Oper) (C : World → Prop) (n : Nat) (L : Array Bool → Act → Prop) : Nat → Array Bool → Act → Prop
  | 0, listed, a => L listed a
  | f + 1, listed, a => Region.ready md ops listed ≠ [] ∧ ∀ i ∈ Region.ready md ops listed, i < n ∧ qOp P ops C i (headQ P md ops C n L f (listed.setIfInBounds i true)) a

theorem any_of_headQ {n g : Nat} {L : Array Bool → Act → Prop} {Q' : Exit → Act → World → Prop} (hL : ∀ listed a w, C w → L listed a → wpAny P md ops Q' g listed a w) :
    ∀ (f : Nat) (listed : Array Bool) (a : Act) (w : World), C w → headQ P md ops C n L f listed a → wpAny P md ops Q' (f + g) listed a w
  | 0, listed, a, w, hw, h => by rw [Nat.zero_add]; exact hL _ _ _ hw h
  | f + 1, listed, a, w, hw, h => by
    rw [Nat.add_right_comm]
    exact ⟨fun h0 => absurd h0 h.1, fun i hi => wpOp_of_qOp hw (fun a' w' hw' h' => any_of_headQ hL f _ a' w' hw' h') (h.2 i hi).2⟩

theorem headQ_first {n i : Nat} {oi : Oper} {v : Value} {L : Array Bool → Act → Prop} (hi : ops[i]? = some oi) (hsel : ∀ (j : Nat) (o : Oper) cs b, ops[j]? = some o → o.op ≠ .select cs b)
    (hs : Region.sinkB md ops n = true) (hc : Region.chainB md ops n = true) (hn : n < ops.size) (hin : i < n)
    (hdone : ∀ listed a, L listed a → ∀ j ∈ Region.ready md ops listed, n ≤ j) :
    ∀ (f : Nat) (listed : Array Bool) (a : Act), HeadInv md ops n listed →
      (∀ j oj, ops[j]? = some oj → j ≠ i → listed.getD j true = false → (∀ e ∈ oj.after, Region.binds md e = true → e.on ≠ i) → oi.apart ops oj = true) →
      i ∈ Region.ready md ops listed → YieldsIn P ops C oi v a →
      headQ P md ops C n L f (listed.setIfInBounds i true) (a.put oi.dst v) → headQ P md ops C n L (f + 1) listed a := by
  intro f
  induction f with
  | zero =>
    intro listed a inv _ hr hy H
    have hun := (mem_ready.1 hr).1
    refine ⟨(List.ne_nil_of_mem hr), fun j hj => ?_⟩
    have hjn : j < n := Nat.lt_of_not_le fun h => tail_waits hs hc hn inv _ i rfl hin hun j h hj
    refine ⟨hjn, ?_⟩
    by_cases hji : j = i
    · subst hji; exact hy.qOp hi H
    · have := hdone _ _ H j (ready_mono hj hji)
      omega
  | succ f ih =>
    intro listed a inv hfree hr hy H
    have hun := (mem_ready.1 hr).1
    refine ⟨(List.ne_nil_of_mem hr), fun j hj => ?_⟩
    have hjn : j < n := Nat.lt_of_not_le fun h => tail_waits hs hc hn inv _ i rfl hin hun j h hj
    refine ⟨hjn, ?_⟩
    by_cases hji : j = i
    · subst hji; exact hy.qOp hi H
    · have k1 := (H.2 j (ready_mono hj hji)).2
      obtain ⟨hjun, oj, hoj, hall⟩ := mem_ready.1 hj
      have hnot : ∀ e ∈ oj.after, Region.binds md e = true → e.on ≠ i := by
        intro e he hb heq
        have k2 := hall e he hb
        rw [heq, getD_both hun] at k2
        cases k2
      have k3 := qOp_put hoj (hfree j oj hoj hji hjun hnot) (fun cs b => hsel i oi cs b hi) (fun cs b => hsel j oj cs b hoj) hy k1
      refine qOp_mono (fun a' k4 => ih (listed.setIfInBounds j true) a' (inv.set hj hjn) ?_ (ready_mono hr (Ne.symm hji)) k4.1 ?_) k3
      · intro k ok hk hki hunk hno
        refine hfree k ok hk hki ?_ hno
        by_cases hjk : j = k
        · subst hjk; exact hjun
        · rw [getD_set_ne true hjk] at hunk; exact hunk
      · rw [Array.setIfInBounds_comm _ _ hji]
        exact k4.2

theorem headQ_lex {n g : Nat} {Lq : Act → Prop} (hsel : Region.noSelect ops = true) (hs : Region.sinkB md ops n = true) (hc : Region.chainB md ops n = true) (hn : n < ops.size) :
    ∀ (l : List Oper) (k : Nat) (listed : Array Bool) (a : Act), (∀ j, j < l.length → l[j]? = ops[k + j]?) → k + l.length = n → HeadInv md ops n listed →
    Region.lexHead md ops g l.length k listed = true → wpQuiet P ops C Lq l a →
    headQ P md ops C n (fun listed' a' => Region.seqB md ops g n listed' = true ∧ Lq a') l.length listed a
  | [], k, listed, a, _, hk, _, hB, h => by
    obtain rfl : k = n := by simpa using hk
    exact ⟨by simpa [Region.lexHead] using hB, h⟩
  | o :: l, k, listed, a, hl, hk, inv, hB, h => by
    have h0 : ops[k]? = some o := by simpa using (hl 0 (by simp)).symm
    simp only [List.length_cons, Region.lexHead, Bool.and_eq_true] at hB
    obtain ⟨⟨hr, hf⟩, hB'⟩ := hB
    have hkn : k < n := by simp only [List.length_cons] at hk; omega
    have hr' : k ∈ Region.ready md ops listed := by simpa using hr
    have hst : qOp P ops C k (wpQuiet P ops C Lq l) a := by unfold qOp; simp only [h0]; exact h
    obtain ⟨v, hy, hK⟩ := yieldsIn_of_qOp h0 hst
    refine headQ_first h0 (Region.noSelect_spec hsel) hs hc hn hkn (fun listed' a' hL => seqB_ready hL.1) l.length listed a inv (Region.free_spec h0 hf) hr' hy ?_
    refine headQ_lex hsel hs hc hn l (k + 1) _ _ (fun j hj => ?_) (by simp only [List.length_cons] at hk; omega) (inv.set hr' hkn) hB' hK
    have := hl (j + 1) (by simp; omega)
    simpa [Nat.add_assoc, Nat.add_comm 1 j] using this

/-- The first n operations are quiet in the class; the rest is walked in each of its worlds. -/
theorem wp_region_headQ {id : Nat} {Q : Exit → Act → World → Prop} {a : Act} {w : World} {l : List Oper} (n : Nat) (hm : P.follows .mixedOrders = true) (hB : Region.lexTailB .any l.toArray n = true) (hC : C w.drew)
    (h : wpQuiet P l.toArray C (fun a' => ∀ w', C w' → wpList P l.toArray Q (l.drop n) a' w') (l.take n) a) : (Code.region id l.toArray true).wp P Q a w := by
  simp only [Region.lexTailB, Bool.and_eq_true, decide_eq_true_eq] at hB
  obtain ⟨⟨⟨⟨hsel, hn⟩, hs⟩, hc⟩, hlex⟩ := hB
  have hn' : n < l.length := by simpa using hn
  have htl : (l.take n).length = n := by simp; omega
  have hdl : (l.drop n).length = l.toArray.size - n := by simp
  have inv0 : HeadInv .any l.toArray n (Array.replicate l.toArray.size false) := by
    refine ⟨by simp, fun j oj _ hl => ?_, fun t _ ht => getD_in (by simpa using ht) (getD_replicate_false _ _)⟩
    rw [getD_replicate_false] at hl; cases hl
  have H := headQ_lex (md := .any) (C := C) (g := l.toArray.size - n) hsel hs hc hn (l.take n) 0 _ a (fun j hj => by
    have hj' : j < n := by rw [htl] at hj; exact hj
    simp [hj']) (by simpa using htl) inv0 (by rw [htl]; exact hlex) h
  refine wp_region_any hm ?_
  have := any_of_headQ (Q' := Q) (g := l.toArray.size - n) (fun listed a' w' hw' hL => by
    have := wpAny_of_seq (md := .any) (Q' := Q) (l.drop n) n listed a' w' (fun j => by simp [List.getElem?_drop]) (by rw [hdl]; exact hL.1) (hL.2 w' hw')
    rwa [hdl] at this) _ _ _ _ hC H
  rw [htl, show n + (l.toArray.size - n) = l.toArray.size by omega] at this
  exact this
end

/-- The worlds that leave what was there. -/
def Cls (w w' : World) : Prop := Below w.heap.size w w'
theorem Cls.cell {w w' : World} (h : Cls w w') {g i : Nat} {v : Value} (hg : g < w.heap.size) (hc : w.cell? ⟨g, i, none⟩ = some v) : w'.cell? ⟨g, i, none⟩ = some v := (Below.cell h (p := ⟨g, i, none⟩) hg).trans hc
theorem Cls.call {P : Program} {f : FuncId} {args : Array Value} {w w' : World} {v : Value} (h : Cls w w') (k : Calls P f args w' (Gives v w')) : Calls P f args w' fun e w'' => e = .returned v ∧ Cls w w'' :=
  k.mono fun _ _ ⟨he, hb⟩ => ⟨he, nx h hb⟩

theorem wp_region_cls {P : Program} {id : Nat} {Q : Exit → Act → World → Prop} {a : Act} {w : World} {l : List Oper} (hm : P.follows .mixedOrders = true) (hB : Region.lexB .any l.toArray = true)
    (h : wpQuiet P l.toArray (Cls w) (fun a' => ∀ w', Cls w w' → Q .normal a' w') l a) : (Code.region id l.toArray true).wp P Q a w :=
  wp_region_quiet (C := Cls w) hm hB ((Below.refl _ _).drew) (by simpa using h)

theorem wp_region_clsT {P : Program} {id : Nat} {Q : Exit → Act → World → Prop} {a : Act} {w : World} {l : List Oper} (n : Nat) (hm : P.follows .mixedOrders = true) (hB : Region.lexTailB .any l.toArray n = true)
    (h : wpQuiet P l.toArray (Cls w) (fun a' => ∀ w', Cls w w' → wpList P l.toArray Q (l.drop n) a' w') (l.take n) a) : (Code.region id l.toArray true).wp P Q a w :=
  wp_region_headQ n hm hB ((Below.refl _ _).drew) h
end Go.Proofs.YtkpganpojdboeabDoor

/-! PairK -/
namespace Go.Proofs.YtkpganpojdboeabDoor
open Go.RowKit

theorem two_cells {w : World} {g : Nat} {u v : Value} {t : TypeId} (h : w.heap[g]? = some (.cells #[u, v] t (0, 0))) : w.cell? ⟨g, 0, none⟩ = some u ∧ w.cell? ⟨g, 1, none⟩ = some v := by
  simp [World.cell?, h]
theorem two_facts {w : World} {g : Nat} {u v : Value} {t : TypeId} (h : w.heap[g]? = some (.cells #[u, v] t (0, 0))) : w.cell? ⟨g, 0, none⟩ = some u ∧ w.cell? ⟨g, 1, none⟩ = some v ∧ g < w.heap.size :=
  ⟨(two_cells h).1, (two_cells h).2, lt_of_block h⟩
theorem keep_two {w w' : World} {g : Nat} {u v : Value} (hb : Below w.heap.size w w') (hg : g < w.heap.size) (h : w.cell? ⟨g, 0, none⟩ = some u ∧ w.cell? ⟨g, 1, none⟩ = some v) : w'.cell? ⟨g, 0, none⟩ = some u ∧ w'.cell? ⟨g, 1, none⟩ = some v :=
  ⟨(hb.cell (p := ⟨g, 0, none⟩) hg).trans h.1, (hb.cell (p := ⟨g, 1, none⟩) hg).trans h.2⟩


theorem two_frozen {w : World} {g : Nat} {u v : Value} {t : TypeId} (h : w.heap[g]? = some (.cells #[u, v] t (0, 0))) : w.frozen? ⟨g, 0, none⟩ = false ∧ w.frozen? ⟨g, 1, none⟩ = false := by
  simp [World.frozen?, h]
theorem set_first {w : World} {g : Nat} {u v u' : Value} {t : TypeId} (h : w.heap[g]? = some (.cells #[u, v] t (0, 0))) : (w.setCell ⟨g, 0, none⟩ u').heap[g]? = some (.cells #[u', v] t (0, 0)) := Joins.block_setCell h u'
theorem set_second {w : World} {g : Nat} {u v v' : Value} {t : TypeId} (h : w.heap[g]? = some (.cells #[u, v] t (0, 0))) : (w.setCell ⟨g, 1, none⟩ v').heap[g]? = some (.cells #[u, v'] t (0, 0)) := Joins.block_setCell h v'
theorem set_two {w : World} {g : Nat} {u v : Value} (u' v' : Value) {t : TypeId} (h : w.heap[g]? = some (.cells #[u, v] t (0, 0))) : ((w.setCell ⟨g, 0, none⟩ u').setCell ⟨g, 1, none⟩ v').heap[g]? = some (.cells #[u', v'] t (0, 0)) := set_second (set_first h)
theorem heap_keep {w w' : World} {g : Nat} {o : Obj} (hb : Below w.heap.size w w') (h : w.heap[g]? = some o) : w'.heap[g]? = some o := (hb.block g (lt_of_block h)).trans h


def pS1 (o : Option Pr) : ByteArray := match o with
  | some p => p.1.str
  | none => ⟨#[]⟩
def pS2 (o : Option Pr) : ByteArray := match o with
  | some p => p.2.str
  | none => ⟨#[]⟩
/-- An answer of a pair and a bool. -/
def ansPr (o : Option Pr) : Value := .tuple #[.agg #[.string (pS1 o), .string (pS2 o)], .bool o.isSome]
end Go.Proofs.YtkpganpojdboeabDoor

/-! IsPair -/
namespace Go.Proofs.YtkpganpojdboeabDoor
open Go.RowKit

theorem isTree_yes' (t : Tr) (w : World) (h : t.carets ≤ 8) : Calls Tryd.prog 35 #[.string t.str] w (Gives (.bool true) w) := (implIsTree_yes t w h).mono fun _ _ ⟨h1, h2⟩ => ⟨h2, h1⟩
theorem isTree_no' (s : ByteArray) (w : World) (hs : s.size ≤ 9223372036854775806) (h : treeOf s = none) : Calls Tryd.prog 35 #[.string s] w (Gives (.bool false) w) := (implIsTree_no s w hs h).mono fun _ _ ⟨h1, h2⟩ => ⟨h2, h1⟩

set_option maxRecDepth 100000 in
set_option maxHeartbeats 2000000 in
theorem isPair_any (a b : ByteArray) (w : World) (ha : a.size ≤ 9223372036854775806) (hb : b.size ≤ 9223372036854775806) :
    Calls Tryd.prog 59 #[.agg #[.string a, .string b]] w (Gives (.bool (pairOf a b).isSome) w) := by
  cases h : treeOf a with
  | none =>
    have e : (pairOf a b).isSome = false := by unfold pairOf; rw [h]; rfl
    rw [e]
    have T := fun w => isTree_no' a w ha h
    clear h e
    go_enter Tryd.func59, Tryd.ntmps59
    go_wp2_with fail
    have hb0 : Below w.heap.size w (w.alloc (.cells #[.string a, .string b] 28 (0, 0))) := nxAlloc (Below.refl _ _) _
    have hc := two_cells (heap_alloc_at w (.cells #[.string a, .string b] 28 (0, 0)))
    have hs : w.heap.size < (w.alloc (.cells #[.string a, .string b] 28 (0, 0))).heap.size := by simp
    generalize w.alloc (.cells #[.string a, .string b] 28 (0, 0)) = w0 at *
    refine wp_region_cls (by kernel_rfl) (by kernel_rfl) ?_
    repeat (
      refine wpQuiet_step (fun K hK => ?_)
      go_simp
      first
        | (refine hK _ ?_; clear hK K)
        | (refine ⟨_, fun _ _ => rfl, hK _ ?_⟩; clear hK K)
        | (apply Exists.intro
           refine ⟨fun w' hw' => ?_, hK _ ?_⟩
           · first
               | (rw [hw'.cell hs hc.1]; exact ⟨rfl, rfl⟩)
               | (rw [hw'.cell hs hc.2]; exact ⟨rfl, rfl⟩)
               | (go_at_call 35; exact hw'.call (T _))
           clear hK K))
    refine wpQuiet_nil ?_
    intro w' hw'
    go_wp2_with fail
    go_ret
    exact ⟨rfl, nx hb0 hw'⟩
  | some t =>
    cases k : treeOf b with
    | none =>
      have e : (pairOf a b).isSome = false := by unfold pairOf; rw [h, k]; rfl
      rw [e]
      obtain ⟨rfl, hc⟩ := treeOf_some h
      have T := fun w => isTree_yes' t w hc
      have U := fun w => isTree_no' b w hb k
      clear h k e hc
      go_enter Tryd.func59, Tryd.ntmps59
      go_wp2_with fail
      have hb0 : Below w.heap.size w (w.alloc (.cells #[.string t.str, .string b] 28 (0, 0))) := nxAlloc (Below.refl _ _) _
      have hc := two_cells (heap_alloc_at w (.cells #[.string t.str, .string b] 28 (0, 0)))
      have hs : w.heap.size < (w.alloc (.cells #[.string t.str, .string b] 28 (0, 0))).heap.size := by simp
      generalize w.alloc (.cells #[.string t.str, .string b] 28 (0, 0)) = w0 at *
      refine wp_region_cls (by kernel_rfl) (by kernel_rfl) ?_
      repeat (
        refine wpQuiet_step (fun K hK => ?_)
        go_simp
        first
          | (refine hK _ ?_; clear hK K)
          | (refine ⟨_, fun _ _ => rfl, hK _ ?_⟩; clear hK K)
          | (apply Exists.intro
             refine ⟨fun w' hw' => ?_, hK _ ?_⟩
             · first
                 | (rw [hw'.cell hs hc.1]; exact ⟨rfl, rfl⟩)
                 | (rw [hw'.cell hs hc.2]; exact ⟨rfl, rfl⟩)
                 | (go_at_call 35; first | (with_reducible exact hw'.call (T _)) | (with_reducible exact hw'.call (U _)))
             clear hK K))
      refine wpQuiet_nil ?_
      intro w' hw'
      go_wp2_with fail
      go_ret
      exact ⟨rfl, nx hb0 hw'⟩
    | some u =>
      rw [pairOf_isSome a b t u h k]
      obtain ⟨rfl, hc⟩ := treeOf_some h
      obtain ⟨rfl, hd⟩ := treeOf_some k
      have T := fun w => isTree_yes' t w hc
      have U := fun w => isTree_yes' u w hd
      have C := fun w => countCarets_any t w (by omega)
      have D := fun w => countCarets_any u w (by omega)
      clear h k hc hd
      go_enter Tryd.func59, Tryd.ntmps59
      go_wp2_with fail
      have hb0 : Below w.heap.size w (w.alloc (.cells #[.string t.str, .string u.str] 28 (0, 0))) := nxAlloc (Below.refl _ _) _
      have hc := two_cells (heap_alloc_at w (.cells #[.string t.str, .string u.str] 28 (0, 0)))
      have hs : w.heap.size < (w.alloc (.cells #[.string t.str, .string u.str] 28 (0, 0))).heap.size := by simp
      generalize w.alloc (.cells #[.string t.str, .string u.str] 28 (0, 0)) = w0 at *
      refine wp_region_cls (by kernel_rfl) (by kernel_rfl) ?_
      repeat (
        refine wpQuiet_step (fun K hK => ?_)
        go_simp
        first
          | (refine hK _ ?_; clear hK K)
          | (refine ⟨_, fun _ _ => rfl, hK _ ?_⟩; clear hK K)
          | (apply Exists.intro
             refine ⟨fun w' hw' => ?_, hK _ ?_⟩
             · first
                 | (rw [hw'.cell hs hc.1]; exact ⟨rfl, rfl⟩)
                 | (rw [hw'.cell hs hc.2]; exact ⟨rfl, rfl⟩)
                 | (go_at_call 35; first | (with_reducible exact hw'.call (T _)) | (with_reducible exact hw'.call (U _)))
                 | (go_at_call 36; first | (with_reducible exact hw'.call (C _)) | (with_reducible exact hw'.call (D _)))
             clear hK K))
      refine wpQuiet_nil ?_
      intro w' hw'
      go_wp2_with fail
      go_ret
      exact ⟨rfl, nx hb0 hw'⟩
end Go.Proofs.YtkpganpojdboeabDoor

/-! ParseI -/
namespace Go.Proofs.YtkpganpojdboeabDoor
open Go.RowKit

/-- The index of the first byte c from an index on. -/
def idxB (s : ByteArray) (c : UInt8) : Int := Lib.indexByte s.data.toList c

set_option maxRecDepth 100000 in
set_option maxHeartbeats 1000000 in
theorem indexByteS_any (s : ByteArray) (c : UInt8) (w : World) :
    Calls Tryd.prog 156 #[.string s, .int .u8 c.toNat] w fun e w' => e = .returned (.int .i64 (idxB s c)) ∧ w = w' := by
  go_enter Tryd.func156, Tryd.ntmps156
  go_wp2
  rw [run_callFunc_extern Tryd.func174 (by kernel_rfl) (by kernel_rfl) (by kernel_rfl) (e := Extern.BytealgIndexByte.indexByte) (by kernel_rfl), Lib.run_indexByteString]
  simp only [Result.andThen]
  rw [Oper.upon_value]
  go_wp2
  go_ret
  refine ⟨ret_int ?_, rfl⟩
  unfold idxB
  simp

set_option maxRecDepth 100000 in
set_option maxHeartbeats 1000000 in
theorem index62_any (s : ByteArray) (w : World) :
    Calls Tryd.prog 128 #[.string s, .string ⟨#[62]⟩] w fun e w' => e = .returned (.int .i64 (idxB s 62)) ∧ w = w' := by
  have hI := fun w => indexByteS_any s 62 w
  have gz : ((⟨#[62]⟩ : ByteArray)[0]'(by decide)).toNat = 62 := rfl
  have ez : ((62 : UInt8).toNat : Int) = 62 := rfl
  rw [ez] at hI
  cases hq : ([62] == s.toList) with
  | true =>
    have h0 : idxB s 62 = 0 := by
      unfold idxB
      rw [← Lib.toList_data, ← (beq_iff_eq.1 hq)]
      rfl
    rw [h0]
    clear hI h0 ez
    go_enter Tryd.func128, Tryd.ntmps128
    go_wp2_with fail
    go_ret
    exact ⟨rfl, rfl⟩
  | false =>
    generalize idxB s 62 = z at *
    clear ez
    go_enter Tryd.func128, Tryd.ntmps128
    go_wp2_with fail
    refine (hI _).mono ?_; rintro e w1 ⟨rfl, rfl⟩
    go_wp2_with fail
    go_ret
    exact ⟨rfl, rfl⟩

theorem idx_spec (l : List UInt8) (c : UInt8) : (Lib.indexByte l c = -1 ∧ ∀ j : Nat, l[j]? ≠ some c) ∨ ∃ k : Nat, Lib.indexByte l c = k ∧ k < l.length ∧ l[k]? = some c ∧ ∀ j, j < k → l[j]? ≠ some c := by
  induction l with
  | nil => exact .inl ⟨rfl, fun j => by simp⟩
  | cons a l ih =>
    unfold Lib.indexByte
    by_cases h : (a == c) = true
    · rw [if_pos h]
      have : a = c := by simpa using h
      exact .inr ⟨0, rfl, by simp, by simp [this], fun j hj => by omega⟩
    · rw [if_neg h]
      have hne : a ≠ c := by simpa using h
      rcases ih with ⟨h1, h2⟩ | ⟨k, h1, h2, h3, h4⟩
      · left
        refine ⟨by rw [h1]; rfl, fun j => ?_⟩
        cases j with
        | zero => simpa using hne
        | succ j => simpa using h2 j
      · right
        refine ⟨k + 1, ?_, by simp; omega, by simpa using h3, fun j hj => ?_⟩
        · rw [h1]
          have : (((k : Nat) : Int) == -1) = false := by rw [beq_eq_false_iff_ne]; omega
          rw [this]
          simp
        · cases j with
          | zero => simpa using hne
          | succ j => simpa using h4 j (by omega)
theorem idxB_spec (s : ByteArray) (c : UInt8) : (idxB s c = -1 ∧ ∀ j : Nat, s.data.toList[j]? ≠ some c) ∨ ∃ k : Nat, idxB s c = k ∧ k < s.size ∧ s.data.toList[k]? = some c ∧ ∀ j, j < k → s.data.toList[j]? ≠ some c := by
  have := idx_spec s.data.toList c
  rw [← Lib.size_eq] at this
  exact this

def CutV (s : ByteArray) : Value := if 0 ≤ idxB s 62 then .tuple #[.string (s.extract 0 (idxB s 62).toNat), .string (s.extract ((idxB s 62).toNat + 1) s.size), .bool true] else .tuple #[.string s, .string ⟨#[]⟩, .bool false]

/-- The pieces of a text between the bytes 62, from an index on (fuel: what is left). -/
def pcs (s : ByteArray) : Nat → Nat → Nat → List ByteArray
  | 0, a, _ => [s.extract a s.size]
  | k + 1, a, i => if s.data.toList[i]? = some 62 then s.extract a i :: pcs s k (i + 1) (i + 1) else pcs s k a (i + 1)

theorem oneS1 (m : ByteArray) : ∀ u ∈ [Value.string m], u.oneCell' = true := by intro u hu; simp at hu; subst hu; rfl
theorem OwnS.snoc {base : Nat} {w : World} {v : Value} {xs : List ByteArray} {m : ByteArray} (h : w.ownsRow base 9 1 v (xs.length + 1) (xs.map Value.string ++ [Value.string m])) : OwnS base w v (xs ++ [m]) := by
  unfold OwnS; rw [List.length_append, List.map_append]; exact h

set_option maxRecDepth 100000 in
set_option maxHeartbeats 2000000 in
theorem split_any (s : ByteArray) (w : World) (hs : s.size ≤ 2000000) :
    Calls Tryd.prog 64 #[.string s, .int .u8 62] w fun e w' => ∃ v, OwnS w.heap.size w' v (pcs s s.size 0 0) ∧ Below w.heap.size w w' ∧ e = .returned v := by
  obtain ⟨i0, hi, hz0, hz1, hz2⟩ := info_parts info_str
  go_enter Tryd.func64, Tryd.ntmps64
  go_wp2_with fail
  go_loopw [5, 6, 7] (fun v f i wr => ∃ (a k : Nat) (xs : List ByteArray), f = .int .i64 a ∧ i = .int .i64 k ∧ a ≤ k ∧ k ≤ s.size ∧ xs.length ≤ k ∧ OwnS w.heap.size wr v xs ∧ Below w.heap.size w wr ∧ Hid (pcs s s.size 0 0 = xs ++ pcs s (s.size - k) a k)) (fun _ _ i _ => s.size - (intOf i).toNat)
  case atStart => exact ⟨0, 0, [], rfl, rfl, Nat.le_refl _, Nat.zero_le _, Nat.le_refl _, OwnS.nil _ _, Below.refl _ _, by show _ = _; rfl⟩
  case round =>
    obtain ⟨a, k, xs, rfl, rfl, hak, hk, hxl, hown, hbw, he⟩ := hrel
    by_cases hlt : k < s.size
    · have hlt' : (k : Int) < (s.size : Int) := by omega
      have hsk : s.data.toList[k]? = some (s[k]'hlt) := by
        have hl : k < s.data.toList.length := by rw [← Lib.size_eq]; exact hlt
        rw [List.getElem?_eq_getElem hl]; rfl
      have hu : (s[k]'hlt = 62) ↔ (((s[k]'hlt).toNat : Int) == 62) = true := by
        rw [beq_iff_eq]
        exact ⟨fun e => by rw [e]; rfl, fun e => u8_eq (n := 62) (by omega) e⟩
      have hf : s.size - k = (s.size - (k + 1)) + 1 := by omega
      have he0 := he.out
      rw [hf, pcs, hsk] at he0
      cases hb : (((s[k]'hlt).toNat : Int) == 62) with
      | true =>
        rw [if_pos (by rw [hu.2 hb])] at he0
        have he' : pcs s s.size 0 0 = (xs ++ [s.extract a k]) ++ pcs s (s.size - (k + 1)) (k + 1) (k + 1) := by rw [he0]; simp
        have HE := Lib.hid he'
        have hA : (a : Int) ≤ (k : Int) := by omega
        clear he0 he' hu hsk hf he
        go_wp2_with (at_builtin; refine wpList_append_own _ rfl _ _ 59 rfl w.heap.size 9 i0 (.string ⟨#[]⟩) 1 16 Tryd.underlying59 hi hz0 hz1 hz2 rfl (by decide) _ _ _ rfl (hown.alloc _) ⟨wr.heap.size, 0, none⟩ 1 1 [.string (s.extract a k)] rfl rfl (new1 _ _ _) (oneS1 _) (by unfold maxLen; omega) (by omega) (size_al hbw _) ?_; intro v' w1 hown' hgrow hnn)
        have hbw' := below_app hbw hown (Nat.le_refl _) hgrow
        have hown1 := OwnS.snoc hown'
        clear hown hown' hgrow hbw hnn
        go_wp2_with fail
        go_roundw
        case rel => exact ⟨k + 1, k + 1, xs ++ [s.extract a k], by go_num, by go_num, Nat.le_refl _, by omega, by simp; omega, hown1, hbw', HE⟩
        case measure => simp [intOf]; omega
      | false =>
        rw [if_neg (by intro e; rw [hu.1 (by injection e)] at hb; cases hb)] at he0
        have HE := Lib.hid he0
        clear he0 hu hsk hf he
        go_wp2_with fail
        go_roundw
        case rel => exact ⟨a, k + 1, xs, rfl, by go_num, by omega, by omega, by omega, hown, hbw, HE⟩
        case measure => simp [intOf]; omega
    · obtain rfl : k = s.size := by omega
      have he0 := he.out
      rw [Nat.sub_self, pcs] at he0
      have HE := Lib.hid he0
      have hA : (a : Int) ≤ (s.size : Int) := by omega
      clear he0 he
      go_wp2_with (at_builtin; refine wpList_append_own _ rfl _ _ 59 rfl w.heap.size 9 i0 (.string ⟨#[]⟩) 1 16 Tryd.underlying59 hi hz0 hz1 hz2 rfl (by decide) _ _ _ rfl (hown.alloc _) ⟨wr.heap.size, 0, none⟩ 1 1 [.string (s.extract a s.size)] rfl rfl (new1 _ _ _) (oneS1 _) (by unfold maxLen; omega) (by omega) (size_al hbw _) ?_; intro v' w1 hown' hgrow hnn)
      have hbw' := below_app hbw hown (Nat.le_refl _) hgrow
      have hown1 := OwnS.snoc hown'
      clear hown hown' hgrow hbw hnn
      go_wp2_with fail
      go_ret
      exact ⟨_, by rw [HE.out]; exact hown1, hbw', rfl⟩
end Go.Proofs.YtkpganpojdboeabDoor

/-! In0 -/
namespace Go.Proofs.YtkpganpojdboeabDoor
open Go.RowKit

theorem l1In_yes (n lo hi : Int) (w : World) (h1 : lo ≤ n) (h2 : n ≤ hi) :
    Calls Tryd.prog 80 #[.int .i64 n, .int .i64 lo, .int .i64 hi] w fun e w' => e = .returned (.bool true) ∧ w = w' := by
  go_enter Tryd.func80, Tryd.ntmps80
  go_wp2_with fail
  go_ret
  exact ⟨rfl, rfl⟩
theorem l1In_no (n lo hi : Int) (w : World) (h : n < lo ∨ hi < n) :
    Calls Tryd.prog 80 #[.int .i64 n, .int .i64 lo, .int .i64 hi] w fun e w' => e = .returned (.bool false) ∧ w = w' := by
  by_cases h1 : n < lo
  · clear h
    go_enter Tryd.func80, Tryd.ntmps80
    go_wp2_with fail
    go_ret
    exact ⟨rfl, rfl⟩
  · have h1' : lo ≤ n := by omega
    have h2 : hi < n := by omega
    clear h h1
    go_enter Tryd.func80, Tryd.ntmps80
    go_wp2_with fail
    go_ret
    exact ⟨ret_bool (by simp; omega), rfl⟩

end Go.Proofs.YtkpganpojdboeabDoor

/-! TeS -/
namespace Go.Proofs.YtkpganpojdboeabDoor
open Go.RowKit

theorem comb_all (s : List Tr) : (combT s).carets = sumT s + s.length := by
  induction s with
  | nil => rfl
  | cons t s ih => rw [combT, sumT_cons, List.length_cons]; simp only [Tr.carets]; omega
theorem sumT_drop (s : List Tr) (k : Nat) : sumT (s.drop k) ≤ sumT s := by
  have := sumT_app (s.take k) (s.drop k)
  rw [List.take_append_drop] at this; omega
def strs (s : List Tr) : List ByteArray := s.map Tr.str
theorem strs_length (s : List Tr) : (strs s).length = s.length := by simp [strs]
theorem oneStrs (ys : List ByteArray) : ∀ u ∈ ys.map Value.string, u.oneCell' = true := by
  intro u hu
  obtain ⟨x, _, rfl⟩ := List.mem_map.1 hu
  rfl

end Go.Proofs.YtkpganpojdboeabDoor

/-! FfR -/
namespace Go.Proofs.YtkpganpojdboeabDoor

theorem treesOf_length {L : List ByteArray} {us : List Tr} (h : treesOf L = some us) : us.length = L.length := by
  have := (treesOf_some L us h).1
  rw [this]; simp
theorem treesOf_snoc : ∀ (L : List ByteArray) (us : List Tr) (s : ByteArray) (t : Tr), treesOf L = some us → treeOf s = some t → treesOf (L ++ [s]) = some (us ++ [t]) := by
  intro L
  induction L with
  | nil => intro us s t h k; simp [treesOf] at h; subst h; simp [treesOf, k]
  | cons x L ih =>
    intro us s t h k
    rw [treesOf] at h
    cases hx : treeOf x with
    | none => rw [hx] at h; cases h
    | some y =>
      rw [hx] at h
      cases hL : treesOf L with
      | none => rw [hL] at h; cases h
      | some vs =>
        rw [hL] at h
        injection h with h
        subst h
        rw [List.cons_append, treesOf, hx, ih vs s t hL k]
        rfl
theorem treesOf_bad : ∀ (L : List ByteArray) (s : ByteArray), s ∈ L → treeOf s = none → treesOf L = none := by
  intro L
  induction L with
  | nil => intro s h; cases h
  | cons x L ih =>
    intro s h k
    rw [treesOf]
    rcases List.mem_cons.1 h with rfl | h
    · rw [k]
    · rw [ih s h k]
      cases treeOf x <;> rfl
theorem forOf_bad {L : List ByteArray} {s : ByteArray} (h : s ∈ L) (k : treeOf s = none) : forOf L = none := by
  unfold forOf; rw [treesOf_bad L s h k]; rfl
theorem forOf_long {L : List ByteArray} (h : 8 < L.length) : forOf L = none := by
  cases hf : forOf L with
  | none => rfl
  | some us => obtain ⟨h1, h2, _⟩ := forOf_some hf; rw [h1] at h; simp at h; omega
theorem getD_last {α : Type} (L : List α) (d : α) (h : L ≠ []) : L.getLast? = some (L.getD (L.length - 1) d) := by
  have hp : 0 < L.length := List.length_pos_iff.2 h
  rw [List.getLast?_eq_getElem?, List.getD_eq_getElem?_getD, List.getElem?_eq_getElem (by omega)]
  rfl
theorem lastB_get (us : List Tr) (h : us ≠ []) : lastB us = !(us.getD (us.length - 1) .lf).isLf := by
  unfold lastB; rw [getD_last us .lf h]
theorem str_dot (t : Tr) : (t.str.toList == [46]) = t.isLf := by
  have : t.str.toList = t.text := by rw [Lib.toList_data, Tr.str_list]
  rw [this]
  cases t with
  | lf => rfl
  | nd l r => simp [Tr.text, Tr.isLf]
theorem treeOf_dot : treeOf ⟨#[46]⟩ = some .lf := treeOf_str .lf (by simp [Tr.carets])
theorem map_getD (us : List Tr) (k : Nat) (h : k < us.length) : (us.map Tr.str).getD k ⟨#[]⟩ = (us.getD k .lf).str := by
  simp [List.getD_eq_getElem?_getD, h]
theorem forOf_dot {L : List ByteArray} (h : 0 < L.length) (k : ((L.getD (L.length - 1) ⟨#[]⟩).toList == [46]) = true) : forOf L = none := by
  cases hf : forOf L with
  | none => rfl
  | some us =>
    obtain ⟨h1, _, _, h4⟩ := forOf_some hf
    have hl : us.length = L.length := by rw [h1]; simp
    have hne : us ≠ [] := by intro e; rw [e] at hl; simp at hl; omega
    rw [lastB_get us hne] at h4
    rw [h1, List.length_map, map_getD us _ (by omega), str_dot] at k
    rw [k] at h4
    cases h4
theorem forOf_of {L : List ByteArray} {us : List Tr} (h : treesOf L = some us) (hl : L.length ≤ 8) (k : L.length = 0 ∨ ((L.getD (L.length - 1) ⟨#[]⟩).toList == [46]) = false) : (forOf L).isSome = decide (sumT us ≤ 8) := by
  have hlen := treesOf_length h
  obtain ⟨h1, _⟩ := treesOf_some L us h
  have hlast : lastB us = true := by
    rcases k with k | k
    · have : us = [] := List.length_eq_zero_iff.1 (by omega)
      rw [this]; rfl
    · by_cases hne : us = []
      · rw [hne]; rfl
      · have hp : 0 < us.length := List.length_pos_iff.2 hne
        rw [lastB_get us hne]
        rw [h1, List.length_map, map_getD us _ (by omega), str_dot] at k
        rw [k]; rfl
  unfold forOf
  rw [h]
  simp only [Option.bind_some]
  by_cases hs : sumT us ≤ 8
  · rw [if_pos (okF_iff.2 ⟨by omega, hs, hlast⟩)]; simp [hs]
  · rw [if_neg (fun e => hs (okF_iff.1 e).2.1)]; simp [hs]
theorem forOf_trees {L : List ByteArray} {us : List Tr} (h : treesOf L = some us) : forOf L = if okF us = true then some us else none := by unfold forOf; rw [h]; rfl
end Go.Proofs.YtkpganpojdboeabDoor

/-! Ff2 -/
namespace Go.Proofs.YtkpganpojdboeabDoor
open Go.RowKit Go.Shelf

attribute [local go_sem] Oper.semAt_some

/-- What stands behind the rounds so far. -/
def hangS (e : ByteArray) (pre : List IxS) : ByteArray := pre.foldl (fun acc x => (⟨#[40]⟩ : ByteArray) ++ x.1.2 ++ acc ++ ⟨#[41]⟩) e
theorem hangS_snoc (e : ByteArray) (pre : List IxS) (x : IxS) : hangS e (pre ++ [x]) = (⟨#[40]⟩ : ByteArray) ++ x.1.2 ++ hangS e pre ++ ⟨#[41]⟩ := by simp [hangS]
theorem s40 : (⟨#[40]⟩ : ByteArray).size = 1 := rfl
theorem s41 : (⟨#[41]⟩ : ByteArray).size = 1 := rfl
theorem hangS_size (e : ByteArray) : ∀ n : Nat, ∀ pre : List IxS, pre.length = n → (hangS e pre).size ≤ e.size + 1002 * n := by
  intro n
  induction n with
  | zero => intro pre h; obtain rfl := List.length_eq_zero_iff.1 h; exact Nat.le_refl _
  | succ n ih =>
    intro pre h
    rcases List.eq_nil_or_concat pre with rfl | ⟨p, x, rfl⟩
    · simp at h
    · rw [List.concat_eq_append] at h ⊢
      rw [hangS_snoc, ByteArray.size_append, ByteArray.size_append, ByteArray.size_append, s40, s41]
      have h1 := ih p (by simpa using h)
      have h2 := x.2
      omega
theorem short_strs {us : List Tr} (h : sumT us ≤ 300) : ∀ x ∈ strs us, x.size ≤ 1000 := by
  intro x hx
  obtain ⟨u, hu, rfl⟩ := List.mem_map.1 hx
  have := sumT_mem hu
  rw [u.str_size]; omega
theorem hangS_back (us : List Tr) (t : Tr) (hz : ∀ x ∈ strs us, x.size ≤ 1000) : ∀ k, k ≤ us.length → hangS t.str (bkToS (strs us) hz k) = (combE (us.drop (us.length - k)) t).str := by
  intro k
  induction k with
  | zero => intro _; rw [Nat.sub_zero, List.drop_length]; rfl
  | succ k ih =>
    intro h
    rw [bkToS_succ, hangS_snoc, ih (by omega)]
    have e1 : us.length - k = us.length - (k + 1) + 1 := by omega
    have e2 : (strs us).length - 1 - k = us.length - (k + 1) := by rw [strs_length]; omega
    have hlt : us.length - (k + 1) < us.length := by omega
    rw [List.drop_eq_getElem_cons hlt, e1]
    show _ = (Tr.nd _ (combE _ t)).str
    rw [str_nd]
    show (⟨#[40]⟩ : ByteArray) ++ (strs us)[(strs us).length - 1 - k]?.getD ⟨#[]⟩ ++ _ ++ _ = _
    rw [e2]
    simp [strs, hlt]

end Go.Proofs.YtkpganpojdboeabDoor

/-! Wo1 -/
namespace Go.Proofs.YtkpganpojdboeabDoor
open Go.RowKit

/-- A call that hands back a slice of numbers of its own. -/
def GivesOwnI (xs : List Int) (w : World) (e : Ending) (w' : World) : Prop := ∃ v, OwnI w.heap.size w' v xs ∧ Below w.heap.size w w' ∧ e = .returned v
set_option maxRecDepth 100000 in
set_option maxHeartbeats 200000 in
theorem repeatN_zero (g cap : Nat) (w : World) :
    Calls Tryd.prog 62 #[.slice (some ⟨g, 0, none⟩) 1 cap, .int .i64 0] w (fun e w' => ∃ g' : Nat, OwnI w.heap.size w' (.slice (some ⟨g', 0, none⟩) 0 0) [] ∧ Below w.heap.size w w' ∧ e = .returned (.slice (some ⟨g', 0, none⟩) 0 0)) := by
  obtain ⟨i0, hi, hz0, hz1, hz2⟩ := info_parts info_int
  have hsz1 : (Tryd.prog.info? 3).map (·.size) = some 1 := by rw [hi]; simp [hz1]
  have hM : ∀ w, Calls Tryd.prog 103 #[.int .u64 1, .int .u64 0] w fun e w' => e = .returned (.tuple #[.int .u64 0, .int .u64 0]) ∧ w = w' := fun w => bitsMul_one 0 (by omega) w
  have hmk := fun w => run_make (P := Tryd.prog) w 25 3 i0 (.int .i64 0) Tryd.underlying25 hi hz0 .i64 .i64 0 0 (by omega) (by omega) (by rw [hz2]; omega) (by omega)
  have hC : madeCells (Value.int .i64 0).cells ((0 : Int).toNat * i0.size) = #[] := by
    have h := size_madeCells (Value.int .i64 0).cells ((0 : Int).toNat * i0.size)
    rw [hz1] at h ⊢
    exact Array.eq_empty_of_size_eq_zero (by simpa using h)
  rw [hC] at hmk
  simp only [Int.toNat_zero] at hmk
  have HO := Lib.hid (ownsRow_empty w 3)
  have hb0 : Below w.heap.size w (w.alloc (.cells #[] 3)) := (Below.refl _ w).alloc (Nat.le_refl _) _
  clear hC
  go_enter Tryd.func62, Tryd.ntmps62
  go_wp2_with fail
  refine (hM _).mono ?_; rintro e w1 ⟨rfl, rfl⟩
  go_wp2_with (refine wpList_copy_nothing rfl (.tmp 31) (.tmp 32) 25 25 rfl 3 Tryd.underlying25 hsz1 _ _ _ _ _ _ rfl rfl rfl ?_)
  go_loopw [8] (fun i wr => i = .int .i64 0 ∧ wr = w.alloc (.cells #[] 3)) (fun _ _ => 0)
  case atStart => exact ⟨rfl, rfl⟩
  case round =>
    obtain ⟨rfl, rfl⟩ := hrel
    go_wp2_with fail
    go_ret
    exact ⟨_, HO.out, hb0, rfl⟩

theorem repeatN_any (x : Int) (n g cap : Nat) (w : World) (hn : n ≤ 20) (hc : w.cell? ⟨g, 0, none⟩ = some (.int .i64 x)) :
    Calls Tryd.prog 62 #[.slice (some ⟨g, 0, none⟩) 1 cap, .int .i64 n] w (GivesRep x n w) := by
  by_cases h0 : n = 0
  · subst h0
    exact repeatN_zero g cap w
  · exact repeat_any x n g cap w hn (by omega) hc
theorem src_ownI {b : Nat} {w : World} {g c : Nat} {xs : List Int} {n : Nat} (hn : xs.length = n) (h : OwnI b w (.slice (some ⟨g, 0, none⟩) n c) xs) : SrcV w (.slice (some ⟨g, 0, none⟩) n c) (xs.map (Value.int .i64)) := by
  subst hn
  unfold OwnI at h
  have := src_take h xs.length (Nat.le_refl _) c
  rwa [List.take_of_length_le (by simp)] at this
theorem one_ints9 (xs : List Int) : ∀ u ∈ xs.map (Value.int .i64), u.oneCell' = true := by
  intro u hu
  obtain ⟨x, _, rfl⟩ := List.mem_map.1 hu
  rfl

theorem addrs_small9 (t : Tr) : ∀ here : ByteArray, ∀ a ∈ t.addrs here, a.size ≤ here.size + t.carets := by
  induction t with
  | lf => intro here a ha; simp [Tr.addrs] at ha; subst ha; exact Nat.le_add_right _ _
  | nd l r ihl ihr =>
    intro here a ha
    have s0 : (here ++ (⟨#[48]⟩ : ByteArray)).size = here.size + 1 := ByteArray.size_append
    have s1 : (here ++ (⟨#[49]⟩ : ByteArray)).size = here.size + 1 := ByteArray.size_append
    have hc : (Tr.nd l r).carets = l.carets + r.carets + 1 := rfl
    have ha' : a ∈ l.addrs (here ++ ⟨#[48]⟩) ++ r.addrs (here ++ ⟨#[49]⟩) := ha
    rcases List.mem_append.1 ha' with h | h
    · have := ihl _ a h; omega
    · have := ihr _ a h; omega

def expoI9 (ss : List ByteArray) : List Int := ss.map fun a => ((expoL a.data.toList : Nat) : Int)
theorem expoI_take9 {ss : List ByteArray} {k : Nat} (h : k < ss.length) : expoI9 (ss.take (k + 1)) = expoI9 (ss.take k) ++ [((expoL (ss.getD k ⟨#[]⟩).data.toList : Nat) : Int)] := by
  unfold expoI9
  rw [List.take_succ_eq_append_getElem h, List.map_append]
  simp [h]
theorem expoI_all9 (t : Tr) : expoI9 (t.addrs ⟨#[]⟩) = ints t.expR := by
  rw [← exps_all t]
  unfold expoI9 ints
  rw [List.map_map]
  rfl
theorem expoL_le9 (l : List UInt8) : expoL l ≤ l.length := by
  have := zerosR_le l
  unfold expoL
  split <;> omega


set_option maxRecDepth 100000 in
set_option maxHeartbeats 400000 in
theorem exponentsIn_any (t : Tr) (w : World) (hc : t.carets ≤ 16) :
    Calls Tryd.prog 61 #[.string t.str] w (GivesOwnI (ints t.expR) w) := by
  obtain ⟨i0, hi, hz0, hz1, hz2⟩ := info_parts info_int
  have hz : (⟨#[]⟩ : ByteArray).size = 0 := rfl
  have hT := fun w => treeOf_any t w (by omega)
  have hA := fun b w h => addressesFrom_any t b ⟨#[]⟩ w h (by omega) (by omega)
  rw [← expoI_all9 t]
  have hsm := addrs_small9 t ⟨#[]⟩
  have hl := addrs_length t ⟨#[]⟩
  rw [hz] at hsm
  generalize t.addrs ⟨#[]⟩ = ss at *
  have hln : ss.length ≤ 17 := by omega
  have hsm' : ∀ a ∈ ss, a.size ≤ 16 := fun a ha => by have := hsm a ha; omega
  have HS := Lib.hid hsm'
  clear hsm hl hz hsm'
  go_enter Tryd.func61, Tryd.ntmps61
  go_wp2_with fail
  refine (hT _).mono ?_; rintro e w1 ⟨b1, hn1, hb1, rfl⟩
  go_wp2_with fail
  refine (hA b1 _ hn1).mono ?_; rintro e w2 ⟨g0, cap, own, hb2, rfl⟩
  replace hb1 := nx hb1 hb2
  obtain ⟨oa, cap', ev, hf1, hf2, hfc⟩ := own.cells.form0
  cases ev
  have HC := Lib.hid hfc
  clear own hfc hb2 hn1 hT hA
  go_wp2_with fail
  go_loopw [3, 10] (fun u i wr => ∃ (k : Nat) (xs : List Int), i = .int .i64 k ∧ k ≤ ss.length ∧ xs.length = k ∧ OwnI w2.heap.size wr u xs ∧ Below w2.heap.size w2 wr ∧ Hid (xs = expoI9 (ss.take k))) (fun _ i _ => ss.length - (intOf i).toNat)
  case atStart => exact ⟨0, [], rfl, Nat.zero_le _, rfl, OwnI.nil _ _, Below.refl _ _, rfl⟩
  case round =>
    obtain ⟨k, xs, rfl, hk, hxl, hown, hbw, he⟩ := hrel
    have HX := Lib.hid hxl
    unfold OwnI at hown
    rw [hxl] at hown
    clear hxl
    by_cases hlt : k < ss.length
    · have hlt' : (k : Int) < (ss.length : Int) := by omega
      obtain ⟨g, eg, _, hgl, c1⟩ := HC.out k hlt
      obtain rfl : g0 = g := by simpa using eg
      clear eg
      replace c1 := (hbw.cell (p := ⟨g0, k, none⟩) hgl).trans c1
      have hxm : ss.getD k ⟨#[]⟩ ∈ ss := by rw [List.getD_eq_getElem?_getD, List.getElem?_eq_getElem hlt]; exact List.getElem_mem _
      have hsz := HS.out _ hxm
      have hstep := expoI_take9 hlt
      rw [← he.out] at hstep
      have hE := fun w => exponentOf_any (ss.getD k ⟨#[]⟩) w (by omega)
      have hel := expoL_le9 (ss.getD k ⟨#[]⟩).data.toList
      rw [← Lib.size_eq] at hel
      generalize ss.getD k ⟨#[]⟩ = s at *
      have hy : expoL s.data.toList ≤ 40 := by omega
      generalize expoL s.data.toList = y at *
      have HT := Lib.hid hstep
      clear hxm he hgl hstep hsz hel
      go_wp2_with fail
      refine (hE _).mono ?_; rintro e w3 ⟨rfl, rfl⟩
      go_wp2_with (at_builtin; refine wpList_append_own _ rfl _ _ 25 rfl w2.heap.size 3 i0 (.int .i64 0) 1 8 Tryd.underlying25 hi hz0 hz1 hz2 rfl (by decide) _ _ _ rfl (hown.alloc _) ⟨wr.heap.size, 0, none⟩ 1 1 [.int .i64 (y : Int)] rfl rfl (new1 _ _ _) (one1 _) (by unfold maxLen; omega) (by omega) (size_al hbw _) ?_; intro v' w4 hown' hgrow hnn)
      have hbw1 := below_app hbw hown (Nat.le_refl _) hgrow
      have hown1 : OwnI w2.heap.size w4 v' (xs ++ [(y : Int)]) := OwnI.snoc (by rw [HX.out]; exact hown')
      clear hown hown' hgrow hbw hnn
      go_wp2_with fail
      go_roundw
      case rel => exact ⟨k + 1, _, by go_num, by omega, by have := HX.out; simp; omega, hown1, hbw1, HT.out.symm⟩
      case measure => simp [intOf]; omega
    · obtain rfl : k = ss.length := by omega
      have he' := he.out
      rw [List.take_length] at he'
      have HE := Lib.hid he'
      have hbw0 : Below w.heap.size w wr := nx hb1 hbw
      clear he he'
      go_wp2_with fail
      go_ret
      exact ⟨_, by rw [← HE.out]; refine OwnI.mono ?_ hb1.size; unfold OwnI; rw [HX.out]; exact hown, hbw0, rfl⟩



set_option maxRecDepth 100000 in
set_option maxHeartbeats 400000 in
theorem lettersOfTree_any (t : Tr) (w : World) (hc : t.carets ≤ 16) :
    Calls Tryd.prog 27 #[.string t.str] w (GivesOwnI (lettersE t.expR 0) w) := by
  obtain ⟨i0, hi, hz0, hz1, hz2⟩ := info_parts info_int
  have hE := fun w => exponentsIn_any t w hc
  have hEl : t.expR.length ≤ 17 := by rw [expR_length]; omega
  have hEs : t.expR.sum ≤ 16 := by have := expR_sum t; omega
  generalize t.expR = E at *
  generalize t.str = s at *
  have hbd : ∀ k, (E.take k).sum ≤ 16 := fun k => Nat.le_trans (sum_takeG E k) hEs
  have HB := Lib.hid hbd
  obtain ⟨n, hn⟩ : ∃ n, n = E.length := ⟨_, rfl⟩
  have HN := Lib.hid hn
  rw [← hn] at hEl
  clear hbd hEs
  go_enter Tryd.func27, Tryd.ntmps27
  go_wp2_with fail
  refine (hE _).mono ?_; rintro e w1 ⟨v1, own1, hb1, rfl⟩
  obtain ⟨oa, cap, rfl, hf1, hf2, hfc⟩ := own1.cells.form
  unfold maxLen at hf2
  rw [ints_length, ← hn] at hf1 hfc ⊢
  have HC := Lib.hid hfc
  clear own1 hfc hn hE
  go_wp2_with fail
  go_loopw [3, 9] (fun u i wr => ∃ (k : Nat) (xs : List Int), k ≤ n ∧ i = .int .i64 k ∧ OwnI w1.heap.size wr u xs ∧ xs.length ≤ 16 ∧ Hid (xs = lettersE (E.take k) 0) ∧ Below w1.heap.size w1 wr) (fun _ i _ => n - (intOf i).toNat)
  case atStart => exact ⟨0, [], Nat.zero_le _, rfl, OwnI.nil _ _, Nat.zero_le _, rfl, Below.refl _ _⟩
  case round =>
    obtain ⟨k, xs, hk, rfl, hown, hxl, hxs, hbw⟩ := hrel
    by_cases hlt : k < n
    · have hlt' : (k : Int) < (n : Int) := by omega
      obtain ⟨g, rfl, _, hgl, c0⟩ := HC.out k hlt
      have c1 := (hbw.cell (p := ⟨g, k, none⟩) hgl).trans c0
      have hkE : k < E.length := by rw [← HN.out]; exact hlt
      have hge : (ints E).getD k 0 = ((E.getD k 0 : Nat) : Int) := by unfold ints; simp [hkE]
      rw [hge] at c1
      have hstep := lettersE_step (E.take k) (E.getD k 0) k (by simp; omega)
      rw [← take_nextG E hkE, ← hxs.out] at hstep
      have hsm := HB.out (k + 1)
      rw [take_nextG E hkE, List.sum_append] at hsm
      have he16 : E.getD k 0 ≤ 16 := by simp only [List.sum_cons, List.sum_nil] at hsm; omega
      have hl2 := congrArg List.length hstep
      rw [lettersE_length, List.length_append, List.length_replicate] at hl2
      have hl3 := HB.out (k + 1)
      have HST := Lib.hid hstep
      generalize E.getD k 0 = x at *
      have hx16 : xs.length + x ≤ 16 := by omega
      unfold OwnI at hown
      have hcell : (wr.alloc (.cells #[.int .i64 ((k : Int) + 1)] 3 (0, 0))).cell? ⟨wr.heap.size, 0, none⟩ = some (.int .i64 ((k : Int) + 1)) := by
        have := heap_alloc_at wr (.cells #[.int .i64 ((k : Int) + 1)] 3 (0, 0))
        simp only [World.cell?, this]; rfl
      have hba := nxAlloc (Below.refl wr.heap.size wr) (.cells #[.int .i64 ((k : Int) + 1)] 3 (0, 0))
      clear hge hstep hsm hl2 hl3 c0 hxs hgl
      go_wp2_with fail
      refine (repeatN_any ((k : Int) + 1) x wr.heap.size 1 _ (by omega) hcell).mono ?_; rintro e w3 ⟨g3, own3, hb3, rfl⟩
      have hb9 := nx hba hb3
      replace hown := ownsRow_keep hown hb9
      replace hbw := nx hbw hb9
      have hsrc := src_ownI List.length_replicate own3
      have hone := one_ints9 (List.replicate x ((k : Int) + 1))
      have hrl : ((List.replicate x ((k : Int) + 1)).map (Value.int .i64)).length = x := by simp
      clear hb9 hba hb3 own3 hcell
      go_wp2_with (at_builtin; refine wpList_appSrc rfl _ _ 25 rfl w1.heap.size 3 i0 (.int .i64 0) 8 Tryd.underlying25 hi hz0 hz1 hz2 rfl _ _ _ rfl hown _ _ rfl hsrc hone (by rw [hrl]; unfold maxLen; omega) (by rw [hrl]; omega) hbw.size ?_; intro v9 w9 hown9 hb9 hnn9)
      have hbw9 := hbw.trans hb9
      have hown1 : OwnI w1.heap.size w9 v9 (xs ++ List.replicate x ((k : Int) + 1)) := by
        unfold OwnI
        rw [List.map_append, List.length_append]
        rw [hrl] at hown9
        rw [List.length_replicate]
        exact hown9
      clear hown hown9 hnn9 hbw hb9 hsrc hone hrl
      go_wp2_with fail
      go_roundw
      case rel => exact ⟨k + 1, _, by omega, by go_num, hown1, by simp; omega, HST.out.symm, hbw9⟩
      case measure => simp [intOf]; omega
    · obtain rfl : k = n := by omega
      have h1 := hxs.out
      rw [List.take_of_length_le (by rw [← HN.out]; exact Nat.le_refl _)] at h1
      have HX := Lib.hid h1
      clear h1 hxs
      go_wp2_with fail
      go_ret
      exact ⟨_, by rw [← HX.out]; exact OwnI.mono hown hb1.size, nx hb1 hbw, rfl⟩
end Go.Proofs.YtkpganpojdboeabDoor

/-! Back -/
namespace Go.Proofs.YtkpganpojdboeabDoor
open Go.RowKit Go.Shelf

attribute [local go_sem] Oper.semAt_some

/-- An index with the small integer that stands there. -/
abbrev IxI := { p : Nat × Int // -100 ≤ p.2 ∧ p.2 ≤ 100 }
theorem getD_small {L : List Int} (h : ∀ x ∈ L, -100 ≤ x ∧ x ≤ 100) (k : Nat) : -100 ≤ L[k]?.getD 0 ∧ L[k]?.getD 0 ≤ 100 := by
  by_cases hk : k < L.length
  · rw [List.getElem?_eq_getElem hk]; exact h _ (List.getElem_mem _)
  · rw [List.getElem?_eq_none (by omega)]; simp
/-- What comes in the round number k. -/
def bkAt (L : List Int) (h : ∀ x ∈ L, -100 ≤ x ∧ x ≤ 100) (k : Nat) : IxI := ⟨(L.length - 1 - k, L[L.length - 1 - k]?.getD 0), getD_small h _⟩
def bkTo (L : List Int) (h : ∀ x ∈ L, -100 ≤ x ∧ x ≤ 100) (k : Nat) : List IxI := (List.range k).map (bkAt L h)
theorem bkTo_succ (L : List Int) (h : ∀ x ∈ L, -100 ≤ x ∧ x ≤ 100) (k : Nat) : bkTo L h (k + 1) = bkTo L h k ++ [bkAt L h k] := by simp [bkTo, List.range_succ]
theorem bkTo_length (L : List Int) (h : ∀ x ∈ L, -100 ≤ x ∧ x ≤ 100) (k : Nat) : (bkTo L h k).length = k := by simp [bkTo]
def negs (l : List IxI) : List Int := l.map fun p => -p.1.2
theorem negs_snoc (l : List IxI) (p : IxI) : negs (l ++ [p]) = negs l ++ [-p.1.2] := by simp [negs]
theorem negs_length (l : List IxI) : (negs l).length = l.length := by simp [negs]
theorem negs_all (L : List Int) (h : ∀ x ∈ L, -100 ≤ x ∧ x ≤ 100) : negs (bkTo L h L.length) = L.reverse.map fun x => -x := by
  apply List.ext_getElem
  · simp [negs, bkTo]
  · intro i h1 h2
    have hi : i < L.length := by simpa using h2
    have hj : L.length - 1 - i < L.length := by omega
    simp [negs, bkTo, bkAt, List.getElem?_eq_getElem hj]

/-- What the body of the loop must keep: what lay below n₀, and the slice's own box. -/
def KpB (n₀ Bs : Nat) (W W' : World) : Prop := Below n₀ W W' ∧ ∀ v, Boxed W Bs 25 v → Boxed W' Bs 25 v
theorem KpB.refl (n₀ Bs : Nat) (W : World) : KpB n₀ Bs W W := ⟨Below.refl _ _, fun _ h => h⟩
theorem KpB.trans {n₀ Bs : Nat} {A B C : World} (h : KpB n₀ Bs A B) (k : KpB n₀ Bs B C) : KpB n₀ Bs A C := ⟨h.1.trans k.1, fun v hv => k.2 v (h.2 v hv)⟩
theorem KpB.put {n₀ Bs : Nat} {w : World} (hn : n₀ ≤ w.heap.size) (W : World) (l : Nat) (o o' : Obj) (hl : w.heap.size ≤ l) (h : W.heap[l]? = some o) (hc : o.isCells = false) (hw : o.isWalk = false) : KpB n₀ Bs W (W.putObj l o') :=
  ⟨belowK_b hn W l o o' hl h hc hw, fun v hv => hv.kept (grownBy_putObj' W l o') (fun e => by
    cases e
    rw [show W.heap[Bs]? = _ from hv] at h
    cases h; cases hc)⟩

set_option maxRecDepth 100000 in
set_option maxHeartbeats 2000000 in
/-- The closure of slices.Backward, at a slice with cells. -/
theorem back1_in (F : Fence) (n : Nat) (hf : F.fn 104) (hro : F.round = none) (hn : 1 ≤ n) (l Bs n₀ b cap : Nat) (L : List Int) (hz : ∀ x ∈ L, -100 ≤ x ∧ x ≤ 100) (hL : L.length ≤ 1000) (hb : b < n₀) (J Jx : List IxI → World → Prop)
    (hY : ∀ pre x W, J pre W → pre.length < L.length → YieldAt F (n - 1) Tryd.prog l #[.int .i64 (x.1.1 : Int), .int .i64 x.1.2] W fun e W' =>
      (e = .returned (.bool true) ∧ J (pre ++ [x]) W' ∧ KpB n₀ Bs W W') ∨ (e = .returned (.bool false) ∧ Jx (pre ++ [x]) W'))
    (W : World) (hBs : Boxed W Bs 25 (.slice (some ⟨b, 0, none⟩) L.length cap)) (hc : ∀ j, j < L.length → W.cell? ⟨b, j, none⟩ = some (.int .i64 (L[j]?.getD 0))) (h0 : J [] W) :
    CallsIn F n Tryd.prog 104 #[.func (.yield l) #[] #[], .pointer (some ⟨Bs, 0, none⟩)] W fun e W' => (∃ v, e = .returned v) ∧
      ((∃ ys, ys = bkTo L hz L.length ∧ J ys W') ∨ (∃ pre, (∃ k, k ≤ L.length ∧ pre = bkTo L hz k) ∧ Jx pre W')) := by
  refine callsIn_of_wp Tryd.func104 rfl hf ?_ hro
  simp only [Tryd.ntmps104, List.size_toArray, List.length_cons, List.length_nil, Nat.reduceAdd, Nat.reduceSub, Array.replicate_succ, Array.replicate_zero, List.push_toArray, List.append_toArray, List.nil_append, List.cons_append]
  have hB0 := hBs.cell
  gi_wp2
  gi_loopw [3] (fun i wr => ∃ m : Nat, m ≤ L.length ∧ i = .int .i64 ((m : Int) - 1) ∧ J (bkTo L hz (L.length - m)) wr ∧ KpB n₀ Bs W wr)
    (fun i _ => (intOf i + 1).toNat)
  case atStart => exact ⟨L.length, Nat.le_refl _, rfl, by rw [Nat.sub_self]; exact h0, KpB.refl _ _ _⟩
  case round =>
    obtain ⟨m, hm, rfl, hJs, hnx⟩ := hrel
    have hBx := (hnx.2 _ hBs).cell
    cases m with
    | zero =>
      have e0 : ((0 : Nat) : Int) - 1 = -1 := by omega
      rw [e0]
      gi_wp2
      go_end0
      exact ⟨⟨_, rfl⟩, .inl ⟨_, rfl, hJs⟩⟩
    | succ m =>
      have e1 : ((m + 1 : Nat) : Int) - 1 = (m : Int) := by omega
      rw [e1]
      have hcx : wr.cell? ⟨b, m, none⟩ = some (.int .i64 (L[m]?.getD 0)) := (hnx.1.cell (p := ⟨b, m, none⟩) hb).trans (hc m (by omega))
      obtain ⟨fn, tmps, assign, body, hy, hR⟩ := hY _ (bkAt L hz (L.length - (m + 1))) wr hJs (by rw [bkTo_length]; omega)
      have e2 : L.length - 1 - (L.length - (m + 1)) = m := by omega
      simp only [bkAt, e2] at hy
      gi_wp2
      refine hR.mono ?_
      rintro e W3 (⟨rfl, hJ3, hk3⟩ | ⟨rfl, hJx3⟩)
      · gi_wp2
        go_roundw
        case rel => exact ⟨m, by omega, by go_num, by rw [show L.length - m = (L.length - (m + 1)) + 1 by omega, bkTo_succ]; exact hJ3, hnx.trans hk3⟩
        case measure => simp [intOf]
      · gi_wp2
        refine bodyPost_ret (results_none rfl _ _ _) rfl ?_
        exact ⟨⟨_, rfl⟩, .inr ⟨_, ⟨L.length - (m + 1) + 1, by omega, (bkTo_succ _ _ _).symm⟩, hJx3⟩⟩

set_option maxRecDepth 100000 in
set_option maxHeartbeats 2000000 in
/-- .. at a slice of none: no round. -/
theorem back1_nil_in (F : Fence) (n : Nat) (hf : F.fn 104) (hro : F.round = none) (l Bs cap : Nat) (oa : Option Addr) (J : List IxI → World → Prop) (W : World) (hBs : W.cell? ⟨Bs, 0, none⟩ = some (.slice oa 0 cap)) (h0 : J [] W) :
    CallsIn F n Tryd.prog 104 #[.func (.yield l) #[] #[], .pointer (some ⟨Bs, 0, none⟩)] W fun e W' => (∃ v, e = .returned v) ∧ J [] W' := by
  refine callsIn_of_wp Tryd.func104 rfl hf ?_ hro
  simp only [Tryd.ntmps104, List.size_toArray, List.length_cons, List.length_nil, Nat.reduceAdd, Nat.reduceSub, Array.replicate_succ, Array.replicate_zero, List.push_toArray, List.append_toArray, List.nil_append, List.cons_append]
  gi_wp2
  gi_loopw [3] (fun i wr => i = .int .i64 (-1) ∧ J [] wr) (fun _ _ => 0)
  case atStart => exact ⟨rfl, h0⟩
  case round =>
    obtain ⟨rfl, hJs⟩ := hrel
    gi_wp2
    go_end0
    exact ⟨⟨_, rfl⟩, hJs⟩

set_option maxHeartbeats 1000000 in
/-- slices.Backward: the slice is boxed. -/
theorem back_in (F : Fence) (n : Nat) (hf : F.fn 63) (hro : F.round = none) (a : Option Addr) (len cap : Nat) (w : World) :
    CallsIn F n Tryd.prog 63 #[.slice a len cap] w fun e w' => e = .returned (.func (.func 104) #[] #[.pointer (some ⟨w.heap.size, 0, none⟩)]) ∧ w' = w.alloc (.cells #[.slice a len cap] 25) := by
  refine callsIn_of_wp Tryd.func63 rfl hf ?_ hro
  simp only [Tryd.ntmps63, List.size_toArray, List.length_cons, List.length_nil, Nat.reduceAdd, Nat.reduceSub, Array.replicate_succ, Array.replicate_zero, List.push_toArray, List.append_toArray, List.nil_append, List.cons_append]
  gi_wp2
  go_ret
  exact ⟨rfl, rfl⟩

/-- What comes of slices.Backward. -/
theorem back_stops (F : Fence) (n : Nat) (hf : F.fn 104) (hro : F.round = none) (hn : 1 ≤ n) (Bs n₀ cap : Nat) (oa : Option Addr) (L : List Int) (hz : ∀ x ∈ L, -100 ≤ x ∧ x ≤ 100) (hL : L.length ≤ 1000) (w : World) (hn₁ : n₀ ≤ w.heap.size)
    (hc : Boxed w Bs 25 (.slice oa L.length cap)) (hI : ∀ i, i < L.length → ∃ g, oa = some ⟨g, 0, none⟩ ∧ g < n₀ ∧ w.cell? ⟨g, i, none⟩ = some (.int .i64 (L[i]?.getD 0))) :
    SeqStopsK F n Tryd.prog 104 #[.pointer (some ⟨Bs, 0, none⟩)] (fun x : IxI => #[Value.int .i64 (x.1.1 : Int), Value.int .i64 x.1.2]) (KpB n₀ Bs) (fun ys => ys = bkTo L hz L.length)
      (fun pre => ∃ k, k ≤ L.length ∧ pre = bkTo L hz k) L.length w := fun l J Jx W hW _ _ hY h0 => by
  have hc' : Boxed W Bs 25 (.slice oa L.length cap) := (hW.block Bs hc.lt).trans hc
  by_cases h : L.length = 0
  · have hc2 := hc'.cell
    rw [h] at hc2
    exact (back1_nil_in F n hf hro l Bs cap oa J W hc2 h0).mono fun e W' ⟨he, hj⟩ => ⟨he, .inl ⟨_, by rw [h]; rfl, hj⟩⟩
  · obtain ⟨g, rfl, hg, _⟩ := hI 0 (by omega)
    refine back1_in F n hf hro hn l Bs n₀ g cap L hz hL hg J Jx hY W hc' (fun i hi => ?_) h0
    obtain ⟨g', e, hg', c⟩ := hI i hi
    cases e
    exact (hW.cell (p := ⟨g, i, none⟩) (by show g < _; omega)).trans c

end Go.Proofs.YtkpganpojdboeabDoor

/-! BackL -/
namespace Go.Proofs.YtkpganpojdboeabDoor
open Go.RowKit Go.Shelf

attribute [local go_sem] Oper.semAt_some

set_option maxRecDepth 100000 in
set_option maxHeartbeats 2000000 in
theorem inverseLetters_in (F : Fence) (n : Nat) (h3 : F.fn 28) (h5 : F.fn 63) (h7 : F.fn 104) (hro : F.round = none) (hn : 3 ≤ n) (oa : Option Addr) (cap : Nat) (L : List Int) (hz : ∀ x ∈ L, -100 ≤ x ∧ x ≤ 100) (hL : L.length ≤ 1000) (w : World)
    (hI : ∀ i, i < L.length → ∃ g, oa = some ⟨g, 0, none⟩ ∧ g < w.heap.size ∧ w.cell? ⟨g, i, none⟩ = some (.int .i64 (L[i]?.getD 0))) :
    CallsIn F n Tryd.prog 28 #[.slice oa L.length cap] w fun e W' => ∃ v, e = .returned v ∧ OwnI w.heap.size W' v (L.reverse.map fun x => -x) ∧ Below w.heap.size w W' := by
  have h1 : 1 ≤ n := by omega
  obtain ⟨i0, hi, hz0, hz1, hz2⟩ := info_parts info_int
  refine callsIn_of_wp_marks Tryd.func28 rfl h3 ?_ hro
  simp only [Tryd.ntmps28, List.size_toArray, List.length_cons, List.length_nil, Nat.reduceAdd, Nat.reduceSub, Array.replicate_succ, Array.replicate_zero, List.push_toArray, List.append_toArray, List.nil_append, List.cons_append]
  gi_wp2_with (gi_at_call 63; refine (back_in F (n - 1) h5 hro _ _ _ _).mono ?_; rintro e w' ⟨rfl, rfl⟩)
  have bO := Boxed.new w 25 (.slice none 0 0)
  have bN := Boxed.new (w.alloc (.cells #[.slice none 0 0] 25)) 25 (.slice oa L.length cap)
  rw [World.size_alloc] at bN
  have hB0 : Below w.heap.size w ((w.alloc (.cells #[.slice none 0 0] 25)).alloc (.cells #[.slice oa L.length cap] 25)) := ((Below.refl _ w).alloc (Nat.le_refl _) _).alloc (by simp) _
  refine wpIn_rangeFunc_ownG hro h1 (gf := 104) (lb := #[.pointer (some ⟨w.heap.size + 1, 0, none⟩)]) rfl h7 (enters_of Tryd.func104 (by kernel_rfl) rfl)
    (back_stops F (n - 1) h7 hro (by omega) (w.heap.size + 1) w.heap.size cap oa L hz hL _ (by simp; omega) bN (fun i hi => by
      obtain ⟨g, e, hg, c⟩ := hI i hi
      exact ⟨g, e, hg, (hB0.cell (p := ⟨g, i, none⟩) hg).trans c⟩)) KpB.trans (KpB.put (by simp; omega)) (Below.refl _ _) (fun _ => rfl)
    (fun pre W => (∃ v, Boxed W w.heap.size 25 v ∧ W.ownsRow w.heap.size 3 1 v pre.length ((negs pre).map (Value.int .i64)) ∧ True) ∧ Below w.heap.size w W)
    (fun _ _ _ => False)
    (OwnFrom.and (Own.from (holdsRow_own w.heap.size w.heap.size 25 3 1 (fun pre => pre.length) (fun pre => (negs pre).map (Value.int .i64)) (fun pre v => True)) _) (ownFrom_below (Nat.le_refl _) (by simp; omega)))
    (fun _ _ _ _ _ hs _ _ => hs)
    ⟨⟨_, bO.alloc _, World.ownsRow_nil _ _ _ _, trivial⟩, hB0⟩
    (fun x => { tmps := #[.slice oa L.length cap, undef, .slice none 0 0, .pointer (some ⟨w.heap.size, 0, none⟩), undef, .int .i64 x.1.2, .slice oa L.length cap, .func (.func 104) #[] #[.pointer (some ⟨w.heap.size + 1, 0, none⟩)], .int .i64 (x.1.1 : Int), .int .i64 x.1.2, undef, undef, undef, undef, undef, undef], defers := [] }) ?assign ?body ?done ?stop
  case assign =>
    intro l x W K hK
    gi_wp2
    exact hK
  case body =>
    rintro l pre x W ⟨⟨v, hv, hrow, _⟩, hB⟩ hlt
    have hc := hv.cell
    obtain ⟨hx1, hx2⟩ := x.2
    have hpl := negs_length pre
    have hbd : -100 ≤ -x.1.2 ∧ -x.1.2 ≤ 100 := by omega
    gi_wp2_with (gi_at_builtin; refine wpListIn_append_own _ rfl _ _ 25 rfl w.heap.size 3 i0 (.int .i64 0) 1 8 Tryd.underlying25 hi hz0 hz1 hz2 rfl (by decide) _ _ _ rfl (hrow.alloc _) ⟨W.heap.size, 0, none⟩ 1 1 [.int .i64 (-x.1.2)] rfl rfl (cell_one_new _ _ _) (by simp [Value.oneCell']) (by unfold maxLen; omega) (by omega) (by have := hB.size; simp; omega) ?_; intro v' w1 hown' hgrow _; obtain ⟨g', cap', rfl⟩ := ownsRow_succ hown'; obtain ⟨hv1, hv2, hr2, hk2, hb2⟩ := hv.appended (by decide) hrow hB.size (Nat.le_refl _) hown' hgrow; have hc1 := hv1.cell; have hf1 := hv1.frozen)
    refine ⟨hk2.from _, ⟨hb2, fun u hu => ?_⟩, ⟨_, hv2, ?_, trivial⟩, hB.trans hb2⟩
    · exact ((hu.alloc _).kept hgrow (hu.not_row (by decide) hrow)).other (by omega) _
    · rw [negs_snoc]
      simpa using hr2
  case done =>
    rintro D ys W hD rfl ⟨⟨v, hv, hrow, _⟩, hB⟩ hK
    have hc := hv.cell
    gi_wp2
    refine ⟨by simp, .inl ⟨_, _, rfl, run_takeDeferred hK, ?_⟩⟩
    have hr := ownsRow_putObj hrow (.deferred none) hK rfl
    rw [negs_all, bkTo_length] at hr
    exact ⟨_, results_tmp rfl _ _ _, v, rfl, by unfold OwnI; simp only [List.length_map, List.length_reverse]; exact hr, hB.trans (belowK_b (w := w) (Nat.le_refl _) W D _ _ (by simp at hD; omega) hK rfl rfl)⟩
  case stop =>
    rintro D c pre W _ _ h _
    exact h.elim

def bkW (L : List Int) : List Int := L.reverse.map fun x => -x
theorem bkW_length (L : List Int) : (bkW L).length = L.length := by simp [bkW]
theorem inverseLetters_any (v : Value) (b1 : Nat) (L : List Int) (w : World) (hv : CellsI b1 w v L) (hz : ∀ x ∈ L, -100 ≤ x ∧ x ≤ 100) (hL : L.length ≤ 1000) :
    Calls Tryd.prog 28 #[v] w (GivesInts (bkW L) w) := by
  obtain ⟨oa, cap, rfl, hcl, hcm, hcc⟩ := hv.form
  refine callsIn_wide.1 ((inverseLetters_in Fence.wide 3 trivial trivial trivial rfl (Nat.le_refl _) oa cap L hz hL w (fun i hi => ?_)).mono ?_)
  · obtain ⟨g, e, _, hg, c⟩ := hcc i hi
    exact ⟨g, e, hg, by rw [← List.getD_eq_getElem?_getD]; exact c⟩
  · rintro e w' ⟨u, he, ho, hb⟩
    exact ⟨u, ho, hb, he⟩

theorem bkW_drop {L : List Int} {m : Nat} (h : m < L.length) : bkW (L.drop m) = bkW (L.drop (m + 1)) ++ [-(L.getD m 0)] := by
  unfold bkW
  rw [List.drop_eq_getElem_cons h, List.reverse_cons, List.map_append]
  congr 1
  simp [h]

set_option maxRecDepth 100000 in
set_option maxHeartbeats 2000000 in
theorem wdInverse_any (v : Value) (b1 : Nat) (L : List Int) (w : World) (hv : CellsI b1 w v L) (hz : ∀ x ∈ L, -100 ≤ x ∧ x ≤ 100) (hL : L.length ≤ 1000) :
    Calls Tryd.prog 56 #[v] w (GivesInts (bkW L) w) := by
  obtain ⟨i0, hi, hz0, hz1, hz2⟩ := info_parts info_int
  obtain ⟨oa, cap, rfl, hcl, hcm, hcc⟩ := hv.form
  unfold maxLen at hcm
  clear hv
  have HC := Lib.hid hcc
  have HZ := Lib.hid hz
  clear hcc hz
  go_enter Tryd.func56, Tryd.ntmps56
  go_wp2_with fail
  go_loopw [3, 4] (fun u i wr => ∃ (m : Nat) (xs : List Int), i = .int .i64 ((m : Int) - 1) ∧ m ≤ L.length ∧ xs.length = L.length - m ∧ OwnI w.heap.size wr u xs ∧ Below w.heap.size w wr ∧ Hid (xs = bkW (L.drop m))) (fun _ i _ => (intOf i + 1).toNat)
  case atStart => exact ⟨L.length, [], rfl, Nat.le_refl _, by simp, OwnI.nil _ _, Below.refl _ _, by show [] = _; rw [List.drop_length]; rfl⟩
  case round =>
    obtain ⟨m, xs, rfl, hm, hxl, hown, hbw, he⟩ := hrel
    have HX := Lib.hid hxl
    cases m with
    | zero =>
      have e0 : ((0 : Nat) : Int) - 1 = -1 := by omega
      rw [e0]
      have he' := he.out
      rw [List.drop_zero] at he'
      have HE := Lib.hid he'
      clear he he' hxl
      go_wp2_with fail
      go_ret
      exact ⟨_, by rw [← HE.out]; exact hown, hbw, rfl⟩
    | succ m =>
      have e1 : ((m + 1 : Nat) : Int) - 1 = (m : Int) := by omega
      rw [e1]
      unfold OwnI at hown
      have hlt : m < L.length := by omega
      have hlt' : (m : Int) < (L.length : Int) := by omega
      obtain ⟨g, rfl, _, hgl, c1⟩ := HC.out m hlt
      replace c1 := (hbw.cell (p := ⟨g, m, none⟩) hgl).trans c1
      have hxm : L.getD m 0 ∈ L := by rw [List.getD_eq_getElem?_getD, List.getElem?_eq_getElem hlt]; exact List.getElem_mem _
      obtain ⟨hx1, hx2⟩ := HZ.out _ hxm
      have hstep := bkW_drop hlt
      rw [← he.out] at hstep
      generalize L.getD m 0 = x at c1 hx1 hx2 hstep
      have HS := Lib.hid hstep
      have hbd : -100 ≤ -x ∧ -x ≤ 100 := by omega
      clear hxm he hgl hstep
      go_wp2_with (at_builtin; refine wpList_append_own _ rfl _ _ 25 rfl w.heap.size 3 i0 (.int .i64 0) 1 8 Tryd.underlying25 hi hz0 hz1 hz2 rfl (by decide) _ _ _ rfl (hown.alloc _) ⟨wr.heap.size, 0, none⟩ 1 1 [.int .i64 (-x)] rfl rfl (new1 _ _ _) (one1 _) (by unfold maxLen; omega) (by omega) (size_al hbw _) ?_; intro v' w1 hown' hgrow hnn)
      have hbw' := below_app hbw hown (Nat.le_refl _) hgrow
      have hown1 : OwnI w.heap.size w1 v' (xs ++ [-x]) := OwnI.snoc hown'
      clear hown hown' hgrow hbw hnn
      go_wp2_with fail
      go_roundw
      case rel => exact ⟨m, _, by go_num, by omega, by have := HX.out; simp; omega, hown1, hbw', HS.out.symm⟩
      case measure => simp [intOf]

end Go.Proofs.YtkpganpojdboeabDoor

/-! Wp1 -/
namespace Go.Proofs.YtkpganpojdboeabDoor
open Go.RowKit

theorem src_any {b : Nat} {w : World} {oa : Option Addr} {n c : Nat} {xs : List Int} (h : OwnI b w (.slice oa n c) xs) : SrcV w (.slice oa n c) (xs.map (Value.int .i64)) := by
  rcases h.cells with ⟨h0, h1⟩ | ⟨g, cap, h0, h1, h2, h3, h4, h5, h6⟩
  · rw [h0, h1]; exact .inl ⟨rfl, rfl⟩
  · injection h0 with e1 e2 e3
    subst e1 e2 e3
    exact src_ownI rfl h

theorem OwnI.one2 {base : Nat} {w : World} {v : Value} {xs : List Int} {m : Int} (h : w.ownsRow base 3 1 v (xs.length + 1) (xs.map (Value.int .i64) ++ [Value.int .i64 m])) : OwnI base w v (xs ++ [m]) := OwnI.snoc h
theorem letters_bd (t : Tr) (h : t.carets ≤ 8) (k : Nat) : (t.expR.take k).sum ≤ 8 := by
  have h1 := sum_takeG t.expR k
  have h2 := expR_sum t
  omega

set_option maxRecDepth 100000 in
set_option maxHeartbeats 1000000 in
theorem wdOf_any (p : Pr) (w : World) (hc1 : p.1.carets ≤ 8) (hc2 : p.2.carets ≤ 8) :
    Calls Tryd.prog 23 #[.agg #[.string p.1.str, .string p.2.str]] w (GivesInts (p.1.letters ++ bkW p.2.letters) w) := by
  obtain ⟨i0, hi, hz0, hz1, hz2⟩ := info_parts info_int
  have R1 := fun w => wdRight_any p.1 w (by omega)
  have R2 := fun w => wdRight_any p.2 w (by omega)
  have B1 := letters_bd p.1 hc1
  have B2 := letters_bd p.2 hc2
  have L1 : p.1.expR.length ≤ 9 := by rw [expR_length]; omega
  have L2 : p.2.expR.length ≤ 9 := by rw [expR_length]; omega
  have M2 := letters_mem p.2
  have G1 : p.1.letters = lettersE p.1.expR 0 := rfl
  have G2 : p.2.letters = lettersE p.2.expR 0 := rfl
  have N2 := letters_length p.2
  rw [G1, G2]
  rw [G2] at M2 N2
  have M3 : ∀ x ∈ lettersE p.2.expR 0, -100 ≤ x ∧ x ≤ 100 := fun x hx => by have := M2 x hx; omega
  have N3 : (lettersE p.2.expR 0).length ≤ 8 := by omega
  clear G1 G2 M2 N2 hc1 hc2
  generalize p.1.expR = E1 at *
  generalize p.2.expR = E2 at *
  generalize p.1.str = s1 at *
  generalize p.2.str = s2 at *
  have HB1 := Lib.hid B1
  have HB2 := Lib.hid B2
  have HM := Lib.hid M3
  have HN3 := Lib.hid N3
  obtain ⟨n1, hn1⟩ : ∃ n, n = E1.length := ⟨_, rfl⟩
  obtain ⟨n2, hn2⟩ : ∃ n, n = E2.length := ⟨_, rfl⟩
  have HL1 := Lib.hid hn1
  have HL2 := Lib.hid hn2
  rw [← hn1] at L1
  rw [← hn2] at L2
  clear B1 B2 M3 N3 hn1 hn2
  go_enter Tryd.func23, Tryd.ntmps23
  go_wp2_with fail
  have hb0 : Below w.heap.size w (w.alloc (.cells #[.string s1, .string s2] 28 (0, 0))) := nxAlloc (Below.refl _ _) _
  have hx0 := heap_alloc_at w (.cells #[.string s1, .string s2] 28 (0, 0))
  generalize w.alloc (.cells #[.string s1, .string s2] 28 (0, 0)) = w0 at *
  obtain ⟨ka, kb, kc⟩ := two_facts hx0
  refine (R1 _).mono ?_; rintro e w1 ⟨g1, cap1, own1, hb1, rfl⟩
  have hx1 := heap_keep hb1 hx0
  have hbw0 := nx hb0 hb1
  clear ka kb kc hx0 hb0 hb1
  obtain ⟨oa, cap, ev9, hf1, hf2, hfc⟩ := own1.cells.form
  cases ev9
  unfold maxLen at hf2
  rw [ints_length, ← HL1.out] at hf1 hfc ⊢
  have HC := Lib.hid hfc
  clear own1 hfc
  go_wp2_with fail
  go_loopw [3, 13] (fun u i wr => ∃ (k : Nat) (xs : List Int), k ≤ n1 ∧ i = .int .i64 k ∧ OwnI w1.heap.size wr u xs ∧ xs.length ≤ 8 ∧ Hid (xs = lettersE (E1.take k) 0) ∧ Below w1.heap.size w1 wr) (fun _ i _ => n1 - (intOf i).toNat)
  case atStart => exact ⟨0, [], Nat.zero_le _, rfl, OwnI.nil _ _, Nat.zero_le _, rfl, Below.refl _ _⟩
  case round =>
    obtain ⟨k, xs, hk, rfl, hown, hxl, hxs, hbw⟩ := hrel
    by_cases hlt : k < n1
    · have hlt' : (k : Int) < (n1 : Int) := by omega
      obtain ⟨g, eg, _, hgl, c0⟩ := HC.out k hlt
      obtain rfl : g1 = g := by simpa using eg
      clear eg
      have c1 := (hbw.cell (p := ⟨g1, k, none⟩) hgl).trans c0
      have hkE : k < E1.length := by rw [← HL1.out]; exact hlt
      have hge : (ints E1).getD k 0 = ((E1.getD k 0 : Nat) : Int) := by unfold ints; simp [hkE]
      rw [hge] at c1
      have hstep := lettersE_step (E1.take k) (E1.getD k 0) k (by simp; omega)
      rw [← take_nextG E1 hkE, ← hxs.out] at hstep
      have hsm := HB1.out (k + 1)
      have hl2 := congrArg List.length hstep
      rw [lettersE_length, List.length_append, List.length_replicate] at hl2
      have HST := Lib.hid hstep
      generalize E1.getD k 0 = x at *
      have hx8 : xs.length + x ≤ 8 := by omega
      have hk9 : k ≤ 9 := by omega
      clear hge hstep hsm hl2 c0 hxs hgl
      go_wp2_with fail
      go_loopw [3, 6] (fun u a w5 => ∃ (m : Nat) (zs : List Int), a = .int .i64 m ∧ m ≤ x ∧ OwnI w1.heap.size w5 u zs ∧ zs.length + m ≤ 8 ∧ Hid (zs = xs ++ List.replicate (x - m) ((k : Int) + 1)) ∧ Below w1.heap.size w1 w5) (fun _ a _ => (intOf a).toNat)
      case atStart => exact ⟨x, xs, rfl, Nat.le_refl _, hown, hx8, by show _ = _; simp, hbw⟩
      case round =>
        clear hown hbw c1 hxl hx8
        obtain ⟨m, zs, rfl, hm, hown5, hzl, hzs, hbw5⟩ := hrel
        by_cases hm0 : 0 < m
        · have hm0' : (0 : Int) < (m : Int) := by omega
          have hz2' : zs ++ [(k : Int) + 1] = xs ++ List.replicate (x - (m - 1)) ((k : Int) + 1) := by
            rw [hzs.out, List.append_assoc, show x - (m - 1) = (x - m) + 1 by omega, List.replicate_succ']
          have HZ := Lib.hid hz2'
          have em : IntKind.i64.wrap ((m : Int) - 1) = ((m - 1 : Nat) : Int) := by rw [IntKind.wrap_i64]; omega
          unfold OwnI at hown5
          clear hz2' hzs
          go_wp2_with (at_builtin; refine wpList_append_own _ rfl _ _ 25 rfl w1.heap.size 3 i0 (.int .i64 0) 1 8 Tryd.underlying25 hi hz0 hz1 hz2 rfl (by decide) _ _ _ rfl (hown5.alloc _) ⟨wr.heap.size, 0, none⟩ 1 1 [.int .i64 ((k : Int) + 1)] rfl rfl (new1 _ _ _) (one1 _) (by unfold maxLen; omega) (by omega) (size_al hbw5 _) ?_; intro v' w9 hown' hgrow hnn)
          have hbw9 := below_app hbw5 hown5 (Nat.le_refl _) hgrow
          have hown1 : OwnI w1.heap.size w9 v' (zs ++ [(k : Int) + 1]) := OwnI.snoc hown'
          clear hown5 hown' hgrow hbw5 hnn
          go_wp2_with fail
          go_roundw
          case rel => exact ⟨m - 1, _, by first | rfl | (rw [em]) | go_num, by omega, hown1, by simp; omega, HZ, hbw9⟩
          case measure => simp [intOf]; omega
        · obtain rfl : m = 0 := by omega
          have h1 := hzs.out
          rw [Nat.sub_zero, ← HST.out] at h1
          have HX := Lib.hid h1
          clear hzs h1
          go_wp2_with fail
          go_roundw
          case rel => exact ⟨k + 1, zs, by omega, by go_num, hown5, by omega, HX.out, hbw5⟩
          case measure => simp [intOf]; omega
    · obtain rfl : k = n1 := by omega
      have h1 := hxs.out
      rw [List.take_of_length_le (by rw [← HL1.out]; exact Nat.le_refl _)] at h1
      have HX1 := Lib.hid h1
      clear h1 hxs
      have hbx := nx hbw0 hbw
      have hxx := heap_keep hbw hx1
      obtain ⟨kaa, kbb, kcc⟩ := two_facts hxx
      obtain ⟨xs1, ex1⟩ : ∃ xs1, xs1 = xs := ⟨_, rfl⟩
      rw [← ex1] at hown hxl HX1
      have hsb : w.heap.size ≤ w1.heap.size := hbw0.size
      clear ex1 hbw hx1 HC hbw0
      go_wp2_with fail
      refine (R2 _).mono ?_; rintro e w6 ⟨g6, cap6, own6, hb6, rfl⟩
      have hown1 := OwnI.keep hown hb6
      have hbw1 := nx hbx hb6
      have hxl1 := hxl
      clear hown hxl hbx hb6 hxx kaa kbb kcc
      obtain ⟨oa, cap, ev9, hf1, hf2, hfc⟩ := own6.cells.form
      cases ev9
      unfold maxLen at hf2
      rw [ints_length, ← HL2.out] at hf1 hfc ⊢
      have HC := Lib.hid hfc
      clear own6 hfc
      go_wp2_with fail
      go_loopw [4, 32] (fun u i wr => ∃ (k : Nat) (xs : List Int), k ≤ n2 ∧ i = .int .i64 k ∧ OwnI w6.heap.size wr u xs ∧ xs.length ≤ 8 ∧ Hid (xs = lettersE (E2.take k) 0) ∧ Below w6.heap.size w6 wr) (fun _ i _ => n2 - (intOf i).toNat)
      case atStart => exact ⟨0, [], Nat.zero_le _, rfl, OwnI.nil _ _, Nat.zero_le _, rfl, Below.refl _ _⟩
      case round =>
        obtain ⟨k, xs, hk, rfl, hown, hxl, hxs, hbw⟩ := hrel
        by_cases hlt : k < n2
        · have hlt' : (k : Int) < (n2 : Int) := by omega
          obtain ⟨g, eg, _, hgl, c0⟩ := HC.out k hlt
          obtain rfl : g6 = g := by simpa using eg
          clear eg
          have c1 := (hbw.cell (p := ⟨g6, k, none⟩) hgl).trans c0
          have hkE : k < E2.length := by rw [← HL2.out]; exact hlt
          have hge : (ints E2).getD k 0 = ((E2.getD k 0 : Nat) : Int) := by unfold ints; simp [hkE]
          rw [hge] at c1
          have hstep := lettersE_step (E2.take k) (E2.getD k 0) k (by simp; omega)
          rw [← take_nextG E2 hkE, ← hxs.out] at hstep
          have hsm := HB2.out (k + 1)
          have hl2 := congrArg List.length hstep
          rw [lettersE_length, List.length_append, List.length_replicate] at hl2
          have HST := Lib.hid hstep
          generalize E2.getD k 0 = x at *
          have hx8 : xs.length + x ≤ 8 := by omega
          have hk9 : k ≤ 9 := by omega
          clear hge hstep hsm hl2 c0 hxs hgl
          go_wp2_with fail
          go_loopw [4, 8] (fun u a w5 => ∃ (m : Nat) (zs : List Int), a = .int .i64 m ∧ m ≤ x ∧ OwnI w6.heap.size w5 u zs ∧ zs.length + m ≤ 8 ∧ Hid (zs = xs ++ List.replicate (x - m) ((k : Int) + 1)) ∧ Below w6.heap.size w6 w5) (fun _ a _ => (intOf a).toNat)
          case atStart => exact ⟨x, xs, rfl, Nat.le_refl _, hown, hx8, by show _ = _; simp, hbw⟩
          case round =>
            clear hown hbw c1 hxl hx8
            obtain ⟨m, zs, rfl, hm, hown5, hzl, hzs, hbw5⟩ := hrel
            by_cases hm0 : 0 < m
            · have hm0' : (0 : Int) < (m : Int) := by omega
              have hz2' : zs ++ [(k : Int) + 1] = xs ++ List.replicate (x - (m - 1)) ((k : Int) + 1) := by
                rw [hzs.out, List.append_assoc, show x - (m - 1) = (x - m) + 1 by omega, List.replicate_succ']
              have HZ := Lib.hid hz2'
              have em : IntKind.i64.wrap ((m : Int) - 1) = ((m - 1 : Nat) : Int) := by rw [IntKind.wrap_i64]; omega
              unfold OwnI at hown5
              clear hz2' hzs
              go_wp2_with (at_builtin; refine wpList_append_own _ rfl _ _ 25 rfl w6.heap.size 3 i0 (.int .i64 0) 1 8 Tryd.underlying25 hi hz0 hz1 hz2 rfl (by decide) _ _ _ rfl (hown5.alloc _) ⟨wr.heap.size, 0, none⟩ 1 1 [.int .i64 ((k : Int) + 1)] rfl rfl (new1 _ _ _) (one1 _) (by unfold maxLen; omega) (by omega) (size_al hbw5 _) ?_; intro v' w9 hown' hgrow hnn)
              have hbw9 := below_app hbw5 hown5 (Nat.le_refl _) hgrow
              have hown1 : OwnI w6.heap.size w9 v' (zs ++ [(k : Int) + 1]) := OwnI.snoc hown'
              clear hown5 hown' hgrow hbw5 hnn
              go_wp2_with fail
              go_roundw
              case rel => exact ⟨m - 1, _, by first | rfl | (rw [em]) | go_num, by omega, hown1, by simp; omega, HZ, hbw9⟩
              case measure => simp [intOf]; omega
            · obtain rfl : m = 0 := by omega
              have h1 := hzs.out
              rw [Nat.sub_zero, ← HST.out] at h1
              have HX := Lib.hid h1
              clear hzs h1
              go_wp2_with fail
              go_roundw
              case rel => exact ⟨k + 1, zs, by omega, by go_num, hown5, by omega, HX.out, hbw5⟩
              case measure => simp [intOf]; omega
        · obtain rfl : k = n2 := by omega
          have h1 := hxs.out
          rw [List.take_of_length_le (by rw [← HL2.out]; exact Nat.le_refl _)] at h1
          have HX2 := Lib.hid h1
          clear h1 hxs
          have hzb : ∀ x ∈ xs, -100 ≤ x ∧ x ≤ 100 := by rw [HX2.out]; exact HM.out
          have hzn : xs.length ≤ 8 := hxl
          have V := fun v b1 w hv => wdInverse_any v b1 xs w hv hzb (by omega)
          have hout := OwnI.keep hown1 hbw
          have hbw1' := nx hbw1 hbw
          have HCELL := Lib.hid hown.cells
          have hbl := bkW_length xs
          have hbl8 : (bkW xs).length ≤ 8 := by omega
          have heq : xs1 ++ bkW xs = lettersE E1 0 ++ bkW (lettersE E2 0) := by rw [← HX1.out, ← HX2.out]
          have HEQ := Lib.hid heq
          clear hown hown1 hbw1 hzb heq hbl
          generalize bkW xs = Y at *
          go_wp2_with fail
          refine (V _ _ _ HCELL.out).mono ?_; rintro e w8 ⟨v8, own8, hb8, rfl⟩
          have hout8 := hout.keep hb8
          have hbw8 := nx hbw1' hb8
          clear hout hbw1' V
          obtain ⟨oa8, cap8, rfl, _⟩ := own8.cells.form
          have hsrc : SrcV w8 (.slice oa8 Y.length cap8) (Y.map (Value.int .i64)) := src_any own8
          have hone := one_ints9 Y
          have hrl : (Y.map (Value.int .i64)).length = Y.length := by simp
          unfold OwnI at hout8
          go_wp2_with (at_builtin; go_loud (refine wpList_appSrc rfl _ _ 25 rfl w.heap.size 3 i0 (.int .i64 0) 8 Tryd.underlying25 hi hz0 hz1 hz2 rfl _ _ _ rfl (ownsRow_mono hout8 hsb) _ _ rfl hsrc hone (by rw [hrl]; unfold maxLen; omega) (by rw [hrl]; omega) hbw8.size ?_); intro v9 w9 hown9 hb9 hnn9)
          have hbw9 := hbw8.trans hb9
          have hown1 : OwnI w.heap.size w9 v9 (xs1 ++ Y) := by
            unfold OwnI
            rw [List.map_append, List.length_append]
            rw [hrl] at hown9
            exact hown9
          clear hout8 hown9 hnn9 hbw8 hb9 hsrc hone hrl
          go_wp2_with fail
          go_ret
          exact ⟨_, by rw [← HEQ.out]; exact hown1, hbw9, rfl⟩
end Go.Proofs.YtkpganpojdboeabDoor

/-! Prefix -/
namespace Go.Proofs.YtkpganpojdboeabDoor
open Go.RowKit

theorem take_eq_of_short {l p : List UInt8} (h : l.length < p.length) : (l.take p.length == p) = false := by
  rw [beq_eq_false_iff_ne]
  intro e
  have := congrArg List.length e
  simp at this
  omega

set_option linter.unusedVariables false in
theorem hasPrefixL_any (s p : ByteArray) (w : World) (hs : s.size ≤ 9223372036854775806) (hp : p.size ≤ 9223372036854775806) :
    Calls Tryd.prog 143 #[.string s, .string p] w fun e w' => e = .returned (.bool (s.data.toList.take p.size == p.data.toList)) ∧ w = w' := by
  by_cases h : (p.size : Int) ≤ s.size
  · go_enter Tryd.func143, Tryd.ntmps143
    go_wp2
    go_ret
    refine ⟨ret_bool ?_, rfl⟩
    rw [Lib.extract_toList, Lib.toList_data]; simp
  · have hf : (s.data.toList.take p.size == p.data.toList) = false := by
      rw [Lib.size_eq p]; exact take_eq_of_short (by rw [← Lib.size_eq, ← Lib.size_eq]; omega)
    rw [hf]
    clear hf
    go_enter Tryd.func143, Tryd.ntmps143
    go_wp2
    go_ret
    exact ⟨rfl, rfl⟩

theorem hasPrefixS_any (s p : ByteArray) (w : World) (hs : s.size ≤ 9223372036854775806) (hp : p.size ≤ 9223372036854775806) :
    Calls Tryd.prog 132 #[.string s, .string p] w fun e w' => e = .returned (.bool (s.data.toList.take p.size == p.data.toList)) ∧ w = w' := by
  go_enter Tryd.func132, Tryd.ntmps132
  go_wp2_with fail
  refine (hasPrefixL_any s p _ hs hp).mono ?_; rintro e w1 ⟨rfl, rfl⟩
  go_wp2_with fail
  go_ret
  exact ⟨rfl, rfl⟩

end Go.Proofs.YtkpganpojdboeabDoor

/-! Leaf -/
namespace Go.Proofs.YtkpganpojdboeabDoor
open Go.RowKit

theorem posFrom_dot {s : ByteArray} {k : Nat} {off : Nat} {n : Int} (h : k < s.size) (hb : (((s[k]'h).toNat : Int) == 46) = true) :
    posFrom (s.data.toList.drop k) off n = if n = 0 then (off : Int) else posFrom (s.data.toList.drop (k + 1)) (off + 1) (n - 1) := by
  obtain ⟨c, r, hd, hc, hr⟩ := drop_of_byteAt h
  have h1 : byteAt s k = (s[k]'h).toNat := byteAt_eq s k h
  have : c = 46 := u8_eq (n := 46) (by omega) (by rw [← hc, h1]; simpa using hb)
  rw [hd, posFrom, if_pos this, hr]
theorem posFrom_other {s : ByteArray} {k : Nat} {off : Nat} {n : Int} (h : k < s.size) (hb : (((s[k]'h).toNat : Int) == 46) = false) :
    posFrom (s.data.toList.drop k) off n = posFrom (s.data.toList.drop (k + 1)) (off + 1) n := by
  obtain ⟨c, r, hd, hc, hr⟩ := drop_of_byteAt h
  have h1 : byteAt s k = (s[k]'h).toNat := byteAt_eq s k h
  have : ¬ c = 46 := fun e => by
    have : (((s[k]'h).toNat : Int)) = 46 := by rw [← h1, hc, e]; rfl
    simp [this] at hb
  rw [hd, posFrom, if_neg this, hr]
theorem posFrom_end {s : ByteArray} {off : Nat} {n : Int} : posFrom (s.data.toList.drop s.size) off n = -1 := by
  rw [List.drop_of_length_le (by rw [Lib.size_eq]; exact Nat.le_refl _)]; rfl

set_option maxRecDepth 100000 in
set_option maxHeartbeats 1000000 in
theorem leafPlace_any (s : ByteArray) (n : Int) (w : World) (hs : s.size ≤ 9223372036854775806) (hn : 0 ≤ n) (hn' : n ≤ 9223372036854775807) :
    Calls Tryd.prog 131 #[.string s, .int .i64 n] w (Quietly (.int .i64 (posFrom s.data.toList 0 n)) w) := by
  go_enter Tryd.func131, Tryd.ntmps131
  go_wp2_with fail
  go_loopw [1, 8] (fun v i wr => ∃ (k : Nat) (m : Int) (d : Nat), k ≤ s.size ∧ i = .int .i64 k ∧ v = .int .i64 m ∧ 0 ≤ m ∧ m ≤ 9223372036854775807 ∧ wr = w.drewN d ∧ Hid (posFrom s.data.toList 0 n = posFrom (s.data.toList.drop k) k m)) (fun _ i _ => s.size - (intOf i).toNat)
  case atStart => exact ⟨0, n, 0, Nat.zero_le _, rfl, rfl, hn, hn', rfl, rfl⟩
  case round =>
    obtain ⟨k, m, d, hk, rfl, rfl, hm, hm', rfl, he⟩ := hrel
    by_cases hlt : k < s.size
    · cases h46 : (((s[k]'hlt).toNat : Int) == 46) with
      | true =>
        have h46' : Hid ((((s[k]'hlt).toNat : Int) != 46) = false) := by show (_ != _) = false; rw [bne, h46]; rfl
        have hp := posFrom_dot (off := k) (n := m) hlt h46
        have HP := Lib.hid hp
        clear hp h46
        by_cases hm0 : m = 0
        · have g0 : (m == 0) = true := by simp [hm0]
          have HM := Lib.hid hm0
          clear hm0
          go_wp2_with fail
          have g := h46'.out
          have gz : ((⟨#[46]⟩ : ByteArray)[0]'(by decide)).toNat = 46 := rfl
          go_quiet (fail)
          go_wp2_with fail
          go_ret
          exact ⟨ret_int (by rw [he.out, HP.out, if_pos HM.out]), _, rfl⟩
        · have g0 : (m == 0) = false := by simp [hm0]
          have hm1 : 1 ≤ m := by omega
          have HM := Lib.hid hm0
          clear hm0
          go_wp2_with fail
          have g := h46'.out
          have gz : ((⟨#[46]⟩ : ByteArray)[0]'(by decide)).toNat = 46 := rfl
          go_quiet (fail)
          go_wp2_with fail
          clear g gz
          go_roundw
          case rel => exact ⟨k + 1, m - 1, _, by omega, by go_num, rfl, by omega, by omega, rfl, by show _ = _; rw [he.out, HP.out, if_neg HM.out]⟩
          case measure => simp [intOf]; omega
      | false =>
        have h46' : Hid ((((s[k]'hlt).toNat : Int) != 46) = true) := by show (_ != _) = true; rw [bne, h46]; rfl
        have hp := posFrom_other (off := k) (n := m) hlt h46
        have HP := Lib.hid hp
        clear hp h46
        go_wp2_with fail
        have g := h46'.out
        have gz : ((⟨#[46]⟩ : ByteArray)[0]'(by decide)).toNat = 46 := rfl
        go_quiet (fail)
        go_wp2_with fail
        clear g gz
        go_roundw
        case rel => exact ⟨k + 1, m, _, by omega, by go_num, rfl, by omega, by omega, rfl, by show _ = _; rw [he.out, HP.out]⟩
        case measure => simp [intOf]; omega
    · obtain rfl : k = s.size := by omega
      go_wp2_with fail
      go_ret
      exact ⟨ret_int (by rw [he.out, posFrom_end]), _, rfl⟩

set_option maxRecDepth 100000 in
set_option maxHeartbeats 1000000 in
theorem trGraft_any (s o : ByteArray) (n : Int) (w : World) (hs : s.size ≤ 1000) (ho : o.size ≤ 1000) (hn : 0 ≤ n) (hn' : n ≤ 9223372036854775807) (hp : 0 ≤ posFrom s.data.toList 0 n) :
    Calls Tryd.prog 43 #[.string s, .int .i64 n, .string o] w (Gives (.string (graftS s n o)) w) := by
  have HP0 := Lib.hid hp
  clear hp
  go_enter Tryd.func43, Tryd.ntmps43
  go_wp2_with fail
  go_loopw [7, 8] (fun v i wr => ∃ (k : Nat) (c : Int), k ≤ s.size ∧ i = .int .i64 k ∧ v = .int .i64 c ∧ -1 ≤ c ∧ c < n ∧ wr = w ∧ Hid (posFrom s.data.toList 0 n = posFrom (s.data.toList.drop k) k (n - (c + 1)))) (fun _ i _ => s.size - (intOf i).toNat)
  case atStart => exact ⟨0, -1, Nat.zero_le _, rfl, rfl, by omega, by omega, rfl, by show _ = _; simp⟩
  case round =>
    obtain ⟨k, c, hk, rfl, rfl, hc1, hc2, rfl, he⟩ := hrel
    by_cases hlt : k < s.size
    · cases h46 : (((s[k]'hlt).toNat : Int) == 46) with
      | true =>
        have hp := posFrom_dot (off := k) (n := n - (c + 1)) hlt h46
        have HP := Lib.hid hp
        have H46 := Lib.hid h46
        clear hp h46
        by_cases hm0 : c + 1 = n
        · have g0 : (c + 1 == n) = true := by simp [hm0]
          have hpos : Hid ((posFrom s.data.toList 0 n).toNat = k) := by
            show _ = _
            rw [he.out, HP.out, if_pos (by omega)]; rfl
          have HM := Lib.hid hm0
          clear hm0
          have g := H46.out
          go_wp2_with fail
          clear g g0
          go_region
          all_goals (try go_wp2_with fail)
          all_goals go_ret
          exact ⟨ret_str (by unfold graftS; rw [hpos.out]), (Below.refl _ _).drew⟩
        · have g0 : (c + 1 == n) = false := by simp [hm0]
          have HM := Lib.hid hm0
          have hlt2 : c + 1 < n := by omega
          clear hm0
          have g := H46.out
          go_wp2_with fail
          clear g g0
          go_roundw
          case rel => exact ⟨k + 1, c + 1, by omega, by go_num, rfl, by omega, by omega, trivial, by show _ = _; rw [he.out, HP.out, if_neg (by omega)]; congr 1; omega⟩
          case measure => simp [intOf]; omega
      | false =>
        have hp := posFrom_other (off := k) (n := n - (c + 1)) hlt h46
        have HP := Lib.hid hp
        have H46 := Lib.hid h46
        clear hp h46
        have g0 : (c == n) = false := by simp; omega
        have g := H46.out
        go_wp2_with fail
        clear g g0
        go_roundw
        case rel => exact ⟨k + 1, c, by omega, by go_num, rfl, by omega, by omega, trivial, by show _ = _; rw [he.out, HP.out]⟩
        case measure => simp [intOf]; omega
    · obtain rfl : k = s.size := by omega
      exfalso
      have h1 := he.out
      rw [posFrom_end] at h1
      have := HP0.out
      omega

end Go.Proofs.YtkpganpojdboeabDoor
