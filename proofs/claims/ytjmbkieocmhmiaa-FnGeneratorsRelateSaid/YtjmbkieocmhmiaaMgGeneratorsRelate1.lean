/- Texts that the claim needs, part 2. -/
import Derived.Test.YtjmbkieocmhmiaaMgGeneratorsRelate0
import Derived.Lib.Bytealg
import Derived.Deep.RegionHeld3
import Derived.StillTail
import Derived.Deep.QuietTactic
import Derived.BigQuiet
import Derived.Lib.SmallJoins
/-! DwG -/
namespace Go.Proofs.Ytjmbkieocmhmiaa
open Go.RowKit

set_option maxRecDepth 100000 in
theorem drawGeneratorPair_any (c : Bts) (w : World) (h : InB w c) : Calls Try.prog 5 #[.slice c.a c.n c.cap] w (GivesN1 w) := by
  have H := Lib.hid (cur_new h)
  clear h
  go_enter Try.func5, Try.ntmps5
  go_wp2_with fail
  refine (drawPick_any 9 _ c 0 _ H.out (by omega) (by omega) (by omega)).mono ?_; rintro e w1 ⟨x, hx, rfl, hT, hg⟩
  go_wp2_with fail
  go_ret
  exact ⟨(x : Int) - 1, by omega, by omega, rfl, cur_below hg⟩

set_option maxRecDepth 100000 in
theorem drawCountReduced_any (c : Bts) (w : World) (h : InB w c) : Calls Try.prog 11 #[.slice c.a c.n c.cap] w (GivesN1 w) := by
  have H := Lib.hid (cur_new h)
  clear h
  go_enter Try.func11, Try.ntmps11
  go_wp2_with fail
  refine (drawPick_any 7 _ c 0 _ H.out (by omega) (by omega) (by omega)).mono ?_; rintro e w1 ⟨x, hx, rfl, hT, hg⟩
  go_wp2_with fail
  go_ret
  exact ⟨(x : Int) - 1, by omega, by omega, rfl, cur_below hg⟩

set_option maxRecDepth 100000 in
theorem drawCountForests_any (c : Bts) (w : World) (h : InB w c) : Calls Try.prog 16 #[.slice c.a c.n c.cap] w (GivesN2 w) := by
  have H := Lib.hid (cur_new h)
  clear h
  go_enter Try.func16, Try.ntmps16
  go_wp2_with fail
  refine (drawPick_any 11 _ c 0 _ H.out (by omega) (by omega) (by omega)).mono ?_; rintro e w1 ⟨x, hx, rfl, hT, hg⟩
  have HT := Lib.hid hT
  have HG := Lib.hid hg
  clear hT hg
  go_wp2_with fail
  refine (drawPick_any 11 _ c _ _ HT.out (by omega) (by omega) (by omega)).mono ?_; rintro e w2 ⟨y, hy, rfl, hT, hg⟩
  go_wp2_with fail
  go_ret2
  exact ⟨x, (y : Int) - 1, by omega, by omega, by omega, by omega, rfl, cur_below (grown_trans HG.out hg)⟩
end Go.Proofs.Ytjmbkieocmhmiaa

/-! Lw0 -/
namespace Go.Proofs.Ytjmbkieocmhmiaa
open Go.RowKit

theorem pow_cast2 (n : Nat) : (2 : Int) ^ n = ((2 ^ n : Nat) : Int) := by
  rw [Int.natCast_pow]; rfl
theorem share_step (S P T : Nat) (h : T = S + P) (h1 : P ≤ 256) (h2 : T ≤ 100000) : wrap64 ((S : Int) + wrap64 (P : Int)) = (T : Int) := by
  subst h
  unfold wrap64
  omega
theorem less_byL : ∀ (x y : List UInt8), Go.Op.bytesLess x y = decide (x < y) := by
  intro x
  induction x with
  | nil => intro y; cases y <;> simp [Go.Op.bytesLess]
  | cons a x ih =>
    intro y
    cases y with
    | nil => simp [Go.Op.bytesLess]
    | cons b y =>
      rw [Go.Op.bytesLess, ih y, Bool.eq_iff_iff]
      simp [List.cons_lt_cons_iff]
theorem less_data (a b : ByteArray) : Go.Op.bytesLess a.toList b.toList = decide (a.data.toList < b.data.toList) := by
  rw [less_byL, Lib.toList_data, Lib.toList_data]
theorem big_yes (c d : Bts) (w : World) (hc : (c.n : Int) ≤ 9223372036854775807) (_hd : (d.n : Int) ≤ 9223372036854775807) (h : 1048576 < c.n ∨ 1048576 < c.n + d.n) :
    Calls Try.prog 4 #[.slice c.a c.n c.cap, .slice d.a d.n d.cap] w (fun e w' => e = .returned (.bool true) ∧ w = w') := by
  by_cases h1 : 1048576 < c.n
  · have h1' : (1048576 : Int) < (c.n : Int) := by omega
    go_enter Try.func4, Try.ntmps4
    go_wp2_with fail
    go_ret
    exact ⟨rfl, rfl⟩
  · have h1' : (c.n : Int) ≤ 1048576 := by omega
    have h2' : 1048576 - (c.n : Int) < (d.n : Int) := by omega
    go_enter Try.func4, Try.ntmps4
    go_wp2_with fail
    go_ret
    exact ⟨ret_bool (by first | rfl | (simp; done) | (simp; omega)), rfl⟩
theorem big_no (c d : Bts) (w : World) (h : c.n + d.n ≤ 1048576) :
    Calls Try.prog 4 #[.slice c.a c.n c.cap, .slice d.a d.n d.cap] w (fun e w' => e = .returned (.bool false) ∧ w = w') := by
  have h1' : (c.n : Int) ≤ 1048576 := by omega
  have h2' : (d.n : Int) ≤ 1048576 - (c.n : Int) := by omega
  go_enter Try.func4, Try.ntmps4
  go_wp2_with fail
  go_ret
  exact ⟨ret_bool (by first | rfl | (simp; done) | (simp; omega)), rfl⟩
/-- An argument of a law: bytes that can be read. -/
def RawB (w : World) (c : Bts) : Prop := (c.n : Int) ≤ 9223372036854775807 ∧ (c.n = 0 ∨ ∃ g off, c.a = some ⟨g, off, none⟩ ∧ ∀ i, i < c.n → ∃ x : Nat, x < 256 ∧ w.cell? ⟨g, off + i, none⟩ = some (.int .u8 x))

end Go.Proofs.Ytjmbkieocmhmiaa

/-! ArgI -/
namespace Go.Proofs.Ytjmbkieocmhmiaa
open Go.RowKit

/-- A slice of integers that came in: it is nil, or leads to a row of 'cap' cells, the first 'len' of which are its elements. -/
def IsInts (w : World) (a : Option Addr) (len cap : Nat) (ss : List Int) : Prop :=
  (a = none ∧ len = 0 ∧ cap = 0 ∧ ss = []) ∨
  ∃ x, a = some x ∧ len ≤ cap ∧ cap ≤ maxLen ∧ ss.length = cap ∧ (∀ i, i < ss.length → w.cell? (x.add i) = some (.int .i64 (ss.getD i 0))) ∧ ∀ s ∈ ss, (Lit.int .i64 s).wf = true

/-- What can be read of a slice of integers: the cells from an address on. -/
def ReadI (w : World) (g off : Nat) (ss : List Int) : Prop := ∀ i, i < ss.length → w.cell? ⟨g, off + i, none⟩ = some (.int .i64 (ss.getD i 0))

theorem ReadI.keep {w w' : World} {g off : Nat} {ss : List Int} (h : ReadI w g off ss) (hb : Below w.heap.size w w') : ReadI w' g off ss := by
  intro i hi
  have := h i hi
  exact (hb.cell (p := ⟨g, off + i, none⟩) (World.block_lt_of_cell? w _ this)).trans this

/-- The slice as the walks take it: empty, or readable from an address on. -/
def InI (w : World) (a : Option Addr) (ss : List Int) : Prop := ss = [] ∨ ∃ g off, a = some ⟨g, off, none⟩ ∧ ReadI w g off ss

theorem IsInts.inI {w : World} {a : Option Addr} {len cap : Nat} {ss : List Int} (h : IsInts w a len cap ss) : InI w a (ss.take len) ∧ (ss.take len).length = len ∧ (len : Int) ≤ 9223372036854775807 ∧ ∀ s ∈ ss.take len, -9223372036854775808 ≤ s ∧ s ≤ 9223372036854775807 := by
  rcases h with ⟨rfl, rfl, rfl, rfl⟩ | ⟨x, rfl, h1, h2, h3, h4, h5⟩
  · exact ⟨.inl rfl, rfl, by omega, by simp⟩
  · have hl : (ss.take len).length = len := by rw [List.length_take]; omega
    unfold maxLen at h2
    refine ⟨?_, hl, by omega, fun s hs => i64_bounds (h5 s (List.mem_of_mem_take hs))⟩
    by_cases h0 : len = 0
    · left; subst h0; rfl
    · right
      obtain ⟨b, off, spot⟩ := x
      have hc := h4 0 (by omega)
      have hspot : spot = none := by simpa [Addr.add] using World.cell?_spot hc
      subst hspot
      refine ⟨b, off, rfl, fun i hi => ?_⟩
      rw [hl] at hi
      have := h4 i (by omega)
      have e : (⟨b, off, none⟩ : Addr).add i = ⟨b, off + i, none⟩ := by
        unfold Addr.add
        split
        · next h => rw [h]; simp
        · rfl
      rw [e] at this
      rw [this]
      simp [List.getD_eq_getElem?_getD, hi]

theorem InI.keep {w w' : World} {a : Option Addr} {ss : List Int} (h : InI w a ss) (hb : Below w.heap.size w w') : InI w' a ss := by
  rcases h with h | ⟨g, off, rfl, hr⟩
  · exact .inl h
  · exact .inr ⟨g, off, rfl, hr.keep hb⟩

/-- A call that hands back a copy, in new memory. -/
def CopyOfI (ss : List Int) (n : Nat) (w : World) (e : Ending) (w' : World) : Prop :=
  ∃ g : Nat, OwnI w.heap.size w' (.slice (some ⟨g, 0, none⟩) n n) ss ∧ Below w.heap.size w w' ∧ e = .returned (.slice (some ⟨g, 0, none⟩) n n)

theorem madeCells_int (n : Nat) : (madeCells (Value.int .i64 0).cells (n * 1)).toList = (List.replicate n (0 : Int)).map (Value.int .i64) := by
  rw [List.map_replicate, Nat.mul_one]
  exact toList_madeCells_one _ _

end Go.Proofs.Ytjmbkieocmhmiaa

/-! Lw3 -/
namespace Go.Proofs.Ytjmbkieocmhmiaa
open Go.RowKit

/-- The law's answer: true, and what was there is left. -/
def SaysTrue (w : World) (e : Ending) (w' : World) : Prop := e = .returned (.bool true) ∧ Below w.heap.size w w'

theorem OwnS.flat {base : Nat} {w : World} {v : Value} {L : List ByteArray} (h : OwnS base w v L) : ∃ (a : Option Addr) (cap : Nat), v = .slice a L.length cap ∧ InS w a L ∧ L.length ≤ cap ∧ cap ≤ 9223372036854775807 := by
  rcases h.cells with ⟨rfl, rfl⟩ | ⟨g, cap, rfl, _, _, h1, h2, h3, _⟩
  · exact ⟨none, 0, rfl, .inl rfl, Nat.le_refl _, by omega⟩
  · unfold maxLen at h2
    exact ⟨_, cap, rfl, .inr ⟨g, 0, rfl, fun i hi => by rw [Nat.zero_add]; exact h3 i hi⟩, h1, by omega⟩
theorem OwnI.flat {base : Nat} {w : World} {v : Value} {L : List Int} (h : OwnI base w v L) : ∃ (a : Option Addr) (cap : Nat), v = .slice a L.length cap ∧ InI w a L ∧ L.length ≤ cap ∧ cap ≤ 9223372036854775807 := by
  rcases h.cells with ⟨rfl, rfl⟩ | ⟨g, cap, rfl, _, _, h1, h2, h3, _⟩
  · exact ⟨none, 0, rfl, .inl rfl, Nat.le_refl _, by omega⟩
  · unfold maxLen at h2
    exact ⟨_, cap, rfl, .inr ⟨g, 0, rfl, fun i hi => by rw [Nat.zero_add]; exact h3 i hi⟩, h1, by omega⟩
end Go.Proofs.Ytjmbkieocmhmiaa

/-! PrP -/
namespace Go.Proofs.Ytjmbkieocmhmiaa

/-- A pair of trees. -/
abbrev Pr := Tr × Tr

/-- The left leaves with which both trees have exposed carets. -/
def both (p : Pr) : List Int := (p.1.exps 0).filter fun n => (p.2.exps 0).contains n

/-- Both carets dropped. -/
def dropP (p : Pr) (n : Int) : Pr := (p.1.dropAt n, p.2.dropAt n)

/-- Which of so many a step takes: the first choice modulo their number, or the first one. -/
def pickI (cs : List Int) (k : Nat) : Nat := match cs with
  | [] => 0
  | c :: _ => (c % k).toNat

/-- The reduced pair by choices (fuel: the number of steps that are left at most). -/
def redF : Nat → Pr → List Int → Pr
  | 0, p, _ => p
  | k + 1, p, cs => match both p with
    | [] => p
    | n :: ns => redF k (dropP p ((n :: ns).getD (pickI cs (ns.length + 1)) 0)) cs.tail
def redBy (p : Pr) (cs : List Int) : Pr := redF p.1.carets p cs
def red (p : Pr) : Pr := redBy p []

theorem mem_both {p : Pr} {n : Int} : n ∈ both p ↔ n ∈ p.1.exps 0 ∧ n ∈ p.2.exps 0 := by
  simp [both]

theorem both_length (p : Pr) : (both p).length ≤ p.1.carets :=
  Nat.le_trans (List.length_filter_le _ _) (exps_length _ _)

theorem both_empty {p : Pr} (h : p.1.carets = 0) : both p = [] := by
  have := both_length p
  exact List.length_eq_zero_iff.1 (by omega)

theorem pickI_lt (cs : List Int) (k : Nat) (h : 0 < k) : pickI cs k < k := by
  unfold pickI
  split
  · exact h
  · next c _ =>
    have h1 := Int.emod_lt_of_pos c (show (0 : Int) < k by omega)
    have h2 := Int.emod_nonneg c (show (k : Int) ≠ 0 by omega)
    omega

theorem pick_mem {p : Pr} {n : Int} {ns : List Int} (h : both p = n :: ns) (cs : List Int) : (n :: ns).getD (pickI cs (ns.length + 1)) 0 ∈ both p := by
  rw [h]
  have := pickI_lt cs (ns.length + 1) (by omega)
  rw [List.getD_eq_getElem?_getD, List.getElem?_eq_getElem (by simpa using this)]
  exact List.getElem_mem _

theorem dropP_carets {p : Pr} {n : Int} (h : n ∈ both p) : (dropP p n).1.carets + 1 = p.1.carets ∧ (dropP p n).2.carets + 1 = p.2.carets :=
  ⟨dropAt_carets _ _ (mem_both.1 h).1, dropAt_carets _ _ (mem_both.1 h).2⟩

/-- One step. -/
theorem redBy_step {p : Pr} {n : Int} {ns : List Int} (h : both p = n :: ns) (cs : List Int) :
    redBy p cs = redBy (dropP p ((n :: ns).getD (pickI cs (ns.length + 1)) 0)) cs.tail := by
  have hc := (dropP_carets (pick_mem h cs)).1
  unfold redBy
  obtain ⟨k, hk⟩ : ∃ k, p.1.carets = k + 1 := ⟨p.1.carets - 1, by omega⟩
  rw [hk, redF, h]
  have : (dropP p ((n :: ns).getD (pickI cs (ns.length + 1)) 0)).1.carets = k := by omega
  rw [this]
theorem redBy_end {p : Pr} (h : both p = []) (cs : List Int) : redBy p cs = p := by
  unfold redBy
  cases hk : p.1.carets with
  | zero => rfl
  | succ k => rw [redF, h]

theorem redF_carets (k : Nat) : ∀ (p : Pr) (cs : List Int), (redF k p cs).1.carets ≤ p.1.carets ∧ (redF k p cs).2.carets ≤ p.2.carets ∧ (redF k p cs).1.carets + p.2.carets = (redF k p cs).2.carets + p.1.carets := by
  induction k with
  | zero => intro p cs; simp [redF]; omega
  | succ k ih =>
    intro p cs
    rw [redF]
    split
    · refine ⟨Nat.le_refl _, Nat.le_refl _, by omega⟩
    · next n ns h =>
      have h1 := dropP_carets (pick_mem h cs)
      have h2 := ih (dropP p ((n :: ns).getD (pickI cs (ns.length + 1)) 0)) cs.tail
      omega
theorem redBy_carets (p : Pr) (cs : List Int) : (redBy p cs).1.carets ≤ p.1.carets ∧ (redBy p cs).2.carets ≤ p.2.carets ∧ (redBy p cs).1.carets + p.2.carets = (redBy p cs).2.carets + p.1.carets := redF_carets _ p cs

theorem redF_both (k : Nat) : ∀ (p : Pr) (cs : List Int), p.1.carets ≤ k → both (redF k p cs) = [] := by
  induction k with
  | zero => intro p cs h; rw [redF]; exact both_empty (by omega)
  | succ k ih =>
    intro p cs hk
    rw [redF]
    split
    · next h => exact h
    · next n ns h =>
      have h1 := dropP_carets (pick_mem h cs)
      exact ih _ _ (by omega)
theorem red_both (p : Pr) (cs : List Int) : both (redBy p cs) = [] := redF_both _ p cs (Nat.le_refl _)

/-- A pair is what is left of it just if it is reduced. -/
theorem red_self (p : Pr) : red p = p ↔ both p = [] := by
  constructor
  · intro h; rw [← h]; exact red_both p []
  · exact fun h => redBy_end h []

namespace Tr
/-- What a greater tree has at the leaves of one that is part of it. -/
def subs : Tr → Tr → List Tr
  | lf, g => [g]
  | nd l r, nd p q => l.subs p ++ r.subs q
  | nd _ _, lf => []
/-- A tree with others in place of its leaves, and those that are left. -/
def fillR : Tr → List Tr → Tr × List Tr
  | lf, [] => (lf, [])
  | lf, u :: us => (u, us)
  | nd l r, us => (nd (l.fillR us).1 (r.fillR (l.fillR us).2).1, (r.fillR (l.fillR us).2).2)
def fill (t : Tr) (us : List Tr) : Tr := (t.fillR us).1
end Tr

theorem below_length (a : Tr) : ∀ b : Tr, (a.subs (a.join b)).length = a.leaves := by
  induction a with
  | lf => intro b; rfl
  | nd l r ihl ihr =>
    intro b
    cases b with
    | lf =>
      have h1 := ihl .lf
      have h2 := ihr .lf
      rw [leaves_nd]
      have j : ∀ t : Tr, t.join .lf = t := fun t => by cases t <;> rfl
      rw [j] at h1 h2
      show ((Tr.nd l r).subs (.nd l r)).length = _
      simp [Tr.subs, h1, h2]
    | nd p q =>
      rw [leaves_nd]
      simp [Tr.join, Tr.subs, ihl p, ihr q]

theorem join_comm (a : Tr) : ∀ b : Tr, a.join b = b.join a := by
  induction a with
  | lf => intro b; cases b <;> rfl
  | nd l r ihl ihr =>
    intro b
    cases b with
    | lf => rfl
    | nd p q => simp [Tr.join, ihl p, ihr q]

/-- a is part of g, whose texts below a are told. -/
def sumC (us : List Tr) : Nat := (us.map Tr.carets).sum

theorem sumC_cons (u : Tr) (us : List Tr) : sumC (u :: us) = u.carets + sumC us := by simp [sumC]
theorem sumC_append (us vs : List Tr) : sumC (us ++ vs) = sumC us + sumC vs := by simp [sumC]

theorem below_carets (a : Tr) : ∀ g : Tr, a.part g = true → a.carets + sumC (a.subs g) = g.carets ∧ (a.subs g).length = a.leaves := by
  induction a with
  | lf => intro g _; simp [Tr.subs, sumC, Tr.carets, Tr.leaves]
  | nd l r ihl ihr =>
    intro g h
    cases g with
    | lf => simp [Tr.part] at h
    | nd p q =>
      simp [Tr.part] at h
      have h1 := ihl p h.1
      have h2 := ihr q h.2
      rw [leaves_nd]
      simp only [Tr.subs, sumC_append, Tr.carets, List.length_append]
      omega

theorem part_refl (a : Tr) : a.part a = true := by
  induction a with
  | lf => rfl
  | nd l r ihl ihr => simp [Tr.part, ihl, ihr]

theorem part_join (a : Tr) : ∀ b : Tr, a.part (a.join b) = true := by
  induction a with
  | lf => intro b; rfl
  | nd l r ihl ihr =>
    intro b
    cases b with
    | lf => show (Tr.nd l r).part (.nd l r) = true; exact part_refl _
    | nd p q => simp [Tr.join, Tr.part, ihl p, ihr q]
theorem part_join' (a b : Tr) : b.part (a.join b) = true := by rw [join_comm]; exact part_join b a

theorem fillR_carets (t : Tr) : ∀ us : List Tr, t.leaves ≤ us.length → (t.fillR us).1.carets + sumC (t.fillR us).2 = t.carets + sumC us ∧ (t.fillR us).2.length + t.leaves = us.length := by
  induction t with
  | lf =>
    intro us h
    cases us with
    | nil => simp [Tr.leaves] at h
    | cons u us => simp [Tr.fillR, sumC_cons, Tr.carets, Tr.leaves]
  | nd l r ihl ihr =>
    intro us h
    rw [leaves_nd] at *
    have h1 := ihl us (by omega)
    have h2 := ihr (l.fillR us).2 (by omega)
    simp only [Tr.fillR, Tr.carets]
    omega

theorem fill_carets (t : Tr) (us : List Tr) (h : us.length = t.leaves) : (t.fill us).carets = t.carets + sumC us := by
  have h1 := fillR_carets t us (by omega)
  have : (t.fillR us).2 = [] := List.length_eq_zero_iff.1 (by omega)
  rw [this] at h1
  have h2 := h1.1
  show (t.fillR us).1.carets = _
  simp [sumC] at h2 ⊢
  exact h2

/-- The text of a tree with texts in place of its leaves: the texts that are left. -/
def fillL : List UInt8 → List ByteArray → List UInt8
  | [], _ => []
  | c :: r, us => if c = 46 then (us.getD 0 ⟨#[]⟩).data.toList ++ fillL r us.tail else c :: fillL r us

theorem fillL_text (t : Tr) : ∀ (us : List Tr) (q : List UInt8), t.leaves ≤ us.length → fillL (t.text ++ q) (us.map Tr.str) = (t.fillR us).1.text ++ fillL q ((t.fillR us).2.map Tr.str) := by
  induction t with
  | lf =>
    intro us q h
    cases us with
    | nil => simp [Tr.leaves] at h
    | cons u us => simp [Tr.fillR, Tr.text, fillL, Tr.str_list]
  | nd l r ihl ihr =>
    intro us q h
    rw [leaves_nd] at h
    have e : (Tr.nd l r).text ++ q = 40 :: (l.text ++ (r.text ++ (41 :: q))) := by simp [Tr.text]
    have h1 := fillR_carets l us (by omega)
    rw [e, fillL, if_neg (by decide), ihl us _ (by omega), ihr _ _ (by omega), fillL, if_neg (by decide)]
    simp [Tr.fillR, Tr.text]

theorem fill_text (t : Tr) (us : List Tr) (h : us.length = t.leaves) : fillL t.text (us.map Tr.str) = (t.fill us).text := by
  have := fillL_text t us [] (by omega)
  show _ = (t.fillR us).1.text
  simpa [fillL] using this

/-- The product, before it is reduced. -/
def rawP (p q : Pr) : Pr := (p.1.fill (p.2.subs (p.2.join q.1)), q.2.fill (q.1.subs (p.2.join q.1)))
/-- The product. -/
def mulP (p q : Pr) : Pr := red (rawP p q)
def invP (p : Pr) : Pr := (p.2, p.1)
/-- A pair: as many leaves. -/
def okP (p : Pr) : Prop := p.1.carets = p.2.carets

theorem rawP_carets {p q : Pr} (hp : okP p) (hq : okP q) : (rawP p q).1.carets = (p.2.join q.1).carets ∧ (rawP p q).2.carets = (p.2.join q.1).carets := by
  unfold okP at *
  have h1 := below_carets p.2 _ (part_join p.2 q.1)
  have h2 := below_carets q.1 _ (part_join' p.2 q.1)
  have f1 := fill_carets p.1 (p.2.subs (p.2.join q.1)) (by rw [h1.2]; simp [Tr.leaves, hp])
  have f2 := fill_carets q.2 (q.1.subs (p.2.join q.1)) (by rw [h2.2]; simp [Tr.leaves, hq])
  show (p.1.fill _).carets = _ ∧ (q.2.fill _).carets = _
  omega
theorem rawP_ok {p q : Pr} (hp : okP p) (hq : okP q) : okP (rawP p q) := by
  have := rawP_carets hp hq; unfold okP; omega
theorem red_ok {p : Pr} (hp : okP p) (cs : List Int) : okP (redBy p cs) := by
  have := redBy_carets p cs; unfold okP at *; omega
theorem mulP_ok {p q : Pr} (hp : okP p) (hq : okP q) : okP (mulP p q) := red_ok (rawP_ok hp hq) []
theorem mulP_carets {p q : Pr} (hp : okP p) (hq : okP q) : (mulP p q).1.carets ≤ p.2.carets + q.1.carets := by
  have h1 := rawP_carets hp hq
  have h2 := redBy_carets (rawP p q) []
  have h3 := join_carets p.2 q.1
  show (redBy _ _).1.carets ≤ _
  omega
end Go.Proofs.Ytjmbkieocmhmiaa

/-! GrP -/
namespace Go.Proofs.Ytjmbkieocmhmiaa
def rcombG : Nat → Tr
  | 0 => .lf
  | n + 1 => .nd .lf (rcombG n)
def genPG (i : Nat) : Pr := ((rcombG i).graft i (.nd (.nd .lf .lf) .lf), rcombG (i + 2))
theorem gen_relG : ∀ i, i ≤ 5 → ∀ k, k < i → (mulP (mulP (invP (genPG k)) (genPG i)) (genPG k)).1.str = (genPG (i + 1)).1.str ∧ (mulP (mulP (invP (genPG k)) (genPG i)) (genPG k)).2.str = (genPG (i + 1)).2.str ∧ (mulP (invP (genPG k)) (genPG i)).1.carets ≤ 8 ∧ (mulP (mulP (invP (genPG k)) (genPG i)) (genPG k)).1.carets ≤ 8 := by decide +kernel
theorem gen_lastG : ∀ k, k < 6 → 8 < (mulP (invP (genPG k)) (genPG 6)).1.carets := by decide +kernel
theorem gen_okG : ∀ i, i ≤ 7 → (genPG i).1.carets = i + 2 ∧ (genPG i).2.carets = i + 2 ∧ (both (genPG i)).isEmpty = true := by decide +kernel
end Go.Proofs.Ytjmbkieocmhmiaa

/-! Form -/
namespace Go.Proofs.Ytjmbkieocmhmiaa
open Go.RowKit

theorem CellsI.form {b1 : Nat} {w : World} {v : Value} {xs : List Int} (h : CellsI b1 w v xs) :
    ∃ oa cap, v = .slice oa xs.length cap ∧ xs.length ≤ cap ∧ cap ≤ maxLen ∧ ∀ i, i < xs.length → ∃ g, oa = some ⟨g, 0, none⟩ ∧ b1 ≤ g ∧ g < w.heap.size ∧ w.cell? ⟨g, i, none⟩ = some (.int .i64 (xs.getD i 0)) := by
  rcases h with ⟨rfl, rfl⟩ | ⟨g, cap, rfl, h1, h2, h3, h4, h5, _⟩
  · exact ⟨none, 0, rfl, Nat.le_refl _, Nat.zero_le _, fun i hi => by simp at hi⟩
  · exact ⟨some ⟨g, 0, none⟩, cap, rfl, h3, h4, fun i hi => ⟨g, rfl, h1, h2, h5 i hi⟩⟩

end Go.Proofs.Ytjmbkieocmhmiaa

/-! PairOf -/
namespace Go.Proofs.Ytjmbkieocmhmiaa

/-- The pair of two texts, if they are one. -/
def pairOf (a b : ByteArray) : Option Pr :=
  match treeOf a, treeOf b with
  | some t, some u => if t.carets = u.carets then some (t, u) else none
  | _, _ => none

theorem pairOf_some {a b : ByteArray} {p : Pr} (h : pairOf a b = some p) : a = p.1.str ∧ b = p.2.str ∧ okP p ∧ p.1.carets ≤ 8 ∧ p.2.carets ≤ 8 := by
  unfold pairOf at h
  split at h
  · next t u ht hu =>
    split at h
    · next hc =>
      injection h with h
      subst h
      obtain ⟨rfl, h1⟩ := treeOf_some ht
      obtain ⟨rfl, h2⟩ := treeOf_some hu
      exact ⟨rfl, rfl, hc, h1, h2⟩
    · simp at h
  · simp at h

theorem pairOf_str {p : Pr} (h : okP p) (k : p.1.carets ≤ 8) : pairOf p.1.str p.2.str = some p := by
  unfold pairOf
  rw [treeOf_str p.1 k, treeOf_str p.2 (by unfold okP at h; omega)]
  simp [show p.1.carets = p.2.carets from h]

/-- The texts are no pair: why. -/
theorem pairOf_none {a b : ByteArray} (h : pairOf a b = none) : treeOf a = none ∨ (∃ t : Tr, a = t.str ∧ t.carets ≤ 8 ∧ treeOf b = none) ∨ ∃ t u : Tr, a = t.str ∧ b = u.str ∧ t.carets ≤ 8 ∧ u.carets ≤ 8 ∧ ¬ t.carets = u.carets := by
  cases ha : treeOf a with
  | none => exact .inl rfl
  | some t =>
    obtain ⟨rfl, h1⟩ := treeOf_some ha
    cases hb : treeOf b with
    | none => exact .inr (.inl ⟨t, rfl, h1, rfl⟩)
    | some u =>
      obtain ⟨rfl, h2⟩ := treeOf_some hb
      refine .inr (.inr ⟨t, u, rfl, rfl, h1, h2, ?_⟩)
      intro e
      unfold pairOf at h
      rw [ha, hb] at h
      simp [e] at h
end Go.Proofs.Ytjmbkieocmhmiaa

/-! Count -/
namespace Go.Proofs.Ytjmbkieocmhmiaa
open Go.RowKit

set_option maxHeartbeats 1000000 in
set_option maxRecDepth 100000 in
theorem count_any (s : ByteArray) (w : World) :
    Calls Try.prog 55 #[.string s, .string ⟨#[40]⟩] w fun e w' => e = .returned (.int .i64 (Lib.countByte s.data.toList 40 : Nat)) ∧ w = w' := by
  go_enter Try.func55, Try.ntmps55
  go_wp2
  rw [run_callFunc_extern Try.func65 (by kernel_rfl) (by kernel_rfl) (by kernel_rfl) (e := Extern.BytealgCount.count) (by kernel_rfl), Lib.run_countString]
  simp only [Result.andThen]
  rw [Oper.upon_value]
  go_wp2
  go_ret
  exact ⟨rfl, rfl⟩

theorem countCarets_any (t : Tr) (w : World) (_h : t.carets ≤ 1000) :
    Calls Try.prog 43 #[.string t.str] w (Gives (.int .i64 t.carets) w) := by
  have e : Hid (Lib.countByte t.str.data.toList 40 = t.carets) := by rw [show Hid _ = _ from rfl, Tr.str_list, ← text_count]; rfl
  go_enter Try.func43, Try.ntmps43
  go_wp2_with fail
  refine (count_any t.str _).mono ?_; rintro _ w1 ⟨rfl, rfl⟩
  rw [e.out]
  go_wp2_with fail
  go_ret
  exact ⟨rfl, Below.refl _ _⟩
end Go.Proofs.Ytjmbkieocmhmiaa

/-! Pair -/
namespace Go.Proofs.Ytjmbkieocmhmiaa
open Go.RowKit

/-- A pair of texts as a value. -/
abbrev pv (a b : ByteArray) : Value := .agg #[.string a, .string b]

theorem pairOf_isSome (a b : ByteArray) (t u : Tr) (ha : treeOf a = some t) (hb : treeOf b = some u) : (pairOf a b).isSome = ((t.carets : Int) == (u.carets : Int)) := by
  unfold pairOf
  rw [ha, hb, Bool.eq_iff_iff, beq_iff_eq]
  by_cases h : t.carets = u.carets
  · simp [h]
  · simp only [h, if_false]; simp; omega

end Go.Proofs.Ytjmbkieocmhmiaa

/-! RegT -/
namespace Go.Proofs.Ytjmbkieocmhmiaa
open Go.RowKit

section
variable {P : Program} {ops : Array Oper} {md : Region.Mode} {C : World → Prop}

/-- Whatever order is drawn for the first n operations. -/
def headQ (P : Program) (md : Region.Mode) (ops : Array Oper) (C : World → Prop) (n : Nat) (L : Array Bool → Act → Prop) : Nat → Array Bool → Act → Prop
  | 0, listed, a => L listed a
  | f + 1, listed, a => Region.ready md ops listed ≠ [] ∧ ∀ i ∈ Region.ready md ops listed, i < n ∧ qOp P ops C i (headQ P md ops C n L f (listed.setIfInBounds i true)) a

theorem any_of_headQ {n g : Nat} {L : Array Bool → Act → Prop} {Q' : Exit → Act → World → Prop} (hL : ∀ listed a w, C w → L listed a → wpAny P md ops Q' g listed a w) :
    ∀ (f : Nat) (listed : Array Bool) (a : Act) (w : World), C w → headQ P md ops C n L f listed a → wpAny P md ops Q' (f + g) listed a w
  | 0, listed, a, w, hw, h => by rw [Nat.zero_add]; exact hL _ _ _ hw h
  | f + 1, listed, a, w, hw, h => by
    rw [Nat.add_right_comm]
    exact ⟨fun h0 => absurd h0 h.1, fun i hi => wpOp_of_qOp hw (fun a' w' hw' h' => any_of_headQ hL f _ a' w' hw' h') (h.2 i hi).2⟩

theorem headQ_first {n i : Nat} {oi : Oper} {v : Value} {L : Array Bool → Act → Prop} (hi : ops[i]? = some oi) (hsel : ∀ (j : Nat) (o : Oper) cs b, ops[j]? = some o → o.op ≠ .select cs b)
    (hs : Region.sinkB md ops n = true) (hc : Region.chainB md ops n = true) (hn : n < ops.size) (hin : i < n)
    (hdone : ∀ listed a, L listed a → ∀ j ∈ Region.ready md ops listed, n ≤ j) :
    ∀ (f : Nat) (listed : Array Bool) (a : Act), HeadInv md ops n listed →
      (∀ j oj, ops[j]? = some oj → j ≠ i → listed.getD j true = false → (∀ e ∈ oj.after, Region.binds md e = true → e.on ≠ i) → oi.apart ops oj = true) →
      i ∈ Region.ready md ops listed → YieldsIn P ops C oi v a →
      headQ P md ops C n L f (listed.setIfInBounds i true) (a.put oi.dst v) → headQ P md ops C n L (f + 1) listed a := by
  intro f
  induction f with
  | zero =>
    intro listed a inv _ hr hy H
    have hun := (mem_ready.1 hr).1
    refine ⟨(List.ne_nil_of_mem hr), fun j hj => ?_⟩
    have hjn : j < n := Nat.lt_of_not_le fun h => tail_waits hs hc hn inv _ i rfl hin hun j h hj
    refine ⟨hjn, ?_⟩
    by_cases hji : j = i
    · subst hji; exact hy.qOp hi H
    · have := hdone _ _ H j (ready_mono hj hji)
      omega
  | succ f ih =>
    intro listed a inv hfree hr hy H
    have hun := (mem_ready.1 hr).1
    refine ⟨(List.ne_nil_of_mem hr), fun j hj => ?_⟩
    have hjn : j < n := Nat.lt_of_not_le fun h => tail_waits hs hc hn inv _ i rfl hin hun j h hj
    refine ⟨hjn, ?_⟩
    by_cases hji : j = i
    · subst hji; exact hy.qOp hi H
    · have k1 := (H.2 j (ready_mono hj hji)).2
      obtain ⟨hjun, oj, hoj, hall⟩ := mem_ready.1 hj
      have hnot : ∀ e ∈ oj.after, Region.binds md e = true → e.on ≠ i := by
        intro e he hb heq
        have k2 := hall e he hb
        rw [heq, getD_both hun] at k2
        cases k2
      have k3 := qOp_put hoj (hfree j oj hoj hji hjun hnot) (fun cs b => hsel i oi cs b hi) (fun cs b => hsel j oj cs b hoj) hy k1
      refine qOp_mono (fun a' k4 => ih (listed.setIfInBounds j true) a' (inv.set hj hjn) ?_ (ready_mono hr (Ne.symm hji)) k4.1 ?_) k3
      · intro k ok hk hki hunk hno
        refine hfree k ok hk hki ?_ hno
        by_cases hjk : j = k
        · subst hjk; exact hjun
        · rw [getD_set_ne true hjk] at hunk; exact hunk
      · rw [Array.setIfInBounds_comm _ _ hji]
        exact k4.2

theorem headQ_lex {n g : Nat} {Lq : Act → Prop} (hsel : Region.noSelect ops = true) (hs : Region.sinkB md ops n = true) (hc : Region.chainB md ops n = true) (hn : n < ops.size) :
    ∀ (l : List Oper) (k : Nat) (listed : Array Bool) (a : Act), (∀ j, j < l.length → l[j]? = ops[k + j]?) → k + l.length = n → HeadInv md ops n listed →
    Region.lexHead md ops g l.length k listed = true → wpQuiet P ops C Lq l a →
    headQ P md ops C n (fun listed' a' => Region.seqB md ops g n listed' = true ∧ Lq a') l.length listed a
  | [], k, listed, a, _, hk, _, hB, h => by
    obtain rfl : k = n := by simpa using hk
    exact ⟨by simpa [Region.lexHead] using hB, h⟩
  | o :: l, k, listed, a, hl, hk, inv, hB, h => by
    have h0 : ops[k]? = some o := by simpa using (hl 0 (by simp)).symm
    simp only [List.length_cons, Region.lexHead, Bool.and_eq_true] at hB
    obtain ⟨⟨hr, hf⟩, hB'⟩ := hB
    have hkn : k < n := by simp only [List.length_cons] at hk; omega
    have hr' : k ∈ Region.ready md ops listed := by simpa using hr
    have hst : qOp P ops C k (wpQuiet P ops C Lq l) a := by unfold qOp; simp only [h0]; exact h
    obtain ⟨v, hy, hK⟩ := yieldsIn_of_qOp h0 hst
    refine headQ_first h0 (Region.noSelect_spec hsel) hs hc hn hkn (fun listed' a' hL => seqB_ready hL.1) l.length listed a inv (Region.free_spec h0 hf) hr' hy ?_
    refine headQ_lex hsel hs hc hn l (k + 1) _ _ (fun j hj => ?_) (by simp only [List.length_cons] at hk; omega) (inv.set hr' hkn) hB' hK
    have := hl (j + 1) (by simp; omega)
    simpa [Nat.add_assoc, Nat.add_comm 1 j] using this

/-- The first n operations are quiet in the class; the rest is walked in each of its worlds. -/
theorem wp_region_headQ {id : Nat} {Q : Exit → Act → World → Prop} {a : Act} {w : World} {l : List Oper} (n : Nat) (hm : P.follows .mixedOrders = true) (hB : Region.lexTailB .any l.toArray n = true) (hC : C w.drew)
    (h : wpQuiet P l.toArray C (fun a' => ∀ w', C w' → wpList P l.toArray Q (l.drop n) a' w') (l.take n) a) : (Code.region id l.toArray true).wp P Q a w := by
  simp only [Region.lexTailB, Bool.and_eq_true, decide_eq_true_eq] at hB
  obtain ⟨⟨⟨⟨hsel, hn⟩, hs⟩, hc⟩, hlex⟩ := hB
  have hn' : n < l.length := by simpa using hn
  have htl : (l.take n).length = n := by simp; omega
  have hdl : (l.drop n).length = l.toArray.size - n := by simp
  have inv0 : HeadInv .any l.toArray n (Array.replicate l.toArray.size false) := by
    refine ⟨by simp, fun j oj _ hl => ?_, fun t _ ht => getD_in (by simpa using ht) (getD_replicate_false _ _)⟩
    rw [getD_replicate_false] at hl; cases hl
  have H := headQ_lex (md := .any) (C := C) (g := l.toArray.size - n) hsel hs hc hn (l.take n) 0 _ a (fun j hj => by
    have hj' : j < n := by rw [htl] at hj; exact hj
    simp [hj']) (by simpa using htl) inv0 (by rw [htl]; exact hlex) h
  refine wp_region_any hm ?_
  have := any_of_headQ (Q' := Q) (g := l.toArray.size - n) (fun listed a' w' hw' hL => by
    have := wpAny_of_seq (md := .any) (Q' := Q) (l.drop n) n listed a' w' (fun j => by simp [List.getElem?_drop]) (by rw [hdl]; exact hL.1) (hL.2 w' hw')
    rwa [hdl] at this) _ _ _ _ hC H
  rw [htl, show n + (l.toArray.size - n) = l.toArray.size by omega] at this
  exact this
end

/-- The worlds that leave what was there. -/
def Cls (w w' : World) : Prop := Below w.heap.size w w'
theorem Cls.cell {w w' : World} (h : Cls w w') {g i : Nat} {v : Value} (hg : g < w.heap.size) (hc : w.cell? ⟨g, i, none⟩ = some v) : w'.cell? ⟨g, i, none⟩ = some v := (Below.cell h (p := ⟨g, i, none⟩) hg).trans hc
theorem Cls.call {P : Program} {f : FuncId} {args : Array Value} {w w' : World} {v : Value} (h : Cls w w') (k : Calls P f args w' (Gives v w')) : Calls P f args w' fun e w'' => e = .returned v ∧ Cls w w'' :=
  k.mono fun _ _ ⟨he, hb⟩ => ⟨he, nx h hb⟩

theorem wp_region_cls {P : Program} {id : Nat} {Q : Exit → Act → World → Prop} {a : Act} {w : World} {l : List Oper} (hm : P.follows .mixedOrders = true) (hB : Region.lexB .any l.toArray = true)
    (h : wpQuiet P l.toArray (Cls w) (fun a' => ∀ w', Cls w w' → Q .normal a' w') l a) : (Code.region id l.toArray true).wp P Q a w :=
  wp_region_quiet (C := Cls w) hm hB ((Below.refl _ _).drew) (by simpa using h)

theorem wp_region_clsT {P : Program} {id : Nat} {Q : Exit → Act → World → Prop} {a : Act} {w : World} {l : List Oper} (n : Nat) (hm : P.follows .mixedOrders = true) (hB : Region.lexTailB .any l.toArray n = true)
    (h : wpQuiet P l.toArray (Cls w) (fun a' => ∀ w', Cls w w' → wpList P l.toArray Q (l.drop n) a' w') (l.take n) a) : (Code.region id l.toArray true).wp P Q a w :=
  wp_region_headQ n hm hB ((Below.refl _ _).drew) h
end Go.Proofs.Ytjmbkieocmhmiaa

/-! PairK -/
namespace Go.Proofs.Ytjmbkieocmhmiaa
open Go.RowKit

theorem two_cells {w : World} {g : Nat} {u v : Value} {t : TypeId} (h : w.heap[g]? = some (.cells #[u, v] t (0, 0))) : w.cell? ⟨g, 0, none⟩ = some u ∧ w.cell? ⟨g, 1, none⟩ = some v := by
  simp [World.cell?, h]
theorem two_facts {w : World} {g : Nat} {u v : Value} {t : TypeId} (h : w.heap[g]? = some (.cells #[u, v] t (0, 0))) : w.cell? ⟨g, 0, none⟩ = some u ∧ w.cell? ⟨g, 1, none⟩ = some v ∧ g < w.heap.size :=
  ⟨(two_cells h).1, (two_cells h).2, lt_of_block h⟩
theorem keep_two {w w' : World} {g : Nat} {u v : Value} (hb : Below w.heap.size w w') (hg : g < w.heap.size) (h : w.cell? ⟨g, 0, none⟩ = some u ∧ w.cell? ⟨g, 1, none⟩ = some v) : w'.cell? ⟨g, 0, none⟩ = some u ∧ w'.cell? ⟨g, 1, none⟩ = some v :=
  ⟨(hb.cell (p := ⟨g, 0, none⟩) hg).trans h.1, (hb.cell (p := ⟨g, 1, none⟩) hg).trans h.2⟩


theorem two_frozen {w : World} {g : Nat} {u v : Value} {t : TypeId} (h : w.heap[g]? = some (.cells #[u, v] t (0, 0))) : w.frozen? ⟨g, 0, none⟩ = false ∧ w.frozen? ⟨g, 1, none⟩ = false := by
  simp [World.frozen?, h]
theorem set_first {w : World} {g : Nat} {u v u' : Value} {t : TypeId} (h : w.heap[g]? = some (.cells #[u, v] t (0, 0))) : (w.setCell ⟨g, 0, none⟩ u').heap[g]? = some (.cells #[u', v] t (0, 0)) := Joins.block_setCell h u'
theorem set_second {w : World} {g : Nat} {u v v' : Value} {t : TypeId} (h : w.heap[g]? = some (.cells #[u, v] t (0, 0))) : (w.setCell ⟨g, 1, none⟩ v').heap[g]? = some (.cells #[u, v'] t (0, 0)) := Joins.block_setCell h v'
theorem set_two {w : World} {g : Nat} {u v : Value} (u' v' : Value) {t : TypeId} (h : w.heap[g]? = some (.cells #[u, v] t (0, 0))) : ((w.setCell ⟨g, 0, none⟩ u').setCell ⟨g, 1, none⟩ v').heap[g]? = some (.cells #[u', v'] t (0, 0)) := set_second (set_first h)
theorem heap_keep {w w' : World} {g : Nat} {o : Obj} (hb : Below w.heap.size w w') (h : w.heap[g]? = some o) : w'.heap[g]? = some o := (hb.block g (lt_of_block h)).trans h


def pS1 (o : Option Pr) : ByteArray := match o with
  | some p => p.1.str
  | none => ⟨#[]⟩
def pS2 (o : Option Pr) : ByteArray := match o with
  | some p => p.2.str
  | none => ⟨#[]⟩
/-- An answer of a pair and a bool. -/
def ansPr (o : Option Pr) : Value := .tuple #[.agg #[.string (pS1 o), .string (pS2 o)], .bool o.isSome]
end Go.Proofs.Ytjmbkieocmhmiaa

/-! IsPair -/
namespace Go.Proofs.Ytjmbkieocmhmiaa
open Go.RowKit

theorem isTree_yes' (t : Tr) (w : World) (h : t.carets ≤ 8) : Calls Try.prog 38 #[.string t.str] w (Gives (.bool true) w) := (implIsTree_yes t w h).mono fun _ _ ⟨h1, h2⟩ => ⟨h2, h1⟩
theorem isTree_no' (s : ByteArray) (w : World) (hs : s.size ≤ 9223372036854775806) (h : treeOf s = none) : Calls Try.prog 38 #[.string s] w (Gives (.bool false) w) := (implIsTree_no s w hs h).mono fun _ _ ⟨h1, h2⟩ => ⟨h2, h1⟩

set_option maxRecDepth 100000 in
set_option maxHeartbeats 2000000 in
theorem isPair_any (a b : ByteArray) (w : World) (ha : a.size ≤ 9223372036854775806) (hb : b.size ≤ 9223372036854775806) :
    Calls Try.prog 24 #[.agg #[.string a, .string b]] w (Gives (.bool (pairOf a b).isSome) w) := by
  cases h : treeOf a with
  | none =>
    have e : (pairOf a b).isSome = false := by unfold pairOf; rw [h]; rfl
    rw [e]
    have T := fun w => isTree_no' a w ha h
    clear h e
    go_enter Try.func24, Try.ntmps24
    go_wp2_with fail
    have hb0 : Below w.heap.size w (w.alloc (.cells #[.string a, .string b] 26 (0, 0))) := nxAlloc (Below.refl _ _) _
    have hc := two_cells (heap_alloc_at w (.cells #[.string a, .string b] 26 (0, 0)))
    have hs : w.heap.size < (w.alloc (.cells #[.string a, .string b] 26 (0, 0))).heap.size := by simp
    generalize w.alloc (.cells #[.string a, .string b] 26 (0, 0)) = w0 at *
    refine wp_region_cls (by kernel_rfl) (by kernel_rfl) ?_
    repeat (
      refine wpQuiet_step (fun K hK => ?_)
      go_simp
      first
        | (refine hK _ ?_; clear hK K)
        | (refine ⟨_, fun _ _ => rfl, hK _ ?_⟩; clear hK K)
        | (apply Exists.intro
           refine ⟨fun w' hw' => ?_, hK _ ?_⟩
           · first
               | (rw [hw'.cell hs hc.1]; exact ⟨rfl, rfl⟩)
               | (rw [hw'.cell hs hc.2]; exact ⟨rfl, rfl⟩)
               | (go_at_call 38; exact hw'.call (T _))
           clear hK K))
    refine wpQuiet_nil ?_
    intro w' hw'
    go_wp2_with fail
    go_ret
    exact ⟨rfl, nx hb0 hw'⟩
  | some t =>
    cases k : treeOf b with
    | none =>
      have e : (pairOf a b).isSome = false := by unfold pairOf; rw [h, k]; rfl
      rw [e]
      obtain ⟨rfl, hc⟩ := treeOf_some h
      have T := fun w => isTree_yes' t w hc
      have U := fun w => isTree_no' b w hb k
      clear h k e hc
      go_enter Try.func24, Try.ntmps24
      go_wp2_with fail
      have hb0 : Below w.heap.size w (w.alloc (.cells #[.string t.str, .string b] 26 (0, 0))) := nxAlloc (Below.refl _ _) _
      have hc := two_cells (heap_alloc_at w (.cells #[.string t.str, .string b] 26 (0, 0)))
      have hs : w.heap.size < (w.alloc (.cells #[.string t.str, .string b] 26 (0, 0))).heap.size := by simp
      generalize w.alloc (.cells #[.string t.str, .string b] 26 (0, 0)) = w0 at *
      refine wp_region_cls (by kernel_rfl) (by kernel_rfl) ?_
      repeat (
        refine wpQuiet_step (fun K hK => ?_)
        go_simp
        first
          | (refine hK _ ?_; clear hK K)
          | (refine ⟨_, fun _ _ => rfl, hK _ ?_⟩; clear hK K)
          | (apply Exists.intro
             refine ⟨fun w' hw' => ?_, hK _ ?_⟩
             · first
                 | (rw [hw'.cell hs hc.1]; exact ⟨rfl, rfl⟩)
                 | (rw [hw'.cell hs hc.2]; exact ⟨rfl, rfl⟩)
                 | (go_at_call 38; first | (with_reducible exact hw'.call (T _)) | (with_reducible exact hw'.call (U _)))
             clear hK K))
      refine wpQuiet_nil ?_
      intro w' hw'
      go_wp2_with fail
      go_ret
      exact ⟨rfl, nx hb0 hw'⟩
    | some u =>
      rw [pairOf_isSome a b t u h k]
      obtain ⟨rfl, hc⟩ := treeOf_some h
      obtain ⟨rfl, hd⟩ := treeOf_some k
      have T := fun w => isTree_yes' t w hc
      have U := fun w => isTree_yes' u w hd
      have C := fun w => countCarets_any t w (by omega)
      have D := fun w => countCarets_any u w (by omega)
      clear h k hc hd
      go_enter Try.func24, Try.ntmps24
      go_wp2_with fail
      have hb0 : Below w.heap.size w (w.alloc (.cells #[.string t.str, .string u.str] 26 (0, 0))) := nxAlloc (Below.refl _ _) _
      have hc := two_cells (heap_alloc_at w (.cells #[.string t.str, .string u.str] 26 (0, 0)))
      have hs : w.heap.size < (w.alloc (.cells #[.string t.str, .string u.str] 26 (0, 0))).heap.size := by simp
      generalize w.alloc (.cells #[.string t.str, .string u.str] 26 (0, 0)) = w0 at *
      refine wp_region_cls (by kernel_rfl) (by kernel_rfl) ?_
      repeat (
        refine wpQuiet_step (fun K hK => ?_)
        go_simp
        first
          | (refine hK _ ?_; clear hK K)
          | (refine ⟨_, fun _ _ => rfl, hK _ ?_⟩; clear hK K)
          | (apply Exists.intro
             refine ⟨fun w' hw' => ?_, hK _ ?_⟩
             · first
                 | (rw [hw'.cell hs hc.1]; exact ⟨rfl, rfl⟩)
                 | (rw [hw'.cell hs hc.2]; exact ⟨rfl, rfl⟩)
                 | (go_at_call 38; first | (with_reducible exact hw'.call (T _)) | (with_reducible exact hw'.call (U _)))
                 | (go_at_call 43; first | (with_reducible exact hw'.call (C _)) | (with_reducible exact hw'.call (D _)))
             clear hK K))
      refine wpQuiet_nil ?_
      intro w' hw'
      go_wp2_with fail
      go_ret
      exact ⟨rfl, nx hb0 hw'⟩
end Go.Proofs.Ytjmbkieocmhmiaa

/-! Has -/
namespace Go.Proofs.Ytjmbkieocmhmiaa
open Go.RowKit

theorem CellsI.weak {b1 b2 : Nat} {w : World} {v : Value} {xs : List Int} (h : CellsI b1 w v xs) (hb : b2 ≤ b1) : CellsI b2 w v xs := by
  rcases h with h | ⟨g, cap, h1, h2, h3⟩
  · exact .inl h
  · exact .inr ⟨g, cap, h1, Nat.le_trans hb h2, h3⟩

set_option maxHeartbeats 1000000 in
theorem l1Has_any (b1 : Nat) (v : Value) (xs : List Int) (n : Int) (w : World) (h : CellsI b1 w v xs) :
    Calls Try.prog 52 #[v, .int .i64 n] w (Quietly (.bool (xs.contains n)) w) := by
  have hl := h.len
  rcases h with ⟨rfl, rfl⟩ | ⟨g, cap, rfl, hb1, hg1, hc1, hm1, hx1, _⟩
  · go_enter Try.func52, Try.ntmps52
    go_wp2_with fail
    go_loopw [9] (fun i wr => i = .int .i64 0 ∧ wr = w) (fun _ _ => 0)
    case atStart => exact ⟨rfl, rfl⟩
    case round =>
      obtain ⟨rfl, rfl⟩ := hrel
      go_wp2_with fail
      go_ret
      exact ⟨rfl, 0, rfl⟩
  · have HX1 := Lib.hid hx1
    clear hx1
    go_enter Try.func52, Try.ntmps52
    go_wp2_with fail
    go_loopw [9] (fun i wr => ∃ k d : Nat, k ≤ xs.length ∧ i = .int .i64 k ∧ wr = w.drewN d ∧ Hid (xs.contains n = (xs.drop k).contains n)) (fun i _ => xs.length - (intOf i).toNat)
    case atStart => exact ⟨0, 0, Nat.zero_le _, rfl, rfl, rfl⟩
    case round =>
      obtain ⟨k, d, hk, rfl, rfl, he⟩ := hrel
      by_cases hlt : k < xs.length
      · have hlt' : (k : Int) < (xs.length : Int) := by omega
        have c1 := HX1.out k hlt
        obtain ⟨x, hx⟩ : ∃ x, x = xs.getD k 0 := ⟨_, rfl⟩
        have hd : xs.drop k = x :: xs.drop (k + 1) := by rw [List.drop_eq_getElem_cons hlt, hx]; simp [hlt]
        rw [← hx] at c1
        have he' := he.out
        rw [hd, List.contains_cons] at he'
        clear hx hd he
        cases hxn : (x == n) with
        | true =>
          have hn : (n == x) = true := by simp at hxn; simp [hxn]
          rw [hn, Bool.true_or] at he'
          have HE := Lib.hid he'
          clear he' hn
          go_wp2_with fail
          go_ret
          exact ⟨by rw [HE.out]; rfl, _, rfl⟩
        | false =>
          have hn : (n == x) = false := by simp at hxn; simp; exact fun e => hxn e.symm
          rw [hn, Bool.false_or] at he'
          have HE := Lib.hid he'
          clear he' hn
          go_wp2_with fail
          go_roundw
          case rel => exact ⟨k + 1, _, by omega, by go_num, rfl, HE⟩
          case measure => simp [intOf]; omega
      · obtain rfl : k = xs.length := by omega
        have he' := he.out
        rw [List.drop_of_length_le (Nat.le_refl _)] at he'
        have HE := Lib.hid he'
        clear he he'
        go_wp2_with fail
        go_ret
        exact ⟨by rw [HE.out]; rfl, _, rfl⟩
end Go.Proofs.Ytjmbkieocmhmiaa

/-! Both -/
namespace Go.Proofs.Ytjmbkieocmhmiaa
open Go.RowKit

/-- The left leaves with which the trees of both texts have exposed carets. -/
def bothL (a b : ByteArray) : List Int := (exL a.data.toList 0).filter fun n => (exL b.data.toList 0).contains n
theorem bothL_str (p : Pr) : bothL p.1.str p.2.str = both p := by
  unfold bothL both
  rw [Tr.str_list, Tr.str_list, exps_text, exps_text]

/-- Where a number is in a list, from k on. -/
def idxI : List Int → Nat → Int → Int
  | [], _, _ => -1
  | x :: xs, k, n => if n = x then k else idxI xs (k + 1) n
theorem idxI_has (xs : List Int) : ∀ (k : Nat) (n : Int), decide (0 ≤ idxI xs k n) = xs.contains n := by
  induction xs with
  | nil => intro k n; rfl
  | cons x xs ih =>
    intro k n
    rw [idxI, List.contains_cons]
    by_cases h : n = x
    · subst h; simp
    · have : (n == x) = false := by simpa using h
      rw [if_neg h, ih, this, Bool.false_or]
theorem idxI_le (xs : List Int) : ∀ (k : Nat) (n : Int), -1 ≤ idxI xs k n ∧ idxI xs k n ≤ k + xs.length := by
  induction xs with
  | nil => intro k n; simp [idxI]
  | cons x xs ih =>
    intro k n
    have := ih (k + 1) n
    rw [idxI]
    simp only [List.length_cons]
    split <;> omega

set_option maxHeartbeats 1000000 in
theorem index_any (b1 : Nat) (v : Value) (xs : List Int) (n : Int) (w : World) (h : CellsI b1 w v xs) :
    Calls Try.prog 74 #[v, .int .i64 n] w (Quietly (.int .i64 (idxI xs 0 n)) w) := by
  have hl := h.len
  rcases h with ⟨rfl, rfl⟩ | ⟨g, cap, rfl, hb1, hg1, hc1, hm1, hx1, _⟩
  · go_enter Try.func74, Try.ntmps74
    go_wp2_with fail
    go_loopw [8] (fun i wr => i = .int .i64 0 ∧ wr = w) (fun _ _ => 0)
    case atStart => exact ⟨rfl, rfl⟩
    case round =>
      obtain ⟨rfl, rfl⟩ := hrel
      go_wp2_with fail
      go_ret
      exact ⟨rfl, 0, rfl⟩
  · have HX1 := Lib.hid hx1
    clear hx1
    go_enter Try.func74, Try.ntmps74
    go_wp2_with fail
    go_loopw [8] (fun i wr => ∃ k d : Nat, k ≤ xs.length ∧ i = .int .i64 k ∧ wr = w.drewN d ∧ Hid (idxI xs 0 n = idxI (xs.drop k) k n)) (fun i _ => xs.length - (intOf i).toNat)
    case atStart => exact ⟨0, 0, Nat.zero_le _, rfl, rfl, rfl⟩
    case round =>
      obtain ⟨k, d, hk, rfl, rfl, he⟩ := hrel
      by_cases hlt : k < xs.length
      · have hlt' : (k : Int) < (xs.length : Int) := by omega
        have c1 := HX1.out k hlt
        obtain ⟨x, hx⟩ : ∃ x, x = xs.getD k 0 := ⟨_, rfl⟩
        have hd : xs.drop k = x :: xs.drop (k + 1) := by rw [List.drop_eq_getElem_cons hlt, hx]; simp [hlt]
        rw [← hx] at c1
        have he' := he.out
        rw [hd, idxI] at he'
        clear hx hd he
        by_cases hxn : n = x
        · rw [if_pos hxn] at he'
          have hn : (n == x) = true := by simpa using hxn
          have HE := Lib.hid he'
          clear he' hxn
          go_wp2_with fail
          go_ret
          exact ⟨ret_int (by rw [HE.out]), _, rfl⟩
        · rw [if_neg hxn] at he'
          have hn : (n == x) = false := by simpa using hxn
          have HE := Lib.hid he'
          clear he' hxn
          go_wp2_with fail
          go_roundw
          case rel => exact ⟨k + 1, _, by omega, by go_num, rfl, HE⟩
          case measure => simp [intOf]; omega
      · obtain rfl : k = xs.length := by omega
        have he' := he.out
        rw [List.drop_of_length_le (Nat.le_refl _)] at he'
        have HE := Lib.hid he'
        clear he he'
        go_wp2_with fail
        go_ret
        exact ⟨by rw [HE.out]; rfl, _, rfl⟩

theorem contains_any (b1 : Nat) (v : Value) (xs : List Int) (n : Int) (w : World) (h : CellsI b1 w v xs) :
    Calls Try.prog 69 #[v, .int .i64 n] w (Quietly (.bool (xs.contains n)) w) := by
  have hi := fun w h => index_any b1 v xs n w h
  have HI : Hid (decide (0 ≤ idxI xs 0 n) = xs.contains n) := idxI_has xs 0 n
  have H := Lib.hid h
  clear h
  generalize idxI xs 0 n = z at *
  go_enter Try.func69, Try.ntmps69
  go_wp2_with fail
  refine (hi _ H.out).mono ?_; rintro e w3 ⟨rfl, d, rfl⟩
  go_wp2_with fail
  go_ret
  exact ⟨ret_bool HI.out, _, rfl⟩

set_option maxRecDepth 100000 in
set_option maxHeartbeats 2000000 in
theorem prBoth_any (a b : ByteArray) (w : World) (ha : a.size ≤ 1000) (hb : b.size ≤ 1000) :
    Calls Try.prog 31 #[.agg #[.string a, .string b]] w (GivesInts (bothL a b) w) := by
  obtain ⟨i0, hi, hz0, hz1, hz2⟩ := info_parts info_int
  have hXl : (exL a.data.toList 0).length ≤ 1000 := by have := exL_length a.data.toList 0; rw [← Lib.size_eq] at this; omega
  have hA := fun w => trExposed_any a w ha
  have hB := fun w => trExposed_any b w hb
  obtain ⟨X, hX⟩ : ∃ X, X = exL a.data.toList 0 := ⟨_, rfl⟩
  obtain ⟨Y, hY⟩ : ∃ Y, Y = exL b.data.toList 0 := ⟨_, rfl⟩
  rw [← hX] at hA hXl
  rw [← hY] at hB
  rw [show bothL a b = X.filter fun n => Y.contains n by rw [hX, hY]; rfl]
  clear hX hY
  go_enter Try.func31, Try.ntmps31
  go_wp2_with fail
  have hb0 : Below w.heap.size w (w.alloc (.cells #[.string a, .string b] 26 (0, 0))) := nxAlloc (Below.refl _ _) _
  have hc := two_cells (heap_alloc_at w (.cells #[.string a, .string b] 26 (0, 0)))
  have hs : w.heap.size < (w.alloc (.cells #[.string a, .string b] 26 (0, 0))).heap.size := by simp
  generalize w.alloc (.cells #[.string a, .string b] 26 (0, 0)) = w0 at *
  refine (hB _).mono ?_; rintro e w1 ⟨v1, own1, hb1, rfl⟩
  have hc1 := keep_two hb1 hs hc
  have hs1 : w.heap.size < w1.heap.size := Nat.lt_of_lt_of_le hs hb1.size
  have hb01 := nx hb0 hb1
  obtain ⟨k1, k2⟩ := hc1
  go_wp2_with fail
  refine (hA _).mono ?_; rintro e w2 ⟨v2, own2, hb2, rfl⟩
  have own1' := own1.keep hb2
  have hbase : w.heap.size ≤ w0.heap.size := Nat.le_of_lt hs
  have hbase1 : w.heap.size ≤ w1.heap.size := Nat.le_of_lt hs1
  have hb02 := nx hb01 hb2
  have hcx := own2.cells
  clear hc k1 k2 hs hs1 own1 hb0 hb1 hb01
  have hp1 : Hid (OwnI w1.heap.size w2 v2 X) := own2
  have hp2 : Hid (OwnI w0.heap.size w2 v1 Y) := own1'
  clear own2 own1'
  rcases hcx with ⟨rfl, rfl⟩ | ⟨g, cap, rfl, hg0, hg1, hc1, hm1, hx1, _⟩
  · go_wp2_with fail
    go_loopw [3, 14] (fun v i wr => v = .slice none 0 0 ∧ i = .int .i64 0 ∧ wr = w2) (fun _ _ _ => 0)
    case atStart => exact ⟨rfl, rfl, rfl⟩
    case round =>
      obtain ⟨rfl, rfl, rfl⟩ := hrel
      go_wp2_with fail
      go_ret
      exact ⟨_, OwnI.nil _ _, hb02, rfl⟩
  · have HX1 := Lib.hid hx1
    clear hx1
    go_wp2_with fail
    go_loopw [3, 14] (fun v i wr => ∃ (k : Nat) (zs : List Int), k ≤ X.length ∧ i = .int .i64 k ∧ zs.length ≤ k ∧ OwnI w2.heap.size wr v zs ∧ Below w2.heap.size w2 wr ∧ Hid (X.filter (fun n => Y.contains n) = zs ++ (X.drop k).filter fun n => Y.contains n)) (fun _ i _ => X.length - (intOf i).toNat)
    case atStart => exact ⟨0, [], Nat.zero_le _, rfl, Nat.le_refl _, OwnI.nil _ _, Below.refl _ _, by show _ = _; simp⟩
    case round =>
      obtain ⟨k, zs, hk, rfl, hzl, hown, hbw, he⟩ := hrel
      by_cases hlt : k < X.length
      · have c1 := (hbw.cell (p := ⟨g, k, none⟩) hg1).trans (HX1.out k hlt)
        have hcy := (OwnI.keep hp2.out hbw).cells
        obtain ⟨x, hx⟩ : ∃ x, x = X.getD k 0 := ⟨_, rfl⟩
        have hd : X.drop k = x :: X.drop (k + 1) := by rw [List.drop_eq_getElem_cons hlt, hx]; simp [hlt]
        rw [← hx] at c1
        have he' := he.out
        rw [hd, List.filter_cons] at he'
        have hhas := fun w h => l1Has_any w0.heap.size v1 Y x w h
        clear hx hd he
        have hlt' : (k : Int) < (X.length : Int) := by omega
        cases hxn : Y.contains x with
        | true =>
          rw [hxn] at hhas
          rw [hxn, if_pos rfl] at he'
          have HE := Lib.hid he'
          have HCY := Lib.hid hcy
          clear he' hxn hcy
          go_wp2_with fail
          refine (hhas _ HCY.out).mono ?_; rintro e w3 ⟨rfl, d, hw3⟩
          have hb3 : Below wr.heap.size wr w3 := by rw [hw3]; exact drewB (Below.refl _ _) _
          have hbw3 := nx hbw hb3
          have hown3 := hown.keep hb3
          clear hw3 hbw hown hb3
          go_wp2_with (at_builtin; refine wpList_append_own _ rfl _ _ 53 rfl w2.heap.size 3 i0 (.int .i64 0) 1 8 Try.underlying53 hi hz0 hz1 hz2 rfl (by decide) _ _ _ rfl (hown3.alloc _) ⟨w3.heap.size, 0, none⟩ 1 1 [.int .i64 x] rfl rfl (new1 _ _ _) (one1 _) (by unfold maxLen; omega) (by omega) (size_al hbw3 _) ?_; intro v' w4 hown' hgrow hnn)
          have hbw' := below_app hbw3 hown3 (Nat.le_refl _) hgrow
          have hown1 := OwnI.snoc hown'
          clear hown3 hown' hgrow hbw3 hnn
          go_wp2_with fail
          go_roundw
          case rel =>
            have he' := HE.out
            exact ⟨k + 1, zs ++ [x], by omega, by go_num, by simp; omega, hown1, hbw', by show _ = _; rw [he']; simp⟩
          case measure => simp [intOf]; omega
        | false =>
          rw [hxn] at hhas
          rw [hxn, if_neg (by decide)] at he'
          have HE := Lib.hid he'
          have HCY := Lib.hid hcy
          clear he' hxn hcy
          go_wp2_with fail
          refine (hhas _ HCY.out).mono ?_; rintro e w3 ⟨rfl, d, hw3⟩
          have hb3 : Below wr.heap.size wr w3 := by rw [hw3]; exact drewB (Below.refl _ _) _
          have hbw3 := nx hbw hb3
          have hown3 := hown.keep hb3
          clear hw3 hbw hown hb3
          go_wp2_with fail
          go_roundw
          case rel => exact ⟨k + 1, zs, by omega, by go_num, by omega, hown3, hbw3, HE⟩
          case measure => simp [intOf]; omega
      · obtain rfl : k = X.length := by omega
        have he' := he.out
        rw [List.drop_of_length_le (Nat.le_refl _), List.filter_nil, List.append_nil] at he'
        have HE := Lib.hid he'
        clear he he'
        go_wp2_with fail
        go_ret
        exact ⟨_, by rw [HE.out]; exact hown.mono hb02.size, nx hb02 hbw, rfl⟩

set_option maxRecDepth 100000 in
set_option maxHeartbeats 2000000 in
theorem sharedExposed_any (a b : ByteArray) (w : World) (ha : a.size ≤ 1000) (hb : b.size ≤ 1000) :
    Calls Try.prog 58 #[.agg #[.string a, .string b]] w (GivesInts (bothL a b) w) := by
  obtain ⟨i0, hi, hz0, hz1, hz2⟩ := info_parts info_int
  have hXl : (exL a.data.toList 0).length ≤ 1000 := by have := exL_length a.data.toList 0; rw [← Lib.size_eq] at this; omega
  have hA := fun w => exposedIn_any a w ha
  have hB := fun w => exposedIn_any b w hb
  obtain ⟨X, hX⟩ : ∃ X, X = exL a.data.toList 0 := ⟨_, rfl⟩
  obtain ⟨Y, hY⟩ : ∃ Y, Y = exL b.data.toList 0 := ⟨_, rfl⟩
  rw [← hX] at hA hXl
  rw [← hY] at hB
  rw [show bothL a b = X.filter fun n => Y.contains n by rw [hX, hY]; rfl]
  clear hX hY
  go_enter Try.func58, Try.ntmps58
  go_wp2_with fail
  have hb0 : Below w.heap.size w (w.alloc (.cells #[.string a, .string b] 26 (0, 0))) := nxAlloc (Below.refl _ _) _
  have hc := two_cells (heap_alloc_at w (.cells #[.string a, .string b] 26 (0, 0)))
  have hs : w.heap.size < (w.alloc (.cells #[.string a, .string b] 26 (0, 0))).heap.size := by simp
  generalize w.alloc (.cells #[.string a, .string b] 26 (0, 0)) = w0 at *
  refine (hB _).mono ?_; rintro e w1 ⟨v1, own1, hb1, rfl⟩
  have hc1 := keep_two hb1 hs hc
  have hs1 : w.heap.size < w1.heap.size := Nat.lt_of_lt_of_le hs hb1.size
  have hb01 := nx hb0 hb1
  obtain ⟨k1, k2⟩ := hc1
  go_wp2_with fail
  refine (hA _).mono ?_; rintro e w2 ⟨v2, own2, hb2, rfl⟩
  have own1' := own1.keep hb2
  have hbase : w.heap.size ≤ w0.heap.size := Nat.le_of_lt hs
  have hbase1 : w.heap.size ≤ w1.heap.size := Nat.le_of_lt hs1
  have hb02 := nx hb01 hb2
  have hcx := own2.cells
  clear hc k1 k2 hs hs1 own1 hb0 hb1 hb01
  have hp1 : Hid (OwnI w1.heap.size w2 v2 X) := own2
  have hp2 : Hid (OwnI w0.heap.size w2 v1 Y) := own1'
  clear own2 own1'
  rcases hcx with ⟨rfl, rfl⟩ | ⟨g, cap, rfl, hg0, hg1, hc1, hm1, hx1, _⟩
  · go_wp2_with fail
    go_loopw [3, 14] (fun v i wr => v = .slice none 0 0 ∧ i = .int .i64 0 ∧ wr = w2) (fun _ _ _ => 0)
    case atStart => exact ⟨rfl, rfl, rfl⟩
    case round =>
      obtain ⟨rfl, rfl, rfl⟩ := hrel
      go_wp2_with fail
      go_ret
      exact ⟨_, OwnI.nil _ _, hb02, rfl⟩
  · have HX1 := Lib.hid hx1
    clear hx1
    go_wp2_with fail
    go_loopw [3, 14] (fun v i wr => ∃ (k : Nat) (zs : List Int), k ≤ X.length ∧ i = .int .i64 k ∧ zs.length ≤ k ∧ OwnI w2.heap.size wr v zs ∧ Below w2.heap.size w2 wr ∧ Hid (X.filter (fun n => Y.contains n) = zs ++ (X.drop k).filter fun n => Y.contains n)) (fun _ i _ => X.length - (intOf i).toNat)
    case atStart => exact ⟨0, [], Nat.zero_le _, rfl, Nat.le_refl _, OwnI.nil _ _, Below.refl _ _, by show _ = _; simp⟩
    case round =>
      obtain ⟨k, zs, hk, rfl, hzl, hown, hbw, he⟩ := hrel
      by_cases hlt : k < X.length
      · have c1 := (hbw.cell (p := ⟨g, k, none⟩) hg1).trans (HX1.out k hlt)
        have hcy := (OwnI.keep hp2.out hbw).cells
        obtain ⟨x, hx⟩ : ∃ x, x = X.getD k 0 := ⟨_, rfl⟩
        have hd : X.drop k = x :: X.drop (k + 1) := by rw [List.drop_eq_getElem_cons hlt, hx]; simp [hlt]
        rw [← hx] at c1
        have he' := he.out
        rw [hd, List.filter_cons] at he'
        have hhas := fun w h => contains_any w0.heap.size v1 Y x w h
        clear hx hd he
        have hlt' : (k : Int) < (X.length : Int) := by omega
        cases hxn : Y.contains x with
        | true =>
          rw [hxn] at hhas
          rw [hxn, if_pos rfl] at he'
          have HE := Lib.hid he'
          have HCY := Lib.hid hcy
          clear he' hxn hcy
          go_wp2_with fail
          refine (hhas _ HCY.out).mono ?_; rintro e w3 ⟨rfl, d, hw3⟩
          have hb3 : Below wr.heap.size wr w3 := by rw [hw3]; exact drewB (Below.refl _ _) _
          have hbw3 := nx hbw hb3
          have hown3 := hown.keep hb3
          clear hw3 hbw hown hb3
          go_wp2_with (at_builtin; refine wpList_append_own _ rfl _ _ 53 rfl w2.heap.size 3 i0 (.int .i64 0) 1 8 Try.underlying53 hi hz0 hz1 hz2 rfl (by decide) _ _ _ rfl (hown3.alloc _) ⟨w3.heap.size, 0, none⟩ 1 1 [.int .i64 x] rfl rfl (new1 _ _ _) (one1 _) (by unfold maxLen; omega) (by omega) (size_al hbw3 _) ?_; intro v' w4 hown' hgrow hnn)
          have hbw' := below_app hbw3 hown3 (Nat.le_refl _) hgrow
          have hown1 := OwnI.snoc hown'
          clear hown3 hown' hgrow hbw3 hnn
          go_wp2_with fail
          go_roundw
          case rel =>
            have he' := HE.out
            exact ⟨k + 1, zs ++ [x], by omega, by go_num, by simp; omega, hown1, hbw', by show _ = _; rw [he']; simp⟩
          case measure => simp [intOf]; omega
        | false =>
          rw [hxn] at hhas
          rw [hxn, if_neg (by decide)] at he'
          have HE := Lib.hid he'
          have HCY := Lib.hid hcy
          clear he' hxn hcy
          go_wp2_with fail
          refine (hhas _ HCY.out).mono ?_; rintro e w3 ⟨rfl, d, hw3⟩
          have hb3 : Below wr.heap.size wr w3 := by rw [hw3]; exact drewB (Below.refl _ _) _
          have hbw3 := nx hbw hb3
          have hown3 := hown.keep hb3
          clear hw3 hbw hown hb3
          go_wp2_with fail
          go_roundw
          case rel => exact ⟨k + 1, zs, by omega, by go_num, by omega, hown3, hbw3, HE⟩
          case measure => simp [intOf]; omega
      · obtain rfl : k = X.length := by omega
        have he' := he.out
        rw [List.drop_of_length_le (Nat.le_refl _), List.filter_nil, List.append_nil] at he'
        have HE := Lib.hid he'
        clear he he'
        go_wp2_with fail
        go_ret
        exact ⟨_, by rw [HE.out]; exact hown.mono hb02.size, nx hb02 hbw, rfl⟩
end Go.Proofs.Ytjmbkieocmhmiaa

/-! Graft -/
namespace Go.Proofs.Ytjmbkieocmhmiaa
open Go.RowKit

theorem limitS_yes (s : ByteArray) (w : World) (h : (s.size : Int) ≤ 25) : Calls Try.prog 40 #[.string s] w fun e w' => e = .returned (.tuple #[.string s, .bool true]) ∧ w = w' := by
  go_enter Try.func40, Try.ntmps40
  go_wp2_with fail
  go_ret2
  exact ⟨rfl, rfl⟩
theorem limitS_no (s : ByteArray) (w : World) (h : 25 < (s.size : Int)) : Calls Try.prog 40 #[.string s] w fun e w' => e = .returned (.tuple #[.string ⟨#[]⟩, .bool false]) ∧ w = w' := by
  go_enter Try.func40, Try.ntmps40
  go_wp2_with fail
  go_ret2
  exact ⟨rfl, rfl⟩

def graftO (a : ByteArray) (n : Int) (b : ByteArray) : Option ByteArray :=
  match treeOf a, treeOf b with
  | some t, some u => if 0 ≤ n ∧ n ≤ t.carets ∧ t.carets + u.carets ≤ 8 then some (graftS a n b) else none
  | _, _ => none

set_option maxRecDepth 100000 in
set_option maxHeartbeats 1000000 in
theorem leafPlace_neg (s : ByteArray) (n : Int) (w : World) (hs : s.size ≤ 1000) (hn : n < 0) (hn' : -9223372036854775808 ≤ n) :
    Calls Try.prog 39 #[.string s, .int .i64 n] w (Quietly (.int .i64 (-1)) w) := by
  go_enter Try.func39, Try.ntmps39
  go_wp2_with fail
  go_loopw [1, 8] (fun v i wr => ∃ (k : Nat) (m : Int) (d : Nat), k ≤ s.size ∧ i = .int .i64 k ∧ v = .int .i64 m ∧ -9223372036854775808 ≤ m ∧ m ≤ 9223372036854775807 ∧ Hid (m < 0 ∨ 9223372036854775807 - (k : Int) ≤ m) ∧ wr = w.drewN d) (fun _ i _ => s.size - (intOf i).toNat)
  case atStart => exact ⟨0, n, 0, Nat.zero_le _, rfl, rfl, by omega, by omega, .inl hn, rfl⟩
  case round =>
    obtain ⟨k, m, d, hk, rfl, rfl, hm, hm', hor, rfl⟩ := hrel
    by_cases hlt : k < s.size
    · cases h46 : (((s[k]'hlt).toNat : Int) == 46) with
      | true =>
        have h46' : Hid ((((s[k]'hlt).toNat : Int) != 46) = false) := by show (_ != _) = false; rw [bne, h46]; rfl
        clear h46
        have g0 : (m == 0) = false := by have := hor.out; simp; omega
        by_cases hmin : m = -9223372036854775808
        · obtain rfl := hmin
          go_wp2_with fail
          have g := h46'.out
          have gz : ((⟨#[46]⟩ : ByteArray)[0]'(by decide)).toNat = 46 := rfl
          go_quiet (fail)
          go_wp2_with fail
          clear g gz g0
          go_roundw
          case rel => exact ⟨k + 1, 9223372036854775807, _, by omega, by go_num, by unfold wrap64; rfl, by omega, by omega, .inr (by omega), rfl⟩
          case measure => simp [intOf]; omega
        · have hm2 : -9223372036854775807 ≤ m := by omega
          clear hmin
          go_wp2_with fail
          have g := h46'.out
          have gz : ((⟨#[46]⟩ : ByteArray)[0]'(by decide)).toNat = 46 := rfl
          go_quiet (fail)
          go_wp2_with fail
          clear g gz g0
          go_roundw
          case rel => exact ⟨k + 1, m - 1, _, by omega, by go_num, rfl, by omega, by omega, by have := hor.out; show _ ∨ _; omega, rfl⟩
          case measure => simp [intOf]; omega
      | false =>
        have h46' : Hid ((((s[k]'hlt).toNat : Int) != 46) = true) := by show (_ != _) = true; rw [bne, h46]; rfl
        clear h46
        go_wp2_with fail
        have g := h46'.out
        have gz : ((⟨#[46]⟩ : ByteArray)[0]'(by decide)).toNat = 46 := rfl
        go_quiet (fail)
        go_wp2_with fail
        clear g gz
        go_roundw
        case rel => exact ⟨k + 1, m, _, by omega, by go_num, rfl, by omega, by omega, by have := hor.out; show _ ∨ _; omega, rfl⟩
        case measure => simp [intOf]; omega
    · obtain rfl : k = s.size := by omega
      go_wp2_with fail
      go_ret
      exact ⟨rfl, _, rfl⟩

set_option maxHeartbeats 400000 in
theorem implGraftAt_any (a : ByteArray) (n : Int) (b : ByteArray) (w : World) (ha : a.size ≤ 9223372036854775806) (hb : b.size ≤ 9223372036854775806) (hn' : -9223372036854775808 ≤ n) (hn : n ≤ 9223372036854775807) :
    Calls Try.prog 21 #[.string a, .int .i64 n, .string b] w (Gives (ans2 (graftO a n b)) w) := by
  cases h : treeOf a with
  | none =>
    rw [show graftO a n b = none by simp [graftO, h]]
    have H := Lib.hid h
    clear h
    go_enter Try.func21, Try.ntmps21
    go_wp2_with fail
    refine (implIsTree_no a _ ha H.out).mono ?_; rintro e w1 ⟨hb1, rfl⟩
    go_wp2_with fail
    go_ret2
    exact ⟨rfl, hb1⟩
  | some t =>
    obtain ⟨rfl, hc⟩ := treeOf_some h
    have st := t.str_size
    cases k : treeOf b with
    | none =>
      rw [show graftO t.str n b = none by simp [graftO, k]]
      have H := Lib.hid k
      clear h k
      go_enter Try.func21, Try.ntmps21
      go_wp2_with fail
      refine (implIsTree_yes t _ hc).mono ?_; rintro e w1 ⟨hb1, rfl⟩
      go_wp2_with fail
      refine (implIsTree_no b _ hb H.out).mono ?_; rintro e w2 ⟨hb2, rfl⟩
      go_wp2_with fail
      go_ret2
      exact ⟨rfl, nx hb1 hb2⟩
    | some u =>
      obtain ⟨rfl, hd⟩ := treeOf_some k
      have su := u.str_size
      rcases pos_str t n with ⟨hn0, hn1, hp0, hp1⟩ | ⟨hout, hp⟩
      · have gs := graft_size t n u.str hp0 hp1
        have HG : graftO t.str n u.str = if (t.carets : Int) + u.carets ≤ 8 then some (graftS t.str n u.str) else none := by
          simp only [graftO, h, k]
          by_cases hz : (t.carets : Int) + u.carets ≤ 8
          · rw [if_pos hz, if_pos (by omega)]
          · rw [if_neg hz, if_neg (by omega)]
        clear h k
        obtain ⟨q, hq⟩ : ∃ q : Nat, posFrom t.str.data.toList 0 n = q := ⟨(posFrom t.str.data.toList 0 n).toNat, by omega⟩
        have hgr : graftS t.str n u.str = t.str.extract 0 q ++ u.str ++ t.str.extract (q + 1) t.str.size := by unfold graftS; rw [hq]; rfl
        have hlq : q < t.str.size := by omega
        have hzt : t.str.size ≤ 1000 := by omega
        have hzu : u.str.size ≤ 1000 := by omega
        have hc3 := leafPlace_any t.str n
        rw [hq] at hc3
        have HQ := Lib.hid hgr
        have GS := Lib.hid gs
        by_cases hz : (t.carets : Int) + u.carets ≤ 8
        · rw [HG, if_pos hz]
          have hsz : Hid (((t.str.extract 0 q ++ u.str ++ t.str.extract (q + 1) t.str.size).size : Int) ≤ 25) := by
            show _ ≤ _
            rw [← hgr, gs]; omega
          clear HG hq hgr gs hp0 hp1 st su
          go_enter Try.func21, Try.ntmps21
          go_wp2_with fail
          refine (implIsTree_yes t _ hc).mono ?_; rintro e w1 ⟨hb1, rfl⟩
          go_wp2_with fail
          refine (implIsTree_yes u _ hd).mono ?_; rintro e w2 ⟨hb2, rfl⟩
          go_wp2_with fail
          refine (hc3 _ ha hn0 hn).mono ?_; rintro e w3 ⟨rfl, d, hw3⟩; have hb3 : Below w.heap.size w w3 := by rw [hw3]; exact drewB (nx hb1 hb2) d
          clear hw3
          go_wp2_with fail
          have hq1 : (q : Int) ≤ (t.str.size : Int) := by omega
          have hq2 : (q : Int) + 1 ≤ (t.str.size : Int) := by omega
          go_quiet ((go_at_call 40; exact quiet_eq (limitS_yes _ _ hsz.out)))
          go_wp2_with fail
          go_ret2
          exact ⟨by rw [HQ.out]; rfl, drewB hb3 _⟩
        · rw [HG, if_neg hz]
          have hsz : Hid (25 < ((t.str.extract 0 q ++ u.str ++ t.str.extract (q + 1) t.str.size).size : Int)) := by
            show _ < _
            rw [← hgr, gs]; omega
          clear HG hq hgr gs hp0 hp1 st su
          go_enter Try.func21, Try.ntmps21
          go_wp2_with fail
          refine (implIsTree_yes t _ hc).mono ?_; rintro e w1 ⟨hb1, rfl⟩
          go_wp2_with fail
          refine (implIsTree_yes u _ hd).mono ?_; rintro e w2 ⟨hb2, rfl⟩
          go_wp2_with fail
          refine (hc3 _ ha hn0 hn).mono ?_; rintro e w3 ⟨rfl, d, hw3⟩; have hb3 : Below w.heap.size w w3 := by rw [hw3]; exact drewB (nx hb1 hb2) d
          clear hw3
          go_wp2_with fail
          have hq1 : (q : Int) ≤ (t.str.size : Int) := by omega
          have hq2 : (q : Int) + 1 ≤ (t.str.size : Int) := by omega
          go_quiet ((go_at_call 40; exact quiet_eq (limitS_no _ _ hsz.out)))
          go_wp2_with fail
          go_ret2
          exact ⟨rfl, drewB hb3 _⟩
      · have HG : graftO t.str n u.str = none := by
          simp only [graftO, h, k]
          rw [if_neg (by omega)]
        rw [HG]
        have hl : ∀ w, Calls Try.prog 39 #[.string t.str, .int .i64 n] w (Quietly (.int .i64 (-1)) w) := by
          intro w
          by_cases hneg : n < 0
          · exact leafPlace_neg t.str n w (by omega) hneg hn'
          · have := leafPlace_any t.str n w ha (by omega) hn
            rwa [hp] at this
        clear HG hp h k hout st su
        go_enter Try.func21, Try.ntmps21
        go_wp2_with fail
        refine (implIsTree_yes t _ hc).mono ?_; rintro e w1 ⟨hb1, rfl⟩
        go_wp2_with fail
        refine (implIsTree_yes u _ hd).mono ?_; rintro e w2 ⟨hb2, rfl⟩
        go_wp2_with fail
        refine (hl _).mono ?_; rintro e w3 ⟨rfl, d, rfl⟩
        go_wp2_with fail
        go_ret2
        exact ⟨rfl, drewB (nx hb1 hb2) _⟩
end Go.Proofs.Ytjmbkieocmhmiaa

/-! Drop -/
namespace Go.Proofs.Ytjmbkieocmhmiaa
open Go.RowKit

def dropExpO (a : ByteArray) (n : Int) : Option ByteArray :=
  match treeOf a with
  | some _ => dropO a n
  | none => none

theorem has_exL (l : List UInt8) (n : Int) : (exL l 0).contains n = dropB l n := by
  rw [Bool.eq_iff_iff, List.contains_iff_mem, mem_exL]
  simp

set_option maxHeartbeats 1000000 in
theorem withoutExposed_any (s : ByteArray) (n : Int) (w : World) (hsm : s.size ≤ 1000) (lo : -9223372036854775808 ≤ n) (hi : n ≤ 9223372036854775807) :
    Calls Try.prog 59 #[.string s, .int .i64 n] w (Gives (ans2 (dropO s n)) w) := by
  have hl : ∀ w, Calls Try.prog 39 #[.string s, .int .i64 n] w (Quietly (.int .i64 (posFrom s.data.toList 0 n)) w) := by
    intro w
    by_cases hneg : n < 0
    · rw [posFrom_neg _ _ _ hneg]; exact leafPlace_neg s n w hsm hneg lo
    · exact leafPlace_any s n w (by omega) (by omega) hi
  have hr := posFrom_range s.data.toList 0 n
  have hrl : s.data.toList.length = s.size := (Lib.size_eq _).symm
  by_cases h1 : posFrom s.data.toList 0 n < 1
  · have hnone : dropO s n = none := by
      unfold dropO
      rw [if_neg]
      intro e
      obtain ⟨q, hp, _⟩ := dropB_true e
      omega
    rw [hnone]
    have hr' : -1 ≤ posFrom s.data.toList 0 n := by omega
    obtain ⟨p, hp⟩ : ∃ p, p = posFrom s.data.toList 0 n := ⟨_, rfl⟩
    rw [← hp] at hl h1 hr'
    clear hp hnone hr hrl
    go_enter Try.func59, Try.ntmps59
    go_wp2_with fail
    refine (hl _).mono ?_; rintro e w2 ⟨rfl, d, rfl⟩
    go_wp2_with fail
    go_ret2
    exact ⟨rfl, drewB (Below.refl _ _) _⟩
  · obtain ⟨q, hp⟩ : ∃ q : Nat, posFrom s.data.toList 0 n = (q : Int) + 1 := ⟨(posFrom s.data.toList 0 n).toNat - 1, by omega⟩
    have hql : (q : Int) ≤ s.size := by omega
    have hpc := hasPrefixS_any (s.extract q s.size) (ByteArray.mk #[40, 46, 46, 41])
    rw [expB_from] at hpc
    have hsz : (s.extract q s.size).size ≤ 9223372036854775806 := by simp; omega
    have hdB : dropB s.data.toList n = expB (s.data.toList.drop q) := by
      unfold dropB
      rw [hp]
      have t2 : ((q : Int) + 1).toNat - 1 = q := by omega
      rw [t2, decide_eq_true (by omega : 1 ≤ (q : Int) + 1), Bool.true_and]
    have hv : Hid ((posFrom s.data.toList 0 n).toNat - 1 = q) := by show _ = _; rw [hp]; omega
    rw [hp] at hl
    unfold dropO
    cases hE : expB (s.data.toList.drop q) with
    | false =>
      rw [hE] at hpc
      rw [hdB, hE]
      clear hp hr hrl h1 hdB hE
      go_enter Try.func59, Try.ntmps59
      go_wp2_with fail
      refine (hl _).mono ?_; rintro e w2 ⟨rfl, d, rfl⟩
      go_wp2_with fail
      refine (hpc _ hsz (by decide)).mono ?_; rintro e w3 ⟨rfl, rfl⟩
      go_wp2_with fail
      go_ret2
      exact ⟨rfl, drewB (Below.refl _ _) _⟩
    | true =>
      have hq4 := expB_drop hE
      rw [hrl] at hq4
      have hq4' : (q : Int) + 4 ≤ s.size := by omega
      rw [hE] at hpc
      rw [hdB, hE]
      clear hp hr hrl h1 hdB hE
      go_enter Try.func59, Try.ntmps59
      go_wp2_with fail
      refine (hl _).mono ?_; rintro e w2 ⟨rfl, d, hw2⟩
      have hb2 : Below w.heap.size w w2 := by rw [hw2]; exact drewB (Below.refl _ _) d
      clear hw2
      go_wp2_with fail
      refine (hpc _ hsz (by decide)).mono ?_; rintro e w3 ⟨rfl, rfl⟩
      go_wp2_with fail
      go_quiet (fail)
      go_wp2_with fail
      go_ret2
      exact ⟨by rw [hv.out]; rfl, drewB hb2 _⟩

end Go.Proofs.Ytjmbkieocmhmiaa

/-! Reduce -/
namespace Go.Proofs.Ytjmbkieocmhmiaa
open Go.RowKit

theorem withoutExposed_tr (t : Tr) (n : Int) (w : World) (ht : t.carets ≤ 300) (hn : n ∈ t.exps 0) :
    Calls Try.prog 59 #[.string t.str, .int .i64 n] w (Gives (.tuple #[.string (t.dropAt n).str, .bool true]) w) := by
  obtain ⟨h1, h2⟩ := drop_str t n hn
  have hr := exps_range t 0 n hn
  have hz := t.str_size
  simp [Tr.leaves] at hr
  have := withoutExposed_any t.str n w (by omega) (by omega) (by omega)
  unfold dropO at this
  rw [if_pos ((dropB_str t n).2 hn), h2] at this
  exact this

/-- How long the first text of a block is. -/
def sizeAt (w : World) (b : Nat) : Nat := match w.heap[b]? with
  | some (.cells cs _ _) => match cs[0]? with
    | some (Value.string s) => s.size
    | _ => 0
  | _ => 0
theorem sizeAt_of {w : World} {b : Nat} {s u : ByteArray} {t : TypeId} (h : w.heap[b]? = some (.cells #[.string s, .string u] t (0, 0))) : sizeAt w b = s.size := by
  simp [sizeAt, h]

theorem pick_drop (cs : List Int) (j k : Nat) : pickI (cs.drop j) k = if j < cs.length then (cs.getD j 0 % k).toNat else 0 := by
  by_cases h : j < cs.length
  · rw [if_pos h, List.drop_eq_getElem_cons h]
    simp [pickI, h]
  · rw [if_neg h, List.drop_of_length_le (by omega)]
    rfl

theorem both_in (p : Pr) (h : p.1.carets ≤ 200) (i : Nat) (hi : i < (both p).length) : (both p).getD i 0 ∈ p.1.exps 0 ∧ (both p).getD i 0 ∈ p.2.exps 0 ∧ 0 ≤ (both p).getD i 0 ∧ (both p).getD i 0 ≤ 200 := by
  have hm : (both p).getD i 0 ∈ both p := by
    rw [List.getD_eq_getElem?_getD, List.getElem?_eq_getElem hi]
    exact List.getElem_mem _
  have h1 := mem_both.1 hm
  have hr := exps_range p.1 0 _ h1.1
  simp only [Tr.leaves] at hr
  exact ⟨h1.1, h1.2, by omega, by omega⟩

theorem redBy_pick {p : Pr} (cs : List Int) (i : Nat) (hl : 0 < (both p).length) (hi : i = pickI cs (both p).length) : redBy p cs = redBy (dropP p ((both p).getD i 0)) cs.tail := by
  cases h : both p with
  | nil => rw [h] at hl; simp at hl
  | cons n ns =>
    rw [redBy_step h, hi, h]
    rfl

end Go.Proofs.Ytjmbkieocmhmiaa

/-! RedBy -/
namespace Go.Proofs.Ytjmbkieocmhmiaa
open Go.RowKit

theorem firstOf_any (n : Int) (w : World) : Calls Try.prog 49 #[.int .i64 n] w fun e w' => e = .returned (.int .i64 0) ∧ w = w' := by
  go_enter Try.func49, Try.ntmps49
  go_wp2
  go_ret
  exact ⟨rfl, rfl⟩

theorem sharedExposed_tr (p : Pr) (w : World) (k1 : p.1.carets ≤ 200) (k2 : p.2.carets ≤ 200) : Calls Try.prog 58 #[.agg #[.string p.1.str, .string p.2.str]] w (GivesInts (both p) w) := by
  have := sharedExposed_any p.1.str p.2.str w (by have := p.1.str_size; omega) (by have := p.2.str_size; omega)
  rwa [bothL_str] at this

theorem redBy_first {p : Pr} (hl : 0 < (both p).length) : red p = red (dropP p ((both p).getD 0 0)) := by
  have := redBy_pick (p := p) [] 0 hl rfl
  exact this

set_option maxRecDepth 100000 in
set_option maxHeartbeats 2000000 in
theorem reducedBy_first (p0 : Pr) (w : World) (h1 : p0.1.carets ≤ 200) (h2 : p0.2.carets ≤ 200) :
    Calls Try.prog 46 #[.agg #[.string p0.1.str, .string p0.2.str], .func (Fn.func 49) #[] #[]] w (Gives (.agg #[.string (red p0).1.str, .string (red p0).2.str]) w) := by
  go_enter Try.func46, Try.ntmps46
  go_wp2_with fail
  have hb0 : Below w.heap.size w ((w.alloc (.cells #[.string p0.1.str, .string p0.2.str] 26 (0, 0))).alloc (.cells #[.string ⟨#[]⟩, .string ⟨#[]⟩] 26 (0, 0))) := nxAlloc (nxAlloc (Below.refl _ _) _) _
  have hx1 := heap_keep (nxAlloc (Below.refl _ _) (.cells #[.string ⟨#[]⟩, .string ⟨#[]⟩] 26 (0, 0))) (heap_alloc_at w (.cells #[.string p0.1.str, .string p0.2.str] 26 (0, 0)))
  have hx2 := heap_alloc_at (w.alloc (.cells #[.string p0.1.str, .string p0.2.str] 26 (0, 0))) (.cells #[.string ⟨#[]⟩, .string ⟨#[]⟩] 26 (0, 0))
  generalize (w.alloc (.cells #[.string p0.1.str, .string p0.2.str] 26 (0, 0))).alloc (.cells #[.string ⟨#[]⟩, .string ⟨#[]⟩] 26 (0, 0)) = w0 at *
  have e2 : (w.alloc (.cells #[.string p0.1.str, .string p0.2.str] 26 (0, 0))).heap.size = w.heap.size + 1 := by simp
  rw [e2] at hx2
  clear e2
  have hs0 : w.heap.size + 1 < w0.heap.size := lt_of_block hx2
  go_loopw [5] (fun _ wr => ∃ (p : Pr), wr.heap[w.heap.size]? = some (.cells #[.string p.1.str, .string p.2.str] 26 (0, 0)) ∧ wr.heap[w.heap.size + 1]? = some (.cells #[.string ⟨#[]⟩, .string ⟨#[]⟩] 26 (0, 0)) ∧ Below w.heap.size w wr ∧ w.heap.size + 2 ≤ wr.heap.size ∧ p.1.carets ≤ 200 ∧ p.2.carets ≤ 200 ∧ Hid (red p0 = red p)) (fun _ wr => sizeAt wr w.heap.size)
  case atStart => exact ⟨p0, hx1, hx2, hb0, hs0, h1, h2, rfl⟩
  case round =>
    obtain ⟨p, hy1, hy2, hbw, hsz, hp1, hp2, he⟩ := hrel
    have HS1 := Lib.hid (sizeAt_of hy1)
    obtain ⟨k1, k2⟩ := two_cells hy1
    go_wp2_with fail
    refine (sharedExposed_tr p _ hp1 hp2).mono ?_; rintro e w1 ⟨v5, own, hb1, rfl⟩
    have hz1 := heap_keep hb1 hy1
    have hz2 := heap_keep hb1 hy2
    have hbw1 := nx hbw hb1
    have hsz1 := Nat.le_trans hsz hb1.size
    have hown : OwnI (w.heap.size + 2) w1 v5 (both p) := own.mono hsz
    have hf := hown.cells.form
    clear own hb1 hbw hsz k1 k2 hy1 hy2 hown
    obtain ⟨k1, k2⟩ := two_cells hz1
    obtain ⟨ob, bcap, rfl, hbc, hbm, hbcell⟩ := hf
    unfold maxLen at hbm
    by_cases hl : (both p).length = 0
    · have hnil : both p = [] := List.length_eq_zero_iff.1 hl
      have he' := he.out
      rw [(red_self p).2 hnil] at he'
      have HE := Lib.hid he'
      rw [hl]
      obtain ⟨n1, n2⟩ := two_cells hz2
      obtain ⟨f1, f2⟩ := two_frozen hz2
      clear hl hnil he he' hbcell
      go_wp2_with fail
      obtain ⟨r1, r2⟩ := two_cells (set_two (.string p.1.str) (.string p.2.str) hz2)
      refine bodyPost_ret (v := .agg #[.string p.1.str, .string p.2.str]) (by simp [r1, r2, results, Try.results46, go_sem]) rfl ⟨by rw [HE.out], ?_⟩
      exact (hbw1.setCell (by simp) _).setCell (by simp) _
    · -- a step
      have hlp : 0 < (both p).length := by omega
      have hlp' : (((both p).length : Int) == 0) = false := by rw [beq_eq_false_iff_ne]; omega
      have hst := redBy_first hlp
      obtain ⟨m1, m2, hx0, hx9⟩ := both_in p hp1 0 hlp
      obtain ⟨g, rfl, hg0, hg1, c1⟩ := hbcell 0 hlp
      obtain ⟨x, hx⟩ : ∃ x, x = (both p).getD 0 0 := ⟨_, rfl⟩
      rw [← hx] at hst m1 m2 c1 hx0 hx9
      have hstep := Lib.hid hst
      have T1 := fun w => withoutExposed_tr p.1 x w (by omega) m1
      have T2 := fun w => withoutExposed_tr p.2 x w (by omega) m2
      obtain ⟨hd1, hd2⟩ := dropP_carets (p := p) (n := x) (mem_both.2 ⟨m1, m2⟩)
      generalize hL : (both p).length = L at *
      have HL := Lib.hid hL
      have hlq : (0 : Int) < (L : Int) := by omega
      obtain ⟨f1, f2⟩ := two_frozen hz1
      clear hL hx hst m1 m2 hbcell hl
      go_wp2_with fail
      refine (firstOf_any _ _).mono ?_; rintro e w2 ⟨rfl, rfl⟩
      go_wp2_with fail
      refine (T1 _).mono ?_; rintro e w2 ⟨rfl, hb2⟩
      have hz1 := heap_keep hb2 hz1
      have hz2 := heap_keep hb2 hz2
      have hbw2 := nx hbw1 hb2
      have hsz2 := Nat.le_trans hsz1 hb2.size
      obtain ⟨n1, n2⟩ := two_cells hz1
      obtain ⟨f1, f2⟩ := two_frozen hz1
      clear c1 k1 k2 hb2 hbw1 hsz1
      go_wp2_with fail
      have hr1 := set_first (u' := .string (p.1.dropAt x).str) hz1
      have hr2 : (w2.setCell ⟨w.heap.size, 0, none⟩ (.string (p.1.dropAt x).str)).heap[w.heap.size + 1]? = some (.cells #[.string ⟨#[]⟩, .string ⟨#[]⟩] 26 (0, 0)) := by
        rw [Below.heap_setCell _ _ _ _ (by simp)]; exact hz2
      have hbw3 : Below w.heap.size w (w2.setCell ⟨w.heap.size, 0, none⟩ (.string (p.1.dropAt x).str)) := hbw2.setCell (Nat.le_refl _) _
      have hsz3 : w.heap.size + 2 ≤ (w2.setCell ⟨w.heap.size, 0, none⟩ (.string (p.1.dropAt x).str)).heap.size := by simpa using hsz2
      generalize w2.setCell ⟨w.heap.size, 0, none⟩ (.string (p.1.dropAt x).str) = w3 at *
      clear hz1 hz2 n1 n2 f1 f2 hbw2 hsz2
      refine (T2 _).mono ?_; rintro e w4 ⟨rfl, hb4⟩
      have hz1 := heap_keep hb4 hr1
      have hz2 := heap_keep hb4 hr2
      have hbw4 := nx hbw3 hb4
      have hsz4 := Nat.le_trans hsz3 hb4.size
      obtain ⟨n1, n2⟩ := two_cells hz1
      obtain ⟨f1, f2⟩ := two_frozen hz1
      clear hr1 hr2 hbw3 hsz3 hb4
      go_wp2_with fail
      have hu1 := set_second (v' := .string (p.2.dropAt x).str) hz1
      have hu2 : (w4.setCell ⟨w.heap.size, 1, none⟩ (.string (p.2.dropAt x).str)).heap[w.heap.size + 1]? = some (.cells #[.string ⟨#[]⟩, .string ⟨#[]⟩] 26 (0, 0)) := by
        rw [Below.heap_setCell _ _ _ _ (by simp)]; exact hz2
      have hbw5 : Below w.heap.size w (w4.setCell ⟨w.heap.size, 1, none⟩ (.string (p.2.dropAt x).str)) := hbw4.setCell (Nat.le_refl _) _
      have hsz5 : w.heap.size + 2 ≤ (w4.setCell ⟨w.heap.size, 1, none⟩ (.string (p.2.dropAt x).str)).heap.size := by simpa using hsz4
      go_roundw
      case rel => exact ⟨dropP p x, hu1, hu2, hbw5, hsz5, by omega, by omega, by show _ = _; rw [he.out, hstep.out]⟩
      case measure =>
        rw [sizeAt_of hu1, HS1.out, Tr.str_size, Tr.str_size]
        have hd1' : (p.1.dropAt x).carets + 1 = p.1.carets := hd1
        omega
end Go.Proofs.Ytjmbkieocmhmiaa

/-! WReducePair -/
namespace Go.Proofs.Ytjmbkieocmhmiaa
open Go.RowKit

set_option maxHeartbeats 1000000 in
theorem implReducePair_any (a b : ByteArray) (w : World) (ha : a.size ≤ 9223372036854775806) (hb : b.size ≤ 9223372036854775806) :
    Calls Try.prog 28 #[.agg #[.string a, .string b]] w (Gives (ansPr ((pairOf a b).bind fun p => some (red p))) w) := by
  have hg := fun w => isPair_any a b w ha hb
  cases h : pairOf a b with
  | none =>
    rw [h] at hg
    clear h
    go_enter Try.func28, Try.ntmps28
    go_wp2_with fail
    have hb0 : Below w.heap.size w ((w.alloc (.cells #[.string a, .string b] 26 (0, 0))).alloc (.cells #[.string ⟨#[]⟩, .string ⟨#[]⟩] 26 (0, 0))) := nxAlloc (nxAlloc (Below.refl _ _) _) _
    have hx0 := heap_keep (nxAlloc (Below.refl _ _) (.cells #[.string ⟨#[]⟩, .string ⟨#[]⟩] 26 (0, 0))) (heap_alloc_at w (.cells #[.string a, .string b] 26 (0, 0)))
    have hx1 := heap_alloc_at (w.alloc (.cells #[.string a, .string b] 26 (0, 0))) (.cells #[.string ⟨#[]⟩, .string ⟨#[]⟩] 26 (0, 0))
    generalize ((w.alloc (.cells #[.string a, .string b] 26 (0, 0))).alloc (.cells #[.string ⟨#[]⟩, .string ⟨#[]⟩] 26 (0, 0))) = w0 at *
    have e1 : (w.alloc (.cells #[.string a, .string b] 26 (0, 0))).heap.size = w.heap.size + 1 := by simp
    rw [e1] at hx1
    clear e1
    obtain ⟨hx0a, hx0b, hx0c⟩ := two_facts hx0
    obtain ⟨hx0f, hx0g⟩ := two_frozen hx0
    obtain ⟨hx1a, hx1b, hx1c⟩ := two_facts hx1
    obtain ⟨hx1f, hx1g⟩ := two_frozen hx1
    refine (hg _).mono ?_; rintro e w1 ⟨rfl, hb1⟩
    have hbw1 := nx hb0 hb1
    replace hx0 := heap_keep hb1 hx0
    replace hx1 := heap_keep hb1 hx1
    clear hx0a hx0b hx0c hx0f hx0g
    obtain ⟨hx0a, hx0b, hx0c⟩ := two_facts hx0
    obtain ⟨hx0f, hx0g⟩ := two_frozen hx0
    clear hx1a hx1b hx1c hx1f hx1g
    obtain ⟨hx1a, hx1b, hx1c⟩ := two_facts hx1
    obtain ⟨hx1f, hx1g⟩ := two_frozen hx1
    clear hb1 hb0
    go_wp2_with fail
    obtain ⟨q1, q2⟩ := two_cells (set_two (.string ⟨#[]⟩) (.string ⟨#[]⟩) hx1)
    refine bodyPost_ret (v := .tuple #[.agg #[.string ⟨#[]⟩, .string ⟨#[]⟩], .bool false]) (by simp [q1, q2, results, Try.results28, go_sem]) rfl ⟨rfl, ?_⟩
    exact (hbw1.setCell (by show w.heap.size ≤ w.heap.size + 1; omega) _).setCell (by show w.heap.size ≤ w.heap.size + 1; omega) _
  | some p =>
    rw [h] at hg
    obtain ⟨rfl, rfl, hok, hc1, hc2⟩ := pairOf_some h
    clear h
    show Calls _ _ _ _ (Gives (ansPr (some (red p))) w)
    go_enter Try.func28, Try.ntmps28
    go_wp2_with fail
    have hb0 : Below w.heap.size w ((w.alloc (.cells #[.string p.1.str, .string p.2.str] 26 (0, 0))).alloc (.cells #[.string ⟨#[]⟩, .string ⟨#[]⟩] 26 (0, 0))) := nxAlloc (nxAlloc (Below.refl _ _) _) _
    have hx0 := heap_keep (nxAlloc (Below.refl _ _) (.cells #[.string ⟨#[]⟩, .string ⟨#[]⟩] 26 (0, 0))) (heap_alloc_at w (.cells #[.string p.1.str, .string p.2.str] 26 (0, 0)))
    have hx1 := heap_alloc_at (w.alloc (.cells #[.string p.1.str, .string p.2.str] 26 (0, 0))) (.cells #[.string ⟨#[]⟩, .string ⟨#[]⟩] 26 (0, 0))
    generalize ((w.alloc (.cells #[.string p.1.str, .string p.2.str] 26 (0, 0))).alloc (.cells #[.string ⟨#[]⟩, .string ⟨#[]⟩] 26 (0, 0))) = w0 at *
    have e1 : (w.alloc (.cells #[.string p.1.str, .string p.2.str] 26 (0, 0))).heap.size = w.heap.size + 1 := by simp
    rw [e1] at hx1
    clear e1
    obtain ⟨hx0a, hx0b, hx0c⟩ := two_facts hx0
    obtain ⟨hx0f, hx0g⟩ := two_frozen hx0
    obtain ⟨hx1a, hx1b, hx1c⟩ := two_facts hx1
    obtain ⟨hx1f, hx1g⟩ := two_frozen hx1
    refine (hg _).mono ?_; rintro e w1 ⟨rfl, hb1⟩
    have hbw1 := nx hb0 hb1
    replace hx0 := heap_keep hb1 hx0
    replace hx1 := heap_keep hb1 hx1
    clear hx0a hx0b hx0c hx0f hx0g
    obtain ⟨hx0a, hx0b, hx0c⟩ := two_facts hx0
    obtain ⟨hx0f, hx0g⟩ := two_frozen hx0
    clear hx1a hx1b hx1c hx1f hx1g
    obtain ⟨hx1a, hx1b, hx1c⟩ := two_facts hx1
    obtain ⟨hx1f, hx1g⟩ := two_frozen hx1
    clear hb1 hb0
    go_wp2_with fail
    refine (reducedBy_first p _ (by omega) (by omega)).mono ?_; rintro e w2 ⟨rfl, hb2⟩
    have hbw2 := nx hbw1 hb2
    replace hx0 := heap_keep hb2 hx0
    replace hx1 := heap_keep hb2 hx1
    clear hx0a hx0b hx0c hx0f hx0g
    obtain ⟨hx0a, hx0b, hx0c⟩ := two_facts hx0
    obtain ⟨hx0f, hx0g⟩ := two_frozen hx0
    clear hx1a hx1b hx1c hx1f hx1g
    obtain ⟨hx1a, hx1b, hx1c⟩ := two_facts hx1
    obtain ⟨hx1f, hx1g⟩ := two_frozen hx1
    clear hb2 hbw1
    go_wp2_with fail
    obtain ⟨q1, q2⟩ := two_cells (set_two (.string (red p).1.str) (.string (red p).2.str) hx1)
    refine bodyPost_ret (v := .tuple #[.agg #[.string (red p).1.str, .string (red p).2.str], .bool true]) (by simp [q1, q2, results, Try.results28, go_sem]) rfl ⟨rfl, ?_⟩
    exact (hbw2.setCell (by show w.heap.size ≤ w.heap.size + 1; omega) _).setCell (by show w.heap.size ≤ w.heap.size + 1; omega) _

end Go.Proofs.Ytjmbkieocmhmiaa

/-! Join -/
namespace Go.Proofs.Ytjmbkieocmhmiaa
open Go.RowKit

set_option maxRecDepth 100000 in
set_option maxHeartbeats 2000000 in
theorem join_any (t : Tr) : ∀ (u : Tr) (b c : Nat) (w : World), NodeAt w t b → NodeAt w u c →
    Calls Try.prog 45 #[.pointer (some ⟨b, 0, none⟩), .pointer (some ⟨c, 0, none⟩)] w (GivesNode (t.join u) w) := by
  induction t with
  | lf =>
    intro u b c w h k
    have H := Lib.hid h
    have K := Lib.hid k
    clear h k
    go_enter Try.func45, Try.ntmps45
    go_wp2_with fail
    refine (isLeaf_any .lf b _ H.out).mono ?_; rintro e w1 ⟨rfl, rfl⟩
    simp only [Tr.isLf]
    go_wp2_with fail
    go_ret
    exact ⟨c, K.out, Below.refl _ _, rfl⟩
  | nd l r ihl ihr =>
    intro u b c w h k
    cases u with
    | lf =>
      have H := Lib.hid h
      have K := Lib.hid k
      clear h k ihl ihr
      go_enter Try.func45, Try.ntmps45
      go_wp2_with fail
      refine (isLeaf_any (.nd l r) b _ H.out).mono ?_; rintro e w1 ⟨rfl, rfl⟩
      simp only [Tr.isLf]
      go_wp2_with fail
      refine (isLeaf_any .lf c _ K.out).mono ?_; rintro e w1 ⟨rfl, rfl⟩
      simp only [Tr.isLf]
      go_wp2_with fail
      go_ret
      exact ⟨b, H.out, Below.refl _ _, rfl⟩
    | nd p q =>
      have H := Lib.hid h
      have K := Lib.hid k
      obtain ⟨bl, br, h, hl, hr⟩ := h
      obtain ⟨cl, cr, k, kl, kr⟩ := k
      have h1 := two_left h
      have h2 := two_right h
      have k1 := two_left k
      have k2 := two_right k
      clear h k
      go_enter Try.func45, Try.ntmps45
      go_wp2_with fail
      refine (isLeaf_any (.nd l r) b _ H.out).mono ?_; rintro e w1 ⟨rfl, rfl⟩
      simp only [Tr.isLf]
      go_wp2_with fail
      refine (isLeaf_any (.nd p q) c _ K.out).mono ?_; rintro e w1 ⟨rfl, rfl⟩
      simp only [Tr.isLf]
      go_wp2_with fail
      have hb0 := Below.refl w.heap.size w
      go_region_held3 (fun w' => w'.cell? ⟨b, 0, none⟩ = some (.pointer (some ⟨bl, 0, none⟩)) ∧ w'.cell? ⟨b, 1, none⟩ = some (.pointer (some ⟨br, 0, none⟩)) ∧ w'.cell? ⟨c, 0, none⟩ = some (.pointer (some ⟨cl, 0, none⟩)) ∧ w'.cell? ⟨c, 1, none⟩ = some (.pointer (some ⟨cr, 0, none⟩)))
          (first
            | exact ⟨h1, h2, k1, k2⟩
            | exact ⟨q1, q2, q3, q4⟩
            | exact ⟨s1, s2, s3, s4⟩
            | exact ⟨(a1 _).1, (a1 _).2, (a2 _).1, (a2 _).2⟩)
          (first
          | (go_at_call_of 45 (some (⟨bl, 0, none⟩ : Addr)); refine (ihl p bl cl _ ?_ ?_).mono ?_; exact hl.keep hb0.drew; exact kl.keep hb0.drew; rintro e w1 ⟨b1, hn1, hb1, rfl⟩; have hb1' := nx hb0.drew hb1; obtain ⟨q1, q2⟩ := below_two hb1' h1 h2; obtain ⟨q3, q4⟩ := below_two hb1' k1 k2)
          | (go_at_call_of 45 (some (⟨br, 0, none⟩ : Addr)); refine (ihr q br cr _ ?_ ?_).mono ?_; exact hr.keep hb1'; exact kr.keep hb1'; rintro e w2 ⟨b2, hn2, hb2, rfl⟩; have hb2' := nx hb1' hb2; obtain ⟨s1, s2⟩ := below_two hb2' h1 h2; obtain ⟨s3, s4⟩ := below_two hb2' k1 k2; have a1 := fun o => below_two (nxAlloc hb2' o) h1 h2; have a2 := fun o => below_two (nxAlloc hb2' o) k1 k2))
      all_goals (try go_wp2_with fail)
      all_goals go_ret
      all_goals exact ⟨_, node_new hn1 hb2 hn2, nxAlloc hb2' _, rfl⟩
end Go.Proofs.Ytjmbkieocmhmiaa

/-! Two -/
namespace Go.Proofs.Ytjmbkieocmhmiaa
open Go.RowKit

/-- An answer of two bools. -/
def ansB (o : Option Bool) : Value := .tuple #[.bool (o == some true), .bool o.isSome]
theorem com_str (t u : Tr) : ((t.com u).str.toList == t.str.toList) = t.part u := by
  rw [Bool.eq_iff_iff, ← com_eq_part]
  simp only [Lib.toList_data, Tr.str_list, beq_iff_eq]
  constructor
  · intro h
    exact (Tr.text_inj (r := []) (q := []) (by rw [h])).1
  · intro h; rw [h]

end Go.Proofs.Ytjmbkieocmhmiaa

/-! WIsReduced -/
namespace Go.Proofs.Ytjmbkieocmhmiaa
open Go.RowKit

theorem prBoth_tr (p : Pr) (w : World) (k1 : p.1.carets ≤ 200) (k2 : p.2.carets ≤ 200) : Calls Try.prog 31 #[.agg #[.string p.1.str, .string p.2.str]] w (GivesInts (both p) w) := by
  have := prBoth_any p.1.str p.2.str w (by have := p.1.str_size; omega) (by have := p.2.str_size; omega)
  rwa [bothL_str] at this
theorem str_inj {t u : Tr} (h : t.str.toList = u.str.toList) : t = u := by
  simp only [Lib.toList_data, Tr.str_list] at h
  exact (Tr.text_inj (r := []) (q := []) (by rw [h])).1

set_option maxHeartbeats 1000000 in
theorem implIsReduced_any (a b : ByteArray) (w : World) (ha : a.size ≤ 9223372036854775806) (hb : b.size ≤ 9223372036854775806) :
    Calls Try.prog 10 #[.agg #[.string a, .string b]] w (Gives (ansB ((pairOf a b).bind fun p => some (both p).isEmpty)) w) := by
  have hg := fun w => implReducePair_any a b w ha hb
  cases h : pairOf a b with
  | none =>
    rw [h] at hg
    unfold ansPr at hg
    clear h
    go_enter Try.func10, Try.ntmps10
    go_wp2_with fail
    have hb0 : Below w.heap.size w (w.alloc (.cells #[.string a, .string b] 26 (0, 0))) := nxAlloc (Below.refl _ _) _
    have hx0 := heap_alloc_at w (.cells #[.string a, .string b] 26 (0, 0))
    generalize (w.alloc (.cells #[.string a, .string b] 26 (0, 0))) = w0 at *
    obtain ⟨hx0a, hx0b, hx0c⟩ := two_facts hx0
    obtain ⟨hx0f, hx0g⟩ := two_frozen hx0
    refine (hg _).mono ?_; rintro e w1 ⟨rfl, hb1⟩
    have hbw1 := nx hb0 hb1
    replace hx0 := heap_keep hb1 hx0
    clear hx0a hx0b hx0c hx0f hx0g
    obtain ⟨hx0a, hx0b, hx0c⟩ := two_facts hx0
    obtain ⟨hx0f, hx0g⟩ := two_frozen hx0
    clear hb1 hb0
    go_wp2_with fail
    go_ret2
    exact ⟨rfl, nxAlloc hbw1 _⟩
  | some p =>
    rw [h] at hg
    obtain ⟨rfl, rfl, hok, hc1, hc2⟩ := pairOf_some h
    clear h
    show Calls _ _ _ _ (Gives (ansB (some (both p).isEmpty)) w)
    have hg' : ∀ w, Calls Try.prog 28 #[.agg #[.string p.1.str, .string p.2.str]] w (Gives (.tuple #[.agg #[.string (red p).1.str, .string (red p).2.str], .bool true]) w) := hg
    clear hg
    cases hbp : both p with
    | nil =>
      have hr := (red_self p).2 hbp
      rw [hr] at hg'
      clear hr hbp
      go_enter Try.func10, Try.ntmps10
      go_wp2_with fail
      have hb0 : Below w.heap.size w (w.alloc (.cells #[.string p.1.str, .string p.2.str] 26 (0, 0))) := nxAlloc (Below.refl _ _) _
      have hx0 := heap_alloc_at w (.cells #[.string p.1.str, .string p.2.str] 26 (0, 0))
      generalize (w.alloc (.cells #[.string p.1.str, .string p.2.str] 26 (0, 0))) = w0 at *
      obtain ⟨hx0a, hx0b, hx0c⟩ := two_facts hx0
      obtain ⟨hx0f, hx0g⟩ := two_frozen hx0
      refine (hg' _).mono ?_; rintro e w1 ⟨rfl, hb1⟩
      have hbw1 := nx hb0 hb1
      replace hx0 := heap_keep hb1 hx0
      clear hx0a hx0b hx0c hx0f hx0g
      obtain ⟨hx0a, hx0b, hx0c⟩ := two_facts hx0
      obtain ⟨hx0f, hx0g⟩ := two_frozen hx0
      clear hb1 hb0
      go_wp2_with fail
      have hbw2 := nxAlloc hbw1 (.cells #[.string p.1.str, .string p.2.str] 26 (0, 0))
      replace hx0 := heap_keep (nxAlloc (Below.refl _ _) (.cells #[.string p.1.str, .string p.2.str] 26 (0, 0))) hx0
      have hy2 := heap_alloc_at w1 (.cells #[.string p.1.str, .string p.2.str] 26 (0, 0))
      generalize w1.alloc (.cells #[.string p.1.str, .string p.2.str] 26 (0, 0)) = w2 at *
      clear hbw1
      clear hx0a hx0b hx0c hx0f hx0g
      obtain ⟨hx0a, hx0b, hx0c⟩ := two_facts hx0
      obtain ⟨hx0f, hx0g⟩ := two_frozen hx0
      obtain ⟨hy2a, hy2b, hy2c⟩ := two_facts hy2
      obtain ⟨hy2f, hy2g⟩ := two_frozen hy2
      go_wp2_with fail
      go_ret2
      exact ⟨rfl, hbw2⟩
    | cons n ns =>
      have hr : ¬ red p = p := fun e => by rw [(red_self p).1 e] at hbp; cases hbp
      clear hbp
      by_cases h1 : (red p).1 = p.1
      · have h2 : ¬ p.2.str.toList = (red p).2.str.toList := fun e => hr (Prod.ext h1 (str_inj e).symm)
        rw [h1] at hg'
        clear h1 hr
        go_enter Try.func10, Try.ntmps10
        go_wp2_with fail
        have hb0 : Below w.heap.size w (w.alloc (.cells #[.string p.1.str, .string p.2.str] 26 (0, 0))) := nxAlloc (Below.refl _ _) _
        have hx0 := heap_alloc_at w (.cells #[.string p.1.str, .string p.2.str] 26 (0, 0))
        generalize (w.alloc (.cells #[.string p.1.str, .string p.2.str] 26 (0, 0))) = w0 at *
        obtain ⟨hx0a, hx0b, hx0c⟩ := two_facts hx0
        obtain ⟨hx0f, hx0g⟩ := two_frozen hx0
        refine (hg' _).mono ?_; rintro e w1 ⟨rfl, hb1⟩
        have hbw1 := nx hb0 hb1
        replace hx0 := heap_keep hb1 hx0
        clear hx0a hx0b hx0c hx0f hx0g
        obtain ⟨hx0a, hx0b, hx0c⟩ := two_facts hx0
        obtain ⟨hx0f, hx0g⟩ := two_frozen hx0
        clear hb1 hb0
        go_wp2_with fail
        have hbw2 := nxAlloc hbw1 (.cells #[.string p.1.str, .string (red p).2.str] 26 (0, 0))
        replace hx0 := heap_keep (nxAlloc (Below.refl _ _) (.cells #[.string p.1.str, .string (red p).2.str] 26 (0, 0))) hx0
        have hy2 := heap_alloc_at w1 (.cells #[.string p.1.str, .string (red p).2.str] 26 (0, 0))
        generalize w1.alloc (.cells #[.string p.1.str, .string (red p).2.str] 26 (0, 0)) = w2 at *
        clear hbw1
        clear hx0a hx0b hx0c hx0f hx0g
        obtain ⟨hx0a, hx0b, hx0c⟩ := two_facts hx0
        obtain ⟨hx0f, hx0g⟩ := two_frozen hx0
        obtain ⟨hy2a, hy2b, hy2c⟩ := two_facts hy2
        obtain ⟨hy2f, hy2g⟩ := two_frozen hy2
        go_wp2_with fail
        go_ret2
        exact ⟨rfl, hbw2⟩
      · have h2 : ¬ p.1.str.toList = (red p).1.str.toList := fun e => h1 (str_inj e).symm
        clear h1 hr
        go_enter Try.func10, Try.ntmps10
        go_wp2_with fail
        have hb0 : Below w.heap.size w (w.alloc (.cells #[.string p.1.str, .string p.2.str] 26 (0, 0))) := nxAlloc (Below.refl _ _) _
        have hx0 := heap_alloc_at w (.cells #[.string p.1.str, .string p.2.str] 26 (0, 0))
        generalize (w.alloc (.cells #[.string p.1.str, .string p.2.str] 26 (0, 0))) = w0 at *
        obtain ⟨hx0a, hx0b, hx0c⟩ := two_facts hx0
        obtain ⟨hx0f, hx0g⟩ := two_frozen hx0
        refine (hg' _).mono ?_; rintro e w1 ⟨rfl, hb1⟩
        have hbw1 := nx hb0 hb1
        replace hx0 := heap_keep hb1 hx0
        clear hx0a hx0b hx0c hx0f hx0g
        obtain ⟨hx0a, hx0b, hx0c⟩ := two_facts hx0
        obtain ⟨hx0f, hx0g⟩ := two_frozen hx0
        clear hb1 hb0
        go_wp2_with fail
        have hbw2 := nxAlloc hbw1 (.cells #[.string (red p).1.str, .string (red p).2.str] 26 (0, 0))
        replace hx0 := heap_keep (nxAlloc (Below.refl _ _) (.cells #[.string (red p).1.str, .string (red p).2.str] 26 (0, 0))) hx0
        have hy2 := heap_alloc_at w1 (.cells #[.string (red p).1.str, .string (red p).2.str] 26 (0, 0))
        generalize w1.alloc (.cells #[.string (red p).1.str, .string (red p).2.str] 26 (0, 0)) = w2 at *
        clear hbw1
        clear hx0a hx0b hx0c hx0f hx0g
        obtain ⟨hx0a, hx0b, hx0c⟩ := two_facts hx0
        obtain ⟨hx0f, hx0g⟩ := two_frozen hx0
        obtain ⟨hy2a, hy2b, hy2c⟩ := two_facts hy2
        obtain ⟨hy2f, hy2g⟩ := two_frozen hy2
        go_wp2_with fail
        go_ret2
        exact ⟨rfl, hbw2⟩

end Go.Proofs.Ytjmbkieocmhmiaa

/-! WAreSamePairs -/
namespace Go.Proofs.Ytjmbkieocmhmiaa
open Go.RowKit

/-- Do both pairs have the same reduced one? -/
noncomputable def sameB (p q : Pr) : Bool := @decide (red p = red q) (Classical.propDecidable _)

end Go.Proofs.Ytjmbkieocmhmiaa

/-! EqP -/
namespace Go.Proofs.Ytjmbkieocmhmiaa

theorem red_first0 {p : Pr} (hl : 0 < (both p).length) : red p = red (dropP p ((both p).getD 0 0)) := by
  cases h : both p with
  | nil => rw [h] at hl; simp at hl
  | cons n ns =>
    have := redBy_step h []
    exact this
theorem mem_nd {x y : Tr} {n : Int} (h : ¬ (x = .lf ∧ y = .lf)) : n ∈ (Tr.nd x y).exps 0 ↔ n ∈ x.exps 0 ∨ n - x.leaves ∈ y.exps 0 := by
  have hb : (x.isLf && y.isLf) = false := by
    rw [Bool.eq_false_iff]
    exact fun e => h (both_lf e)
  rw [Tr.exps, hb]
  simp only [Bool.false_eq_true, if_false, List.nil_append, List.mem_append, Int.zero_add]
  rw [exps_shift_mem y]
theorem exps_ne {x : Tr} {n : Int} (h : n ∈ x.exps 0) : x ≠ .lf := by
  intro e
  rw [e] at h
  simp [Tr.exps] at h
theorem mem_left {x y : Tr} {n : Int} (h : n ∈ x.exps 0) : n ∈ (Tr.nd x y).exps 0 := (mem_nd (fun e => exps_ne h e.1)).2 (.inl h)
theorem mem_right {x y : Tr} {n : Int} (h : n - x.leaves ∈ y.exps 0) : n ∈ (Tr.nd x y).exps 0 := (mem_nd (fun e => exps_ne h e.2)).2 (.inr h)
theorem drop_left {x y : Tr} {n : Int} (h : n ∈ x.exps 0) : (Tr.nd x y).dropAt n = .nd (x.dropAt n) y := by
  have hb : (x.isLf && y.isLf) = false := by
    rw [Bool.eq_false_iff]
    exact fun e => exps_ne h (both_lf e).1
  have := exps_range x 0 n h
  rw [Tr.dropAt, hb, if_neg (by simp), if_pos (by omega)]
theorem drop_right {x y : Tr} {n : Int} (h : n - x.leaves ∈ y.exps 0) : (Tr.nd x y).dropAt n = .nd x (y.dropAt (n - x.leaves)) := by
  have hb : (x.isLf && y.isLf) = false := by
    rw [Bool.eq_false_iff]
    exact fun e => exps_ne h (both_lf e).2
  have := exps_range y 0 _ h
  rw [Tr.dropAt, hb, if_neg (by simp), if_neg (by omega)]
theorem mem_cases {x y : Tr} {n : Int} (h : n ∈ (Tr.nd x y).exps 0) : (x = .lf ∧ y = .lf ∧ n = 0) ∨ n ∈ x.exps 0 ∨ n - x.leaves ∈ y.exps 0 := by
  by_cases e : x = .lf ∧ y = .lf
  · obtain ⟨rfl, rfl⟩ := e
    simp [Tr.exps, Tr.isLf] at h
    exact .inl ⟨rfl, rfl, h⟩
  · exact .inr ((mem_nd e).1 h)
theorem drop_leaves {t : Tr} {n : Int} (h : n ∈ t.exps 0) : ((t.dropAt n).leaves : Int) = t.leaves - 1 := by
  have := dropAt_carets t n h
  unfold Tr.leaves
  omega

/-- Two exposed carets are dropped in either order. -/
theorem drop_two (t : Tr) : ∀ n m : Int, n ∈ t.exps 0 → m ∈ t.exps 0 → n < m →
    n ∈ (t.dropAt m).exps 0 ∧ m - 1 ∈ (t.dropAt n).exps 0 ∧ (t.dropAt m).dropAt n = (t.dropAt n).dropAt (m - 1) := by
  induction t with
  | lf => intro n m h; simp [Tr.exps] at h
  | nd x y ihx ihy =>
    intro n m hn hm hlt
    rcases mem_cases hn with ⟨rfl, rfl, rfl⟩ | hn | hn
    · rcases mem_cases hm with ⟨_, _, rfl⟩ | hm | hm
      · omega
      · simp [Tr.exps] at hm
      · simp [Tr.exps] at hm
    · rcases mem_cases hm with ⟨rfl, _, _⟩ | hm | hm
      · exact absurd rfl (exps_ne hn)
      · obtain ⟨h1, h2, h3⟩ := ihx n m hn hm hlt
        rw [drop_left hm, drop_left hn, drop_left h1, drop_left h2, h3]
        exact ⟨mem_left h1, mem_left h2, rfl⟩
      · have hl := drop_leaves hn
        have hr : m - 1 - ((x.dropAt n).leaves : Int) = m - x.leaves := by omega
        rw [drop_right hm, drop_left hn, drop_left hn, drop_right (by rw [hr]; exact hm), hr]
        exact ⟨mem_left hn, mem_right (by rw [hr]; exact hm), rfl⟩
    · rcases mem_cases hm with ⟨_, rfl, _⟩ | hm | hm
      · exact absurd rfl (exps_ne hn)
      · have h1 := exps_range x 0 m hm
        have h2 := exps_range y 0 _ hn
        omega
      · obtain ⟨h1, h2, h3⟩ := ihy _ _ hn hm (by omega)
        have e : m - 1 - (x.leaves : Int) = m - x.leaves - 1 := by omega
        rw [drop_right hm, drop_right hn, drop_right h1, drop_right (by rw [e]; exact h2), e, h3]
        exact ⟨mem_right h1, mem_right (by rw [e]; exact h2), rfl⟩

theorem both_two {p : Pr} {n m : Int} (hn : n ∈ both p) (hm : m ∈ both p) (h : n < m) :
    n ∈ both (dropP p m) ∧ m - 1 ∈ both (dropP p n) ∧ dropP (dropP p m) n = dropP (dropP p n) (m - 1) := by
  rw [mem_both] at hn hm
  obtain ⟨a1, a2, a3⟩ := drop_two p.1 n m hn.1 hm.1 h
  obtain ⟨b1, b2, b3⟩ := drop_two p.2 n m hn.2 hm.2 h
  exact ⟨mem_both.2 ⟨a1, b1⟩, mem_both.2 ⟨a2, b2⟩, by unfold dropP; dsimp only; rw [a3, b3]⟩

/-- Whatever is dropped first, the same reduced pair is left. -/
theorem red_drop : ∀ (k : Nat) (p : Pr), p.1.carets = k → ∀ n, n ∈ both p → red (dropP p n) = red p := by
  intro k
  induction k using Nat.strongRecOn with
  | _ k ih =>
    intro p hk n hn
    have hl : 0 < (both p).length := List.length_pos_of_mem hn
    have h0 := red_first0 hl
    have hm : (both p).getD 0 0 ∈ both p := by
      cases hb : both p with
      | nil => rw [hb] at hl; simp at hl
      | cons a l => simp
    generalize (both p).getD 0 0 = m at h0 hm
    rw [h0]
    have c1 := dropP_carets hn
    have c2 := dropP_carets hm
    rcases Int.lt_trichotomy n m with h | h | h
    · obtain ⟨h1, h2, h3⟩ := both_two hn hm h
      rw [← ih (dropP p m).1.carets (by omega) _ rfl n h1, ← ih (dropP p n).1.carets (by omega) _ rfl (m - 1) h2, h3]
    · rw [h]
    · obtain ⟨h1, h2, h3⟩ := both_two hm hn h
      rw [← ih (dropP p n).1.carets (by omega) _ rfl m h1, ← ih (dropP p m).1.carets (by omega) _ rfl (n - 1) h2, h3]

theorem fillR_app (t : Tr) : ∀ us vs : List Tr, us.length = t.leaves → t.fillR (us ++ vs) = (t.fill us, vs) := by
  induction t with
  | lf =>
    intro us vs h
    match us, h with
    | [u], _ => rfl
    | [], h => simp [Tr.leaves] at h
    | _ :: _ :: _, h => simp [Tr.leaves, Tr.carets] at h
  | nd l r ihl ihr =>
    intro us vs h
    rw [leaves_nd] at h
    have hA : (us.take l.leaves).length = l.leaves := by rw [List.length_take]; omega
    have hB : (us.drop l.leaves).length = r.leaves := by rw [List.length_drop]; omega
    have e := List.take_append_drop l.leaves us
    generalize us.take l.leaves = A at *
    generalize us.drop l.leaves = B at *
    subst e
    have h1 := ihl A (B ++ vs) hA
    have h2 := ihr B vs hB
    have h3 := ihl A B hA
    have h4 := ihr B [] hB
    rw [List.append_nil] at h4
    have e : Tr.fill (.nd l r) (A ++ B) = .nd (l.fill A) (r.fill B) := by
      show Tr.nd (l.fillR (A ++ B)).1 (r.fillR (l.fillR (A ++ B)).2).1 = _
      rw [h3, h4]
    rw [e, Tr.fillR, List.append_assoc, h1, h2]
theorem fill_nd {l r : Tr} {A B : List Tr} (hA : A.length = l.leaves) (hB : B.length = r.leaves) : Tr.fill (.nd l r) (A ++ B) = .nd (l.fill A) (r.fill B) := by
  have h3 := fillR_app l A B hA
  have h4 := fillR_app r B [] hB
  rw [List.append_nil] at h4
  show Tr.nd (l.fillR (A ++ B)).1 (r.fillR (l.fillR (A ++ B)).2).1 = _
  rw [h3, h4]
theorem fill_lf (u : Tr) : Tr.fill .lf [u] = u := rfl
/-- Leaves of a list of trees. -/
def sumL (us : List Tr) : Nat := (us.map Tr.leaves).sum
theorem sumL_cons (u : Tr) (us : List Tr) : sumL (u :: us) = u.leaves + sumL us := by simp [sumL]
theorem sumL_append (us vs : List Tr) : sumL (us ++ vs) = sumL us + sumL vs := by simp [sumL]
theorem sumL_eq (us : List Tr) : sumL us = sumC us + us.length := by
  induction us with
  | nil => rfl
  | cons u us ih => rw [sumL_cons, sumC_cons, ih, List.length_cons]; unfold Tr.leaves; omega
theorem fill_leaves {t : Tr} {us : List Tr} (h : us.length = t.leaves) : (t.fill us).leaves = sumL us := by
  rw [sumL_eq, h]
  unfold Tr.leaves
  rw [fill_carets t us h]
  omega
/-- The list of a caret's leaves, parted. -/
theorem partsT {l r : Tr} {us : List Tr} (h : us.length = (Tr.nd l r).leaves) : ∃ A B, us = A ++ B ∧ A.length = l.leaves ∧ B.length = r.leaves := by
  rw [leaves_nd] at h
  exact ⟨us.take l.leaves, us.drop l.leaves, (List.take_append_drop _ _).symm, by rw [List.length_take]; omega, by rw [List.length_drop]; omega⟩

/-- An exposed caret that was filled in. -/
theorem fill_drop (t : Tr) : ∀ (ps : List Tr) (u : Tr) (bs : List Tr) (m : Int), (ps ++ u :: bs).length = t.leaves → m ∈ u.exps 0 →
    ((sumL ps : Int) + m) ∈ (t.fill (ps ++ u :: bs)).exps 0 ∧ (t.fill (ps ++ u :: bs)).dropAt ((sumL ps : Int) + m) = t.fill (ps ++ u.dropAt m :: bs) := by
  induction t with
  | lf =>
    intro ps u bs m h hm
    match ps, bs, h with
    | [], [], _ =>
      have e : ((sumL [] : Nat) : Int) + m = m := by simp [sumL]
      rw [e]
      exact ⟨hm, rfl⟩
    | [], _ :: _, h => simp [Tr.leaves, Tr.carets] at h
    | _ :: _, _, h => simp [Tr.leaves, Tr.carets] at h
  | nd l r ihl ihr =>
    intro ps u bs m h hm
    rw [leaves_nd, List.length_append, List.length_cons] at h
    by_cases hlt : ps.length < l.leaves
    · have hb1 : (bs.take (l.leaves - ps.length - 1)).length = l.leaves - ps.length - 1 := by rw [List.length_take]; omega
      have hb2 : (bs.drop (l.leaves - ps.length - 1)).length = r.leaves := by rw [List.length_drop]; omega
      have e := List.take_append_drop (l.leaves - ps.length - 1) bs
      generalize bs.take (l.leaves - ps.length - 1) = b1 at *
      generalize bs.drop (l.leaves - ps.length - 1) = b2 at *
      subst e
      have hA : ∀ v : Tr, (ps ++ v :: b1).length = l.leaves := by intro v; rw [List.length_append, List.length_cons]; omega
      have ee : ∀ v : Tr, ps ++ v :: (b1 ++ b2) = (ps ++ v :: b1) ++ b2 := by intro v; simp
      obtain ⟨h1, h2⟩ := ihl ps u b1 m (hA u) hm
      rw [ee, ee, fill_nd (hA _) hb2, fill_nd (hA _) hb2, drop_left h1, h2]
      exact ⟨mem_left h1, rfl⟩
    · have ha1 : (ps.take l.leaves).length = l.leaves := by rw [List.length_take]; omega
      have ha2 : (ps.drop l.leaves).length + l.leaves = ps.length := by rw [List.length_drop]; omega
      have e := List.take_append_drop l.leaves ps
      generalize ps.take l.leaves = a1 at *
      generalize ps.drop l.leaves = a2 at *
      subst e
      have hB : ∀ v : Tr, (a2 ++ v :: bs).length = r.leaves := by intro v; rw [List.length_append, List.length_cons]; omega
      have ee : ∀ v : Tr, a1 ++ a2 ++ v :: bs = a1 ++ (a2 ++ v :: bs) := by intro v; simp
      obtain ⟨h1, h2⟩ := ihr a2 u bs m (hB u) hm
      have hl := fill_leaves ha1
      have es : ((sumL (a1 ++ a2) : Nat) : Int) + m - ((l.fill a1).leaves : Int) = (sumL a2 : Int) + m := by rw [sumL_append, hl]; omega
      rw [ee, ee, fill_nd ha1 (hB _), fill_nd ha1 (hB _), drop_right (by rw [es]; exact h1), es, h2]
      exact ⟨mem_right (by rw [es]; exact h1), rfl⟩

theorem ex_exps (t : Tr) : 0 < t.carets → ∃ m, m ∈ t.exps 0 := by
  induction t with
  | lf => intro h; simp [Tr.carets] at h
  | nd x y ihx ihy =>
    intro _
    by_cases hx : 0 < x.carets
    · obtain ⟨m, hm⟩ := ihx hx
      exact ⟨m, mem_left hm⟩
    · by_cases hy : 0 < y.carets
      · obtain ⟨m, hm⟩ := ihy hy
        exact ⟨m + x.leaves, mem_right (by rw [show m + (x.leaves : Int) - x.leaves = m by omega]; exact hm)⟩
      · have e1 : x = .lf := by cases x with
          | lf => rfl
          | nd _ _ => simp [Tr.carets] at hx
        have e2 : y = .lf := by cases y with
          | lf => rfl
          | nd _ _ => simp [Tr.carets] at hy
        subst e1; subst e2
        exact ⟨0, by simp [Tr.exps, Tr.isLf]⟩
theorem fill_lfs (t : Tr) : t.fill (List.replicate t.leaves .lf) = t := by
  induction t with
  | lf => rfl
  | nd l r ihl ihr => rw [leaves_nd, ← List.replicate_append_replicate, fill_nd (by simp) (by simp), ihl, ihr]
theorem all_lf (us : List Tr) (h : sumC us = 0) : us = List.replicate us.length .lf := by
  induction us with
  | nil => rfl
  | cons u us ih =>
    rw [sumC_cons] at h
    rw [List.length_cons, List.replicate_succ, ← ih (by omega)]
    cases u with
    | lf => rfl
    | nd _ _ => simp [Tr.carets] at h
theorem ex_caret (us : List Tr) : 0 < sumC us → ∃ ps u bs, us = ps ++ u :: bs ∧ 0 < u.carets := by
  induction us with
  | nil => intro h; simp [sumC] at h
  | cons u us ih =>
    intro h
    by_cases hu : 0 < u.carets
    · exact ⟨[], u, us, rfl, hu⟩
    · rw [sumC_cons] at h
      obtain ⟨ps, v, bs, rfl, hv⟩ := ih (by omega)
      exact ⟨u :: ps, v, bs, rfl, hv⟩
/-- A pair with trees at its leaves. -/
def expE (p : Pr) (us : List Tr) : Pr := (p.1.fill us, p.2.fill us)
theorem red_expE {p : Pr} (hp : okP p) : ∀ (k : Nat) (us : List Tr), sumC us = k → us.length = p.1.leaves → red (expE p us) = red p := by
  have hq : p.1.leaves = p.2.leaves := by unfold okP at hp; unfold Tr.leaves; omega
  intro k
  induction k with
  | zero =>
    intro us h hl
    have e := all_lf us h
    rw [hl] at e
    have : expE p us = p := by
      unfold expE
      rw [e, fill_lfs, hq, fill_lfs]
    rw [this]
  | succ k ih =>
    intro us h hl
    obtain ⟨ps, u, bs, rfl, hu⟩ := ex_caret us (by omega)
    obtain ⟨m, hm⟩ := ex_exps u hu
    obtain ⟨a1, a2⟩ := fill_drop p.1 ps u bs m hl hm
    obtain ⟨b1, b2⟩ := fill_drop p.2 ps u bs m (by omega) hm
    have hb : ((sumL ps : Int) + m) ∈ both (expE p (ps ++ u :: bs)) := mem_both.2 ⟨a1, b1⟩
    have hd : dropP (expE p (ps ++ u :: bs)) ((sumL ps : Int) + m) = expE p (ps ++ u.dropAt m :: bs) := by
      unfold dropP expE
      dsimp only
      rw [a2, b2]
    have hc := dropAt_carets u m hm
    rw [← red_drop _ _ rfl _ hb, hd]
    refine ih _ ?_ ?_
    · rw [sumC_append, sumC_cons] at h ⊢; omega
    · rw [← hl]; simp

/-- Trees with trees at their leaves. -/
def compT : List Tr → List Tr → List Tr
  | [], _ => []
  | u :: us, vs => u.fill (vs.take u.leaves) :: compT us (vs.drop u.leaves)
theorem compT_length (us : List Tr) : ∀ vs, (compT us vs).length = us.length := by
  induction us with
  | nil => intro vs; rfl
  | cons u us ih => intro vs; simp [compT, ih]
theorem compT_append (A : List Tr) : ∀ (B V W : List Tr), V.length = sumL A → compT (A ++ B) (V ++ W) = compT A V ++ compT B W := by
  induction A with
  | nil => intro B V W h; obtain rfl : V = [] := List.length_eq_zero_iff.1 (by simpa [sumL] using h); rfl
  | cons u A ih =>
    intro B V W h
    rw [sumL_cons] at h
    rw [List.cons_append, compT, compT, List.take_append_of_le_length (by omega), List.drop_append_of_le_length (by omega), ih _ _ _ (by rw [List.length_drop]; omega)]
    rfl
theorem fill_comp (t : Tr) : ∀ us vs : List Tr, us.length = t.leaves → vs.length = sumL us → t.fill (compT us vs) = (t.fill us).fill vs := by
  induction t with
  | lf =>
    intro us vs h hv
    match us, h with
    | [u], _ =>
      simp [sumL] at hv
      show Tr.fill .lf [u.fill (vs.take u.leaves)] = u.fill vs
      rw [fill_lf, List.take_of_length_le (by omega)]
    | [], h => simp [Tr.leaves] at h
    | _ :: _ :: _, h => simp [Tr.leaves, Tr.carets] at h
  | nd l r ihl ihr =>
    intro us vs h hv
    obtain ⟨A, B, rfl, hA, hB⟩ := partsT h
    rw [sumL_append] at hv
    have hV : (vs.take (sumL A)).length = sumL A := by rw [List.length_take]; omega
    have hW : (vs.drop (sumL A)).length = sumL B := by rw [List.length_drop]; omega
    have e := List.take_append_drop (sumL A) vs
    generalize vs.take (sumL A) = V at *
    generalize vs.drop (sumL A) = W at *
    subst e
    rw [compT_append _ _ _ _ hV, fill_nd (by rw [compT_length, hA]) (by rw [compT_length, hB]), fill_nd hA hB, fill_nd (by rw [hV, fill_leaves hA]) (by rw [hW, fill_leaves hB]), ihl A V hA hV, ihr B W hB hW]
theorem fill_subs (a : Tr) : ∀ g : Tr, a.part g = true → a.fill (a.subs g) = g := by
  induction a with
  | lf => intro g h; rfl
  | nd l r ihl ihr =>
    intro g h
    cases g with
    | lf => simp [Tr.part] at h
    | nd p q =>
      simp [Tr.part] at h
      rw [Tr.subs, fill_nd (below_carets l p h.1).2 (below_carets r q h.2).2, ihl p h.1, ihr q h.2]
theorem subs_fill (a : Tr) : ∀ us : List Tr, us.length = a.leaves → a.part (a.fill us) = true ∧ a.subs (a.fill us) = us := by
  induction a with
  | lf =>
    intro us h
    match us, h with
    | [u], _ => exact ⟨rfl, rfl⟩
    | [], h => simp [Tr.leaves] at h
    | _ :: _ :: _, h => simp [Tr.leaves, Tr.carets] at h
  | nd l r ihl ihr =>
    intro us h
    obtain ⟨A, B, rfl, hA, hB⟩ := partsT h
    rw [fill_nd hA hB]
    have h1 := ihl A hA
    have h2 := ihr B hB
    exact ⟨by simp [Tr.part, h1.1, h2.1], by rw [Tr.subs, h1.2, h2.2]⟩
theorem join_least (a : Tr) : ∀ b g : Tr, a.part g = true → b.part g = true → (a.join b).part g = true := by
  induction a with
  | lf => intro b g h k; exact k
  | nd l r ihl ihr =>
    intro b g h k
    cases b with
    | lf => exact h
    | nd p q =>
      cases g with
      | lf => simp [Tr.part] at h
      | nd x y =>
        simp [Tr.part] at h k
        simp [Tr.join, Tr.part, ihl p x h.1 k.1, ihr q y h.2 k.2]
theorem okP_leaves {p : Pr} (hp : okP p) : p.1.leaves = p.2.leaves := by unfold okP at hp; unfold Tr.leaves; omega
/-- The product by any tree in the middle. -/
theorem mulP_any {p q : Pr} (hp : okP p) (hq : okP q) {S T : List Tr} (hS : S.length = p.2.leaves) (hT : T.length = q.1.leaves) (h : p.2.fill S = q.1.fill T) :
    red (p.1.fill S, q.2.fill T) = mulP p q := by
  have hJ : (p.2.join q.1).part (p.2.fill S) = true := join_least _ _ _ (subs_fill p.2 S hS).1 (by rw [h]; exact (subs_fill q.1 T hT).1)
  have hU := below_carets _ _ hJ
  have hg := fill_subs _ _ hJ
  generalize (p.2.join q.1).subs (p.2.fill S) = U at hU hg
  have s1 := below_carets p.2 _ (part_join p.2 q.1)
  have s2 := below_carets q.1 _ (part_join' p.2 q.1)
  have f1 := fill_subs p.2 _ (part_join p.2 q.1)
  have f2 := fill_subs q.1 _ (part_join' p.2 q.1)
  have o1 := okP_leaves hp
  have o2 := okP_leaves hq
  have l1 : sumL (p.2.subs (p.2.join q.1)) = (p.2.join q.1).leaves := by rw [← fill_leaves s1.2, f1]
  have l2 : sumL (q.1.subs (p.2.join q.1)) = (p.2.join q.1).leaves := by rw [← fill_leaves s2.2, f2]
  unfold mulP
  have hr : rawP p q = (p.1.fill (p.2.subs (p.2.join q.1)), q.2.fill (q.1.subs (p.2.join q.1))) := rfl
  have c1 : compT (p.2.subs (p.2.join q.1)) U = S := by
    rw [← (subs_fill p.2 S hS).2, ← hg, ← (subs_fill p.2 (compT (p.2.subs (p.2.join q.1)) U) (by rw [compT_length, s1.2])).2, fill_comp _ _ _ s1.2 (by rw [hU.2, l1]), f1]
  have c2 : compT (q.1.subs (p.2.join q.1)) U = T := by
    rw [← (subs_fill q.1 T hT).2, ← h, ← hg, ← (subs_fill q.1 (compT (q.1.subs (p.2.join q.1)) U) (by rw [compT_length, s2.2])).2, fill_comp _ _ _ s2.2 (by rw [hU.2, l2]), f2]
  have e : (p.1.fill S, q.2.fill T) = expE (rawP p q) U := by
    rw [hr, ← c1, ← c2]
    unfold expE
    dsimp only
    rw [fill_comp _ _ _ (by rw [s1.2, o1]) (by rw [hU.2, l1]), fill_comp _ _ _ (by rw [s2.2, o2]) (by rw [hU.2, l2])]
  have hok : okP (rawP p q) := by
    have k1 := fill_leaves (t := p.1) (us := p.2.subs (p.2.join q.1)) (by rw [s1.2, o1])
    have k2 := fill_leaves (t := q.2) (us := q.1.subs (p.2.join q.1)) (by rw [s2.2, o2])
    rw [hr]
    unfold okP
    dsimp only
    rw [l1] at k1
    rw [l2] at k2
    unfold Tr.leaves at k1 k2
    omega
  rw [e]
  refine red_expE hok _ U rfl ?_
  rw [hU.2, hr]
  dsimp only
  rw [fill_leaves (by rw [s1.2, o1]), l1]

theorem expE_ok {p : Pr} (hp : okP p) {V : List Tr} (hV : V.length = p.1.leaves) : okP (expE p V) := by
  have o1 := okP_leaves hp
  have k1 := fill_leaves (t := p.1) (us := V) hV
  have k2 := fill_leaves (t := p.2) (us := V) (by omega)
  unfold okP expE
  dsimp only
  unfold Tr.leaves at k1 k2
  omega
theorem mulP_expL {p q : Pr} (hp : okP p) (hq : okP q) {V : List Tr} (hV : V.length = p.1.leaves) : mulP (expE p V) q = mulP p q := by
  have o1 := okP_leaves hp
  have s1 := below_carets (expE p V).2 _ (part_join (expE p V).2 q.1)
  have s2 := below_carets q.1 _ (part_join' (expE p V).2 q.1)
  have f1 := fill_subs (expE p V).2 _ (part_join (expE p V).2 q.1)
  have f2 := fill_subs q.1 _ (part_join' (expE p V).2 q.1)
  have hl : (expE p V).2.leaves = sumL V := fill_leaves (by omega)
  unfold mulP
  have hr : rawP (expE p V) q = ((expE p V).1.fill ((expE p V).2.subs ((expE p V).2.join q.1)), q.2.fill (q.1.subs ((expE p V).2.join q.1))) := rfl
  generalize (expE p V).2.subs ((expE p V).2.join q.1) = S at *
  generalize q.1.subs ((expE p V).2.join q.1) = T at *
  have e1 : (expE p V).1.fill S = p.1.fill (compT V S) := (fill_comp _ _ _ hV (by rw [s1.2, hl])).symm
  have e2 : (expE p V).2.fill S = p.2.fill (compT V S) := (fill_comp _ _ _ (by omega) (by rw [s1.2, hl])).symm
  rw [hr, e1]
  exact mulP_any hp hq (by rw [compT_length]; omega) s2.2 (by rw [← e2, f1, f2])
theorem mulP_expR {p q : Pr} (hp : okP p) (hq : okP q) {V : List Tr} (hV : V.length = q.1.leaves) : mulP p (expE q V) = mulP p q := by
  have o1 := okP_leaves hq
  have s1 := below_carets p.2 _ (part_join p.2 (expE q V).1)
  have s2 := below_carets (expE q V).1 _ (part_join' p.2 (expE q V).1)
  have f1 := fill_subs p.2 _ (part_join p.2 (expE q V).1)
  have f2 := fill_subs (expE q V).1 _ (part_join' p.2 (expE q V).1)
  have hl : (expE q V).1.leaves = sumL V := fill_leaves hV
  unfold mulP
  have hr : rawP p (expE q V) = (p.1.fill (p.2.subs (p.2.join (expE q V).1)), (expE q V).2.fill ((expE q V).1.subs (p.2.join (expE q V).1))) := rfl
  generalize p.2.subs (p.2.join (expE q V).1) = S at *
  generalize (expE q V).1.subs (p.2.join (expE q V).1) = T at *
  have e1 : (expE q V).1.fill T = q.1.fill (compT V T) := (fill_comp _ _ _ hV (by rw [s2.2, hl])).symm
  have e2 : (expE q V).2.fill T = q.2.fill (compT V T) := (fill_comp _ _ _ (by omega) (by rw [s2.2, hl])).symm
  rw [hr, e2]
  exact mulP_any hp hq s1.2 (by rw [compT_length]; omega) (by rw [← e1, f1, f2])

/-- So many leaves, but for a caret at one of them. -/
def bump (k n : Nat) : List Tr := List.replicate n .lf ++ .nd .lf .lf :: List.replicate (k - n - 1) .lf
theorem bump_length {k n : Nat} (h : n < k) : (bump k n).length = k := by simp [bump]; omega
theorem drop_fill (t : Tr) : ∀ n : Int, n ∈ t.exps 0 → (t.dropAt n).fill (bump (t.dropAt n).leaves n.toNat) = t := by
  induction t with
  | lf => intro n h; simp [Tr.exps] at h
  | nd x y ihx ihy =>
    intro n hn
    have hrg := exps_range _ 0 n hn
    rcases mem_cases hn with ⟨rfl, rfl, rfl⟩ | hn | hn
    · rfl
    · have h1 := exps_range x 0 n hn
      have hl := drop_leaves hn
      rw [drop_left hn]
      have e : bump (Tr.nd (x.dropAt n) y).leaves n.toNat = bump (x.dropAt n).leaves n.toNat ++ List.replicate y.leaves .lf := by
        rw [leaves_nd]
        unfold bump
        rw [List.append_assoc, List.cons_append, List.replicate_append_replicate]
        congr 3
        omega
      rw [e, fill_nd (bump_length (by omega)) (by simp), ihx n hn, fill_lfs]
    · have h1 := exps_range y 0 _ hn
      have hl := drop_leaves hn
      rw [drop_right hn]
      have e : bump (Tr.nd x (y.dropAt (n - x.leaves))).leaves n.toNat = List.replicate x.leaves .lf ++ bump (y.dropAt (n - x.leaves)).leaves (n - x.leaves).toNat := by
        rw [leaves_nd]
        unfold bump
        rw [← List.append_assoc, List.replicate_append_replicate]
        congr 3 <;> omega
      rw [e, fill_nd (by simp) (bump_length (by omega)), ihy _ hn, fill_lfs]
theorem drop_exp {p : Pr} (hp : okP p) {n : Int} (h : n ∈ both p) : okP (dropP p n) ∧ ∃ V, V.length = (dropP p n).1.leaves ∧ expE (dropP p n) V = p := by
  have hc := dropP_carets h
  have ho : okP (dropP p n) := by unfold okP at *; omega
  obtain ⟨h1, h2⟩ := mem_both.1 h
  have r1 := exps_range p.1 0 n h1
  have l1 := drop_leaves h1
  refine ⟨ho, bump (dropP p n).1.leaves n.toNat, bump_length (by show n.toNat < (p.1.dropAt n).leaves; omega), ?_⟩
  unfold expE
  rw [show (dropP p n).1.fill (bump (dropP p n).1.leaves n.toNat) = p.1 from drop_fill p.1 n h1, okP_leaves ho, show (dropP p n).2.fill (bump (dropP p n).2.leaves n.toNat) = p.2 from drop_fill p.2 n h2]
/-- A pair is made by the reduced one with trees at its leaves. -/
theorem red_exp : ∀ (k : Nat) (p : Pr), p.1.carets = k → okP p → okP (red p) ∧ ∃ V, V.length = (red p).1.leaves ∧ expE (red p) V = p := by
  intro k
  induction k using Nat.strongRecOn with
  | _ k ih =>
    intro p hk hp
    by_cases hl : 0 < (both p).length
    · have h0 := red_first0 hl
      have hm : (both p).getD 0 0 ∈ both p := by
        cases hb : both p with
        | nil => rw [hb] at hl; simp at hl
        | cons a l => simp
      generalize (both p).getD 0 0 = m at h0 hm
      have c2 := dropP_carets hm
      obtain ⟨ho, V, hV, hE⟩ := drop_exp hp hm
      obtain ⟨hr, U, hU, hF⟩ := ih (dropP p m).1.carets (by omega) _ rfl ho
      rw [h0]
      have hUl : sumL U = (dropP p m).1.leaves := by rw [← fill_leaves hU]; exact congrArg (fun x : Pr => x.1.leaves) hF
      refine ⟨hr, compT U V, by rw [compT_length, hU], ?_⟩
      have o1 := okP_leaves hr
      have g1 := fill_comp (red (dropP p m)).1 U V hU (by rw [hV, hUl])
      have g2 := fill_comp (red (dropP p m)).2 U V (by omega) (by rw [hV, hUl])
      unfold expE
      rw [g1, g2]
      rw [show (red (dropP p m)).1.fill U = (dropP p m).1 from congrArg Prod.fst hF, show (red (dropP p m)).2.fill U = (dropP p m).2 from congrArg Prod.snd hF]
      exact hE
    · have hb : both p = [] := List.length_eq_zero_iff.1 (by omega)
      have hr := (red_self p).2 hb
      rw [hr]
      have o1 := okP_leaves hp
      refine ⟨hp, List.replicate p.1.leaves .lf, by simp, ?_⟩
      unfold expE
      rw [fill_lfs, o1, fill_lfs]
theorem mulP_redL {p q : Pr} (hp : okP p) (hq : okP q) : mulP (red p) q = mulP p q := by
  obtain ⟨hr, V, hV, hE⟩ := red_exp _ p rfl hp
  have := mulP_expL hr hq hV
  rw [hE] at this
  exact this.symm
theorem mulP_redR {p q : Pr} (hp : okP p) (hq : okP q) : mulP p (red q) = mulP p q := by
  obtain ⟨hr, V, hV, hE⟩ := red_exp _ q rfl hq
  have := mulP_expR hp hr hV
  rw [hE] at this
  exact this.symm
end Go.Proofs.Ytjmbkieocmhmiaa

/-! CjP -/
namespace Go.Proofs.Ytjmbkieocmhmiaa

theorem red_inv : ∀ (k : Nat) (p : Pr), p.1.carets = k → red (invP p) = invP (red p) := by
  intro k
  induction k using Nat.strongRecOn with
  | _ k ih =>
    intro p hk
    by_cases hl : 0 < (both p).length
    · have h0 := red_first0 hl
      have hm : (both p).getD 0 0 ∈ both p := by
        cases hb : both p with
        | nil => rw [hb] at hl; simp at hl
        | cons a l => simp
      generalize (both p).getD 0 0 = m at h0 hm
      have c2 := dropP_carets hm
      have hm' : m ∈ both (invP p) := mem_both.2 ⟨(mem_both.1 hm).2, (mem_both.1 hm).1⟩
      have e1 := red_drop _ (invP p) rfl m hm'
      have e2 := ih (dropP p m).1.carets (by omega) (dropP p m) rfl
      rw [h0, ← e2, ← e1]
      rfl
    · have hb : both p = [] := List.length_eq_zero_iff.1 (by omega)
      have hb' : both (invP p) = [] := by
        cases h : both (invP p) with
        | nil => rfl
        | cons a l =>
          have ha : a ∈ both (invP p) := by rw [h]; simp
          have : a ∈ both p := mem_both.2 ⟨(mem_both.1 ha).2, (mem_both.1 ha).1⟩
          rw [hb] at this; simp at this
      rw [(red_self p).2 hb, (red_self (invP p)).2 hb']
theorem raw_inv (p q : Pr) : rawP (invP q) (invP p) = invP (rawP p q) := by
  unfold rawP invP
  dsimp only
  rw [join_comm q.1 p.2]
theorem inv_mul (p q : Pr) : invP (mulP p q) = mulP (invP q) (invP p) := by
  unfold mulP
  rw [raw_inv, red_inv _ _ rfl]
theorem inv_ok {p : Pr} (h : okP p) : okP (invP p) := h.symm
theorem mul_assoc {p q r : Pr} (hp : okP p) (hq : okP q) (hr : okP r) : mulP (mulP p q) r = mulP p (mulP q r) := by
  have s1 := below_carets p.2 _ (part_join p.2 q.1)
  have s2 := below_carets q.1 _ (part_join' p.2 q.1)
  have f1 := fill_subs p.2 _ (part_join p.2 q.1)
  have f2 := fill_subs q.1 _ (part_join' p.2 q.1)
  have o1 := okP_leaves hp
  have o2 := okP_leaves hq
  have o3 := okP_leaves hr
  have hraw := rawP_ok hp hq
  have eR : rawP p q = (p.1.fill (p.2.subs (p.2.join q.1)), q.2.fill (q.1.subs (p.2.join q.1))) := rfl
  have l1 : sumL (p.2.subs (p.2.join q.1)) = (p.2.join q.1).leaves := by rw [← fill_leaves s1.2, f1]
  have l2 : sumL (q.1.subs (p.2.join q.1)) = (p.2.join q.1).leaves := by rw [← fill_leaves s2.2, f2]
  rw [show mulP p q = red (rawP p q) from rfl, mulP_redL hraw hr]
  generalize p.2.subs (p.2.join q.1) = S at *
  generalize q.1.subs (p.2.join q.1) = T at *
  generalize p.2.join q.1 = M at *
  have k1 : (p.1.fill S).leaves = M.leaves := by rw [fill_leaves (by rw [s1.2, o1]), l1]
  have k2 : (q.2.fill T).leaves = M.leaves := by rw [fill_leaves (by rw [s2.2, o2]), l2]
  have t1 := below_carets (q.2.fill T) _ (part_join (q.2.fill T) r.1)
  have t2 := below_carets r.1 _ (part_join' (q.2.fill T) r.1)
  have g1 := fill_subs (q.2.fill T) _ (part_join (q.2.fill T) r.1)
  have g2 := fill_subs r.1 _ (part_join' (q.2.fill T) r.1)
  generalize (q.2.fill T).subs ((q.2.fill T).join r.1) = U at *
  generalize r.1.subs ((q.2.fill T).join r.1) = V at *
  have n1 : sumL U = ((q.2.fill T).join r.1).leaves := by rw [← fill_leaves t1.2, g1]
  have n2 : sumL V = ((q.2.fill T).join r.1).leaves := by rw [← fill_leaves t2.2, g2]
  generalize (q.2.fill T).join r.1 = N at *
  have c1 := fill_comp p.1 S U (by rw [s1.2, o1]) (by rw [t1.2, k2, l1])
  have c2 := fill_comp p.2 S U s1.2 (by rw [t1.2, k2, l1])
  have c3 := fill_comp q.1 T U s2.2 (by rw [t1.2, k2, l2])
  have c4 := fill_comp q.2 T U (by rw [s2.2, o2]) (by rw [t1.2, k2, l2])
  have e1 := mulP_any (p := rawP p q) (q := r) hraw hr (S := U) (T := V) (by rw [eR]; exact t1.2) t2.2 (by rw [eR]; exact g1.trans g2.symm)
  have e2 := mulP_any hq hr (S := compT T U) (T := V) (by rw [compT_length, s2.2, o2]) t2.2 (by rw [c4]; exact g1.trans g2.symm)
  have hX : okP (q.1.fill (compT T U), r.2.fill V) := by
    have a1 := fill_leaves (t := q.1) (us := compT T U) (by rw [compT_length, s2.2])
    have a2 := fill_leaves (t := q.2) (us := compT T U) (by rw [compT_length, s2.2, o2])
    have a3 := fill_leaves (t := r.2) (us := V) (by rw [t2.2, o3])
    rw [c4, g1] at a2
    unfold okP
    dsimp only
    unfold Tr.leaves at *
    omega
  rw [← e2, mulP_redR hp hX, ← e1, eR]
  dsimp only
  have e3 := mulP_any hp hX (S := compT S U) (T := List.replicate (q.1.fill (compT T U)).leaves .lf) (by rw [compT_length, s1.2]) (by simp) (by rw [fill_lfs, c2, c3, f1, f2])
  rw [← e3, c1]
  dsimp only
  congr 2
  have : (q.1.fill (compT T U)).leaves = (r.2.fill V).leaves := okP_leaves hX
  rw [this, fill_lfs]

def idP : Pr := (.lf, .lf)
theorem id_ok : okP idP := rfl
theorem lf_both : both ((.lf, .lf) : Pr) = [] := rfl
theorem red_id : red idP = idP := (red_self _).2 rfl
theorem red_same (t : Tr) : red (t, t) = idP := by
  have h : expE idP [t] = (t, t) := rfl
  rw [← h, red_expE id_ok _ [t] rfl rfl, red_id]
theorem subs_lf (a : Tr) : a.subs a = List.replicate a.leaves .lf := by
  have h := subs_fill a (List.replicate a.leaves .lf) (by simp)
  rw [fill_lfs] at h
  exact h.2
theorem join_self (a : Tr) : a.join a = a := by
  induction a with
  | lf => rfl
  | nd x y ihx ihy => simp [Tr.join, ihx, ihy]
theorem mul_inv {p : Pr} (hp : okP p) : mulP p (invP p) = idP := by
  have e : rawP p (invP p) = (p.1, p.1) := by
    have o := okP_leaves hp
    unfold rawP invP
    dsimp only
    rw [join_self, subs_lf, ← o, fill_lfs]
  unfold mulP
  rw [e, red_same]
theorem join_lf' (t : Tr) : t.join .lf = t := by cases t <;> rfl
theorem mul_id {p : Pr} (hp : okP p) : mulP p idP = red p := by
  have e : rawP p idP = p := by
    have o := okP_leaves hp
    show (p.1.fill (p.2.subs (p.2.join .lf)), Tr.fill .lf (Tr.subs .lf (p.2.join .lf))) = p
    rw [join_lf', subs_lf, ← o, fill_lfs]
    rfl
  unfold mulP
  rw [e]
theorem id_mul {p : Pr} (hp : okP p) : mulP idP p = red p := by
  have h := mul_id (inv_ok hp)
  have h2 := inv_mul (invP p) idP
  have h3 : invP (invP p) = p := rfl
  have h4 : invP idP = idP := rfl
  rw [h3, h4] at h2
  rw [← h2, h, red_inv _ p rfl]
  rfl
theorem red_red (p : Pr) : red (red p) = red p := (red_self _).2 (red_both p [])
theorem mul_red (p q : Pr) : red (mulP p q) = mulP p q := red_red _

/-- The conjugate of p by q. -/
def conP (p q : Pr) : Pr := mulP (mulP (invP q) p) q
theorem conP_ok {p q : Pr} (hp : okP p) (hq : okP q) : okP (conP p q) := mulP_ok (mulP_ok (inv_ok hq) hp) hq
theorem conP_carets {p q : Pr} (hp : okP p) (hq : okP q) : (conP p q).1.carets ≤ q.1.carets + p.1.carets + q.1.carets := by
  have h1 := mulP_carets (inv_ok hq) hp
  have h2 := mulP_carets (mulP_ok (inv_ok hq) hp) hq
  have h3 : (mulP (invP q) p).1.carets = (mulP (invP q) p).2.carets := mulP_ok (inv_ok hq) hp
  have h4 : (invP q).2.carets = q.1.carets := rfl
  unfold conP
  omega
theorem conP_red {p q : Pr} (hp : okP p) (hq : okP q) : conP (red p) q = conP p q := by
  unfold conP
  rw [mulP_redR (inv_ok hq) hp]
theorem con_con {p a b : Pr} (hp : okP p) (ha : okP a) (hb : okP b) : conP (conP p a) b = conP p (mulP a b) := by
  unfold conP
  have ia := inv_ok ha
  have ib := inv_ok hb
  rw [inv_mul, ← mul_assoc ib (mulP_ok ia hp) ha, ← mul_assoc ib ia hp, ← mul_assoc (mulP_ok (mulP_ok ib ia) hp) ha hb]
theorem con_id {p : Pr} (hp : okP p) : conP p idP = red p := by
  unfold conP
  have hr : okP (red p) := red_ok hp []
  rw [show invP idP = idP from rfl, id_mul hp, mul_id hr, red_red]
theorem con_self (p q : Pr) : red (conP p q) = conP p q := mul_red _ _
theorem con_back {p a : Pr} (hp : okP p) (ha : okP a) : conP (conP p a) (invP a) = red p := by
  rw [con_con hp ha (inv_ok ha), mul_inv ha, con_id hp]
end Go.Proofs.Ytjmbkieocmhmiaa

/-! RuP -/
namespace Go.Proofs.Ytjmbkieocmhmiaa

theorem redBy_uniq : ∀ (k : Nat) (p : Pr) (cs : List Int), p.1.carets = k → redBy p cs = red p := by
  intro k
  induction k with
  | zero =>
    intro p cs h
    have hb := both_empty h
    rw [redBy_end hb, red, redBy_end hb]
  | succ k ih =>
    intro p cs h
    cases hb : both p with
    | nil => rw [redBy_end hb, red, redBy_end hb]
    | cons n ns =>
      have hm := pick_mem hb cs
      have hc := dropP_carets hm
      rw [redBy_step hb cs, ih _ _ (by omega)]
      exact red_drop _ p rfl _ hm
theorem graft_exp (t : Tr) : ∀ n : Int, 0 ≤ n → n < t.leaves → n ∈ (t.graft n (.nd .lf .lf)).exps 0 ∧ (t.graft n (.nd .lf .lf)).dropAt n = t := by
  induction t with
  | lf =>
    intro n h1 h2
    have : n = 0 := by unfold Tr.leaves Tr.carets at h2; omega
    subst this
    simp [Tr.graft, Tr.exps, Tr.dropAt, Tr.isLf]
  | nd l r ihl ihr =>
    intro n h1 h2
    rw [leaves_nd] at h2
    rw [Tr.graft]
    by_cases hn : n < l.leaves
    · rw [if_pos hn]
      obtain ⟨e1, e2⟩ := ihl n h1 hn
      refine ⟨mem_left e1, ?_⟩
      rw [drop_left e1, e2]
    · rw [if_neg hn]
      obtain ⟨e1, e2⟩ := ihr (n - l.leaves) (by omega) (by omega)
      refine ⟨mem_right e1, ?_⟩
      rw [drop_right e1, e2]
theorem exp_both {p : Pr} (hp : okP p) {n : Int} (h1 : 0 ≤ n) (h2 : n ≤ p.1.carets) : n ∈ both (p.1.graft n (.nd .lf .lf), p.2.graft n (.nd .lf .lf)) ∧ red (p.1.graft n (.nd .lf .lf), p.2.graft n (.nd .lf .lf)) = red p := by
  have hp' : p.1.carets = p.2.carets := hp
  obtain ⟨a1, a2⟩ := graft_exp p.1 n h1 (by unfold Tr.leaves; omega)
  obtain ⟨b1, b2⟩ := graft_exp p.2 n h1 (by unfold Tr.leaves; omega)
  have hm : n ∈ both (p.1.graft n (.nd .lf .lf), p.2.graft n (.nd .lf .lf)) := mem_both.2 ⟨a1, b1⟩
  refine ⟨hm, ?_⟩
  have h3 := red_drop _ (p.1.graft n (.nd .lf .lf), p.2.graft n (.nd .lf .lf)) rfl n hm
  rw [← h3, dropP]
  show red ((p.1.graft n (.nd .lf .lf)).dropAt n, (p.2.graft n (.nd .lf .lf)).dropAt n) = red p
  rw [a2, b2]
theorem red_less {p : Pr} (h : both p ≠ []) : (red p).1.carets < p.1.carets := by
  cases hb : both p with
  | nil => exact absurd hb h
  | cons n ns =>
    have hm : n ∈ both p := by rw [hb]; simp
    have hc := dropP_carets hm
    have h3 := red_drop _ p rfl n hm
    have h4 := (redBy_carets (dropP p n) []).1
    rw [← h3]
    show (redBy (dropP p n) []).1.carets < _
    omega
end Go.Proofs.Ytjmbkieocmhmiaa

/-! WIsPartOf -/
namespace Go.Proofs.Ytjmbkieocmhmiaa
open Go.RowKit

def partO (a b : ByteArray) : Option Bool :=
  match treeOf a, treeOf b with
  | some t, some u => some (t.part u)
  | _, _ => none

end Go.Proofs.Ytjmbkieocmhmiaa

/-! Same -/
namespace Go.Proofs.Ytjmbkieocmhmiaa
open Go.RowKit

theorem sameB_yes {p q : Pr} (h : red p = red q) : sameB p q = true := by unfold sameB; exact @decide_eq_true _ (Classical.propDecidable _) h
theorem ansB_some (b : Bool) : ansB (some b) = .tuple #[.bool b, .bool true] := by cases b <;> rfl
theorem ansB_tt : ansB (some true) = .tuple #[.bool true, .bool true] := rfl
end Go.Proofs.Ytjmbkieocmhmiaa

/-! GenC -/
namespace Go.Proofs.Ytjmbkieocmhmiaa
open Go.RowKit

/-- x(i) -/
def genP (i : Nat) : Pr := ((rcomb i).graft i (lcomb 2), rcomb (i + 2))
def genO (n : Int) : Option Pr := if 0 ≤ n ∧ n ≤ 6 then some (genP n.toNat) else none
theorem lcomb2_str : (lcomb 2).str = ⟨#[40, 40, 46, 46, 41, 46, 41]⟩ := by apply ba_ext; rfl

theorem trGraft_tr (t u : Tr) (n : Int) (w : World) (h : 0 ≤ n) (k : n ≤ t.carets) (ht : t.carets ≤ 100) (hu : u.carets ≤ 100) :
    Calls Try.prog 41 #[.string t.str, .int .i64 n, .string u.str] w (Gives (.string (t.graft n u).str) w) := by
  have hz := t.str_size
  have hy := u.str_size
  have hp := pos_str t n
  have := trGraft_any t.str u.str n w (by omega) (by omega) h (by omega) (by omega)
  rw [graft_str t u n h (by unfold Tr.leaves; omega)] at this
  exact this
theorem graftO_tr (t u : Tr) (n : Int) (ht : t.carets ≤ 8) (hu : u.carets ≤ 8) : graftO t.str n u.str = if 0 ≤ n ∧ n ≤ t.carets ∧ t.carets + u.carets ≤ 8 then some (t.graft n u).str else none := by
  unfold graftO
  rw [treeOf_str t ht, treeOf_str u hu]
  by_cases h : 0 ≤ n ∧ n ≤ t.carets ∧ t.carets + u.carets ≤ 8
  · have := graft_str t u n h.1 (by unfold Tr.leaves; omega)
    simp [h, this]
  · simp [h]

set_option maxHeartbeats 1000000 in
theorem prGenerator_any (i : Nat) (w : World) (hi : i ≤ 20) :
    Calls Try.prog 23 #[.int .i64 i] w (Gives (.agg #[.string (genP i).1.str, .string (genP i).2.str]) w) := by
  have R1 := fun w => trRight_any i w (by omega)
  have R2 := fun w => trRight_any (i + 2) w (by omega)
  have c1 := rcomb_carets i
  have T := fun w => trGraft_tr (rcomb i) (lcomb 2) i w (by omega) (by omega) (by omega) (by decide)
  rw [lcomb2_str] at T
  have e2 : ((i + 2 : Nat) : Int) = (i : Int) + 2 := by omega
  rw [e2] at R2
  unfold genP
  generalize rcomb i = X at *
  generalize rcomb (i + 2) = Y at *
  generalize X.graft i (lcomb 2) = U at *
  clear e2 c1
  go_enter Try.func23, Try.ntmps23
  go_wp2_with fail
  have hb0 : Below w.heap.size w (w.alloc (.cells #[.string ⟨#[]⟩, .string ⟨#[]⟩] 26 (0, 0))) := nxAlloc (Below.refl _ _) _
  have hx := heap_alloc_at w (.cells #[.string ⟨#[]⟩, .string ⟨#[]⟩] 26 (0, 0))
  generalize w.alloc (.cells #[.string ⟨#[]⟩, .string ⟨#[]⟩] 26 (0, 0)) = w0 at *
  refine (R1 _).mono ?_; rintro e wc ⟨rfl, rfl⟩
  go_wp2_with fail
  refine (T _).mono ?_; rintro e w1 ⟨rfl, hb1⟩
  have hbw1 := nx hb0 hb1
  replace hx := heap_keep hb1 hx
  clear hb1 hb0
  obtain ⟨n1, n2⟩ := two_cells hx
  obtain ⟨f1, f2⟩ := two_frozen hx
  go_wp2_with fail
  refine (R2 _).mono ?_; rintro e wc ⟨rfl, rfl⟩
  go_wp2_with fail
  obtain ⟨q1, q2⟩ := two_cells (set_two (.string U.str) (.string Y.str) hx)
  refine bodyPost_ret (v := .agg #[.string U.str, .string Y.str]) (by simp [q1, q2, results, Try.results23, go_sem]) rfl ⟨rfl, ?_⟩
  exact (hbw1.setCell (Nat.le_refl _) _).setCell (Nat.le_refl _) _

set_option maxRecDepth 100000 in
set_option maxHeartbeats 2000000 in
theorem specGeneratorPair_any (n : Int) (w : World) (lo : -9223372036854775808 ≤ n) (hi : n ≤ 9223372036854775807) :
    Calls Try.prog 7 #[.int .i64 n] w (Gives (ansPr (genO n)) w) := by
  unfold genO
  by_cases h : 0 ≤ n ∧ n ≤ 6
  rotate_left
  · rw [if_neg h]
    have I := fun w => l1In_no n 0 6 w (by omega)
    clear h
    go_enter Try.func7, Try.ntmps7
    go_wp2_with fail
    have hb0 : Below w.heap.size w (w.alloc (.cells #[.string ⟨#[]⟩, .string ⟨#[]⟩] 26 (0, 0))) := nxAlloc (Below.refl _ _) _
    have hx := heap_alloc_at w (.cells #[.string ⟨#[]⟩, .string ⟨#[]⟩] 26 (0, 0))
    generalize w.alloc (.cells #[.string ⟨#[]⟩, .string ⟨#[]⟩] 26 (0, 0)) = w0 at *
    obtain ⟨n1, n2⟩ := two_cells hx
    obtain ⟨f1, f2⟩ := two_frozen hx
    refine (I _).mono ?_; rintro e wc ⟨rfl, rfl⟩
    go_wp2_with fail
    obtain ⟨q1, q2⟩ := two_cells (set_two (.string ⟨#[]⟩) (.string ⟨#[]⟩) hx)
    refine bodyPost_ret (v := .tuple #[.agg #[.string ⟨#[]⟩, .string ⟨#[]⟩], .bool false]) (by simp [q1, q2, results, Try.results7, go_sem]) rfl ⟨rfl, ?_⟩
    exact (hb0.setCell (Nat.le_refl _) _).setCell (Nat.le_refl _) _
  rw [if_pos h]
  have I := fun w => l1In_yes n 0 6 w h.1 h.2
  obtain ⟨i, rfl⟩ : ∃ i : Nat, n = i := ⟨n.toNat, by omega⟩
  have hi6 : i ≤ 6 := by omega
  have ei : ((i : Int)).toNat = i := by omega
  rw [ei]
  have G := fun w => prGenerator_any i w (by omega)
  clear h ei
  go_enter Try.func7, Try.ntmps7
  go_wp2_with fail
  have hb0 : Below w.heap.size w (w.alloc (.cells #[.string ⟨#[]⟩, .string ⟨#[]⟩] 26 (0, 0))) := nxAlloc (Below.refl _ _) _
  have hx := heap_alloc_at w (.cells #[.string ⟨#[]⟩, .string ⟨#[]⟩] 26 (0, 0))
  generalize w.alloc (.cells #[.string ⟨#[]⟩, .string ⟨#[]⟩] 26 (0, 0)) = w0 at *
  refine (I _).mono ?_; rintro e wc ⟨rfl, rfl⟩
  go_wp2_with fail
  refine (G _).mono ?_; rintro e w1 ⟨rfl, hb1⟩
  have hbw1 := nx hb0 hb1
  replace hx := heap_keep hb1 hx
  clear hb1 hb0
  obtain ⟨n1, n2⟩ := two_cells hx
  obtain ⟨f1, f2⟩ := two_frozen hx
  go_wp2_with fail
  obtain ⟨q1, q2⟩ := two_cells (set_two (.string (genP i).1.str) (.string (genP i).2.str) hx)
  refine bodyPost_ret (v := .tuple #[.agg #[.string (genP i).1.str, .string (genP i).2.str], .bool true]) (by simp [q1, q2, results, Try.results7, go_sem]) rfl ⟨rfl, ?_⟩
  exact (hbw1.setCell (Nat.le_refl _) _).setCell (Nat.le_refl _) _

set_option maxRecDepth 100000 in
set_option maxHeartbeats 2000000 in
theorem implGeneratorPair_any (n : Int) (w : World) (lo : -9223372036854775808 ≤ n) (hi : n ≤ 9223372036854775807) :
    Calls Try.prog 6 #[.int .i64 n] w (Gives (ansPr (genO n)) w) := by
  unfold genO
  by_cases h : 0 ≤ n ∧ n ≤ 6
  rotate_left
  · rw [if_neg h]
    by_cases h1 : n < 0
    · skip
      clear h
      go_enter Try.func6, Try.ntmps6
      go_wp2_with fail
      refine bodyPost_ret (v := .tuple #[.agg #[.string ⟨#[]⟩, .string ⟨#[]⟩], .bool false]) (by simp [results, Try.results6, go_sem]) rfl ⟨rfl, ?_⟩
      exact nxAlloc (Below.refl _ _) _
    · have h2 : 6 < n := by omega
      clear h
      go_enter Try.func6, Try.ntmps6
      go_wp2_with fail
      refine bodyPost_ret (v := .tuple #[.agg #[.string ⟨#[]⟩, .string ⟨#[]⟩], .bool false]) (by simp [results, Try.results6, go_sem]) rfl ⟨rfl, ?_⟩
      exact nxAlloc (Below.refl _ _) _
  rw [if_pos h]
  obtain ⟨i, rfl⟩ : ∃ i : Nat, n = i := ⟨n.toNat, by omega⟩
  have hi6 : i ≤ 6 := by omega
  have ei : ((i : Int)).toNat = i := by omega
  rw [ei]
  have R1 : ∀ w, Calls Try.prog 19 #[.int .i64 i] w (Gives (ansV (combO rcomb i)) w) := fun w => implRightComb_any i w (by omega) (by omega)
  have R2 : ∀ w, Calls Try.prog 20 #[.int .i64 2] w (Gives (ansV (combO lcomb 2)) w) := fun w => implLeftComb_any 2 w (by omega) (by omega)
  have R3 : ∀ w, Calls Try.prog 19 #[.int .i64 ((i : Int) + 2)] w (Gives (ansV (combO rcomb ((i : Int) + 2))) w) := fun w => implRightComb_any ((i : Int) + 2) w (by omega) (by omega)
  have c1 := rcomb_carets i
  have c2 : (lcomb 2).carets = 2 := rfl
  have s1 := (rcomb i).str_size
  have s2 : (lcomb 2).str.size = 7 := rfl
  have T := fun w => implGraftAt_any (rcomb i).str i (lcomb 2).str w (by omega) (by omega) (by omega) (by omega)
  rw [graftO_tr (rcomb i) (lcomb 2) i (by omega) (by omega), if_pos (by omega)] at T
  unfold combO at R1 R2 R3
  rw [if_pos (by omega)] at R1 R3
  rw [if_pos (by decide)] at R2
  have e3 : ((i : Int) + 2).toNat = i + 2 := by omega
  have e4 : ((2 : Int)).toNat = 2 := rfl
  rw [e3] at R3
  rw [e4] at R2
  rw [ei] at R1
  unfold genP
  generalize rcomb i = X at *
  generalize rcomb (i + 2) = Y at *
  generalize lcomb 2 = V at *
  generalize X.graft i V = U at *
  unfold ansV at R1 R2 R3
  unfold ans2 at T
  simp only [trS, trB, Option.getD_some, Option.isSome_some] at R1 R2 R3 T
  clear h ei e3 e4 c1 c2 s1 s2
  go_enter Try.func6, Try.ntmps6
  go_wp2_with fail
  have hb0 : Below w.heap.size w (w.alloc (.cells #[.string ⟨#[]⟩, .string ⟨#[]⟩] 26 (0, 0))) := nxAlloc (Below.refl _ _) _
  have hx := heap_alloc_at w (.cells #[.string ⟨#[]⟩, .string ⟨#[]⟩] 26 (0, 0))
  generalize w.alloc (.cells #[.string ⟨#[]⟩, .string ⟨#[]⟩] 26 (0, 0)) = w0 at *
  refine (R1 _).mono ?_; rintro e w1 ⟨rfl, hb1⟩
  have hbw1 := nx hb0 hb1
  replace hx := heap_keep hb1 hx
  clear hb1 hb0
  go_wp2_with fail
  refine (R2 _).mono ?_; rintro e w2 ⟨rfl, hb2⟩
  have hbw2 := nx hbw1 hb2
  replace hx := heap_keep hb2 hx
  clear hb2 hbw1
  go_wp2_with fail
  refine (T _).mono ?_; rintro e w3 ⟨rfl, hb3⟩
  have hbw3 := nx hbw2 hb3
  replace hx := heap_keep hb3 hx
  clear hb3 hbw2
  go_wp2_with fail
  refine (R3 _).mono ?_; rintro e w4 ⟨rfl, hb4⟩
  have hbw4 := nx hbw3 hb4
  replace hx := heap_keep hb4 hx
  clear hb4 hbw3
  obtain ⟨n1, n2⟩ := two_cells hx
  obtain ⟨f1, f2⟩ := two_frozen hx
  go_wp2_with fail
  obtain ⟨q1, q2⟩ := two_cells (set_two (.string U.str) (.string Y.str) hx)
  refine bodyPost_ret (v := .tuple #[.agg #[.string U.str, .string Y.str], .bool true]) (by simp [q1, q2, results, Try.results6, go_sem]) rfl ⟨rfl, ?_⟩
  exact (hbw4.setCell (Nat.le_refl _) _).setCell (Nat.le_refl _) _
end Go.Proofs.Ytjmbkieocmhmiaa
