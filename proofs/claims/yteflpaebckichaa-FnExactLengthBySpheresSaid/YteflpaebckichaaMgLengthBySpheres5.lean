/- FnExactLengthBySpheres: for every input the law returns true and leaves its arguments as they were. No conditions. -/
import Derived.Test.YteflpaebckichaaMgLengthBySpheres4
import Derived.ProofKit
import Derived.OpenShut
import Derived.ShutString
import Derived.ChangeOld
import Derived.Below
import Derived.Lib.SmallJoins
/-! RegF -/
namespace Go.Proofs.Yteflpaebckichaa
open Go.RowKit

section
variable {P : Program} {ops : Array Oper} {md : Region.Mode} {w0 : World}

/-- In every world that leaves what was there, o yields v and leaves what is there. -/
def yR (P : Program) (ops : Array Oper) (w0 : World) (o : Oper) (v : Value) (a : Act) : Prop := ∀ w1, Cls w0 w1 → YieldsIn P ops (Cls w1) o v a

/-- The operations in the text's order. -/
def wpQuietR (P : Program) (ops : Array Oper) (w0 : World) (Q : Act → Prop) : List Oper → Act → Prop
  | [], a => Q a
  | o :: rest, a => ∃ v, yR P ops w0 o v a ∧ wpQuietR P ops w0 Q rest (a.put o.dst v)

theorem wpQuietR_nil {Q : Act → Prop} {a : Act} (h : Q a) : wpQuietR P ops w0 Q [] a := h
theorem wpQuietR_step {Q : Act → Prop} {a : Act} {o : Oper} {rest : List Oper}
    (h : ∀ K : Act → Prop, (∀ a, wpQuietR P ops w0 Q rest a → K a) → if Region.wanted o (yielded ops a.tmps) then ∃ v, (∀ w1, Cls w0 w1 → o.quietAt P a (Cls w1) w1 v) ∧ K (a.put o.dst v) else K (a.put o.dst undef)) : wpQuietR P ops w0 Q (o :: rest) a := by
  have := h _ (fun _ h => h)
  unfold wpQuietR
  by_cases hw : Region.wanted o (yielded ops a.tmps) = true
  · rw [if_pos hw] at this
    obtain ⟨v, h1, h2⟩ := this
    refine ⟨v, fun w1 hw1 => .inl ⟨hw, fun w2 hw2 => ?_⟩, h2⟩
    have h3 := h1 w2 (nx hw1 hw2)
    have h4 : ∀ w3, Cls w2 w3 → Cls w1 w3 := fun w3 hw3 => nx hw2 hw3
    unfold Oper.quietAt at *
    generalize (execOp a.eval o).run P w2 = r at *
    cases r with
    | ok n w' =>
      cases n <;> simp only [Oper.quietUpon] at h3 ⊢ <;> try exact h3
      exact ⟨h3.1, h3.2.mono fun _ _ ⟨e1, e2⟩ => ⟨e1, h4 _ e2⟩⟩
    | halt x w' => simp only [Oper.quietUpon] at h3
  · rw [if_neg hw] at this
    exact ⟨undef, fun w1 _ => .inr ⟨by simpa using hw, rfl⟩, this⟩

theorem quiet_wider {C C' : World → Prop} {o : Oper} {a : Act} {w : World} {v : Value} (h : ∀ w, C w → C' w) (hh : o.quietAt P a C w v) : o.quietAt P a C' w v := by
  unfold Oper.quietAt at *
  generalize (execOp a.eval o).run P w = r at *
  cases r with
  | ok n w' =>
    cases n <;> simp only [Oper.quietUpon] at hh ⊢ <;> try exact hh
    exact ⟨hh.1, hh.2.mono fun _ _ ⟨e1, e2⟩ => ⟨e1, h _ e2⟩⟩
  | halt x w' => simp only [Oper.quietUpon] at hh

/-- Operation i comes up. -/
def qR (P : Program) (ops : Array Oper) (w0 : World) (i : Nat) (K : Act → Prop) (a : Act) : Prop :=
  ∃ o v, ops[i]? = some o ∧ yR P ops w0 o v a ∧ K (a.put o.dst v)

/-- What has come up is closed. -/
structure ClInv (md : Region.Mode) (ops : Array Oper) (listed : Array Bool) : Prop where
  size : listed.size = ops.size
  closed : ∀ j oj, ops[j]? = some oj → listed.getD j false = true → ∀ e ∈ oj.after, Region.binds md e = true → listed.getD e.on false = true

theorem ClInv.set {i : Nat} {listed : Array Bool} (inv : ClInv md ops listed) (hi : i ∈ Region.ready md ops listed) : ClInv md ops (listed.setIfInBounds i true) := by
  obtain ⟨_, oi, hoi, hall⟩ := mem_ready.1 hi
  refine ⟨by simp [inv.size], fun j oj hj hl e he hb => ?_⟩
  by_cases hij : i = j
  · subst hij
    have : oj = oi := Option.some.inj (hj.symm.trans hoi)
    subst this
    exact getD_set_true (hall e he hb)
  · rw [getD_set_ne false hij] at hl
    exact getD_set_true (inv.closed j oj hj hl e he hb)

/-- Each of the first m waits for the next ones up to the last of them, and all behind them, number n aside, for that one. -/
def gateB (md : Region.Mode) (ops : Array Oper) (m n : Nat) : Bool :=
  ((List.range m).all fun i => decide (i + 1 = m) || (List.range m).any fun j => decide (i < j) && Region.waitsFor md ops j i) &&
  (List.range ops.size).all fun t => decide (t < m) || decide (t = n) || Region.waitsFor md ops t (m - 1)

theorem gate_waits {m n : Nat} {listed : Array Bool} (hg : gateB md ops m n = true) (inv : ClInv md ops listed) (_hm : m ≤ ops.size) :
    ∀ (d i : Nat), m - i = d → i < m → listed.getD i true = false → ∀ t, m ≤ t → t ≠ n → t ∉ Region.ready md ops listed := by
  simp only [gateB, Bool.and_eq_true] at hg
  obtain ⟨hs, hc⟩ := hg
  intro d
  induction d using Nat.strongRecOn with
  | _ d ih =>
    intro i hd hi hun t ht htn hr
    obtain ⟨_, ot, hot, hall⟩ := mem_ready.1 hr
    have htlt : t < ops.size := (Array.getElem?_eq_some_iff.1 hot).1
    by_cases him : i + 1 = m
    · have h1 := List.all_eq_true.1 hc t (List.mem_range.2 htlt)
      simp only [Bool.or_eq_true, decide_eq_true_eq] at h1
      rcases h1 with (h1 | h1) | h1
      · omega
      · exact htn h1
      · obtain ⟨o', ho', e, he, hb, hon⟩ := Region.waitsFor_spec h1
        obtain rfl : o' = ot := Option.some.inj (ho'.symm.trans hot)
        have h2 := hall e he hb
        rw [hon, show m - 1 = i by omega, getD_both hun] at h2
        cases h2
    · have h1 := List.all_eq_true.1 hs i (List.mem_range.2 hi)
      simp only [Bool.or_eq_true, decide_eq_true_eq, him, false_or] at h1
      obtain ⟨j, hj, hj2⟩ := List.any_eq_true.1 h1
      have hjm := List.mem_range.1 hj
      simp only [Bool.and_eq_true, decide_eq_true_eq] at hj2
      obtain ⟨oj, hoj, e, he, hb, hon⟩ := Region.waitsFor_spec hj2.2
      cases hl : listed.getD j false with
      | true =>
        have h2 := inv.closed j oj hoj hl e he hb
        rw [hon, getD_both hun] at h2
        cases h2
      | false =>
        exact ih (m - j) (by omega) j rfl (by omega) (getD_in (by rw [inv.size]; omega) hl) t ht htn hr

/-- Whatever order is drawn for the first m operations, number n aside. -/
def headF (P : Program) (md : Region.Mode) (ops : Array Oper) (w0 : World) (m n : Nat) (L : Array Bool → Act → Prop) : Nat → Array Bool → Act → Prop
  | 0, listed, a => L listed a
  | f + 1, listed, a => (∃ i ∈ Region.ready md ops listed, i ≠ n) ∧ ∀ i ∈ Region.ready md ops listed, i ≠ n → i < m ∧ qR P ops w0 i (headF P md ops w0 m n L f (listed.setIfInBounds i true)) a

theorem headF_first {m n i : Nat} {oi : Oper} {v : Value} {L : Array Bool → Act → Prop} (hi : ops[i]? = some oi) (hsel : ∀ (j : Nat) (o : Oper) cs b, ops[j]? = some o → o.op ≠ .select cs b)
    (hg : gateB md ops m n = true) (hm : m ≤ ops.size) (hmn : m ≤ n) (hin : i < m)
    (hdone : ∀ listed a, L listed a → ∀ j ∈ Region.ready md ops listed, m ≤ j) :
    ∀ (f : Nat) (listed : Array Bool) (a : Act), ClInv md ops listed →
      (∀ j oj, ops[j]? = some oj → j ≠ i → listed.getD j true = false → (∀ e ∈ oj.after, Region.binds md e = true → e.on ≠ i) → oi.apart ops oj = true) →
      i ∈ Region.ready md ops listed → yR P ops w0 oi v a →
      headF P md ops w0 m n L f (listed.setIfInBounds i true) (a.put oi.dst v) → headF P md ops w0 m n L (f + 1) listed a := by
  intro f
  induction f with
  | zero =>
    intro listed a inv _ hr hy H
    have hun := (mem_ready.1 hr).1
    refine ⟨⟨i, hr, by omega⟩, fun j hj hjn => ?_⟩
    have hjn' : j < m := Nat.lt_of_not_le fun h => gate_waits hg inv hm _ i rfl hin hun j h hjn hj
    refine ⟨hjn', ?_⟩
    by_cases hji : j = i
    · subst hji; exact ⟨oi, v, hi, hy, H⟩
    · have := hdone _ _ H j (ready_mono hj hji)
      omega
  | succ f ih =>
    intro listed a inv hfree hr hy H
    have hun := (mem_ready.1 hr).1
    refine ⟨⟨i, hr, by omega⟩, fun j hj hjn => ?_⟩
    have hjn' : j < m := Nat.lt_of_not_le fun h => gate_waits hg inv hm _ i rfl hin hun j h hjn hj
    refine ⟨hjn', ?_⟩
    by_cases hji : j = i
    · subst hji; exact ⟨oi, v, hi, hy, H⟩
    · obtain ⟨oj, u, hoj, hyj, k⟩ := (H.2 j (ready_mono hj hji) hjn).2
      obtain ⟨hjun, oj', hoj', hall⟩ := mem_ready.1 hj
      obtain rfl : oj' = oj := Option.some.inj (hoj'.symm.trans hoj)
      have hnot : ∀ e ∈ oj'.after, Region.binds md e = true → e.on ≠ i := by
        intro e he hb heq
        have k2 := hall e he hb
        rw [heq, getD_both hun] at k2
        cases k2
      have hap := hfree j oj' hoj hji hjun hnot
      obtain ⟨h1, h2, h3⟩ := Oper.apart_spec hap
      refine ⟨oj', u, hoj, fun w1 hw1 => (hyj w1 hw1).of_same (execOp_put oj' (fun cs b => hsel j oj' cs b hoj) a oi.dst v h1).symm (wanted_put oj' a oi.dst v h1).symm, ?_⟩
      refine ih (listed.setIfInBounds j true) (a.put oj'.dst u) (inv.set hj) ?_ (ready_mono hr (Ne.symm hji))
        (fun w1 hw1 => (hy w1 hw1).of_same (execOp_put oi (fun cs b => hsel i oi cs b hi) a oj'.dst u h3) (wanted_put oi a oj'.dst u h3)) ?_
      · intro k ok hk hki hunk hno
        refine hfree k ok hk hki ?_ hno
        by_cases hjk : j = k
        · subst hjk; exact hjun
        · rw [getD_set_ne true hjk] at hunk; exact hunk
      · rw [Array.setIfInBounds_comm _ _ hji, ← Act.put_comm a v u h2]
        exact k

/-- The first m, from number k on, in the text's order; then it is Z that has come up. -/
def lexF (md : Region.Mode) (ops : Array Oper) (m : Nat) (Z : Array Bool) : Nat → Nat → Array Bool → Bool
  | 0, _, listed => listed == Z && (Region.ready md ops Z).all fun j => decide (m ≤ j)
  | f + 1, k, listed => (Region.ready md ops listed).contains k && Region.free md ops listed k && lexF md ops m Z f (k + 1) (listed.setIfInBounds k true)

theorem lexF_done {m : Nat} {Z : Array Bool} : ∀ {f k : Nat} {listed : Array Bool}, lexF md ops m Z f k listed = true → ∀ j ∈ Region.ready md ops Z, m ≤ j
  | 0, _, _, h => by
    simp only [lexF, Bool.and_eq_true] at h
    exact fun j hj => by simpa using List.all_eq_true.1 h.2 j hj
  | f + 1, _, _, h => by
    simp only [lexF, Bool.and_eq_true] at h
    exact lexF_done h.2

theorem headF_lex {m n : Nat} {Z : Array Bool} {Lq : Act → Prop} (hsel : Region.noSelect ops = true) (hg : gateB md ops m n = true) (hm : m ≤ ops.size) (hmn : m ≤ n) :
    ∀ (l : List Oper) (k : Nat) (listed : Array Bool) (a : Act), (∀ j, j < l.length → l[j]? = ops[k + j]?) → k + l.length = m → ClInv md ops listed →
    lexF md ops m Z l.length k listed = true → wpQuietR P ops w0 Lq l a →
    headF P md ops w0 m n (fun listed' a' => listed' = Z ∧ Lq a') l.length listed a
  | [], k, listed, a, _, hk, _, hB, h => by
    simp only [List.length_nil, lexF, Bool.and_eq_true, beq_iff_eq] at hB
    exact ⟨hB.1, h⟩
  | o :: l, k, listed, a, hl, hk, inv, hB, h => by
    have h0 : ops[k]? = some o := by simpa using (hl 0 (by simp)).symm
    have hdone := lexF_done hB
    simp only [List.length_cons, lexF, Bool.and_eq_true] at hB
    obtain ⟨⟨hr, hf⟩, hB'⟩ := hB
    have hkn : k < m := by simp only [List.length_cons] at hk; omega
    have hr' : k ∈ Region.ready md ops listed := by simpa using hr
    obtain ⟨v, hy, hK⟩ := h
    refine headF_first h0 (Region.noSelect_spec hsel) hg hm hmn hkn (fun listed' a' hL => by rw [hL.1]; exact hdone) l.length listed a inv (Region.free_spec h0 hf) hr' hy ?_
    refine headF_lex hsel hg hm hmn l (k + 1) _ _ (fun j hj => ?_) (by simp only [List.length_cons] at hk; omega) (inv.set hr') hB' hK
    have := hl (j + 1) (by simp; omega)
    simpa [Nat.add_assoc, Nat.add_comm 1 j] using this

theorem wpOp_of_qR {i : Nat} {a : Act} {K : Act → Prop} {K' : Act → World → Prop} {Q' : Exit → Act → World → Prop} {w : World} (hC : Cls w0 w) (h : ∀ a w', Cls w w' → K a → K' a w') (hh : qR P ops w0 i K a) : wpOp P ops Q' i K' a w := by
  obtain ⟨o, v, ho, hy, hk⟩ := hh
  exact wpOp_of_qOp (C := Cls w) (Below.refl _ _) h ((hy w hC).qOp ho hk)

/-- No operation among the first m waits for number n or meets its slot; it waits for none. -/
def looseB (md : Region.Mode) (ops : Array Oper) (m n : Nat) : Bool :=
  (List.range m).all fun i => !Region.waitsFor md ops i n && match ops[n]?, ops[i]? with
    | some o, some oi => o.apart ops oi
    | _, _ => false

theorem looseB_spec {m n i : Nat} {o oi : Oper} (h : looseB md ops m n = true) (hi : i < m) (hn : ops[n]? = some o) (ho : ops[i]? = some oi) : o.apart ops oi = true ∧ ∀ e ∈ oi.after, Region.binds md e = true → e.on ≠ n := by
  have h1 := List.all_eq_true.1 h i (List.mem_range.2 hi)
  rw [hn, ho] at h1
  simp only [Bool.and_eq_true, Bool.not_eq_true'] at h1
  refine ⟨h1.2, fun e he hb heq => ?_⟩
  have h2 := h1.1
  unfold Region.waitsFor at h2
  rw [ho] at h2
  have h3 : (oi.after.any fun e => Region.binds md e && e.on == n) = true := Array.any_eq_true'.2 ⟨e, he, by simp [hb, heq]⟩
  dsimp only at h2
  rw [h3] at h2
  cases h2

def ptrV (g : Nat) : Value := .pointer (some ⟨g, 0, none⟩)

theorem heap_keepF {w w' : World} {g : Nat} {o : Obj} (hb : Cls w w') (h : w.heap[g]? = some o) : w'.heap[g]? = some o :=
  (Below.block hb g (by rcases Nat.lt_or_ge g w.heap.size with h' | h'; exact h'; rw [Array.getElem?_eq_none h'] at h; cases h)).trans h

/-- Once the cell is laid. -/
theorem any_post {m n g : Nat} {L : Array Bool → Act → Prop} {Q' : Exit → Act → World → Prop} {o : Oper} {X : Obj} (hsel : ∀ (j : Nat) (o : Oper) cs b, ops[j]? = some o → o.op ≠ .select cs b)
    (hgt : gateB md ops m n = true) (hm : m ≤ ops.size) (hn : n < ops.size) (hlo : looseB md ops m n = true) (ho : ops[n]? = some o)
    (hL : ∀ listed a w gp, L listed a → Cls w0 w → w.heap[gp]? = some X → w0.heap.size ≤ gp → wpAny P md ops Q' g (listed.setIfInBounds n true) (a.put o.dst (ptrV gp)) w) :
    ∀ (f : Nat) (listed : Array Bool) (a : Act) (w : World) (gp : Nat), listed.size = ops.size → ClInv md ops (listed.setIfInBounds n true) → Cls w0 w → w.heap[gp]? = some X → w0.heap.size ≤ gp →
      headF P md ops w0 m n L f listed a → wpAny P md ops Q' (f + g) (listed.setIfInBounds n true) (a.put o.dst (ptrV gp)) w := by
  intro f
  induction f with
  | zero => intro listed a w gp _ _ hw hx hg h; rw [Nat.zero_add]; exact hL _ _ _ _ h hw hx hg
  | succ f ih =>
    intro listed a w gp hsz inv hw hx hg h
    obtain ⟨⟨i0, hi0, hne⟩, hall⟩ := h
    have hi0n := (hall i0 hi0 hne).1
    have hr0 := ready_mono hi0 hne
    rw [Nat.add_right_comm]
    refine ⟨fun h0 => absurd h0 (List.ne_nil_of_mem hr0), fun i hi => ?_⟩
    obtain ⟨hun, oi, hoi, haft⟩ := mem_ready.1 hi
    have hin : i ≠ n := by
      rintro rfl
      have : (listed.setIfInBounds i true).getD i true = true := by
        rw [Array.getD_eq_getD_getElem?, Array.getElem?_setIfInBounds_self_of_lt (by omega)]; rfl
      rw [this] at hun; cases hun
    have hin' : i < m := Nat.lt_of_not_le fun h => gate_waits hgt inv hm _ i0 rfl hi0n (mem_ready.1 hr0).1 i h hin hi
    obtain ⟨hap, hno⟩ := looseB_spec hlo hin' ho hoi
    have hri : i ∈ Region.ready md ops listed := by
      refine mem_ready.2 ⟨by rw [getD_set_ne true (Ne.symm hin)] at hun; exact hun, oi, hoi, fun e he hb => ?_⟩
      have := haft e he hb
      rwa [getD_set_ne false (Ne.symm (hno e he hb))] at this
    obtain ⟨_, oi', v, hoi', hy, hk⟩ := hall i hri hin
    obtain rfl : oi' = oi := Option.some.inj (hoi'.symm.trans hoi)
    obtain ⟨h1, h2, h3⟩ := Oper.apart_spec hap
    refine wpOp_of_qR (K := fun a' => a' = (a.put o.dst (ptrV gp)).put oi'.dst v) hw (fun a' w' hw' he => ?_)
      ⟨oi', v, hoi, fun w1 hw1 => (hy w1 hw1).of_same (execOp_put oi' (fun cs b => hsel i oi' cs b hoi) a o.dst _ h1) (wanted_put oi' a o.dst _ h1), rfl⟩
    subst he
    rw [Act.put_comm a (ptrV gp) v h2, Array.setIfInBounds_comm _ _ (Ne.symm hin)]
    refine ih _ _ _ _ (by simp [hsz]) ?_ (nx hw hw') (heap_keepF hw' hx) hg hk
    rw [Array.setIfInBounds_comm _ _ hin]
    exact inv.set hi

/-- Before the cell is laid. -/
theorem any_pre {m n g : Nat} {L : Array Bool → Act → Prop} {Q' : Exit → Act → World → Prop} {o : Oper} {X : Obj} (hsel : ∀ (j : Nat) (o : Oper) cs b, ops[j]? = some o → o.op ≠ .select cs b)
    (hgt : gateB md ops m n = true) (hm : m ≤ ops.size) (hn : n < ops.size) (hlo : looseB md ops m n = true) (ho : ops[n]? = some o)
    (hW : ∀ t, Region.wanted o t = true) (hR : ∀ (a : Act) (w : World), (execOp a.eval o).run P w = .ok (.value (ptrV w.heap.size)) (w.alloc X))
    (hD : ∀ listed a w, L listed a → Cls w0 w → wpAny P md ops Q' (g + 1) listed a w)
    (hL : ∀ listed a w gp, L listed a → Cls w0 w → w.heap[gp]? = some X → w0.heap.size ≤ gp → wpAny P md ops Q' g (listed.setIfInBounds n true) (a.put o.dst (ptrV gp)) w) :
    ∀ (f : Nat) (listed : Array Bool) (a : Act) (w : World), ClInv md ops listed → Cls w0 w →
      headF P md ops w0 m n L f listed a → wpAny P md ops Q' (f + (g + 1)) listed a w := by
  intro f
  induction f with
  | zero =>
    intro listed a w inv hw h
    rw [Nat.zero_add]
    exact hD _ _ _ h hw
  | succ f ih =>
    intro listed a w inv hw h
    have h' := h
    obtain ⟨⟨i0, hi0, hne⟩, hall⟩ := h
    rw [Nat.add_right_comm]
    refine ⟨fun h0 => absurd h0 (List.ne_nil_of_mem hi0), fun i hi => ?_⟩
    by_cases hin : i = n
    · subst hin
      unfold wpOp
      simp only [ho, hW, if_true]
      left
      unfold Oper.wp
      rw [hR]
      simp only [Oper.upon]
      rw [show f + (g + 1) = (f + 1) + g by omega]
      exact any_post hsel hgt hm hn hlo ho hL (f + 1) listed a _ _ inv.size (inv.set hi) (nxAlloc hw _) (by show (w.heap.push X)[w.heap.size]? = _; simp) (Below.size hw) h'
    · obtain ⟨hlt, hq⟩ := hall i hi hin
      exact wpOp_of_qR hw (fun a' w' hw' hk => ih _ _ _ (inv.set hi) (nx hw hw') hk) hq

/-- The checks of a region whose first m operations are quiet, with a loose allocation at number n. -/
def floatB (md : Region.Mode) (ops : Array Oper) (m n : Nat) (Z : Array Bool) : Bool :=
  Region.noSelect ops && decide (m ≤ ops.size) && decide (m ≤ n) && decide (n < ops.size) && gateB md ops m n && looseB md ops m n && lexF md ops m Z m 0 (Array.replicate ops.size false)

theorem wpAny_mono {Q Q' : Exit → Act → World → Prop} (hQ : ∀ e a w, Q e a w → Q' e a w) : ∀ (f : Nat) (listed : Array Bool) (a : Act) (w : World), wpAny P md ops Q f listed a w → wpAny P md ops Q' f listed a w
  | 0, _, _, _, h => ⟨h.1, hQ _ _ _ h.2⟩
  | f + 1, listed, _, _, h => ⟨fun h0 => hQ _ _ _ (h.1 h0), fun i hi => by
      have h1 := wpOp_mono (fun a' w' h2 => wpAny_mono hQ f _ a' w' h2) (h.2 i hi)
      have hl : LetsOut Q → LetsOut Q' := fun ⟨a, w, h⟩ => ⟨a, w, hQ _ _ _ h⟩
      unfold wpOp at *
      split
      · rename_i ho; simpa only [ho] using h1
      · rename_i o ho
        simp only [ho] at h1
        split
        · rename_i hw
          simp only [hw, if_true] at h1
          refine h1.imp (fun h3 => ?_) (fun h3 => ⟨h3.1, hl h3.2⟩)
          unfold Oper.wp at *
          generalize (execOp _ o).run P _ = r at *
          cases r with
          | ok nx' w' =>
            cases nx' <;> simp only [Oper.upon] at h3 ⊢ <;> first
              | exact h3
              | exact Calls.mono h3 (fun e w'' he => by cases e <;> first | exact he | exact hQ _ _ _ he | exact hl he)
          | halt x w' =>
            cases x <;> simp only [Oper.upon] at h3 ⊢
            exact hQ _ _ _ h3
        · rename_i hw; simp only [hw] at h1; exact h1⟩

/-- Only the normal end. -/
def only (Q : Exit → Act → World → Prop) : Exit → Act → World → Prop := Exit.then (Q .normal) (fun _ _ _ => False)
theorem only_le {Q : Exit → Act → World → Prop} : ∀ e a w, only Q e a w → Q e a w := by
  intro e a w h
  cases e <;> first | exact h | exact False.elim h

/-- The first m operations are quiet; number n lays a cell, at any time; what else there is is shown in each order (the second time with the cell laid). -/
theorem wp_region_float {id : Nat} {Q : Exit → Act → World → Prop} {a : Act} {w : World} {l : List Oper} (m n : Nat) (Z : Array Bool) (o : Oper) (X : Obj) (hfm : P.follows .mixedOrders = true) (hB : floatB .any l.toArray m n Z = true)
    (ho' : l[n]? = some o) (hW : ∀ t, Region.wanted o t = true) (hR : ∀ (a : Act) (w : World), (execOp a.eval o).run P w = .ok (.value (ptrV w.heap.size)) (w.alloc X))
    (h : wpQuietR P l.toArray w (fun a' => (∀ w', Cls w w' → wpAny P .any l.toArray (only Q) (l.length - m) Z a' w') ∧
      ∀ gp w', Cls w w' → w'.heap[gp]? = some X → w.heap.size ≤ gp → wpAny P .any l.toArray (only Q) (l.length - m - 1) (Z.setIfInBounds n true) (a'.put o.dst (ptrV gp)) w') (l.take m) a) : (Code.region id l.toArray true).wp P Q a w := by
  simp only [floatB, Bool.and_eq_true, decide_eq_true_eq] at hB
  obtain ⟨⟨⟨⟨⟨⟨hsel, hm⟩, hmn⟩, hn⟩, hg⟩, hlo⟩, hlex⟩ := hB
  have ho : l.toArray[n]? = some o := by simpa using ho'
  have hm' : m ≤ l.length := by simpa using hm
  have hn' : n < l.length := by simpa using hn
  have htl : (l.take m).length = m := by simp; omega
  have inv0 : ClInv .any l.toArray (Array.replicate l.toArray.size false) := by
    refine ⟨by simp, fun j oj _ hl => ?_⟩
    rw [getD_replicate_false] at hl; cases hl
  have H := headF_lex (md := .any) (Z := Z) hsel hg hm hmn (l.take m) 0 _ a (fun j hj => by
    have hj' : j < m := by rw [htl] at hj; exact hj
    simp [hj']) (by simpa using htl) inv0 (by rw [htl]; exact hlex) h
  refine wp_region_any hfm (wpAny_mono only_le _ _ _ _ ?_)
  have := any_pre (Q' := only Q) (g := l.length - m - 1) (Region.noSelect_spec hsel) hg hm hn hlo ho hW hR
    (fun listed a' w' hL hw' => by
      have := hL.2.1 w' hw'
      rw [hL.1, show l.length - m - 1 + 1 = l.length - m by omega]
      exact this)
    (fun listed a' w' gp hL hw' hx hg => by rw [hL.1]; exact hL.2.2 gp w' hw' hx hg) _ _ _ _ inv0 ((Below.refl _ _).drew) H
  rw [htl, show m + (l.length - m - 1 + 1) = l.toArray.size by simp; omega] at this
  exact this
/-- Operations that yield one value in whatever world, in the text's order. -/
def wpPure (P : Program) (ops : Array Oper) (Q : Act → Prop) : List Oper → Act → Prop
  | [], a => Q a
  | o :: rest, a => ∃ v, Yields P ops o v a ∧ wpPure P ops Q rest (a.put o.dst v)
theorem wpPure_nil {Q : Act → Prop} {a : Act} (h : Q a) : wpPure P ops Q [] a := h
theorem wpPure_step {Q : Act → Prop} {a : Act} {o : Oper} {rest : List Oper}
    (h : ∀ K : Act → Prop, (∀ a, wpPure P ops Q rest a → K a) → if Region.wanted o (yielded ops a.tmps) then ∃ v, (∀ w, (execOp a.eval o).run P w = .ok (.value v) w) ∧ K (a.put o.dst v) else K (a.put o.dst undef)) : wpPure P ops Q (o :: rest) a := by
  have := h _ (fun _ h => h)
  unfold wpPure
  by_cases hw : Region.wanted o (yielded ops a.tmps) = true
  · rw [if_pos hw] at this
    obtain ⟨v, h1, h2⟩ := this
    exact ⟨v, .inl ⟨hw, h1⟩, h2⟩
  · rw [if_neg hw] at this
    exact ⟨undef, .inr ⟨by simpa using hw, rfl⟩, this⟩

/-- So many of them, from number k on, may be taken first; then all is forced from number e on. -/
def lexTo (md : Region.Mode) (ops : Array Oper) (g e : Nat) : Nat → Nat → Array Bool → Bool
  | 0, _, listed => Region.seqB md ops g e listed
  | f + 1, k, listed => (Region.ready md ops listed).contains k && Region.free md ops listed k && lexTo md ops g e f (k + 1) (listed.setIfInBounds k true)

theorem any_of_pure {g e : Nat} {Q' : Exit → Act → World → Prop} {C : World → Prop} {Lq : Act → Prop} (hsel : Region.noSelect ops = true) (hQ : ∀ c a w, ¬ Q' (.panic c) a w)
    (hL : ∀ listed a w, Region.seqB md ops g e listed = true → Lq a → C w → wpAny P md ops Q' g listed a w) :
    ∀ (l : List Oper) (k : Nat) (listed : Array Bool) (a : Act) (w : World), (∀ j, j < l.length → l[j]? = ops[k + j]?) → lexTo md ops g e l.length k listed = true → wpPure P ops Lq l a → C w → wpAny P md ops Q' (l.length + g) listed a w
  | [], _, listed, a, w, _, hB, h, hw => by
    rw [List.length_nil, Nat.zero_add]
    exact hL _ _ _ (by simpa [lexTo] using hB) h hw
  | o :: l, k, listed, a, w, hl, hB, h, hw => by
    have h0 : ops[k]? = some o := by simpa using (hl 0 (by simp)).symm
    simp only [List.length_cons, lexTo, Bool.and_eq_true] at hB
    obtain ⟨⟨hr, hf⟩, hB'⟩ := hB
    obtain ⟨v, hy, hK⟩ := h
    rw [List.length_cons, Nat.add_right_comm]
    refine wpAny_first h0 (Region.noSelect_spec hsel) (fun c a w h => absurd h (hQ _ _ _)) _ listed a w (Region.free_spec h0 hf) (by simpa using hr) hy ?_
    refine any_of_pure hsel hQ hL l (k + 1) _ _ w (fun j hj => ?_) hB' hK hw
    have := hl (j + 1) (by simp; omega)
    simpa [Nat.add_assoc, Nat.add_comm 1 j] using this

theorem wpPure_put {o : Oper} {x : Value} {Lq : Act → Prop} (hsel : ∀ (j : Nat) (o : Oper) cs b, ops[j]? = some o → o.op ≠ .select cs b) : ∀ (l : List Oper) (k : Nat) (a : Act), (∀ j, j < l.length → l[j]? = ops[k + j]?) → (∀ oi ∈ l, o.apart ops oi = true) →
    wpPure P ops (fun a => Lq (a.put o.dst x)) l a → wpPure P ops Lq l (a.put o.dst x)
  | [], _, _, _, _, h => h
  | oi :: l, k, a, hl, hap, h => by
    have h0 : ops[k]? = some oi := by simpa using (hl 0 (by simp)).symm
    obtain ⟨v, hy, hK⟩ := h
    obtain ⟨h1, h2, _⟩ := Oper.apart_spec (hap oi (by simp))
    refine ⟨v, hy.of_same (execOp_put oi (fun cs b => hsel k oi cs b h0) a o.dst x h1) (wanted_put oi a o.dst x h1), ?_⟩
    rw [Act.put_comm a x v h2]
    refine wpPure_put hsel l (k + 1) _ (fun j hj => ?_) (fun o' ho' => hap o' (by simp [ho'])) hK
    have := hl (j + 1) (by simp; omega)
    simpa [Nat.add_assoc, Nat.add_comm 1 j] using this

theorem wpQuietR_mono {Q Q' : Act → Prop} (h : ∀ a, Q a → Q' a) : ∀ (l : List Oper) (a : Act), wpQuietR P ops w0 Q l a → wpQuietR P ops w0 Q' l a
  | [], a, hh => h a hh
  | _ :: l, _, ⟨v, h1, h2⟩ => ⟨v, h1, wpQuietR_mono h l _ h2⟩
theorem wpPure_mono {Q Q' : Act → Prop} (h : ∀ a, Q a → Q' a) : ∀ (l : List Oper) (a : Act), wpPure P ops Q l a → wpPure P ops Q' l a
  | [], a, hh => h a hh
  | _ :: l, _, ⟨v, h1, h2⟩ => ⟨v, h1, wpPure_mono h l _ h2⟩

/-- The checks, with pure operations m .. n-1 between. -/
def floatPB (md : Region.Mode) (ops : Array Oper) (m n : Nat) (Z : Array Bool) : Bool :=
  floatB md ops m n Z && ((ops.toList.drop m).take (n - m)).all (fun oi => match ops[n]? with
    | some o => o.apart ops oi
    | none => false) &&
  lexTo md ops (ops.size - n) n (n - m) m Z && lexTo md ops (ops.size - n - 1) (n + 1) (n - m) m (Z.setIfInBounds n true)

/-- The first m operations are quiet, those from m up to n pure; number n lays a cell, at any time; the rest, in one forced order, is walked. -/
theorem wp_region_floatP {id : Nat} {Q : Exit → Act → World → Prop} {a : Act} {w : World} {l : List Oper} (m n : Nat) (Z : Array Bool) (o : Oper) (X : Obj) (hfm : P.follows .mixedOrders = true) (hB : floatPB .any l.toArray m n Z = true)
    (ho' : l[n]? = some o) (hW : ∀ t, Region.wanted o t = true) (hR : ∀ (a : Act) (w : World), (execOp a.eval o).run P w = .ok (.value (ptrV w.heap.size)) (w.alloc X))
    (h : wpQuietR P l.toArray w (wpPure P l.toArray (fun a' => ∀ gp w', Cls w w' → w'.heap[gp]? = some X → w.heap.size ≤ gp → wpList P l.toArray (only Q) (l.drop (n + 1)) (a'.put o.dst (ptrV gp)) w') ((l.drop m).take (n - m))) (l.take m) a) : (Code.region id l.toArray true).wp P Q a w := by
  simp only [floatPB, Bool.and_eq_true] at hB
  obtain ⟨⟨⟨hB, hap⟩, hp1⟩, hp2⟩ := hB
  have ho : l.toArray[n]? = some o := by simpa using ho'
  have hB' := hB
  simp only [floatB, Bool.and_eq_true, decide_eq_true_eq] at hB'
  obtain ⟨⟨⟨⟨⟨⟨hsel, hm⟩, hmn⟩, hn⟩, _⟩, _⟩, _⟩ := hB'
  have hn' : n < l.length := by simpa using hn
  have hsz : l.toArray.size = l.length := by simp
  have hln : ((l.drop m).take (n - m)).length = n - m := by simp; omega
  have hget : ∀ j, j < ((l.drop m).take (n - m)).length → ((l.drop m).take (n - m))[j]? = l.toArray[m + j]? := by
    intro j hj
    rw [hln] at hj
    simp [hj]
  have hap' : ∀ oi ∈ (l.drop m).take (n - m), o.apart l.toArray oi = true := by
    intro oi hoi
    have := List.all_eq_true.1 hap oi (by simpa using hoi)
    rw [ho] at this
    exact this
  refine wp_region_float m n Z o X hfm hB ho' hW hR (wpQuietR_mono (fun a' ha' => ⟨fun w' hw' => ?_, fun gp w' hw' hx hg => ?_⟩) _ _ h)
  · have := any_of_pure (md := .any) (g := l.toArray.size - n) (e := n) (Q' := only Q) (C := Cls w) hsel (fun _ _ _ h => h) (fun listed a w1 hq hL hw1 => by
      have eg : l.toArray.size - n = (l.length - n - 1) + 1 := by omega
      rw [eg] at hq ⊢
      simp only [Region.seqB, Bool.and_eq_true, decide_eq_true_eq] at hq
      refine ⟨fun h0 => (by rw [hq.1] at h0; cases h0), fun i hi => ?_⟩
      rw [hq.1] at hi
      obtain rfl : i = n := by simpa using hi
      unfold wpOp
      simp only [ho, hW, if_true]
      left
      unfold Oper.wp
      rw [hR]
      simp only [Oper.upon]
      have hdl : (l.drop (i + 1)).length = l.length - i - 1 := by simp; omega
      have := wpAny_of_seq (md := .any) (Q' := only Q) (l.drop (i + 1)) (i + 1) (listed.setIfInBounds i true) _ _ (fun j => by simp [List.getElem?_drop]) (by rw [hdl]; exact hq.2) (hL w1.heap.size _ (nxAlloc hw1 X) (by show (w1.heap.push X)[w1.heap.size]? = _; simp) (Below.size hw1))
      rwa [hdl] at this) _ m Z a' w' hget (by rw [hln]; exact hp1) ha' hw'
    rw [hln, show n - m + (l.toArray.size - n) = l.length - m by omega] at this
    exact this
  · have hdl : (l.drop (n + 1)).length = l.toArray.size - n - 1 := by simp; omega
    have hP := wpPure_put (o := o) (x := ptrV gp) (Lq := fun a => ∀ w', Cls w w' → w'.heap[gp]? = some X → wpList P l.toArray (only Q) (l.drop (n + 1)) a w') (Region.noSelect_spec hsel) _ m a' hget hap' (wpPure_mono (fun a h w' hw' hx => h gp w' hw' hx hg) _ _ ha')
    have := any_of_pure (md := .any) (g := l.toArray.size - n - 1) (e := n + 1) (Q' := only Q) (C := fun w' => Cls w w' ∧ w'.heap[gp]? = some X) hsel (fun _ _ _ h => h) (fun listed a w1 hq hL hw1 => by
      have := wpAny_of_seq (md := .any) (Q' := only Q) (l.drop (n + 1)) (n + 1) listed a w1 (fun j => by simp [List.getElem?_drop]) (by rw [hdl]; exact hq) (hL w1 hw1.1 hw1.2)
      rwa [hdl] at this) _ m _ _ w' hget (by rw [hln]; exact hp2) hP ⟨hw', hx⟩
    rw [hln, show n - m + (l.toArray.size - n - 1) = l.length - m - 1 by omega] at this
    exact this
end
/-- What follows behind a variable. -/
theorem only_hide {P : Program} {ops : Array Oper} {Q : Exit → Act → World → Prop} {l : List Oper} {a : Act} {w : World}
    (h : ∀ K : Act → World → Prop, (∀ a w, Q .normal a w → K a w) → wpList P ops (Exit.then K (fun _ _ _ => False)) l a w) : wpList P ops (only Q) l a w := h (Q .normal) (fun _ _ h => h)
theorem callR {P : Program} {f : FuncId} {args : Array Value} {w : World} {v : Value} (k : Calls P f args w (Gives v w)) : Calls P f args w fun e w'' => e = .returned v ∧ Cls w w'' := k
end Go.Proofs.Yteflpaebckichaa

/-! WLengthBySpheres -/
namespace Go.Proofs.Yteflpaebckichaa
open Go.RowKit

set_option maxRecDepth 100000 in
set_option maxHeartbeats 1000000 in
theorem fnExactLengthBySpheres_walk (a0 : ByteArray) (ha0 : a0.size ≤ maxLen) (b0 : ByteArray) (hb0 : b0.size ≤ maxLen) (n1 : Int) (hn1 : (Lit.int .i64 n1).wf = true) (w : World) :
    Calls Try.prog 3 #[.agg #[.string a0, .string b0], .int .i64 n1] w fun e w' => e = .returned (.bool true) ∧ Below w.heap.size w w' := by
  unfold maxLen at ha0 hb0
  obtain ⟨lo1, hi1⟩ := i64_bounds hn1
  have hsz0 := fun w => szPair_any a0 b0 w (by omega) (by omega) 1048576 (by omega) (by omega)
  by_cases hz0 : (a0.size : Int) + b0.size ≤ 1048576
  rotate_left
  · simp only [if_neg hz0] at hsz0
    go_enter Try.func3, Try.ntmps3
    go_wp2_with fail
    have hb0 : Below w.heap.size w (w.alloc (.cells #[.string a0, .string b0] 23 (0, 0))) := nxAlloc (Below.refl _ _) _
    have hx0 := heap_alloc_at w (.cells #[.string a0, .string b0] 23 (0, 0))
    generalize (w.alloc (.cells #[.string a0, .string b0] 23 (0, 0))) = w0 at *
    obtain ⟨ka0, kb0, kc0⟩ := two_facts hx0
    refine (hsz0 _).mono ?_; rintro e w1 ⟨rfl, hb1⟩
    have hbw1 := nx hb0 hb1
    replace hx0 := heap_keep hb1 hx0
    clear ka0 kb0 kc0
    obtain ⟨ka0, kb0, kc0⟩ := two_facts hx0
    clear hb1 hb0
    go_wp2_with fail
    go_ret
    exact ⟨rfl, hbw1⟩
  simp only [if_pos hz0] at hsz0
  have hS := fun w => specLengthBySpheres_any a0 b0 n1 w (by omega) (by omega) lo1 hi1
  have hI := fun w => implLengthBySpheres_any a0 b0 n1 w (by omega) (by omega) lo1 hi1
  have hS' : ∀ w, Calls Try.prog 8 #[.agg #[.string a0, .string b0], .int .i64 n1] w (Gives (ansN (lbsO a0 b0 n1)) w) := hS
  have hI' : ∀ w, Calls Try.prog 10 #[.agg #[.string a0, .string b0], .int .i64 n1] w (Gives (ansN (lbsO a0 b0 n1)) w) := hI
  clear hS hI
  generalize (lbsO a0 b0 n1) = o at hS' hI'
  unfold ansN at hS' hI'
  go_enter Try.func3, Try.ntmps3
  go_wp2_with fail
  have hb0 : Below w.heap.size w (w.alloc (.cells #[.string a0, .string b0] 23 (0, 0))) := nxAlloc (Below.refl _ _) _
  have hx0 := heap_alloc_at w (.cells #[.string a0, .string b0] 23 (0, 0))
  generalize (w.alloc (.cells #[.string a0, .string b0] 23 (0, 0))) = w0 at *
  obtain ⟨ka0, kb0, kc0⟩ := two_facts hx0
  refine (hsz0 _).mono ?_; rintro e w1 ⟨rfl, hb1⟩
  have hbw1 := nx hb0 hb1
  replace hx0 := heap_keep hb1 hx0
  clear ka0 kb0 kc0
  obtain ⟨ka0, kb0, kc0⟩ := two_facts hx0
  clear hb1 hb0
  go_wp2_with fail
  refine (toPair_any a0 b0 _).mono ?_; rintro e w2 ⟨rfl, hb2⟩
  have hbw2 := nx hbw1 hb2
  replace hx0 := heap_keep hb2 hx0
  clear ka0 kb0 kc0
  obtain ⟨ka0, kb0, kc0⟩ := two_facts hx0
  clear hb2 hbw1
  go_wp2_with fail
  refine (hS' _).mono ?_; rintro e w3 ⟨rfl, hb3⟩
  have hbw3 := nx hbw2 hb3
  replace hx0 := heap_keep hb3 hx0
  clear ka0 kb0 kc0
  obtain ⟨ka0, kb0, kc0⟩ := two_facts hx0
  clear hb3 hbw2
  go_wp2_with fail
  refine (toPair_any a0 b0 _).mono ?_; rintro e w4 ⟨rfl, hb4⟩
  have hbw4 := nx hbw3 hb4
  replace hx0 := heap_keep hb4 hx0
  clear ka0 kb0 kc0
  obtain ⟨ka0, kb0, kc0⟩ := two_facts hx0
  clear hb4 hbw3
  go_wp2_with fail
  refine (hI' _).mono ?_; rintro e w5 ⟨rfl, hb5⟩
  have hbw5 := nx hbw4 hb5
  replace hx0 := heap_keep hb5 hx0
  clear ka0 kb0 kc0
  obtain ⟨ka0, kb0, kc0⟩ := two_facts hx0
  clear hb5 hbw4
  go_wp2_with fail
  go_ret
  exact ⟨rfl, hbw5⟩
end Go.Proofs.Yteflpaebckichaa

/-! LFnExactLengthBySpheres -/
namespace Go.Proofs.Yteflpaebckichaa.fnExactLengthBySpheres
open Go.ChangeShapes Go.WideShapes Go.ChangeAt Go.RowKit
open Go.ChangeMaps (open_string shut_string)
open Go.Joins (open_agg2 shut_agg2)
set_option linter.unusedVariables false

theorem cellsPair : Try.prog.cellsOf 23 = 2 := by kernel_rfl
theorem own : ownKnob Try.prog.godebug = none := by kernel_rfl
theorem laidOut : laidOutB Try.prog = true := by kernel_rfl

set_option maxRecDepth 100000 in
theorem lifted (os : Os) (started : os.Started) (H : Type) (enc : TypeId × Value → H) :
    ReturnsInHanded {} Try.checked os 3 .any (Rows.fnExactLengthBySpheresSpec.pre6 enc Try.prog Try.f3 Rows.fnExactLengthBySpheresRow.domain false) (Rows.fnExactLengthBySpheresSpec.post enc Try.prog Try.f3 false true false false) := by
  refine returnsInHanded_of_change (C := Try.checked) own started (by kernel_rfl) Try.func3
    (ChangeSpec.witness6 (enc := enc) (C := Try.checked) false ⟨#[], #[.agg #[.string ByteArray.empty, .string ByteArray.empty], .int .i64 0], []⟩ 8 (by kernel_rfl) (by kernel_rfl) (by kernel_rfl) (by kernel_rfl)) ?_
  intro W base args ds gs before hval0 hW hcnd _
  have hval : ∀ (j : Nat) t v, Try.f3.params[j]? = some t → args[j]? = some v → Value.okWide Try.prog W .any base t v := hval0
  have hW' := hW
  obtain ⟨p, q, hA0, hV, rfl, hfz, hnd⟩ := hW
  have hA : DataW.TrodAll enc Try.prog W 0 (fun _ => true) true Try.f3.params.toList args.toList ds p := hA0
  rw [Try.params3] at hA hval
  obtain ⟨v0, vs0, d0, ds0, p0, q0, hargs, rfl, rfl, h0, r0⟩ := trodAll_cons hA
  obtain ⟨v1, vs1, d1, ds1, p1, q1, rfl, rfl, rfl, h1, r1⟩ := trodAll_cons r0
  obtain ⟨rfl, rfl, rfl⟩ := trodAll_nil r1
  obtain rfl : args = #[v0, v1] := by cases args; simp_all
  obtain ⟨rfl, rfl⟩ := trodVars_none hV
  obtain ⟨c0a, c0b, y0a, y0b, m0, rfl, rfl, rfl, hy0a, hy0b⟩ := open_agg2 Try.underlying23 (by kernel_rfl) cellsPair (hval 0 23 v0 rfl rfl) h0
  obtain ⟨a0a, e0a, rfl, w0a⟩ := DataW.trod_string Try.underlying9 hy0a
  obtain ⟨a0b, e0b, rfl, w0b⟩ := DataW.trod_string Try.underlying9 hy0b
  simp at e0a e0b
  subst e0a e0b
  obtain ⟨a1, rfl, rfl, rfl, w1⟩ := open_int Try.underlying3 (hval 1 3 v1 rfl rfl) h1
  clear hA0 hval0
  simp only [List.append_nil] at hW'
  refine (fnExactLengthBySpheres_walk a0a w0a a0b w0b a1 w1 W).mono fun e W' ⟨he, bel⟩ => ?_
  subst he
  exact ⟨_, rfl, _, _, _, [], _, [], hW', trodAll_mk1 (shut_bool Try.underlying4 _), (trodAll_cons_mk (shut_agg2 (y0 := (.lit (.string a0a.data.toList), [])) (y1 := (.lit (.string a0b.data.toList), [])) Try.underlying23 (by kernel_rfl) cellsPair (Go.Deep.shut_string_cell Try.underlying9 w0a) (Go.Deep.shut_string_cell Try.underlying9 w0b)) (trodAll_cons_mk (shut_int Try.underlying3 w1) trodAll_mk0)), rfl, bel.frame _, fun h => by cases h⟩

theorem over : Rows.fnExactLengthBySpheresRow.holds Try.pinned (OpenSpec.ofChange Rows.fnExactLengthBySpheresSpec) :=
  OpenClaim.holds_of_wide 3 Try.f3 rfl rfl rfl rfl rfl rfl rfl ⟨rfl, rfl, rfl, rfl, rfl⟩ rfl rfl rfl rfl rfl (by kernel_rfl) Try.func3 (by kernel_rfl)
    (of_decide_eq_true (by kernel_rfl)) (by unfold Func.isWrapper; first | (rw [if_pos (by decide +kernel)]; kernel_rfl) | (rw [if_neg (by decide +kernel)]; exact ⟨rfl, rfl⟩))
    (fun os started H enc _ => lifted os started H enc)

theorem proved : Rows.FnExactLengthBySpheresSaid := over
#print axioms proved
end Go.Proofs.Yteflpaebckichaa.fnExactLengthBySpheres
