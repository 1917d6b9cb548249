/- FnExactSplitHalves: for every input the law returns true and leaves its arguments as they were. No conditions. -/
import Derived.Test.YtkpganpojdboeaaMgSplitHalves1
import Derived.Deep.RegionHeld3
import Derived.ProofKit
import Derived.OpenShut
import Derived.ShutString
import Derived.ChangeOld
import Derived.Below
import Derived.Lib.SmallJoins
/-! RegF -/
namespace Go.Proofs.Ytkpganpojdboeaa
open Go.RowKit

section
variable {P : Program} {ops : Array Oper} {md : Region.Mode} {w0 : World}

/-- In every world that leaves what was there, o yields v and leaves what is there. -/
def yR (P : Program) (ops : Array Oper) (w0 : World) (o : Oper) (v : Value) (a : Act) : Prop := ∀ w1, Cls w0 w1 → YieldsIn P ops (Cls w1) o v a

/-- The operations in the text's order. -/
def wpQuietR (P : Program) (ops : Array Oper) (w0 : World) (Q : Act → Prop) : List Oper → Act → Prop
  | [], a => Q a
  | o :: rest, a => ∃ v, yR P ops w0 o v a ∧ wpQuietR P ops w0 Q rest (a.put o.dst v)

theorem wpQuietR_nil {Q : Act → Prop} {a : Act} (h : Q a) : wpQuietR P ops w0 Q [] a := h
theorem wpQuietR_step {Q : Act → Prop} {a : Act} {o : Oper} {rest : List Oper}
    (h : ∀ K : Act → Prop, (∀ a, wpQuietR P ops w0 Q rest a → K a) → if Region.wanted o (yielded ops a.tmps) then ∃ v, (∀ w1, Cls w0 w1 → o.quietAt P a (Cls w1) w1 v) ∧ K (a.put o.dst v) else K (a.put o.dst undef)) : wpQuietR P ops w0 Q (o :: rest) a := by
  have := h _ (fun _ h => h)
  unfold wpQuietR
  by_cases hw : Region.wanted o (yielded ops a.tmps) = true
  · rw [if_pos hw] at this
    obtain ⟨v, h1, h2⟩ := this
    refine ⟨v, fun w1 hw1 => .inl ⟨hw, fun w2 hw2 => ?_⟩, h2⟩
    have h3 := h1 w2 (nx hw1 hw2)
    have h4 : ∀ w3, Cls w2 w3 → Cls w1 w3 := fun w3 hw3 => nx hw2 hw3
    unfold Oper.quietAt at *
    generalize (execOp a.eval o).run P w2 = r at *
    cases r with
    | ok n w' =>
      cases n <;> simp only [Oper.quietUpon] at h3 ⊢ <;> try exact h3
      exact ⟨h3.1, h3.2.mono fun _ _ ⟨e1, e2⟩ => ⟨e1, h4 _ e2⟩⟩
    | halt x w' => simp only [Oper.quietUpon] at h3
  · rw [if_neg hw] at this
    exact ⟨undef, fun w1 _ => .inr ⟨by simpa using hw, rfl⟩, this⟩

theorem quiet_wider {C C' : World → Prop} {o : Oper} {a : Act} {w : World} {v : Value} (h : ∀ w, C w → C' w) (hh : o.quietAt P a C w v) : o.quietAt P a C' w v := by
  unfold Oper.quietAt at *
  generalize (execOp a.eval o).run P w = r at *
  cases r with
  | ok n w' =>
    cases n <;> simp only [Oper.quietUpon] at hh ⊢ <;> try exact hh
    exact ⟨hh.1, hh.2.mono fun _ _ ⟨e1, e2⟩ => ⟨e1, h _ e2⟩⟩
  | halt x w' => simp only [Oper.quietUpon] at hh

/-- Operation i comes up. -/
def qR (P : Program) (ops : Array Oper) (w0 : World) (i : Nat) (K : Act → Prop) (a : Act) : Prop :=
  ∃ o v, ops[i]? = some o ∧ yR P ops w0 o v a ∧ K (a.put o.dst v)

/-- What has come up is closed. -/
structure ClInv (md : Region.Mode) (ops : Array Oper) (listed : Array Bool) : Prop where
  size : listed.size = ops.size
  closed : ∀ j oj, ops[j]? = some oj → listed.getD j false = true → ∀ e ∈ oj.after, Region.binds md e = true → listed.getD e.on false = true

theorem ClInv.set {i : Nat} {listed : Array Bool} (inv : ClInv md ops listed) (hi : i ∈ Region.ready md ops listed) : ClInv md ops (listed.setIfInBounds i true) := by
  obtain ⟨_, oi, hoi, hall⟩ := mem_ready.1 hi
  refine ⟨by simp [inv.size], fun j oj hj hl e he hb => ?_⟩
  by_cases hij : i = j
  · subst hij
    have : oj = oi := Option.some.inj (hj.symm.trans hoi)
    subst this
    exact getD_set_true (hall e he hb)
  · rw [getD_set_ne false hij] at hl
    exact getD_set_true (inv.closed j oj hj hl e he hb)

/-- Each of the first m waits for the next ones up to the last of them, and all behind them, number n aside, for that one. -/
def gateB (md : Region.Mode) (ops : Array Oper) (m n : Nat) : Bool :=
  ((List.range m).all fun i => decide (i + 1 = m) || (List.range m).any fun j => decide (i < j) && Region.waitsFor md ops j i) &&
  (List.range ops.size).all fun t => decide (t < m) || decide (t = n) || Region.waitsFor md ops t (m - 1)

theorem gate_waits {m n : Nat} {listed : Array Bool} (hg : gateB md ops m n = true) (inv : ClInv md ops listed) (_hm : m ≤ ops.size) :
    ∀ (d i : Nat), m - i = d → i < m → listed.getD i true = false → ∀ t, m ≤ t → t ≠ n → t ∉ Region.ready md ops listed := by
  simp only [gateB, Bool.and_eq_true] at hg
  obtain ⟨hs, hc⟩ := hg
  intro d
  induction d using Nat.strongRecOn with
  | _ d ih =>
    intro i hd hi hun t ht htn hr
    obtain ⟨_, ot, hot, hall⟩ := mem_ready.1 hr
    have htlt : t < ops.size := (Array.getElem?_eq_some_iff.1 hot).1
    by_cases him : i + 1 = m
    · have h1 := List.all_eq_true.1 hc t (List.mem_range.2 htlt)
      simp only [Bool.or_eq_true, decide_eq_true_eq] at h1
      rcases h1 with (h1 | h1) | h1
      · omega
      · exact htn h1
      · obtain ⟨o', ho', e, he, hb, hon⟩ := Region.waitsFor_spec h1
        obtain rfl : o' = ot := Option.some.inj (ho'.symm.trans hot)
        have h2 := hall e he hb
        rw [hon, show m - 1 = i by omega, getD_both hun] at h2
        cases h2
    · have h1 := List.all_eq_true.1 hs i (List.mem_range.2 hi)
      simp only [Bool.or_eq_true, decide_eq_true_eq, him, false_or] at h1
      obtain ⟨j, hj, hj2⟩ := List.any_eq_true.1 h1
      have hjm := List.mem_range.1 hj
      simp only [Bool.and_eq_true, decide_eq_true_eq] at hj2
      obtain ⟨oj, hoj, e, he, hb, hon⟩ := Region.waitsFor_spec hj2.2
      cases hl : listed.getD j false with
      | true =>
        have h2 := inv.closed j oj hoj hl e he hb
        rw [hon, getD_both hun] at h2
        cases h2
      | false =>
        exact ih (m - j) (by omega) j rfl (by omega) (getD_in (by rw [inv.size]; omega) hl) t ht htn hr

/-- Whatever order is drawn for the first m operations, number n aside. -/
def headF (P : Program) (md : Region.Mode) (ops : Array Oper) (w0 : World) (m n : Nat) (L : Array Bool → Act → Prop) : Nat → Array Bool → Act → Prop
  | 0, listed, a => L listed a
  | f + 1, listed, a => (∃ i ∈ Region.ready md ops listed, i ≠ n) ∧ ∀ i ∈ Region.ready md ops listed, i ≠ n → i < m ∧ qR P ops w0 i (headF P md ops w0 m n L f (listed.setIfInBounds i true)) a

theorem headF_first {m n i : Nat} {oi : Oper} {v : Value} {L : Array Bool → Act → Prop} (hi : ops[i]? = some oi) (hsel : ∀ (j : Nat) (o : Oper) cs b, ops[j]? = some o → o.op ≠ .select cs b)
    (hg : gateB md ops m n = true) (hm : m ≤ ops.size) (hmn : m ≤ n) (hin : i < m)
    (hdone : ∀ listed a, L listed a → ∀ j ∈ Region.ready md ops listed, m ≤ j) :
    ∀ (f : Nat) (listed : Array Bool) (a : Act), ClInv md ops listed →
      (∀ j oj, ops[j]? = some oj → j ≠ i → listed.getD j true = false → (∀ e ∈ oj.after, Region.binds md e = true → e.on ≠ i) → oi.apart ops oj = true) →
      i ∈ Region.ready md ops listed → yR P ops w0 oi v a →
      headF P md ops w0 m n L f (listed.setIfInBounds i true) (a.put oi.dst v) → headF P md ops w0 m n L (f + 1) listed a := by
  intro f
  induction f with
  | zero =>
    intro listed a inv _ hr hy H
    have hun := (mem_ready.1 hr).1
    refine ⟨⟨i, hr, by omega⟩, fun j hj hjn => ?_⟩
    have hjn' : j < m := Nat.lt_of_not_le fun h => gate_waits hg inv hm _ i rfl hin hun j h hjn hj
    refine ⟨hjn', ?_⟩
    by_cases hji : j = i
    · subst hji; exact ⟨oi, v, hi, hy, H⟩
    · have := hdone _ _ H j (ready_mono hj hji)
      omega
  | succ f ih =>
    intro listed a inv hfree hr hy H
    have hun := (mem_ready.1 hr).1
    refine ⟨⟨i, hr, by omega⟩, fun j hj hjn => ?_⟩
    have hjn' : j < m := Nat.lt_of_not_le fun h => gate_waits hg inv hm _ i rfl hin hun j h hjn hj
    refine ⟨hjn', ?_⟩
    by_cases hji : j = i
    · subst hji; exact ⟨oi, v, hi, hy, H⟩
    · obtain ⟨oj, u, hoj, hyj, k⟩ := (H.2 j (ready_mono hj hji) hjn).2
      obtain ⟨hjun, oj', hoj', hall⟩ := mem_ready.1 hj
      obtain rfl : oj' = oj := Option.some.inj (hoj'.symm.trans hoj)
      have hnot : ∀ e ∈ oj'.after, Region.binds md e = true → e.on ≠ i := by
        intro e he hb heq
        have k2 := hall e he hb
        rw [heq, getD_both hun] at k2
        cases k2
      have hap := hfree j oj' hoj hji hjun hnot
      obtain ⟨h1, h2, h3⟩ := Oper.apart_spec hap
      refine ⟨oj', u, hoj, fun w1 hw1 => (hyj w1 hw1).of_same (execOp_put oj' (fun cs b => hsel j oj' cs b hoj) a oi.dst v h1).symm (wanted_put oj' a oi.dst v h1).symm, ?_⟩
      refine ih (listed.setIfInBounds j true) (a.put oj'.dst u) (inv.set hj) ?_ (ready_mono hr (Ne.symm hji))
        (fun w1 hw1 => (hy w1 hw1).of_same (execOp_put oi (fun cs b => hsel i oi cs b hi) a oj'.dst u h3) (wanted_put oi a oj'.dst u h3)) ?_
      · intro k ok hk hki hunk hno
        refine hfree k ok hk hki ?_ hno
        by_cases hjk : j = k
        · subst hjk; exact hjun
        · rw [getD_set_ne true hjk] at hunk; exact hunk
      · rw [Array.setIfInBounds_comm _ _ hji, ← Act.put_comm a v u h2]
        exact k

/-- The first m, from number k on, in the text's order; then it is Z that has come up. -/
def lexF (md : Region.Mode) (ops : Array Oper) (m : Nat) (Z : Array Bool) : Nat → Nat → Array Bool → Bool
  | 0, _, listed => listed == Z && (Region.ready md ops Z).all fun j => decide (m ≤ j)
  | f + 1, k, listed => (Region.ready md ops listed).contains k && Region.free md ops listed k && lexF md ops m Z f (k + 1) (listed.setIfInBounds k true)

theorem lexF_done {m : Nat} {Z : Array Bool} : ∀ {f k : Nat} {listed : Array Bool}, lexF md ops m Z f k listed = true → ∀ j ∈ Region.ready md ops Z, m ≤ j
  | 0, _, _, h => by
    simp only [lexF, Bool.and_eq_true] at h
    exact fun j hj => by simpa using List.all_eq_true.1 h.2 j hj
  | f + 1, _, _, h => by
    simp only [lexF, Bool.and_eq_true] at h
    exact lexF_done h.2

theorem headF_lex {m n : Nat} {Z : Array Bool} {Lq : Act → Prop} (hsel : Region.noSelect ops = true) (hg : gateB md ops m n = true) (hm : m ≤ ops.size) (hmn : m ≤ n) :
    ∀ (l : List Oper) (k : Nat) (listed : Array Bool) (a : Act), (∀ j, j < l.length → l[j]? = ops[k + j]?) → k + l.length = m → ClInv md ops listed →
    lexF md ops m Z l.length k listed = true → wpQuietR P ops w0 Lq l a →
    headF P md ops w0 m n (fun listed' a' => listed' = Z ∧ Lq a') l.length listed a
  | [], k, listed, a, _, hk, _, hB, h => by
    simp only [List.length_nil, lexF, Bool.and_eq_true, beq_iff_eq] at hB
    exact ⟨hB.1, h⟩
  | o :: l, k, listed, a, hl, hk, inv, hB, h => by
    have h0 : ops[k]? = some o := by simpa using (hl 0 (by simp)).symm
    have hdone := lexF_done hB
    simp only [List.length_cons, lexF, Bool.and_eq_true] at hB
    obtain ⟨⟨hr, hf⟩, hB'⟩ := hB
    have hkn : k < m := by simp only [List.length_cons] at hk; omega
    have hr' : k ∈ Region.ready md ops listed := by simpa using hr
    obtain ⟨v, hy, hK⟩ := h
    refine headF_first h0 (Region.noSelect_spec hsel) hg hm hmn hkn (fun listed' a' hL => by rw [hL.1]; exact hdone) l.length listed a inv (Region.free_spec h0 hf) hr' hy ?_
    refine headF_lex hsel hg hm hmn l (k + 1) _ _ (fun j hj => ?_) (by simp only [List.length_cons] at hk; omega) (inv.set hr') hB' hK
    have := hl (j + 1) (by simp; omega)
    simpa [Nat.add_assoc, Nat.add_comm 1 j] using this

theorem wpOp_of_qR {i : Nat} {a : Act} {K : Act → Prop} {K' : Act → World → Prop} {Q' : Exit → Act → World → Prop} {w : World} (hC : Cls w0 w) (h : ∀ a w', Cls w w' → K a → K' a w') (hh : qR P ops w0 i K a) : wpOp P ops Q' i K' a w := by
  obtain ⟨o, v, ho, hy, hk⟩ := hh
  exact wpOp_of_qOp (C := Cls w) (Below.refl _ _) h ((hy w hC).qOp ho hk)

/-- No operation among the first m waits for number n or meets its slot; it waits for none. -/
def looseB (md : Region.Mode) (ops : Array Oper) (m n : Nat) : Bool :=
  (List.range m).all fun i => !Region.waitsFor md ops i n && match ops[n]?, ops[i]? with
    | some o, some oi => o.apart ops oi
    | _, _ => false

theorem looseB_spec {m n i : Nat} {o oi : Oper} (h : looseB md ops m n = true) (hi : i < m) (hn : ops[n]? = some o) (ho : ops[i]? = some oi) : o.apart ops oi = true ∧ ∀ e ∈ oi.after, Region.binds md e = true → e.on ≠ n := by
  have h1 := List.all_eq_true.1 h i (List.mem_range.2 hi)
  rw [hn, ho] at h1
  simp only [Bool.and_eq_true, Bool.not_eq_true'] at h1
  refine ⟨h1.2, fun e he hb heq => ?_⟩
  have h2 := h1.1
  unfold Region.waitsFor at h2
  rw [ho] at h2
  have h3 : (oi.after.any fun e => Region.binds md e && e.on == n) = true := Array.any_eq_true'.2 ⟨e, he, by simp [hb, heq]⟩
  dsimp only at h2
  rw [h3] at h2
  cases h2

def ptrV (g : Nat) : Value := .pointer (some ⟨g, 0, none⟩)

theorem heap_keepF {w w' : World} {g : Nat} {o : Obj} (hb : Cls w w') (h : w.heap[g]? = some o) : w'.heap[g]? = some o :=
  (Below.block hb g (by rcases Nat.lt_or_ge g w.heap.size with h' | h'; exact h'; rw [Array.getElem?_eq_none h'] at h; cases h)).trans h

/-- Once the cell is laid. -/
theorem any_post {m n g : Nat} {L : Array Bool → Act → Prop} {Q' : Exit → Act → World → Prop} {o : Oper} {X : Obj} (hsel : ∀ (j : Nat) (o : Oper) cs b, ops[j]? = some o → o.op ≠ .select cs b)
    (hgt : gateB md ops m n = true) (hm : m ≤ ops.size) (hn : n < ops.size) (hlo : looseB md ops m n = true) (ho : ops[n]? = some o)
    (hL : ∀ listed a w gp, L listed a → Cls w0 w → w.heap[gp]? = some X → w0.heap.size ≤ gp → wpAny P md ops Q' g (listed.setIfInBounds n true) (a.put o.dst (ptrV gp)) w) :
    ∀ (f : Nat) (listed : Array Bool) (a : Act) (w : World) (gp : Nat), listed.size = ops.size → ClInv md ops (listed.setIfInBounds n true) → Cls w0 w → w.heap[gp]? = some X → w0.heap.size ≤ gp →
      headF P md ops w0 m n L f listed a → wpAny P md ops Q' (f + g) (listed.setIfInBounds n true) (a.put o.dst (ptrV gp)) w := by
  intro f
  induction f with
  | zero => intro listed a w gp _ _ hw hx hg h; rw [Nat.zero_add]; exact hL _ _ _ _ h hw hx hg
  | succ f ih =>
    intro listed a w gp hsz inv hw hx hg h
    obtain ⟨⟨i0, hi0, hne⟩, hall⟩ := h
    have hi0n := (hall i0 hi0 hne).1
    have hr0 := ready_mono hi0 hne
    rw [Nat.add_right_comm]
    refine ⟨fun h0 => absurd h0 (List.ne_nil_of_mem hr0), fun i hi => ?_⟩
    obtain ⟨hun, oi, hoi, haft⟩ := mem_ready.1 hi
    have hin : i ≠ n := by
      rintro rfl
      have : (listed.setIfInBounds i true).getD i true = true := by
        rw [Array.getD_eq_getD_getElem?, Array.getElem?_setIfInBounds_self_of_lt (by omega)]; rfl
      rw [this] at hun; cases hun
    have hin' : i < m := Nat.lt_of_not_le fun h => gate_waits hgt inv hm _ i0 rfl hi0n (mem_ready.1 hr0).1 i h hin hi
    obtain ⟨hap, hno⟩ := looseB_spec hlo hin' ho hoi
    have hri : i ∈ Region.ready md ops listed := by
      refine mem_ready.2 ⟨by rw [getD_set_ne true (Ne.symm hin)] at hun; exact hun, oi, hoi, fun e he hb => ?_⟩
      have := haft e he hb
      rwa [getD_set_ne false (Ne.symm (hno e he hb))] at this
    obtain ⟨_, oi', v, hoi', hy, hk⟩ := hall i hri hin
    obtain rfl : oi' = oi := Option.some.inj (hoi'.symm.trans hoi)
    obtain ⟨h1, h2, h3⟩ := Oper.apart_spec hap
    refine wpOp_of_qR (K := fun a' => a' = (a.put o.dst (ptrV gp)).put oi'.dst v) hw (fun a' w' hw' he => ?_)
      ⟨oi', v, hoi, fun w1 hw1 => (hy w1 hw1).of_same (execOp_put oi' (fun cs b => hsel i oi' cs b hoi) a o.dst _ h1) (wanted_put oi' a o.dst _ h1), rfl⟩
    subst he
    rw [Act.put_comm a (ptrV gp) v h2, Array.setIfInBounds_comm _ _ (Ne.symm hin)]
    refine ih _ _ _ _ (by simp [hsz]) ?_ (nx hw hw') (heap_keepF hw' hx) hg hk
    rw [Array.setIfInBounds_comm _ _ hin]
    exact inv.set hi

/-- Before the cell is laid. -/
theorem any_pre {m n g : Nat} {L : Array Bool → Act → Prop} {Q' : Exit → Act → World → Prop} {o : Oper} {X : Obj} (hsel : ∀ (j : Nat) (o : Oper) cs b, ops[j]? = some o → o.op ≠ .select cs b)
    (hgt : gateB md ops m n = true) (hm : m ≤ ops.size) (hn : n < ops.size) (hlo : looseB md ops m n = true) (ho : ops[n]? = some o)
    (hW : ∀ t, Region.wanted o t = true) (hR : ∀ (a : Act) (w : World), (execOp a.eval o).run P w = .ok (.value (ptrV w.heap.size)) (w.alloc X))
    (hD : ∀ listed a w, L listed a → Cls w0 w → wpAny P md ops Q' (g + 1) listed a w)
    (hL : ∀ listed a w gp, L listed a → Cls w0 w → w.heap[gp]? = some X → w0.heap.size ≤ gp → wpAny P md ops Q' g (listed.setIfInBounds n true) (a.put o.dst (ptrV gp)) w) :
    ∀ (f : Nat) (listed : Array Bool) (a : Act) (w : World), ClInv md ops listed → Cls w0 w →
      headF P md ops w0 m n L f listed a → wpAny P md ops Q' (f + (g + 1)) listed a w := by
  intro f
  induction f with
  | zero =>
    intro listed a w inv hw h
    rw [Nat.zero_add]
    exact hD _ _ _ h hw
  | succ f ih =>
    intro listed a w inv hw h
    have h' := h
    obtain ⟨⟨i0, hi0, hne⟩, hall⟩ := h
    rw [Nat.add_right_comm]
    refine ⟨fun h0 => absurd h0 (List.ne_nil_of_mem hi0), fun i hi => ?_⟩
    by_cases hin : i = n
    · subst hin
      unfold wpOp
      simp only [ho, hW, if_true]
      left
      unfold Oper.wp
      rw [hR]
      simp only [Oper.upon]
      rw [show f + (g + 1) = (f + 1) + g by omega]
      exact any_post hsel hgt hm hn hlo ho hL (f + 1) listed a _ _ inv.size (inv.set hi) (nxAlloc hw _) (by show (w.heap.push X)[w.heap.size]? = _; simp) (Below.size hw) h'
    · obtain ⟨hlt, hq⟩ := hall i hi hin
      exact wpOp_of_qR hw (fun a' w' hw' hk => ih _ _ _ (inv.set hi) (nx hw hw') hk) hq

/-- The checks of a region whose first m operations are quiet, with a loose allocation at number n. -/
def floatB (md : Region.Mode) (ops : Array Oper) (m n : Nat) (Z : Array Bool) : Bool :=
  Region.noSelect ops && decide (m ≤ ops.size) && decide (m ≤ n) && decide (n < ops.size) && gateB md ops m n && looseB md ops m n && lexF md ops m Z m 0 (Array.replicate ops.size false)

theorem wpAny_mono {Q Q' : Exit → Act → World → Prop} (hQ : ∀ e a w, Q e a w → Q' e a w) : ∀ (f : Nat) (listed : Array Bool) (a : Act) (w : World), wpAny P md ops Q f listed a w → wpAny P md ops Q' f listed a w
  | 0, _, _, _, h => ⟨h.1, hQ _ _ _ h.2⟩
  | f + 1, listed, _, _, h => ⟨fun h0 => hQ _ _ _ (h.1 h0), fun i hi => by
      have h1 := wpOp_mono (fun a' w' h2 => wpAny_mono hQ f _ a' w' h2) (h.2 i hi)
      have hl : LetsOut Q → LetsOut Q' := fun ⟨a, w, h⟩ => ⟨a, w, hQ _ _ _ h⟩
      unfold wpOp at *
      split
      · rename_i ho; simpa only [ho] using h1
      · rename_i o ho
        simp only [ho] at h1
        split
        · rename_i hw
          simp only [hw, if_true] at h1
          refine h1.imp (fun h3 => ?_) (fun h3 => ⟨h3.1, hl h3.2⟩)
          unfold Oper.wp at *
          generalize (execOp _ o).run P _ = r at *
          cases r with
          | ok nx' w' =>
            cases nx' <;> simp only [Oper.upon] at h3 ⊢ <;> first
              | exact h3
              | exact Calls.mono h3 (fun e w'' he => by cases e <;> first | exact he | exact hQ _ _ _ he | exact hl he)
          | halt x w' =>
            cases x <;> simp only [Oper.upon] at h3 ⊢
            exact hQ _ _ _ h3
        · rename_i hw; simp only [hw] at h1; exact h1⟩

/-- Only the normal end. -/
def only (Q : Exit → Act → World → Prop) : Exit → Act → World → Prop := Exit.then (Q .normal) (fun _ _ _ => False)
theorem only_le {Q : Exit → Act → World → Prop} : ∀ e a w, only Q e a w → Q e a w := by
  intro e a w h
  cases e <;> first | exact h | exact False.elim h

/-- The first m operations are quiet; number n lays a cell, at any time; what else there is is shown in each order (the second time with the cell laid). -/
theorem wp_region_float {id : Nat} {Q : Exit → Act → World → Prop} {a : Act} {w : World} {l : List Oper} (m n : Nat) (Z : Array Bool) (o : Oper) (X : Obj) (hfm : P.follows .mixedOrders = true) (hB : floatB .any l.toArray m n Z = true)
    (ho' : l[n]? = some o) (hW : ∀ t, Region.wanted o t = true) (hR : ∀ (a : Act) (w : World), (execOp a.eval o).run P w = .ok (.value (ptrV w.heap.size)) (w.alloc X))
    (h : wpQuietR P l.toArray w (fun a' => (∀ w', Cls w w' → wpAny P .any l.toArray (only Q) (l.length - m) Z a' w') ∧
      ∀ gp w', Cls w w' → w'.heap[gp]? = some X → w.heap.size ≤ gp → wpAny P .any l.toArray (only Q) (l.length - m - 1) (Z.setIfInBounds n true) (a'.put o.dst (ptrV gp)) w') (l.take m) a) : (Code.region id l.toArray true).wp P Q a w := by
  simp only [floatB, Bool.and_eq_true, decide_eq_true_eq] at hB
  obtain ⟨⟨⟨⟨⟨⟨hsel, hm⟩, hmn⟩, hn⟩, hg⟩, hlo⟩, hlex⟩ := hB
  have ho : l.toArray[n]? = some o := by simpa using ho'
  have hm' : m ≤ l.length := by simpa using hm
  have hn' : n < l.length := by simpa using hn
  have htl : (l.take m).length = m := by simp; omega
  have inv0 : ClInv .any l.toArray (Array.replicate l.toArray.size false) := by
    refine ⟨by simp, fun j oj _ hl => ?_⟩
    rw [getD_replicate_false] at hl; cases hl
  have H := headF_lex (md := .any) (Z := Z) hsel hg hm hmn (l.take m) 0 _ a (fun j hj => by
    have hj' : j < m := by rw [htl] at hj; exact hj
    simp [hj']) (by simpa using htl) inv0 (by rw [htl]; exact hlex) h
  refine wp_region_any hfm (wpAny_mono only_le _ _ _ _ ?_)
  have := any_pre (Q' := only Q) (g := l.length - m - 1) (Region.noSelect_spec hsel) hg hm hn hlo ho hW hR
    (fun listed a' w' hL hw' => by
      have := hL.2.1 w' hw'
      rw [hL.1, show l.length - m - 1 + 1 = l.length - m by omega]
      exact this)
    (fun listed a' w' gp hL hw' hx hg => by rw [hL.1]; exact hL.2.2 gp w' hw' hx hg) _ _ _ _ inv0 ((Below.refl _ _).drew) H
  rw [htl, show m + (l.length - m - 1 + 1) = l.toArray.size by simp; omega] at this
  exact this
/-- Operations that yield one value in whatever world, in the text's order. -/
def wpPure (P : Program) (ops : Array Oper) (Q : Act → Prop) : List Oper → Act → Prop
  | [], a => Q a
  | o :: rest, a => ∃ v, Yields P ops o v a ∧ wpPure P ops Q rest (a.put o.dst v)
theorem wpPure_nil {Q : Act → Prop} {a : Act} (h : Q a) : wpPure P ops Q [] a := h
theorem wpPure_step {Q : Act → Prop} {a : Act} {o : Oper} {rest : List Oper}
    (h : ∀ K : Act → Prop, (∀ a, wpPure P ops Q rest a → K a) → if Region.wanted o (yielded ops a.tmps) then ∃ v, (∀ w, (execOp a.eval o).run P w = .ok (.value v) w) ∧ K (a.put o.dst v) else K (a.put o.dst undef)) : wpPure P ops Q (o :: rest) a := by
  have := h _ (fun _ h => h)
  unfold wpPure
  by_cases hw : Region.wanted o (yielded ops a.tmps) = true
  · rw [if_pos hw] at this
    obtain ⟨v, h1, h2⟩ := this
    exact ⟨v, .inl ⟨hw, h1⟩, h2⟩
  · rw [if_neg hw] at this
    exact ⟨undef, .inr ⟨by simpa using hw, rfl⟩, this⟩

/-- So many of them, from number k on, may be taken first; then all is forced from number e on. -/
def lexTo (md : Region.Mode) (ops : Array Oper) (g e : Nat) : Nat → Nat → Array Bool → Bool
  | 0, _, listed => Region.seqB md ops g e listed
  | f + 1, k, listed => (Region.ready md ops listed).contains k && Region.free md ops listed k && lexTo md ops g e f (k + 1) (listed.setIfInBounds k true)

theorem any_of_pure {g e : Nat} {Q' : Exit → Act → World → Prop} {C : World → Prop} {Lq : Act → Prop} (hsel : Region.noSelect ops = true) (hQ : ∀ c a w, ¬ Q' (.panic c) a w)
    (hL : ∀ listed a w, Region.seqB md ops g e listed = true → Lq a → C w → wpAny P md ops Q' g listed a w) :
    ∀ (l : List Oper) (k : Nat) (listed : Array Bool) (a : Act) (w : World), (∀ j, j < l.length → l[j]? = ops[k + j]?) → lexTo md ops g e l.length k listed = true → wpPure P ops Lq l a → C w → wpAny P md ops Q' (l.length + g) listed a w
  | [], _, listed, a, w, _, hB, h, hw => by
    rw [List.length_nil, Nat.zero_add]
    exact hL _ _ _ (by simpa [lexTo] using hB) h hw
  | o :: l, k, listed, a, w, hl, hB, h, hw => by
    have h0 : ops[k]? = some o := by simpa using (hl 0 (by simp)).symm
    simp only [List.length_cons, lexTo, Bool.and_eq_true] at hB
    obtain ⟨⟨hr, hf⟩, hB'⟩ := hB
    obtain ⟨v, hy, hK⟩ := h
    rw [List.length_cons, Nat.add_right_comm]
    refine wpAny_first h0 (Region.noSelect_spec hsel) (fun c a w h => absurd h (hQ _ _ _)) _ listed a w (Region.free_spec h0 hf) (by simpa using hr) hy ?_
    refine any_of_pure hsel hQ hL l (k + 1) _ _ w (fun j hj => ?_) hB' hK hw
    have := hl (j + 1) (by simp; omega)
    simpa [Nat.add_assoc, Nat.add_comm 1 j] using this

theorem wpPure_put {o : Oper} {x : Value} {Lq : Act → Prop} (hsel : ∀ (j : Nat) (o : Oper) cs b, ops[j]? = some o → o.op ≠ .select cs b) : ∀ (l : List Oper) (k : Nat) (a : Act), (∀ j, j < l.length → l[j]? = ops[k + j]?) → (∀ oi ∈ l, o.apart ops oi = true) →
    wpPure P ops (fun a => Lq (a.put o.dst x)) l a → wpPure P ops Lq l (a.put o.dst x)
  | [], _, _, _, _, h => h
  | oi :: l, k, a, hl, hap, h => by
    have h0 : ops[k]? = some oi := by simpa using (hl 0 (by simp)).symm
    obtain ⟨v, hy, hK⟩ := h
    obtain ⟨h1, h2, _⟩ := Oper.apart_spec (hap oi (by simp))
    refine ⟨v, hy.of_same (execOp_put oi (fun cs b => hsel k oi cs b h0) a o.dst x h1) (wanted_put oi a o.dst x h1), ?_⟩
    rw [Act.put_comm a x v h2]
    refine wpPure_put hsel l (k + 1) _ (fun j hj => ?_) (fun o' ho' => hap o' (by simp [ho'])) hK
    have := hl (j + 1) (by simp; omega)
    simpa [Nat.add_assoc, Nat.add_comm 1 j] using this

theorem wpQuietR_mono {Q Q' : Act → Prop} (h : ∀ a, Q a → Q' a) : ∀ (l : List Oper) (a : Act), wpQuietR P ops w0 Q l a → wpQuietR P ops w0 Q' l a
  | [], a, hh => h a hh
  | _ :: l, _, ⟨v, h1, h2⟩ => ⟨v, h1, wpQuietR_mono h l _ h2⟩
theorem wpPure_mono {Q Q' : Act → Prop} (h : ∀ a, Q a → Q' a) : ∀ (l : List Oper) (a : Act), wpPure P ops Q l a → wpPure P ops Q' l a
  | [], a, hh => h a hh
  | _ :: l, _, ⟨v, h1, h2⟩ => ⟨v, h1, wpPure_mono h l _ h2⟩

/-- The checks, with pure operations m .. n-1 between. -/
def floatPB (md : Region.Mode) (ops : Array Oper) (m n : Nat) (Z : Array Bool) : Bool :=
  floatB md ops m n Z && ((ops.toList.drop m).take (n - m)).all (fun oi => match ops[n]? with
    | some o => o.apart ops oi
    | none => false) &&
  lexTo md ops (ops.size - n) n (n - m) m Z && lexTo md ops (ops.size - n - 1) (n + 1) (n - m) m (Z.setIfInBounds n true)

/-- The first m operations are quiet, those from m up to n pure; number n lays a cell, at any time; the rest, in one forced order, is walked. -/
theorem wp_region_floatP {id : Nat} {Q : Exit → Act → World → Prop} {a : Act} {w : World} {l : List Oper} (m n : Nat) (Z : Array Bool) (o : Oper) (X : Obj) (hfm : P.follows .mixedOrders = true) (hB : floatPB .any l.toArray m n Z = true)
    (ho' : l[n]? = some o) (hW : ∀ t, Region.wanted o t = true) (hR : ∀ (a : Act) (w : World), (execOp a.eval o).run P w = .ok (.value (ptrV w.heap.size)) (w.alloc X))
    (h : wpQuietR P l.toArray w (wpPure P l.toArray (fun a' => ∀ gp w', Cls w w' → w'.heap[gp]? = some X → w.heap.size ≤ gp → wpList P l.toArray (only Q) (l.drop (n + 1)) (a'.put o.dst (ptrV gp)) w') ((l.drop m).take (n - m))) (l.take m) a) : (Code.region id l.toArray true).wp P Q a w := by
  simp only [floatPB, Bool.and_eq_true] at hB
  obtain ⟨⟨⟨hB, hap⟩, hp1⟩, hp2⟩ := hB
  have ho : l.toArray[n]? = some o := by simpa using ho'
  have hB' := hB
  simp only [floatB, Bool.and_eq_true, decide_eq_true_eq] at hB'
  obtain ⟨⟨⟨⟨⟨⟨hsel, hm⟩, hmn⟩, hn⟩, _⟩, _⟩, _⟩ := hB'
  have hn' : n < l.length := by simpa using hn
  have hsz : l.toArray.size = l.length := by simp
  have hln : ((l.drop m).take (n - m)).length = n - m := by simp; omega
  have hget : ∀ j, j < ((l.drop m).take (n - m)).length → ((l.drop m).take (n - m))[j]? = l.toArray[m + j]? := by
    intro j hj
    rw [hln] at hj
    simp [hj]
  have hap' : ∀ oi ∈ (l.drop m).take (n - m), o.apart l.toArray oi = true := by
    intro oi hoi
    have := List.all_eq_true.1 hap oi (by simpa using hoi)
    rw [ho] at this
    exact this
  refine wp_region_float m n Z o X hfm hB ho' hW hR (wpQuietR_mono (fun a' ha' => ⟨fun w' hw' => ?_, fun gp w' hw' hx hg => ?_⟩) _ _ h)
  · have := any_of_pure (md := .any) (g := l.toArray.size - n) (e := n) (Q' := only Q) (C := Cls w) hsel (fun _ _ _ h => h) (fun listed a w1 hq hL hw1 => by
      have eg : l.toArray.size - n = (l.length - n - 1) + 1 := by omega
      rw [eg] at hq ⊢
      simp only [Region.seqB, Bool.and_eq_true, decide_eq_true_eq] at hq
      refine ⟨fun h0 => (by rw [hq.1] at h0; cases h0), fun i hi => ?_⟩
      rw [hq.1] at hi
      obtain rfl : i = n := by simpa using hi
      unfold wpOp
      simp only [ho, hW, if_true]
      left
      unfold Oper.wp
      rw [hR]
      simp only [Oper.upon]
      have hdl : (l.drop (i + 1)).length = l.length - i - 1 := by simp; omega
      have := wpAny_of_seq (md := .any) (Q' := only Q) (l.drop (i + 1)) (i + 1) (listed.setIfInBounds i true) _ _ (fun j => by simp [List.getElem?_drop]) (by rw [hdl]; exact hq.2) (hL w1.heap.size _ (nxAlloc hw1 X) (by show (w1.heap.push X)[w1.heap.size]? = _; simp) (Below.size hw1))
      rwa [hdl] at this) _ m Z a' w' hget (by rw [hln]; exact hp1) ha' hw'
    rw [hln, show n - m + (l.toArray.size - n) = l.length - m by omega] at this
    exact this
  · have hdl : (l.drop (n + 1)).length = l.toArray.size - n - 1 := by simp; omega
    have hP := wpPure_put (o := o) (x := ptrV gp) (Lq := fun a => ∀ w', Cls w w' → w'.heap[gp]? = some X → wpList P l.toArray (only Q) (l.drop (n + 1)) a w') (Region.noSelect_spec hsel) _ m a' hget hap' (wpPure_mono (fun a h w' hw' hx => h gp w' hw' hx hg) _ _ ha')
    have := any_of_pure (md := .any) (g := l.toArray.size - n - 1) (e := n + 1) (Q' := only Q) (C := fun w' => Cls w w' ∧ w'.heap[gp]? = some X) hsel (fun _ _ _ h => h) (fun listed a w1 hq hL hw1 => by
      have := wpAny_of_seq (md := .any) (Q' := only Q) (l.drop (n + 1)) (n + 1) listed a w1 (fun j => by simp [List.getElem?_drop]) (by rw [hdl]; exact hq) (hL w1 hw1.1 hw1.2)
      rwa [hdl] at this) _ m _ _ w' hget (by rw [hln]; exact hp2) hP ⟨hw', hx⟩
    rw [hln, show n - m + (l.toArray.size - n - 1) = l.length - m - 1 by omega] at this
    exact this
end
/-- What follows behind a variable. -/
theorem only_hide {P : Program} {ops : Array Oper} {Q : Exit → Act → World → Prop} {l : List Oper} {a : Act} {w : World}
    (h : ∀ K : Act → World → Prop, (∀ a w, Q .normal a w → K a w) → wpList P ops (Exit.then K (fun _ _ _ => False)) l a w) : wpList P ops (only Q) l a w := h (Q .normal) (fun _ _ h => h)
theorem callR {P : Program} {f : FuncId} {args : Array Value} {w : World} {v : Value} (k : Calls P f args w (Gives v w)) : Calls P f args w fun e w'' => e = .returned v ∧ Cls w w'' := k
end Go.Proofs.Ytkpganpojdboeaa

/-! Unit -/
namespace Go.Proofs.Ytkpganpojdboeaa
open Go.RowKit

/-- The pair of two leaves. -/
def unitP : Pr := (.lf, .lf)
/-- The product of so many, if none on the way is too great. -/
def pwN (b : Pr) : Nat → Option Pr
  | 0 => some unitP
  | k + 1 => (pwN b k).bind fun o => limP (mulP o b)
def powP (p : Pr) (k : Int) : Option Pr := if -10 ≤ k ∧ k ≤ 10 then (if k < 0 then pwN (invP p) (-k).toNat else pwN p k.toNat) else none

theorem limP_some {p q : Pr} (h : limP p = some q) : q = p ∧ p.1.carets ≤ 8 := by
  unfold limP at h
  split at h
  · next hc => injection h with h; exact ⟨h.symm, hc⟩
  · simp at h
theorem pwN_ok {b : Pr} (hb : okP b) : ∀ {k : Nat} {o : Pr}, pwN b k = some o → okP o ∧ o.1.carets ≤ 8 := by
  intro k
  induction k with
  | zero => intro o h; injection h with h; subst h; exact ⟨rfl, by decide⟩
  | succ k ih =>
    intro o h
    rw [pwN] at h
    cases h1 : pwN b k with
    | none => rw [h1] at h; simp at h
    | some q =>
      rw [h1] at h
      obtain ⟨e, hc⟩ := limP_some (show limP (mulP q b) = some o from h)
      rw [e]
      exact ⟨mulP_ok (ih h1).1 hb, hc⟩
theorem pwN_none {b : Pr} {k : Nat} (h : pwN b k = none) : ∀ j, k ≤ j → pwN b j = none := by
  intro j hj
  induction j with
  | zero => have : k = 0 := by omega
            subst this; exact h
  | succ j ih =>
    by_cases e : k = j + 1
    · rw [← e]; exact h
    · rw [pwN, ih (by omega)]; rfl

theorem prUnit_any (w : World) : Calls Try.prog 59 #[] w (Gives (.agg #[.string Tr.lf.str, .string Tr.lf.str]) w) := by
  go_enter Try.func59, Try.ntmps59
  go_wp2
  refine bodyPost_ret (v := .agg #[.string Tr.lf.str, .string Tr.lf.str]) (by simp [results, Try.results59, go_sem]; rfl) rfl ⟨rfl, ?_⟩
  exact nxAlloc (Below.refl _ _) _

theorem identity_any (w : World) : Calls Try.prog 54 #[] w (Gives (.agg #[.string Tr.lf.str, .string Tr.lf.str]) w) := by
  go_enter Try.func54, Try.ntmps54
  go_wp2
  refine bodyPost_ret (v := .agg #[.string Tr.lf.str, .string Tr.lf.str]) (by simp [results, Try.results54, go_sem]; rfl) rfl ⟨rfl, ?_⟩
  exact nxAlloc (Below.refl _ _) _
end Go.Proofs.Ytkpganpojdboeaa

/-! HeldW -/
namespace Go.Proofs.Ytkpganpojdboeaa
open Go.RowKit

section
variable {P : Program} {ops : Array Oper} {Q : Exit → Act → World → Prop} {md : Region.Mode}

theorem held_mono {S S' : World → Prop} (hSS : ∀ w, S' w → S w) : ∀ (fuel : Nat) (listed : Array Bool) (a : Act) (w : World),
    wpAnyH P md ops Q S' fuel listed a w → wpAnyH P md ops Q S fuel listed a w
  | 0, _, _, _, h => h
  | fuel + 1, _, _, _, h => ⟨h.1, fun i hi => wpOp_mono (fun a' w' h' => ⟨hSS _ h'.1, held_mono hSS fuel _ a' w' h'.2⟩) (h.2 i hi)⟩

/-- One operation alone may come up; behind it the condition may be another one. -/
theorem held_one {S : World → Prop} {fuel : Nat} {listed : Array Bool} {a : Act} {w : World} (i : Nat) {o : Oper} (ho : ops[i]? = some o) (hr : Region.ready md ops listed = [i])
    (h : ∀ K' : Act → World → Prop, Shut (∀ (S' : World → Prop) a w, (∀ w, S' w → S w) → S' w → wpAnyH P md ops Q S' fuel (listed.setIfInBounds i true) a w → K' a w) → if Region.wanted o (yielded ops a.tmps) = true then Oper.wp P o a w K' Q else K' (a.put o.dst undef) w) :
    wpAnyH P md ops Q S (fuel + 1) listed a w :=
  wpAnyH_ready hr (by simp) (AllReadyH.cons ho (fun K hK => h K (fun _ a w hSS hS hW => hK.out a w (hSS _ hS) (fun _ => held_mono hSS _ _ _ _ hW))) AllReadyH.nil)
/-- Two operations may come up, whichever first. -/
theorem held_two {S : World → Prop} {fuel : Nat} {listed : Array Bool} {a : Act} {w : World} (i j : Nat) {oi oj : Oper} (hoi : ops[i]? = some oi) (hoj : ops[j]? = some oj) (hr : Region.ready md ops listed = [i, j])
    (h : ∀ K' : Act → World → Prop, Shut (∀ (S' : World → Prop) a w, (∀ w, S' w → S w) → S' w → wpAnyH P md ops Q S' fuel (listed.setIfInBounds i true) a w → K' a w) → if Region.wanted oi (yielded ops a.tmps) = true then Oper.wp P oi a w K' Q else K' (a.put oi.dst undef) w)
    (k : ∀ K' : Act → World → Prop, Shut (∀ (S' : World → Prop) a w, (∀ w, S' w → S w) → S' w → wpAnyH P md ops Q S' fuel (listed.setIfInBounds j true) a w → K' a w) → if Region.wanted oj (yielded ops a.tmps) = true then Oper.wp P oj a w K' Q else K' (a.put oj.dst undef) w) :
    wpAnyH P md ops Q S (fuel + 1) listed a w :=
  wpAnyH_ready hr (by simp) (AllReadyH.cons hoi (fun K hK => h K (fun _ a w hSS hS hW => hK.out a w (hSS _ hS) (fun _ => held_mono hSS _ _ _ _ hW)))
    (AllReadyH.cons hoj (fun K hK => k K (fun _ a w hSS hS hW => hK.out a w (hSS _ hS) (fun _ => held_mono hSS _ _ _ _ hW))) AllReadyH.nil))
end
end Go.Proofs.Ytkpganpojdboeaa

/-! Cj4 -/
namespace Go.Proofs.Ytkpganpojdboeaa
open Go.RowKit

theorem mem_left9 {x y : Tr} {n : Int} (h : n ∈ x.exps 0) : n ∈ (Tr.nd x y).exps 0 := by
  have hx : x.isLf = false := by cases x with
    | lf => simp [Tr.exps] at h
    | nd _ _ => rfl
  simp [Tr.exps, hx, h]
theorem mem_right9 {x y : Tr} {n : Int} (h : n - x.leaves ∈ y.exps 0) : n ∈ (Tr.nd x y).exps 0 := by
  have hy : y.isLf = false := by cases y with
    | lf => simp [Tr.exps] at h
    | nd _ _ => rfl
  have := (exps_shift_mem y (0 + x.leaves) n).2 (by rw [Int.zero_add]; exact h)
  simp [Tr.exps, hy]
  right
  simpa using this

theorem nodeC {w w' : World} {t : Tr} {b : Nat} (hc : Cls w w') (h : NodeAt w t b) : NodeAt w' t b := NodeAt.keep hc h
theorem str_inj9 {t u : Tr} (h : t.str = u.str) : t = u := (Tr.text_inj (r := []) (q := []) (by have := congrArg (fun b : ByteArray => b.data.toList) h; simpa [Tr.str] using this)).1
theorem tx_cls {f : Nat} {args : Array Value} {v : Value} {w : World} (h : Calls Try.prog f args w (Quietly v w)) : Calls Try.prog f args w (Gives v w) :=
  h.mono fun _ _ ⟨h1, n, h2⟩ => ⟨h1, by rw [h2]; exact drewB (Below.refl _ _) n⟩

/-- The halves of a reduced pair, if it carries 1/2 to itself. -/
def splP (r : Pr) : Option (Pr × Pr) :=
  match r with
  | (.nd a b, .nd c d) => if a.carets = c.carets then some ((a, c), (b, d)) else none
  | _ => some (unitP, unitP)
def ansPP (o : Option (Pr × Pr)) : Value := .tuple #[.agg #[.string (pS1 (o.map Prod.fst)), .string (pS2 (o.map Prod.fst))], .agg #[.string (pS1 (o.map Prod.snd)), .string (pS2 (o.map Prod.snd))], .bool o.isSome]
theorem mem_halfL {a b c d : Tr} {n : Int} (h : n ∈ both (a, c)) : n ∈ both (Tr.nd a b, Tr.nd c d) := by
  obtain ⟨h1, h2⟩ := mem_both.1 h
  exact mem_both.2 ⟨mem_left9 h1, mem_left9 h2⟩
theorem half_red {a b c d : Tr} (h : both (Tr.nd a b, Tr.nd c d) = []) (k : a.carets = c.carets) : both (a, c) = [] ∧ both (b, d) = [] := by
  constructor
  · cases e : both (a, c) with
    | nil => rfl
    | cons n l =>
      have hn : n ∈ both (Tr.nd a b, Tr.nd c d) := mem_halfL (by rw [e]; simp)
      rw [h] at hn; simp at hn
  · cases e : both (b, d) with
    | nil => rfl
    | cons n l =>
      have hm : n ∈ both (b, d) := by rw [e]; simp
      obtain ⟨h1, h2⟩ := mem_both.1 hm
      have hl : a.leaves = c.leaves := by unfold Tr.leaves; omega
      have hn : n + a.leaves ∈ both (Tr.nd a b, Tr.nd c d) := mem_both.2 ⟨mem_right9 (x := a) (y := b) (by show _ ∈ _; rw [show n + (a.leaves : Int) - a.leaves = n by omega]; exact h1), mem_right9 (x := c) (y := d) (by rw [hl, show n + (c.leaves : Int) - c.leaves = n by omega]; exact h2)⟩
      rw [h] at hn; simp at hn
theorem nd_ne_lf (a b : Tr) : ¬ (Tr.nd a b).str.toList = Tr.lf.str.toList := by
  rw [Lib.toList_data, Lib.toList_data, Tr.str_list, Tr.str_list]
  simp [Tr.text]

set_option maxRecDepth 100000 in
set_option maxHeartbeats 2000000 in
theorem specSplitHalves_any (a b : ByteArray) (w : World) (ha : a.size ≤ 9223372036854775806) (hb : b.size ≤ 9223372036854775806) :
    Calls Try.prog 29 #[.agg #[.string a, .string b]] w (Gives (ansPP ((pairOf a b).bind fun p => splP (red p))) w) := by
  have hg := fun w => prGood_any a b w ha hb
  cases h : pairOf a b with
  | none =>
    rw [h] at hg
    clear h
    go_enter Try.func29, Try.ntmps29
    go_wp2_with fail
    have hb0 : Below w.heap.size w (((w.alloc (.cells #[.string a, .string b] 25 (0, 0))).alloc (.cells #[.string ⟨#[]⟩, .string ⟨#[]⟩] 25 (0, 0))).alloc (.cells #[.string ⟨#[]⟩, .string ⟨#[]⟩] 25 (0, 0))) := nxAlloc (nxAlloc (nxAlloc (Below.refl _ _) _) _) _
    have hx0 := heap_keep (nxAlloc (Below.refl _ _) (.cells #[.string ⟨#[]⟩, .string ⟨#[]⟩] 25 (0, 0))) (heap_keep (nxAlloc (Below.refl _ _) (.cells #[.string ⟨#[]⟩, .string ⟨#[]⟩] 25 (0, 0))) (heap_alloc_at w (.cells #[.string a, .string b] 25 (0, 0))))
    have hx1 := heap_keep (nxAlloc (Below.refl _ _) (.cells #[.string ⟨#[]⟩, .string ⟨#[]⟩] 25 (0, 0))) (heap_alloc_at (w.alloc (.cells #[.string a, .string b] 25 (0, 0))) (.cells #[.string ⟨#[]⟩, .string ⟨#[]⟩] 25 (0, 0)))
    have hx2 := heap_alloc_at ((w.alloc (.cells #[.string a, .string b] 25 (0, 0))).alloc (.cells #[.string ⟨#[]⟩, .string ⟨#[]⟩] 25 (0, 0))) (.cells #[.string ⟨#[]⟩, .string ⟨#[]⟩] 25 (0, 0))
    generalize (((w.alloc (.cells #[.string a, .string b] 25 (0, 0))).alloc (.cells #[.string ⟨#[]⟩, .string ⟨#[]⟩] 25 (0, 0))).alloc (.cells #[.string ⟨#[]⟩, .string ⟨#[]⟩] 25 (0, 0))) = w0 at *
    have e1 : (w.alloc (.cells #[.string a, .string b] 25 (0, 0))).heap.size = w.heap.size + 1 := by simp
    rw [e1] at hx1
    clear e1
    have e2 : ((w.alloc (.cells #[.string a, .string b] 25 (0, 0))).alloc (.cells #[.string ⟨#[]⟩, .string ⟨#[]⟩] 25 (0, 0))).heap.size = w.heap.size + 1 + 1 := by simp
    rw [e2] at hx2
    clear e2
    obtain ⟨hx0a, hx0b, hx0c⟩ := two_facts hx0
    obtain ⟨hx0f, hx0g⟩ := two_frozen hx0
    obtain ⟨hx1a, hx1b, hx1c⟩ := two_facts hx1
    obtain ⟨hx1f, hx1g⟩ := two_frozen hx1
    obtain ⟨hx2a, hx2b, hx2c⟩ := two_facts hx2
    obtain ⟨hx2f, hx2g⟩ := two_frozen hx2
    refine (hg _).mono ?_; rintro e w1 ⟨rfl, hb1⟩
    have hbw1 := nx hb0 hb1
    replace hx0 := heap_keep hb1 hx0
    replace hx1 := heap_keep hb1 hx1
    replace hx2 := heap_keep hb1 hx2
    clear hx0a hx0b hx0c hx0f hx0g
    obtain ⟨hx0a, hx0b, hx0c⟩ := two_facts hx0
    obtain ⟨hx0f, hx0g⟩ := two_frozen hx0
    clear hx1a hx1b hx1c hx1f hx1g
    obtain ⟨hx1a, hx1b, hx1c⟩ := two_facts hx1
    obtain ⟨hx1f, hx1g⟩ := two_frozen hx1
    clear hx2a hx2b hx2c hx2f hx2g
    obtain ⟨hx2a, hx2b, hx2c⟩ := two_facts hx2
    obtain ⟨hx2f, hx2g⟩ := two_frozen hx2
    clear hb1 hb0
    go_wp2_with fail
    have hr1 := set_two (.string ⟨#[]⟩) (.string ⟨#[]⟩) hx1
    have hr2 := (Below.heap_setCell (w1.setCell ⟨w.heap.size + 1, 0, none⟩ (.string ⟨#[]⟩)) ⟨w.heap.size + 1, 1, none⟩ (.string ⟨#[]⟩) (w.heap.size + 1 + 1) (by show ¬ w.heap.size + 1 + 1 = w.heap.size + 1; omega)).trans ((Below.heap_setCell w1 ⟨w.heap.size + 1, 0, none⟩ (.string ⟨#[]⟩) (w.heap.size + 1 + 1) (by show ¬ w.heap.size + 1 + 1 = w.heap.size + 1; omega)).trans hx2)
    have hr3 := set_two (.string ⟨#[]⟩) (.string ⟨#[]⟩) hr2
    have hr4 := (Below.heap_setCell (((w1.setCell ⟨w.heap.size + 1, 0, none⟩ (.string ⟨#[]⟩)).setCell ⟨w.heap.size + 1, 1, none⟩ (.string ⟨#[]⟩)).setCell ⟨w.heap.size + 1 + 1, 0, none⟩ (.string ⟨#[]⟩)) ⟨w.heap.size + 1 + 1, 1, none⟩ (.string ⟨#[]⟩) (w.heap.size + 1) (by show ¬ w.heap.size + 1 = w.heap.size + 1 + 1; omega)).trans ((Below.heap_setCell ((w1.setCell ⟨w.heap.size + 1, 0, none⟩ (.string ⟨#[]⟩)).setCell ⟨w.heap.size + 1, 1, none⟩ (.string ⟨#[]⟩)) ⟨w.heap.size + 1 + 1, 0, none⟩ (.string ⟨#[]⟩) (w.heap.size + 1) (by show ¬ w.heap.size + 1 = w.heap.size + 1 + 1; omega)).trans hr1)
    obtain ⟨q1, q2⟩ := two_cells hr4
    obtain ⟨q3, q4⟩ := two_cells hr3
    refine bodyPost_ret (v := .tuple #[.agg #[.string ⟨#[]⟩, .string ⟨#[]⟩], .agg #[.string ⟨#[]⟩, .string ⟨#[]⟩], .bool false]) (by simp [q1, q2, q3, q4, results, Try.results29, go_sem]) rfl ⟨rfl, ?_⟩
    exact (((hbw1.setCell (p := ⟨w.heap.size + 1, 0, none⟩) (by show w.heap.size ≤ w.heap.size + 1; omega) _).setCell (p := ⟨w.heap.size + 1, 1, none⟩) (by show w.heap.size ≤ w.heap.size + 1; omega) _).setCell (p := ⟨w.heap.size + 1 + 1, 0, none⟩) (by show w.heap.size ≤ w.heap.size + 1 + 1; omega) _).setCell (p := ⟨w.heap.size + 1 + 1, 1, none⟩) (by show w.heap.size ≤ w.heap.size + 1 + 1; omega) _
  | some p =>
    rw [h] at hg
    obtain ⟨rfl, rfl, hok, hc1, hc2⟩ := pairOf_some h
    clear h
    show Calls _ _ _ _ (Gives (ansPP (splP (red p))) w)
    have hrd := redBy_carets p []
    have hro : okP (red p) := red_ok hok []
    have hrc : (red p).1.carets ≤ 8 := Nat.le_trans hrd.1 hc1
    have hrb : both (red p) = [] := red_both p []
    have hR := fun w => prReduce_nil p w (by omega) (by omega)
    generalize red p = R at *
    clear hrd
    obtain ⟨x, y⟩ := R
    cases x with
    | lf =>
      obtain rfl : y = .lf := by
        cases y with
        | lf => rfl
        | nd _ _ => simp [okP, Tr.carets] at hro
      have hR' : ∀ w, Calls Try.prog 55 #[.agg #[.string p.1.str, .string p.2.str], .slice none 0 0] w (Gives (.agg #[.string Tr.lf.str, .string Tr.lf.str]) w) := hR
      have hL : ∀ w, Calls Try.prog 58 #[.string Tr.lf.str] w fun e w' => e = .returned (.bool true) ∧ w = w' := fun w => trLeaf_any .lf w
      have hU := fun w => prUnit_any w
      show Calls _ _ _ _ (Gives (.tuple #[.agg #[.string Tr.lf.str, .string Tr.lf.str], .agg #[.string Tr.lf.str, .string Tr.lf.str], .bool true]) w)
      clear hR hro hrc hrb
      generalize Tr.lf.str = X at *
      go_enter Try.func29, Try.ntmps29
      go_wp2_with fail
      have hb0 : Below w.heap.size w (((w.alloc (.cells #[.string p.1.str, .string p.2.str] 25 (0, 0))).alloc (.cells #[.string ⟨#[]⟩, .string ⟨#[]⟩] 25 (0, 0))).alloc (.cells #[.string ⟨#[]⟩, .string ⟨#[]⟩] 25 (0, 0))) := nxAlloc (nxAlloc (nxAlloc (Below.refl _ _) _) _) _
      have hx0 := heap_keep (nxAlloc (Below.refl _ _) (.cells #[.string ⟨#[]⟩, .string ⟨#[]⟩] 25 (0, 0))) (heap_keep (nxAlloc (Below.refl _ _) (.cells #[.string ⟨#[]⟩, .string ⟨#[]⟩] 25 (0, 0))) (heap_alloc_at w (.cells #[.string p.1.str, .string p.2.str] 25 (0, 0))))
      have hx1 := heap_keep (nxAlloc (Below.refl _ _) (.cells #[.string ⟨#[]⟩, .string ⟨#[]⟩] 25 (0, 0))) (heap_alloc_at (w.alloc (.cells #[.string p.1.str, .string p.2.str] 25 (0, 0))) (.cells #[.string ⟨#[]⟩, .string ⟨#[]⟩] 25 (0, 0)))
      have hx2 := heap_alloc_at ((w.alloc (.cells #[.string p.1.str, .string p.2.str] 25 (0, 0))).alloc (.cells #[.string ⟨#[]⟩, .string ⟨#[]⟩] 25 (0, 0))) (.cells #[.string ⟨#[]⟩, .string ⟨#[]⟩] 25 (0, 0))
      generalize (((w.alloc (.cells #[.string p.1.str, .string p.2.str] 25 (0, 0))).alloc (.cells #[.string ⟨#[]⟩, .string ⟨#[]⟩] 25 (0, 0))).alloc (.cells #[.string ⟨#[]⟩, .string ⟨#[]⟩] 25 (0, 0))) = w0 at *
      have e1 : (w.alloc (.cells #[.string p.1.str, .string p.2.str] 25 (0, 0))).heap.size = w.heap.size + 1 := by simp
      rw [e1] at hx1
      clear e1
      have e2 : ((w.alloc (.cells #[.string p.1.str, .string p.2.str] 25 (0, 0))).alloc (.cells #[.string ⟨#[]⟩, .string ⟨#[]⟩] 25 (0, 0))).heap.size = w.heap.size + 1 + 1 := by simp
      rw [e2] at hx2
      clear e2
      obtain ⟨hx0a, hx0b, hx0c⟩ := two_facts hx0
      obtain ⟨hx0f, hx0g⟩ := two_frozen hx0
      obtain ⟨hx1a, hx1b, hx1c⟩ := two_facts hx1
      obtain ⟨hx1f, hx1g⟩ := two_frozen hx1
      obtain ⟨hx2a, hx2b, hx2c⟩ := two_facts hx2
      obtain ⟨hx2f, hx2g⟩ := two_frozen hx2
      refine (hg _).mono ?_; rintro e w1 ⟨rfl, hb1⟩
      have hbw1 := nx hb0 hb1
      replace hx0 := heap_keep hb1 hx0
      replace hx1 := heap_keep hb1 hx1
      replace hx2 := heap_keep hb1 hx2
      clear hx0a hx0b hx0c hx0f hx0g
      obtain ⟨hx0a, hx0b, hx0c⟩ := two_facts hx0
      obtain ⟨hx0f, hx0g⟩ := two_frozen hx0
      clear hx1a hx1b hx1c hx1f hx1g
      obtain ⟨hx1a, hx1b, hx1c⟩ := two_facts hx1
      obtain ⟨hx1f, hx1g⟩ := two_frozen hx1
      clear hx2a hx2b hx2c hx2f hx2g
      obtain ⟨hx2a, hx2b, hx2c⟩ := two_facts hx2
      obtain ⟨hx2f, hx2g⟩ := two_frozen hx2
      clear hb1 hb0
      go_wp2_with fail
      refine (hR' _).mono ?_; rintro e w2 ⟨rfl, hb2⟩
      have hbw2 := nx hbw1 hb2
      replace hx0 := heap_keep hb2 hx0
      replace hx1 := heap_keep hb2 hx1
      replace hx2 := heap_keep hb2 hx2
      clear hx0a hx0b hx0c hx0f hx0g
      obtain ⟨hx0a, hx0b, hx0c⟩ := two_facts hx0
      obtain ⟨hx0f, hx0g⟩ := two_frozen hx0
      clear hx1a hx1b hx1c hx1f hx1g
      obtain ⟨hx1a, hx1b, hx1c⟩ := two_facts hx1
      obtain ⟨hx1f, hx1g⟩ := two_frozen hx1
      clear hx2a hx2b hx2c hx2f hx2g
      obtain ⟨hx2a, hx2b, hx2c⟩ := two_facts hx2
      obtain ⟨hx2f, hx2g⟩ := two_frozen hx2
      clear hb2 hbw1
      go_wp2_with fail
      have hs0 := set_two (.string X) (.string X) hx0
      have hs1 := (Below.heap_setCell (w2.setCell ⟨w.heap.size, 0, none⟩ (.string X)) ⟨w.heap.size, 1, none⟩ (.string X) _ (by show ¬ _ = w.heap.size; omega)).trans ((Below.heap_setCell w2 ⟨w.heap.size, 0, none⟩ (.string X) _ (by show ¬ _ = w.heap.size; omega)).trans hx1)
      have hs2 := (Below.heap_setCell (w2.setCell ⟨w.heap.size, 0, none⟩ (.string X)) ⟨w.heap.size, 1, none⟩ (.string X) _ (by show ¬ _ = w.heap.size; omega)).trans ((Below.heap_setCell w2 ⟨w.heap.size, 0, none⟩ (.string X) _ (by show ¬ _ = w.heap.size; omega)).trans hx2)
      have hbs := (hbw2.setCell (p := ⟨w.heap.size, 0, none⟩) (Nat.le_refl _) (.string X)).setCell (p := ⟨w.heap.size, 1, none⟩) (Nat.le_refl _) (.string X)
      generalize (w2.setCell ⟨w.heap.size, 0, none⟩ (.string X)).setCell ⟨w.heap.size, 1, none⟩ (.string X) = ws at *
      clear hx0a hx0b hx0c hx0f hx0g hx1a hx1b hx1c hx1f hx1g hx2a hx2b hx2c hx2f hx2g hx0 hx1 hx2 hbw2
      have hx0 := hs0
      clear hs0
      have hx1 := hs1
      clear hs1
      have hx2 := hs2
      clear hs2
      obtain ⟨hx0a, hx0b, hx0c⟩ := two_facts hx0
      obtain ⟨hx0f, hx0g⟩ := two_frozen hx0
      obtain ⟨hx1a, hx1b, hx1c⟩ := two_facts hx1
      obtain ⟨hx1f, hx1g⟩ := two_frozen hx1
      obtain ⟨hx2a, hx2b, hx2c⟩ := two_facts hx2
      obtain ⟨hx2f, hx2g⟩ := two_frozen hx2
      generalize ws = w3 at *
      refine (hL _).mono ?_; rintro e wc ⟨rfl, rfl⟩
      go_wp2_with fail
      refine (hU _).mono ?_; rintro e w4 ⟨rfl, hb4⟩
      have hbw4 := nx hbs hb4
      replace hx0 := heap_keep hb4 hx0
      replace hx1 := heap_keep hb4 hx1
      replace hx2 := heap_keep hb4 hx2
      clear hx0a hx0b hx0c hx0f hx0g
      obtain ⟨hx0a, hx0b, hx0c⟩ := two_facts hx0
      obtain ⟨hx0f, hx0g⟩ := two_frozen hx0
      clear hx1a hx1b hx1c hx1f hx1g
      obtain ⟨hx1a, hx1b, hx1c⟩ := two_facts hx1
      obtain ⟨hx1f, hx1g⟩ := two_frozen hx1
      clear hx2a hx2b hx2c hx2f hx2g
      obtain ⟨hx2a, hx2b, hx2c⟩ := two_facts hx2
      obtain ⟨hx2f, hx2g⟩ := two_frozen hx2
      clear hb4 hbs
      go_wp2_with fail
      refine (hU _).mono ?_; rintro e w5 ⟨rfl, hb5⟩
      have hbw5 := nx hbw4 hb5
      replace hx0 := heap_keep hb5 hx0
      replace hx1 := heap_keep hb5 hx1
      replace hx2 := heap_keep hb5 hx2
      clear hx0a hx0b hx0c hx0f hx0g
      obtain ⟨hx0a, hx0b, hx0c⟩ := two_facts hx0
      obtain ⟨hx0f, hx0g⟩ := two_frozen hx0
      clear hx1a hx1b hx1c hx1f hx1g
      obtain ⟨hx1a, hx1b, hx1c⟩ := two_facts hx1
      obtain ⟨hx1f, hx1g⟩ := two_frozen hx1
      clear hx2a hx2b hx2c hx2f hx2g
      obtain ⟨hx2a, hx2b, hx2c⟩ := two_facts hx2
      obtain ⟨hx2f, hx2g⟩ := two_frozen hx2
      clear hb5 hbw4
      go_wp2_with fail
      have hr1 := set_two (.string X) (.string X) hx1
      have hr2 := (Below.heap_setCell (w5.setCell ⟨w.heap.size + 1, 0, none⟩ (.string X)) ⟨w.heap.size + 1, 1, none⟩ (.string X) (w.heap.size + 1 + 1) (by show ¬ w.heap.size + 1 + 1 = w.heap.size + 1; omega)).trans ((Below.heap_setCell w5 ⟨w.heap.size + 1, 0, none⟩ (.string X) (w.heap.size + 1 + 1) (by show ¬ w.heap.size + 1 + 1 = w.heap.size + 1; omega)).trans hx2)
      have hr3 := set_two (.string X) (.string X) hr2
      have hr4 := (Below.heap_setCell (((w5.setCell ⟨w.heap.size + 1, 0, none⟩ (.string X)).setCell ⟨w.heap.size + 1, 1, none⟩ (.string X)).setCell ⟨w.heap.size + 1 + 1, 0, none⟩ (.string X)) ⟨w.heap.size + 1 + 1, 1, none⟩ (.string X) (w.heap.size + 1) (by show ¬ w.heap.size + 1 = w.heap.size + 1 + 1; omega)).trans ((Below.heap_setCell ((w5.setCell ⟨w.heap.size + 1, 0, none⟩ (.string X)).setCell ⟨w.heap.size + 1, 1, none⟩ (.string X)) ⟨w.heap.size + 1 + 1, 0, none⟩ (.string X) (w.heap.size + 1) (by show ¬ w.heap.size + 1 = w.heap.size + 1 + 1; omega)).trans hr1)
      obtain ⟨q1, q2⟩ := two_cells hr4
      obtain ⟨q3, q4⟩ := two_cells hr3
      refine bodyPost_ret (v := .tuple #[.agg #[.string X, .string X], .agg #[.string X, .string X], .bool true]) (by simp [q1, q2, q3, q4, results, Try.results29, go_sem]) rfl ⟨rfl, ?_⟩
      exact (((hbw5.setCell (p := ⟨w.heap.size + 1, 0, none⟩) (by show w.heap.size ≤ w.heap.size + 1; omega) _).setCell (p := ⟨w.heap.size + 1, 1, none⟩) (by show w.heap.size ≤ w.heap.size + 1; omega) _).setCell (p := ⟨w.heap.size + 1 + 1, 0, none⟩) (by show w.heap.size ≤ w.heap.size + 1 + 1; omega) _).setCell (p := ⟨w.heap.size + 1 + 1, 1, none⟩) (by show w.heap.size ≤ w.heap.size + 1 + 1; omega) _
    | nd xa xb =>
      obtain ⟨ya, yb, rfl⟩ : ∃ c d, y = .nd c d := by
        cases y with
        | lf => simp [okP, Tr.carets] at hro
        | nd c d => exact ⟨c, d, rfl⟩
      have hcx : xa.carets + xb.carets + 1 ≤ 8 := hrc
      have hcy : xa.carets + xb.carets + 1 = ya.carets + yb.carets + 1 := hro
      have hE : splP (.nd xa xb, .nd ya yb) = if xa.carets = ya.carets then some ((xa, ya), (xb, yb)) else none := rfl
      rw [hE]
      clear hE hrc hro
      have hR' : ∀ w, Calls Try.prog 55 #[.agg #[.string p.1.str, .string p.2.str], .slice none 0 0] w (Gives (.agg #[.string (Tr.nd xa xb).str, .string (Tr.nd ya yb).str]) w) := hR
      have hL : ∀ w, Calls Try.prog 58 #[.string (Tr.nd xa xb).str] w fun e w' => e = .returned (.bool false) ∧ w = w' := fun w => trLeaf_any (.nd xa xb) w
      have S1 := fun w => trSides_any xa xb w (by omega)
      have S2 := fun w => trSides_any ya yb w (by omega)
      have C1 := fun w => carets_str xa w (by omega)
      have C2 := fun w => carets_str ya w (by omega)
      have Q1 := fun w => prReduce_nil (xa, ya) w (by show xa.carets ≤ 200; omega) (by show ya.carets ≤ 200; omega)
      have Q2 := fun w => prReduce_nil (xb, yb) w (by show xb.carets ≤ 200; omega) (by show yb.carets ≤ 200; omega)
      have hH := fun k => half_red (a := xa) (b := xb) (c := ya) (d := yb) hrb k
      have HH := Lib.hid hH
      clear hR hrb hH
      generalize (Tr.nd xa xb).str = X at *
      generalize (Tr.nd ya yb).str = Y at *
      by_cases hk : xa.carets = ya.carets
      · rw [if_pos hk]
        obtain ⟨h1, h2⟩ := HH.out hk
        rw [(red_self (xa, ya)).2 h1] at Q1
        rw [(red_self (xb, yb)).2 h2] at Q2
        have Q1' : ∀ w, Calls Try.prog 55 #[.agg #[.string xa.str, .string ya.str], .slice none 0 0] w (Gives (.agg #[.string xa.str, .string ya.str]) w) := Q1
        have Q2' : ∀ w, Calls Try.prog 55 #[.agg #[.string xb.str, .string yb.str], .slice none 0 0] w (Gives (.agg #[.string xb.str, .string yb.str]) w) := Q2
        show Calls _ _ _ _ (Gives (.tuple #[.agg #[.string xa.str, .string ya.str], .agg #[.string xb.str, .string yb.str], .bool true]) w)
        clear Q1 Q2 h1 h2 HH
        generalize xa.carets = nx9 at *
        generalize ya.carets = ny9 at *
        generalize xa.str = XA at *
        generalize xb.str = XB at *
        generalize ya.str = YA at *
        generalize yb.str = YB at *
        subst hk
        go_enter Try.func29, Try.ntmps29
        go_wp2_with fail
        have hb0 : Below w.heap.size w (((w.alloc (.cells #[.string p.1.str, .string p.2.str] 25 (0, 0))).alloc (.cells #[.string ⟨#[]⟩, .string ⟨#[]⟩] 25 (0, 0))).alloc (.cells #[.string ⟨#[]⟩, .string ⟨#[]⟩] 25 (0, 0))) := nxAlloc (nxAlloc (nxAlloc (Below.refl _ _) _) _) _
        have hx0 := heap_keep (nxAlloc (Below.refl _ _) (.cells #[.string ⟨#[]⟩, .string ⟨#[]⟩] 25 (0, 0))) (heap_keep (nxAlloc (Below.refl _ _) (.cells #[.string ⟨#[]⟩, .string ⟨#[]⟩] 25 (0, 0))) (heap_alloc_at w (.cells #[.string p.1.str, .string p.2.str] 25 (0, 0))))
        have hx1 := heap_keep (nxAlloc (Below.refl _ _) (.cells #[.string ⟨#[]⟩, .string ⟨#[]⟩] 25 (0, 0))) (heap_alloc_at (w.alloc (.cells #[.string p.1.str, .string p.2.str] 25 (0, 0))) (.cells #[.string ⟨#[]⟩, .string ⟨#[]⟩] 25 (0, 0)))
        have hx2 := heap_alloc_at ((w.alloc (.cells #[.string p.1.str, .string p.2.str] 25 (0, 0))).alloc (.cells #[.string ⟨#[]⟩, .string ⟨#[]⟩] 25 (0, 0))) (.cells #[.string ⟨#[]⟩, .string ⟨#[]⟩] 25 (0, 0))
        generalize (((w.alloc (.cells #[.string p.1.str, .string p.2.str] 25 (0, 0))).alloc (.cells #[.string ⟨#[]⟩, .string ⟨#[]⟩] 25 (0, 0))).alloc (.cells #[.string ⟨#[]⟩, .string ⟨#[]⟩] 25 (0, 0))) = w0 at *
        have e1 : (w.alloc (.cells #[.string p.1.str, .string p.2.str] 25 (0, 0))).heap.size = w.heap.size + 1 := by simp
        rw [e1] at hx1
        clear e1
        have e2 : ((w.alloc (.cells #[.string p.1.str, .string p.2.str] 25 (0, 0))).alloc (.cells #[.string ⟨#[]⟩, .string ⟨#[]⟩] 25 (0, 0))).heap.size = w.heap.size + 1 + 1 := by simp
        rw [e2] at hx2
        clear e2
        obtain ⟨hx0a, hx0b, hx0c⟩ := two_facts hx0
        obtain ⟨hx0f, hx0g⟩ := two_frozen hx0
        obtain ⟨hx1a, hx1b, hx1c⟩ := two_facts hx1
        obtain ⟨hx1f, hx1g⟩ := two_frozen hx1
        obtain ⟨hx2a, hx2b, hx2c⟩ := two_facts hx2
        obtain ⟨hx2f, hx2g⟩ := two_frozen hx2
        refine (hg _).mono ?_; rintro e w1 ⟨rfl, hb1⟩
        have hbw1 := nx hb0 hb1
        replace hx0 := heap_keep hb1 hx0
        replace hx1 := heap_keep hb1 hx1
        replace hx2 := heap_keep hb1 hx2
        clear hx0a hx0b hx0c hx0f hx0g
        obtain ⟨hx0a, hx0b, hx0c⟩ := two_facts hx0
        obtain ⟨hx0f, hx0g⟩ := two_frozen hx0
        clear hx1a hx1b hx1c hx1f hx1g
        obtain ⟨hx1a, hx1b, hx1c⟩ := two_facts hx1
        obtain ⟨hx1f, hx1g⟩ := two_frozen hx1
        clear hx2a hx2b hx2c hx2f hx2g
        obtain ⟨hx2a, hx2b, hx2c⟩ := two_facts hx2
        obtain ⟨hx2f, hx2g⟩ := two_frozen hx2
        clear hb1 hb0
        go_wp2_with fail
        refine (hR' _).mono ?_; rintro e w2 ⟨rfl, hb2⟩
        have hbw2 := nx hbw1 hb2
        replace hx0 := heap_keep hb2 hx0
        replace hx1 := heap_keep hb2 hx1
        replace hx2 := heap_keep hb2 hx2
        clear hx0a hx0b hx0c hx0f hx0g
        obtain ⟨hx0a, hx0b, hx0c⟩ := two_facts hx0
        obtain ⟨hx0f, hx0g⟩ := two_frozen hx0
        clear hx1a hx1b hx1c hx1f hx1g
        obtain ⟨hx1a, hx1b, hx1c⟩ := two_facts hx1
        obtain ⟨hx1f, hx1g⟩ := two_frozen hx1
        clear hx2a hx2b hx2c hx2f hx2g
        obtain ⟨hx2a, hx2b, hx2c⟩ := two_facts hx2
        obtain ⟨hx2f, hx2g⟩ := two_frozen hx2
        clear hb2 hbw1
        go_wp2_with fail
        have hs0 := set_two (.string X) (.string Y) hx0
        have hs1 := (Below.heap_setCell (w2.setCell ⟨w.heap.size, 0, none⟩ (.string X)) ⟨w.heap.size, 1, none⟩ (.string Y) _ (by show ¬ _ = w.heap.size; omega)).trans ((Below.heap_setCell w2 ⟨w.heap.size, 0, none⟩ (.string X) _ (by show ¬ _ = w.heap.size; omega)).trans hx1)
        have hs2 := (Below.heap_setCell (w2.setCell ⟨w.heap.size, 0, none⟩ (.string X)) ⟨w.heap.size, 1, none⟩ (.string Y) _ (by show ¬ _ = w.heap.size; omega)).trans ((Below.heap_setCell w2 ⟨w.heap.size, 0, none⟩ (.string X) _ (by show ¬ _ = w.heap.size; omega)).trans hx2)
        have hbs := (hbw2.setCell (p := ⟨w.heap.size, 0, none⟩) (Nat.le_refl _) (.string X)).setCell (p := ⟨w.heap.size, 1, none⟩) (Nat.le_refl _) (.string Y)
        generalize (w2.setCell ⟨w.heap.size, 0, none⟩ (.string X)).setCell ⟨w.heap.size, 1, none⟩ (.string Y) = ws at *
        clear hx0a hx0b hx0c hx0f hx0g hx1a hx1b hx1c hx1f hx1g hx2a hx2b hx2c hx2f hx2g hx0 hx1 hx2 hbw2
        have hx0 := hs0
        clear hs0
        have hx1 := hs1
        clear hs1
        have hx2 := hs2
        clear hs2
        obtain ⟨hx0a, hx0b, hx0c⟩ := two_facts hx0
        obtain ⟨hx0f, hx0g⟩ := two_frozen hx0
        obtain ⟨hx1a, hx1b, hx1c⟩ := two_facts hx1
        obtain ⟨hx1f, hx1g⟩ := two_frozen hx1
        obtain ⟨hx2a, hx2b, hx2c⟩ := two_facts hx2
        obtain ⟨hx2f, hx2g⟩ := two_frozen hx2
        generalize ws = w3 at *
        refine (hL _).mono ?_; rintro e wc ⟨rfl, rfl⟩
        go_wp2_with fail
        refine (S1 _).mono ?_; rintro e w4 ⟨rfl, hb4⟩
        have hbw4 := nx hbs hb4
        replace hx0 := heap_keep hb4 hx0
        replace hx1 := heap_keep hb4 hx1
        replace hx2 := heap_keep hb4 hx2
        clear hx0a hx0b hx0c hx0f hx0g
        obtain ⟨hx0a, hx0b, hx0c⟩ := two_facts hx0
        obtain ⟨hx0f, hx0g⟩ := two_frozen hx0
        clear hx1a hx1b hx1c hx1f hx1g
        obtain ⟨hx1a, hx1b, hx1c⟩ := two_facts hx1
        obtain ⟨hx1f, hx1g⟩ := two_frozen hx1
        clear hx2a hx2b hx2c hx2f hx2g
        obtain ⟨hx2a, hx2b, hx2c⟩ := two_facts hx2
        obtain ⟨hx2f, hx2g⟩ := two_frozen hx2
        clear hb4 hbs
        go_wp2_with fail
        refine (S2 _).mono ?_; rintro e w5 ⟨rfl, hb5⟩
        have hbw5 := nx hbw4 hb5
        replace hx0 := heap_keep hb5 hx0
        replace hx1 := heap_keep hb5 hx1
        replace hx2 := heap_keep hb5 hx2
        clear hx0a hx0b hx0c hx0f hx0g
        obtain ⟨hx0a, hx0b, hx0c⟩ := two_facts hx0
        obtain ⟨hx0f, hx0g⟩ := two_frozen hx0
        clear hx1a hx1b hx1c hx1f hx1g
        obtain ⟨hx1a, hx1b, hx1c⟩ := two_facts hx1
        obtain ⟨hx1f, hx1g⟩ := two_frozen hx1
        clear hx2a hx2b hx2c hx2f hx2g
        obtain ⟨hx2a, hx2b, hx2c⟩ := two_facts hx2
        obtain ⟨hx2f, hx2g⟩ := two_frozen hx2
        clear hb5 hbw4
        go_wp2_with fail
        refine (C1 _).mono ?_; rintro e wc ⟨rfl, rfl⟩
        go_wp2_with fail
        refine (C2 _).mono ?_; rintro e wc ⟨rfl, rfl⟩
        go_wp2_with fail
        refine (Q1' _).mono ?_; rintro e w6 ⟨rfl, hb6⟩
        have hbw6 := nx hbw5 hb6
        replace hx0 := heap_keep hb6 hx0
        replace hx1 := heap_keep hb6 hx1
        replace hx2 := heap_keep hb6 hx2
        clear hx0a hx0b hx0c hx0f hx0g
        obtain ⟨hx0a, hx0b, hx0c⟩ := two_facts hx0
        obtain ⟨hx0f, hx0g⟩ := two_frozen hx0
        clear hx1a hx1b hx1c hx1f hx1g
        obtain ⟨hx1a, hx1b, hx1c⟩ := two_facts hx1
        obtain ⟨hx1f, hx1g⟩ := two_frozen hx1
        clear hx2a hx2b hx2c hx2f hx2g
        obtain ⟨hx2a, hx2b, hx2c⟩ := two_facts hx2
        obtain ⟨hx2f, hx2g⟩ := two_frozen hx2
        clear hb6 hbw5
        go_wp2_with fail
        refine (Q2' _).mono ?_; rintro e w7 ⟨rfl, hb7⟩
        have hbw7 := nx hbw6 hb7
        replace hx0 := heap_keep hb7 hx0
        replace hx1 := heap_keep hb7 hx1
        replace hx2 := heap_keep hb7 hx2
        clear hx0a hx0b hx0c hx0f hx0g
        obtain ⟨hx0a, hx0b, hx0c⟩ := two_facts hx0
        obtain ⟨hx0f, hx0g⟩ := two_frozen hx0
        clear hx1a hx1b hx1c hx1f hx1g
        obtain ⟨hx1a, hx1b, hx1c⟩ := two_facts hx1
        obtain ⟨hx1f, hx1g⟩ := two_frozen hx1
        clear hx2a hx2b hx2c hx2f hx2g
        obtain ⟨hx2a, hx2b, hx2c⟩ := two_facts hx2
        obtain ⟨hx2f, hx2g⟩ := two_frozen hx2
        clear hb7 hbw6
        go_wp2_with fail
        have hr1 := set_two (.string XA) (.string YA) hx1
        have hr2 := (Below.heap_setCell (w7.setCell ⟨w.heap.size + 1, 0, none⟩ (.string XA)) ⟨w.heap.size + 1, 1, none⟩ (.string YA) (w.heap.size + 1 + 1) (by show ¬ w.heap.size + 1 + 1 = w.heap.size + 1; omega)).trans ((Below.heap_setCell w7 ⟨w.heap.size + 1, 0, none⟩ (.string XA) (w.heap.size + 1 + 1) (by show ¬ w.heap.size + 1 + 1 = w.heap.size + 1; omega)).trans hx2)
        have hr3 := set_two (.string XB) (.string YB) hr2
        have hr4 := (Below.heap_setCell (((w7.setCell ⟨w.heap.size + 1, 0, none⟩ (.string XA)).setCell ⟨w.heap.size + 1, 1, none⟩ (.string YA)).setCell ⟨w.heap.size + 1 + 1, 0, none⟩ (.string XB)) ⟨w.heap.size + 1 + 1, 1, none⟩ (.string YB) (w.heap.size + 1) (by show ¬ w.heap.size + 1 = w.heap.size + 1 + 1; omega)).trans ((Below.heap_setCell ((w7.setCell ⟨w.heap.size + 1, 0, none⟩ (.string XA)).setCell ⟨w.heap.size + 1, 1, none⟩ (.string YA)) ⟨w.heap.size + 1 + 1, 0, none⟩ (.string XB) (w.heap.size + 1) (by show ¬ w.heap.size + 1 = w.heap.size + 1 + 1; omega)).trans hr1)
        obtain ⟨q1, q2⟩ := two_cells hr4
        obtain ⟨q3, q4⟩ := two_cells hr3
        refine bodyPost_ret (v := .tuple #[.agg #[.string XA, .string YA], .agg #[.string XB, .string YB], .bool true]) (by simp [q1, q2, q3, q4, results, Try.results29, go_sem]) rfl ⟨rfl, ?_⟩
        exact (((hbw7.setCell (p := ⟨w.heap.size + 1, 0, none⟩) (by show w.heap.size ≤ w.heap.size + 1; omega) _).setCell (p := ⟨w.heap.size + 1, 1, none⟩) (by show w.heap.size ≤ w.heap.size + 1; omega) _).setCell (p := ⟨w.heap.size + 1 + 1, 0, none⟩) (by show w.heap.size ≤ w.heap.size + 1 + 1; omega) _).setCell (p := ⟨w.heap.size + 1 + 1, 1, none⟩) (by show w.heap.size ≤ w.heap.size + 1 + 1; omega) _
      · rw [if_neg hk]
        have hk9 : ¬ ((xa.carets : Int) = (ya.carets : Int)) := by omega
        show Calls _ _ _ _ (Gives (.tuple #[.agg #[.string ⟨#[]⟩, .string ⟨#[]⟩], .agg #[.string ⟨#[]⟩, .string ⟨#[]⟩], .bool false]) w)
        clear Q1 Q2 HH hk
        generalize xa.carets = nx9 at *
        generalize ya.carets = ny9 at *
        generalize xa.str = XA at *
        generalize xb.str = XB at *
        generalize ya.str = YA at *
        generalize yb.str = YB at *
        go_enter Try.func29, Try.ntmps29
        go_wp2_with fail
        have hb0 : Below w.heap.size w (((w.alloc (.cells #[.string p.1.str, .string p.2.str] 25 (0, 0))).alloc (.cells #[.string ⟨#[]⟩, .string ⟨#[]⟩] 25 (0, 0))).alloc (.cells #[.string ⟨#[]⟩, .string ⟨#[]⟩] 25 (0, 0))) := nxAlloc (nxAlloc (nxAlloc (Below.refl _ _) _) _) _
        have hx0 := heap_keep (nxAlloc (Below.refl _ _) (.cells #[.string ⟨#[]⟩, .string ⟨#[]⟩] 25 (0, 0))) (heap_keep (nxAlloc (Below.refl _ _) (.cells #[.string ⟨#[]⟩, .string ⟨#[]⟩] 25 (0, 0))) (heap_alloc_at w (.cells #[.string p.1.str, .string p.2.str] 25 (0, 0))))
        have hx1 := heap_keep (nxAlloc (Below.refl _ _) (.cells #[.string ⟨#[]⟩, .string ⟨#[]⟩] 25 (0, 0))) (heap_alloc_at (w.alloc (.cells #[.string p.1.str, .string p.2.str] 25 (0, 0))) (.cells #[.string ⟨#[]⟩, .string ⟨#[]⟩] 25 (0, 0)))
        have hx2 := heap_alloc_at ((w.alloc (.cells #[.string p.1.str, .string p.2.str] 25 (0, 0))).alloc (.cells #[.string ⟨#[]⟩, .string ⟨#[]⟩] 25 (0, 0))) (.cells #[.string ⟨#[]⟩, .string ⟨#[]⟩] 25 (0, 0))
        generalize (((w.alloc (.cells #[.string p.1.str, .string p.2.str] 25 (0, 0))).alloc (.cells #[.string ⟨#[]⟩, .string ⟨#[]⟩] 25 (0, 0))).alloc (.cells #[.string ⟨#[]⟩, .string ⟨#[]⟩] 25 (0, 0))) = w0 at *
        have e1 : (w.alloc (.cells #[.string p.1.str, .string p.2.str] 25 (0, 0))).heap.size = w.heap.size + 1 := by simp
        rw [e1] at hx1
        clear e1
        have e2 : ((w.alloc (.cells #[.string p.1.str, .string p.2.str] 25 (0, 0))).alloc (.cells #[.string ⟨#[]⟩, .string ⟨#[]⟩] 25 (0, 0))).heap.size = w.heap.size + 1 + 1 := by simp
        rw [e2] at hx2
        clear e2
        obtain ⟨hx0a, hx0b, hx0c⟩ := two_facts hx0
        obtain ⟨hx0f, hx0g⟩ := two_frozen hx0
        obtain ⟨hx1a, hx1b, hx1c⟩ := two_facts hx1
        obtain ⟨hx1f, hx1g⟩ := two_frozen hx1
        obtain ⟨hx2a, hx2b, hx2c⟩ := two_facts hx2
        obtain ⟨hx2f, hx2g⟩ := two_frozen hx2
        refine (hg _).mono ?_; rintro e w1 ⟨rfl, hb1⟩
        have hbw1 := nx hb0 hb1
        replace hx0 := heap_keep hb1 hx0
        replace hx1 := heap_keep hb1 hx1
        replace hx2 := heap_keep hb1 hx2
        clear hx0a hx0b hx0c hx0f hx0g
        obtain ⟨hx0a, hx0b, hx0c⟩ := two_facts hx0
        obtain ⟨hx0f, hx0g⟩ := two_frozen hx0
        clear hx1a hx1b hx1c hx1f hx1g
        obtain ⟨hx1a, hx1b, hx1c⟩ := two_facts hx1
        obtain ⟨hx1f, hx1g⟩ := two_frozen hx1
        clear hx2a hx2b hx2c hx2f hx2g
        obtain ⟨hx2a, hx2b, hx2c⟩ := two_facts hx2
        obtain ⟨hx2f, hx2g⟩ := two_frozen hx2
        clear hb1 hb0
        go_wp2_with fail
        refine (hR' _).mono ?_; rintro e w2 ⟨rfl, hb2⟩
        have hbw2 := nx hbw1 hb2
        replace hx0 := heap_keep hb2 hx0
        replace hx1 := heap_keep hb2 hx1
        replace hx2 := heap_keep hb2 hx2
        clear hx0a hx0b hx0c hx0f hx0g
        obtain ⟨hx0a, hx0b, hx0c⟩ := two_facts hx0
        obtain ⟨hx0f, hx0g⟩ := two_frozen hx0
        clear hx1a hx1b hx1c hx1f hx1g
        obtain ⟨hx1a, hx1b, hx1c⟩ := two_facts hx1
        obtain ⟨hx1f, hx1g⟩ := two_frozen hx1
        clear hx2a hx2b hx2c hx2f hx2g
        obtain ⟨hx2a, hx2b, hx2c⟩ := two_facts hx2
        obtain ⟨hx2f, hx2g⟩ := two_frozen hx2
        clear hb2 hbw1
        go_wp2_with fail
        have hs0 := set_two (.string X) (.string Y) hx0
        have hs1 := (Below.heap_setCell (w2.setCell ⟨w.heap.size, 0, none⟩ (.string X)) ⟨w.heap.size, 1, none⟩ (.string Y) _ (by show ¬ _ = w.heap.size; omega)).trans ((Below.heap_setCell w2 ⟨w.heap.size, 0, none⟩ (.string X) _ (by show ¬ _ = w.heap.size; omega)).trans hx1)
        have hs2 := (Below.heap_setCell (w2.setCell ⟨w.heap.size, 0, none⟩ (.string X)) ⟨w.heap.size, 1, none⟩ (.string Y) _ (by show ¬ _ = w.heap.size; omega)).trans ((Below.heap_setCell w2 ⟨w.heap.size, 0, none⟩ (.string X) _ (by show ¬ _ = w.heap.size; omega)).trans hx2)
        have hbs := (hbw2.setCell (p := ⟨w.heap.size, 0, none⟩) (Nat.le_refl _) (.string X)).setCell (p := ⟨w.heap.size, 1, none⟩) (Nat.le_refl _) (.string Y)
        generalize (w2.setCell ⟨w.heap.size, 0, none⟩ (.string X)).setCell ⟨w.heap.size, 1, none⟩ (.string Y) = ws at *
        clear hx0a hx0b hx0c hx0f hx0g hx1a hx1b hx1c hx1f hx1g hx2a hx2b hx2c hx2f hx2g hx0 hx1 hx2 hbw2
        have hx0 := hs0
        clear hs0
        have hx1 := hs1
        clear hs1
        have hx2 := hs2
        clear hs2
        obtain ⟨hx0a, hx0b, hx0c⟩ := two_facts hx0
        obtain ⟨hx0f, hx0g⟩ := two_frozen hx0
        obtain ⟨hx1a, hx1b, hx1c⟩ := two_facts hx1
        obtain ⟨hx1f, hx1g⟩ := two_frozen hx1
        obtain ⟨hx2a, hx2b, hx2c⟩ := two_facts hx2
        obtain ⟨hx2f, hx2g⟩ := two_frozen hx2
        generalize ws = w3 at *
        refine (hL _).mono ?_; rintro e wc ⟨rfl, rfl⟩
        go_wp2_with fail
        refine (S1 _).mono ?_; rintro e w4 ⟨rfl, hb4⟩
        have hbw4 := nx hbs hb4
        replace hx0 := heap_keep hb4 hx0
        replace hx1 := heap_keep hb4 hx1
        replace hx2 := heap_keep hb4 hx2
        clear hx0a hx0b hx0c hx0f hx0g
        obtain ⟨hx0a, hx0b, hx0c⟩ := two_facts hx0
        obtain ⟨hx0f, hx0g⟩ := two_frozen hx0
        clear hx1a hx1b hx1c hx1f hx1g
        obtain ⟨hx1a, hx1b, hx1c⟩ := two_facts hx1
        obtain ⟨hx1f, hx1g⟩ := two_frozen hx1
        clear hx2a hx2b hx2c hx2f hx2g
        obtain ⟨hx2a, hx2b, hx2c⟩ := two_facts hx2
        obtain ⟨hx2f, hx2g⟩ := two_frozen hx2
        clear hb4 hbs
        go_wp2_with fail
        refine (S2 _).mono ?_; rintro e w5 ⟨rfl, hb5⟩
        have hbw5 := nx hbw4 hb5
        replace hx0 := heap_keep hb5 hx0
        replace hx1 := heap_keep hb5 hx1
        replace hx2 := heap_keep hb5 hx2
        clear hx0a hx0b hx0c hx0f hx0g
        obtain ⟨hx0a, hx0b, hx0c⟩ := two_facts hx0
        obtain ⟨hx0f, hx0g⟩ := two_frozen hx0
        clear hx1a hx1b hx1c hx1f hx1g
        obtain ⟨hx1a, hx1b, hx1c⟩ := two_facts hx1
        obtain ⟨hx1f, hx1g⟩ := two_frozen hx1
        clear hx2a hx2b hx2c hx2f hx2g
        obtain ⟨hx2a, hx2b, hx2c⟩ := two_facts hx2
        obtain ⟨hx2f, hx2g⟩ := two_frozen hx2
        clear hb5 hbw4
        go_wp2_with fail
        refine (C1 _).mono ?_; rintro e wc ⟨rfl, rfl⟩
        go_wp2_with fail
        refine (C2 _).mono ?_; rintro e wc ⟨rfl, rfl⟩
        go_wp2_with fail
        have hr1 := set_two (.string ⟨#[]⟩) (.string ⟨#[]⟩) hx1
        have hr2 := (Below.heap_setCell (w5.setCell ⟨w.heap.size + 1, 0, none⟩ (.string ⟨#[]⟩)) ⟨w.heap.size + 1, 1, none⟩ (.string ⟨#[]⟩) (w.heap.size + 1 + 1) (by show ¬ w.heap.size + 1 + 1 = w.heap.size + 1; omega)).trans ((Below.heap_setCell w5 ⟨w.heap.size + 1, 0, none⟩ (.string ⟨#[]⟩) (w.heap.size + 1 + 1) (by show ¬ w.heap.size + 1 + 1 = w.heap.size + 1; omega)).trans hx2)
        have hr3 := set_two (.string ⟨#[]⟩) (.string ⟨#[]⟩) hr2
        have hr4 := (Below.heap_setCell (((w5.setCell ⟨w.heap.size + 1, 0, none⟩ (.string ⟨#[]⟩)).setCell ⟨w.heap.size + 1, 1, none⟩ (.string ⟨#[]⟩)).setCell ⟨w.heap.size + 1 + 1, 0, none⟩ (.string ⟨#[]⟩)) ⟨w.heap.size + 1 + 1, 1, none⟩ (.string ⟨#[]⟩) (w.heap.size + 1) (by show ¬ w.heap.size + 1 = w.heap.size + 1 + 1; omega)).trans ((Below.heap_setCell ((w5.setCell ⟨w.heap.size + 1, 0, none⟩ (.string ⟨#[]⟩)).setCell ⟨w.heap.size + 1, 1, none⟩ (.string ⟨#[]⟩)) ⟨w.heap.size + 1 + 1, 0, none⟩ (.string ⟨#[]⟩) (w.heap.size + 1) (by show ¬ w.heap.size + 1 = w.heap.size + 1 + 1; omega)).trans hr1)
        obtain ⟨q1, q2⟩ := two_cells hr4
        obtain ⟨q3, q4⟩ := two_cells hr3
        refine bodyPost_ret (v := .tuple #[.agg #[.string ⟨#[]⟩, .string ⟨#[]⟩], .agg #[.string ⟨#[]⟩, .string ⟨#[]⟩], .bool false]) (by simp [q1, q2, q3, q4, results, Try.results29, go_sem]) rfl ⟨rfl, ?_⟩
        exact (((hbw5.setCell (p := ⟨w.heap.size + 1, 0, none⟩) (by show w.heap.size ≤ w.heap.size + 1; omega) _).setCell (p := ⟨w.heap.size + 1, 1, none⟩) (by show w.heap.size ≤ w.heap.size + 1; omega) _).setCell (p := ⟨w.heap.size + 1 + 1, 0, none⟩) (by show w.heap.size ≤ w.heap.size + 1 + 1; omega) _).setCell (p := ⟨w.heap.size + 1 + 1, 1, none⟩) (by show w.heap.size ≤ w.heap.size + 1 + 1; omega) _

set_option maxRecDepth 100000 in
set_option maxHeartbeats 2000000 in
theorem implSplitHalves_any (a b : ByteArray) (w : World) (ha : a.size ≤ 9223372036854775806) (hb : b.size ≤ 9223372036854775806) :
    Calls Try.prog 30 #[.agg #[.string a, .string b]] w (Gives (ansPP ((pairOf a b).bind fun p => splP (red p))) w) := by
  have hg := fun w => implReducePair_any a b w ha hb
  cases h : pairOf a b with
  | none =>
    rw [h] at hg
    clear h
    have hg' : ∀ w, Calls Try.prog 62 #[.agg #[.string a, .string b]] w (Gives (.tuple #[.agg #[.string ⟨#[]⟩, .string ⟨#[]⟩], .bool false]) w) := hg
    clear hg
    go_enter Try.func30, Try.ntmps30
    go_wp2_with fail
    have hb0 : Below w.heap.size w (((w.alloc (.cells #[.string a, .string b] 25 (0, 0))).alloc (.cells #[.string ⟨#[]⟩, .string ⟨#[]⟩] 25 (0, 0))).alloc (.cells #[.string ⟨#[]⟩, .string ⟨#[]⟩] 25 (0, 0))) := nxAlloc (nxAlloc (nxAlloc (Below.refl _ _) _) _) _
    have hx0 := heap_keep (nxAlloc (Below.refl _ _) (.cells #[.string ⟨#[]⟩, .string ⟨#[]⟩] 25 (0, 0))) (heap_keep (nxAlloc (Below.refl _ _) (.cells #[.string ⟨#[]⟩, .string ⟨#[]⟩] 25 (0, 0))) (heap_alloc_at w (.cells #[.string a, .string b] 25 (0, 0))))
    have hx1 := heap_keep (nxAlloc (Below.refl _ _) (.cells #[.string ⟨#[]⟩, .string ⟨#[]⟩] 25 (0, 0))) (heap_alloc_at (w.alloc (.cells #[.string a, .string b] 25 (0, 0))) (.cells #[.string ⟨#[]⟩, .string ⟨#[]⟩] 25 (0, 0)))
    have hx2 := heap_alloc_at ((w.alloc (.cells #[.string a, .string b] 25 (0, 0))).alloc (.cells #[.string ⟨#[]⟩, .string ⟨#[]⟩] 25 (0, 0))) (.cells #[.string ⟨#[]⟩, .string ⟨#[]⟩] 25 (0, 0))
    generalize (((w.alloc (.cells #[.string a, .string b] 25 (0, 0))).alloc (.cells #[.string ⟨#[]⟩, .string ⟨#[]⟩] 25 (0, 0))).alloc (.cells #[.string ⟨#[]⟩, .string ⟨#[]⟩] 25 (0, 0))) = w0 at *
    have e1 : (w.alloc (.cells #[.string a, .string b] 25 (0, 0))).heap.size = w.heap.size + 1 := by simp
    rw [e1] at hx1
    clear e1
    have e2 : ((w.alloc (.cells #[.string a, .string b] 25 (0, 0))).alloc (.cells #[.string ⟨#[]⟩, .string ⟨#[]⟩] 25 (0, 0))).heap.size = w.heap.size + 1 + 1 := by simp
    rw [e2] at hx2
    clear e2
    obtain ⟨hx0a, hx0b, hx0c⟩ := two_facts hx0
    obtain ⟨hx0f, hx0g⟩ := two_frozen hx0
    obtain ⟨hx1a, hx1b, hx1c⟩ := two_facts hx1
    obtain ⟨hx1f, hx1g⟩ := two_frozen hx1
    obtain ⟨hx2a, hx2b, hx2c⟩ := two_facts hx2
    obtain ⟨hx2f, hx2g⟩ := two_frozen hx2
    refine (hg' _).mono ?_; rintro e w1 ⟨rfl, hb1⟩
    have hbw1 := nx hb0 hb1
    replace hx0 := heap_keep hb1 hx0
    replace hx1 := heap_keep hb1 hx1
    replace hx2 := heap_keep hb1 hx2
    clear hx0a hx0b hx0c hx0f hx0g
    obtain ⟨hx0a, hx0b, hx0c⟩ := two_facts hx0
    obtain ⟨hx0f, hx0g⟩ := two_frozen hx0
    clear hx1a hx1b hx1c hx1f hx1g
    obtain ⟨hx1a, hx1b, hx1c⟩ := two_facts hx1
    obtain ⟨hx1f, hx1g⟩ := two_frozen hx1
    clear hx2a hx2b hx2c hx2f hx2g
    obtain ⟨hx2a, hx2b, hx2c⟩ := two_facts hx2
    obtain ⟨hx2f, hx2g⟩ := two_frozen hx2
    clear hb1 hb0
    go_wp2_with fail
    have hs0 := set_two (.string ⟨#[]⟩) (.string ⟨#[]⟩) hx0
    have hs1 := (Below.heap_setCell (w1.setCell ⟨w.heap.size, 0, none⟩ (.string ⟨#[]⟩)) ⟨w.heap.size, 1, none⟩ (.string ⟨#[]⟩) _ (by show ¬ _ = w.heap.size; omega)).trans ((Below.heap_setCell w1 ⟨w.heap.size, 0, none⟩ (.string ⟨#[]⟩) _ (by show ¬ _ = w.heap.size; omega)).trans hx1)
    have hs2 := (Below.heap_setCell (w1.setCell ⟨w.heap.size, 0, none⟩ (.string ⟨#[]⟩)) ⟨w.heap.size, 1, none⟩ (.string ⟨#[]⟩) _ (by show ¬ _ = w.heap.size; omega)).trans ((Below.heap_setCell w1 ⟨w.heap.size, 0, none⟩ (.string ⟨#[]⟩) _ (by show ¬ _ = w.heap.size; omega)).trans hx2)
    have hbs := (hbw1.setCell (p := ⟨w.heap.size, 0, none⟩) (Nat.le_refl _) (.string ⟨#[]⟩)).setCell (p := ⟨w.heap.size, 1, none⟩) (Nat.le_refl _) (.string ⟨#[]⟩)
    generalize (w1.setCell ⟨w.heap.size, 0, none⟩ (.string ⟨#[]⟩)).setCell ⟨w.heap.size, 1, none⟩ (.string ⟨#[]⟩) = ws at *
    clear hx0a hx0b hx0c hx0f hx0g hx1a hx1b hx1c hx1f hx1g hx2a hx2b hx2c hx2f hx2g hx0 hx1 hx2 hbw1
    have hx0 := hs0
    clear hs0
    have hx1 := hs1
    clear hs1
    have hx2 := hs2
    clear hs2
    obtain ⟨hx0a, hx0b, hx0c⟩ := two_facts hx0
    obtain ⟨hx0f, hx0g⟩ := two_frozen hx0
    obtain ⟨hx1a, hx1b, hx1c⟩ := two_facts hx1
    obtain ⟨hx1f, hx1g⟩ := two_frozen hx1
    obtain ⟨hx2a, hx2b, hx2c⟩ := two_facts hx2
    obtain ⟨hx2f, hx2g⟩ := two_frozen hx2
    generalize ws = w2 at *
    go_wp2_with fail
    have hr1 := set_two (.string ⟨#[]⟩) (.string ⟨#[]⟩) hx1
    have hr2 := (Below.heap_setCell (w2.setCell ⟨w.heap.size + 1, 0, none⟩ (.string ⟨#[]⟩)) ⟨w.heap.size + 1, 1, none⟩ (.string ⟨#[]⟩) (w.heap.size + 1 + 1) (by show ¬ w.heap.size + 1 + 1 = w.heap.size + 1; omega)).trans ((Below.heap_setCell w2 ⟨w.heap.size + 1, 0, none⟩ (.string ⟨#[]⟩) (w.heap.size + 1 + 1) (by show ¬ w.heap.size + 1 + 1 = w.heap.size + 1; omega)).trans hx2)
    have hr3 := set_two (.string ⟨#[]⟩) (.string ⟨#[]⟩) hr2
    have hr4 := (Below.heap_setCell (((w2.setCell ⟨w.heap.size + 1, 0, none⟩ (.string ⟨#[]⟩)).setCell ⟨w.heap.size + 1, 1, none⟩ (.string ⟨#[]⟩)).setCell ⟨w.heap.size + 1 + 1, 0, none⟩ (.string ⟨#[]⟩)) ⟨w.heap.size + 1 + 1, 1, none⟩ (.string ⟨#[]⟩) (w.heap.size + 1) (by show ¬ w.heap.size + 1 = w.heap.size + 1 + 1; omega)).trans ((Below.heap_setCell ((w2.setCell ⟨w.heap.size + 1, 0, none⟩ (.string ⟨#[]⟩)).setCell ⟨w.heap.size + 1, 1, none⟩ (.string ⟨#[]⟩)) ⟨w.heap.size + 1 + 1, 0, none⟩ (.string ⟨#[]⟩) (w.heap.size + 1) (by show ¬ w.heap.size + 1 = w.heap.size + 1 + 1; omega)).trans hr1)
    obtain ⟨q1, q2⟩ := two_cells hr4
    obtain ⟨q3, q4⟩ := two_cells hr3
    refine bodyPost_ret (v := .tuple #[.agg #[.string ⟨#[]⟩, .string ⟨#[]⟩], .agg #[.string ⟨#[]⟩, .string ⟨#[]⟩], .bool false]) (by simp [q1, q2, q3, q4, results, Try.results30, go_sem]) rfl ⟨rfl, ?_⟩
    exact (((hbs.setCell (p := ⟨w.heap.size + 1, 0, none⟩) (by show w.heap.size ≤ w.heap.size + 1; omega) _).setCell (p := ⟨w.heap.size + 1, 1, none⟩) (by show w.heap.size ≤ w.heap.size + 1; omega) _).setCell (p := ⟨w.heap.size + 1 + 1, 0, none⟩) (by show w.heap.size ≤ w.heap.size + 1 + 1; omega) _).setCell (p := ⟨w.heap.size + 1 + 1, 1, none⟩) (by show w.heap.size ≤ w.heap.size + 1 + 1; omega) _
  | some p =>
    rw [h] at hg
    obtain ⟨rfl, rfl, hok, hc1, hc2⟩ := pairOf_some h
    clear h
    show Calls _ _ _ _ (Gives (ansPP (splP (red p))) w)
    have hrd := redBy_carets p []
    have hro : okP (red p) := red_ok hok []
    have hrc : (red p).1.carets ≤ 8 := Nat.le_trans hrd.1 hc1
    have hrb : both (red p) = [] := red_both p []
    have hR : ∀ w, Calls Try.prog 62 #[.agg #[.string p.1.str, .string p.2.str]] w (Gives (.tuple #[.agg #[.string (red p).1.str, .string (red p).2.str], .bool true]) w) := hg
    clear hg
    generalize red p = R at *
    clear hrd
    obtain ⟨x, y⟩ := R
    cases x with
    | lf =>
      obtain rfl : y = .lf := by
        cases y with
        | lf => rfl
        | nd _ _ => simp [okP, Tr.carets] at hro
      have hR' : ∀ w, Calls Try.prog 62 #[.agg #[.string p.1.str, .string p.2.str]] w (Gives (.tuple #[.agg #[.string Tr.lf.str, .string Tr.lf.str], .bool true]) w) := hR
      have hU := fun w => identity_any w
      show Calls _ _ _ _ (Gives (.tuple #[.agg #[.string Tr.lf.str, .string Tr.lf.str], .agg #[.string Tr.lf.str, .string Tr.lf.str], .bool true]) w)
      clear hR hro hrc hrb
      generalize Tr.lf.str = X at *
      go_enter Try.func30, Try.ntmps30
      go_wp2_with fail
      have hb0 : Below w.heap.size w (((w.alloc (.cells #[.string p.1.str, .string p.2.str] 25 (0, 0))).alloc (.cells #[.string ⟨#[]⟩, .string ⟨#[]⟩] 25 (0, 0))).alloc (.cells #[.string ⟨#[]⟩, .string ⟨#[]⟩] 25 (0, 0))) := nxAlloc (nxAlloc (nxAlloc (Below.refl _ _) _) _) _
      have hx0 := heap_keep (nxAlloc (Below.refl _ _) (.cells #[.string ⟨#[]⟩, .string ⟨#[]⟩] 25 (0, 0))) (heap_keep (nxAlloc (Below.refl _ _) (.cells #[.string ⟨#[]⟩, .string ⟨#[]⟩] 25 (0, 0))) (heap_alloc_at w (.cells #[.string p.1.str, .string p.2.str] 25 (0, 0))))
      have hx1 := heap_keep (nxAlloc (Below.refl _ _) (.cells #[.string ⟨#[]⟩, .string ⟨#[]⟩] 25 (0, 0))) (heap_alloc_at (w.alloc (.cells #[.string p.1.str, .string p.2.str] 25 (0, 0))) (.cells #[.string ⟨#[]⟩, .string ⟨#[]⟩] 25 (0, 0)))
      have hx2 := heap_alloc_at ((w.alloc (.cells #[.string p.1.str, .string p.2.str] 25 (0, 0))).alloc (.cells #[.string ⟨#[]⟩, .string ⟨#[]⟩] 25 (0, 0))) (.cells #[.string ⟨#[]⟩, .string ⟨#[]⟩] 25 (0, 0))
      generalize (((w.alloc (.cells #[.string p.1.str, .string p.2.str] 25 (0, 0))).alloc (.cells #[.string ⟨#[]⟩, .string ⟨#[]⟩] 25 (0, 0))).alloc (.cells #[.string ⟨#[]⟩, .string ⟨#[]⟩] 25 (0, 0))) = w0 at *
      have e1 : (w.alloc (.cells #[.string p.1.str, .string p.2.str] 25 (0, 0))).heap.size = w.heap.size + 1 := by simp
      rw [e1] at hx1
      clear e1
      have e2 : ((w.alloc (.cells #[.string p.1.str, .string p.2.str] 25 (0, 0))).alloc (.cells #[.string ⟨#[]⟩, .string ⟨#[]⟩] 25 (0, 0))).heap.size = w.heap.size + 1 + 1 := by simp
      rw [e2] at hx2
      clear e2
      obtain ⟨hx0a, hx0b, hx0c⟩ := two_facts hx0
      obtain ⟨hx0f, hx0g⟩ := two_frozen hx0
      obtain ⟨hx1a, hx1b, hx1c⟩ := two_facts hx1
      obtain ⟨hx1f, hx1g⟩ := two_frozen hx1
      obtain ⟨hx2a, hx2b, hx2c⟩ := two_facts hx2
      obtain ⟨hx2f, hx2g⟩ := two_frozen hx2
      refine (hR' _).mono ?_; rintro e w1 ⟨rfl, hb1⟩
      have hbw1 := nx hb0 hb1
      replace hx0 := heap_keep hb1 hx0
      replace hx1 := heap_keep hb1 hx1
      replace hx2 := heap_keep hb1 hx2
      clear hx0a hx0b hx0c hx0f hx0g
      obtain ⟨hx0a, hx0b, hx0c⟩ := two_facts hx0
      obtain ⟨hx0f, hx0g⟩ := two_frozen hx0
      clear hx1a hx1b hx1c hx1f hx1g
      obtain ⟨hx1a, hx1b, hx1c⟩ := two_facts hx1
      obtain ⟨hx1f, hx1g⟩ := two_frozen hx1
      clear hx2a hx2b hx2c hx2f hx2g
      obtain ⟨hx2a, hx2b, hx2c⟩ := two_facts hx2
      obtain ⟨hx2f, hx2g⟩ := two_frozen hx2
      clear hb1 hb0
      go_wp2_with fail
      have hs0 := set_two (.string X) (.string X) hx0
      have hs1 := (Below.heap_setCell (w1.setCell ⟨w.heap.size, 0, none⟩ (.string X)) ⟨w.heap.size, 1, none⟩ (.string X) _ (by show ¬ _ = w.heap.size; omega)).trans ((Below.heap_setCell w1 ⟨w.heap.size, 0, none⟩ (.string X) _ (by show ¬ _ = w.heap.size; omega)).trans hx1)
      have hs2 := (Below.heap_setCell (w1.setCell ⟨w.heap.size, 0, none⟩ (.string X)) ⟨w.heap.size, 1, none⟩ (.string X) _ (by show ¬ _ = w.heap.size; omega)).trans ((Below.heap_setCell w1 ⟨w.heap.size, 0, none⟩ (.string X) _ (by show ¬ _ = w.heap.size; omega)).trans hx2)
      have hbs := (hbw1.setCell (p := ⟨w.heap.size, 0, none⟩) (Nat.le_refl _) (.string X)).setCell (p := ⟨w.heap.size, 1, none⟩) (Nat.le_refl _) (.string X)
      generalize (w1.setCell ⟨w.heap.size, 0, none⟩ (.string X)).setCell ⟨w.heap.size, 1, none⟩ (.string X) = ws at *
      clear hx0a hx0b hx0c hx0f hx0g hx1a hx1b hx1c hx1f hx1g hx2a hx2b hx2c hx2f hx2g hx0 hx1 hx2 hbw1
      have hx0 := hs0
      clear hs0
      have hx1 := hs1
      clear hs1
      have hx2 := hs2
      clear hs2
      obtain ⟨hx0a, hx0b, hx0c⟩ := two_facts hx0
      obtain ⟨hx0f, hx0g⟩ := two_frozen hx0
      obtain ⟨hx1a, hx1b, hx1c⟩ := two_facts hx1
      obtain ⟨hx1f, hx1g⟩ := two_frozen hx1
      obtain ⟨hx2a, hx2b, hx2c⟩ := two_facts hx2
      obtain ⟨hx2f, hx2g⟩ := two_frozen hx2
      generalize ws = w2 at *
      refine wp_region_cls (by kernel_rfl) (by kernel_rfl) ?_
      repeat (
        refine wpQuiet_step (fun K hK => ?_)
        go_simp
        first
          | (refine hK _ ?_; clear hK K)
          | (refine ⟨_, fun _ _ => rfl, hK _ ?_⟩; clear hK K)
          | (apply Exists.intro
             refine ⟨fun w' hw' => ?_, hK _ ?_⟩
             · first
                 | (go_at_call 54; exact hw'.call (hU _))
                 | (rw [hw'.cell hx0c hx0a]; dsimp only [Result.andThen]; rw [hw'.cell hx0c hx0b]; exact ⟨rfl, rfl⟩)
             clear hK K))
      refine wpQuiet_nil ?_
      intro w' hw'
      have hbwe := nx hbs hw'
      replace hx0 := heap_keep hw' hx0
      replace hx1 := heap_keep hw' hx1
      replace hx2 := heap_keep hw' hx2
      clear hw' hbs
      generalize w' = w3 at *
      clear hx0a hx0b hx0c hx0f hx0g
      obtain ⟨hx0a, hx0b, hx0c⟩ := two_facts hx0
      obtain ⟨hx0f, hx0g⟩ := two_frozen hx0
      clear hx1a hx1b hx1c hx1f hx1g
      obtain ⟨hx1a, hx1b, hx1c⟩ := two_facts hx1
      obtain ⟨hx1f, hx1g⟩ := two_frozen hx1
      clear hx2a hx2b hx2c hx2f hx2g
      obtain ⟨hx2a, hx2b, hx2c⟩ := two_facts hx2
      obtain ⟨hx2f, hx2g⟩ := two_frozen hx2
      go_wp2_with fail
      go_region
      go_wp2_with fail
      have hr1 := set_two (.string X) (.string X) hx1
      have hr2 := (Below.heap_setCell (w3.setCell ⟨w.heap.size + 1, 0, none⟩ (.string X)) ⟨w.heap.size + 1, 1, none⟩ (.string X) (w.heap.size + 1 + 1) (by show ¬ w.heap.size + 1 + 1 = w.heap.size + 1; omega)).trans ((Below.heap_setCell w3 ⟨w.heap.size + 1, 0, none⟩ (.string X) (w.heap.size + 1 + 1) (by show ¬ w.heap.size + 1 + 1 = w.heap.size + 1; omega)).trans hx2)
      have hr3 := set_two (.string X) (.string X) hr2
      have hr4 := (Below.heap_setCell (((w3.setCell ⟨w.heap.size + 1, 0, none⟩ (.string X)).setCell ⟨w.heap.size + 1, 1, none⟩ (.string X)).setCell ⟨w.heap.size + 1 + 1, 0, none⟩ (.string X)) ⟨w.heap.size + 1 + 1, 1, none⟩ (.string X) (w.heap.size + 1) (by show ¬ w.heap.size + 1 = w.heap.size + 1 + 1; omega)).trans ((Below.heap_setCell ((w3.setCell ⟨w.heap.size + 1, 0, none⟩ (.string X)).setCell ⟨w.heap.size + 1, 1, none⟩ (.string X)) ⟨w.heap.size + 1 + 1, 0, none⟩ (.string X) (w.heap.size + 1) (by show ¬ w.heap.size + 1 = w.heap.size + 1 + 1; omega)).trans hr1)
      obtain ⟨q1, q2⟩ := two_cells hr4
      obtain ⟨q3, q4⟩ := two_cells hr3
      refine bodyPost_ret (v := .tuple #[.agg #[.string X, .string X], .agg #[.string X, .string X], .bool true]) (by simp [q1, q2, q3, q4, results, Try.results30, go_sem]) rfl ⟨rfl, ?_⟩
      exact ((((hbwe.setCell (p := ⟨w.heap.size + 1, 0, none⟩) (by show w.heap.size ≤ w.heap.size + 1; omega) _).setCell (p := ⟨w.heap.size + 1, 1, none⟩) (by show w.heap.size ≤ w.heap.size + 1; omega) _).setCell (p := ⟨w.heap.size + 1 + 1, 0, none⟩) (by show w.heap.size ≤ w.heap.size + 1 + 1; omega) _).setCell (p := ⟨w.heap.size + 1 + 1, 1, none⟩) (by show w.heap.size ≤ w.heap.size + 1 + 1; omega) _).drew
    | nd xa xb =>
      obtain ⟨ya, yb, rfl⟩ : ∃ c d, y = .nd c d := by
        cases y with
        | lf => simp [okP, Tr.carets] at hro
        | nd c d => exact ⟨c, d, rfl⟩
      have hcx : xa.carets + xb.carets + 1 ≤ 8 := hrc
      have hcy : xa.carets + xb.carets + 1 = ya.carets + yb.carets + 1 := hro
      have hE : splP (.nd xa xb, .nd ya yb) = if xa.carets = ya.carets then some ((xa, ya), (xb, yb)) else none := rfl
      rw [hE]
      clear hE hrc hro
      have hR' : ∀ w, Calls Try.prog 62 #[.agg #[.string p.1.str, .string p.2.str]] w (Gives (.tuple #[.agg #[.string (Tr.nd xa xb).str, .string (Tr.nd ya yb).str], .bool true]) w) := hR
      have hU := fun w => identity_any w
      have hne := nd_ne_lf xa xb
      have T1 := fun w => treeOf_any (.nd xa xb) w (by show xa.carets + xb.carets + 1 ≤ 1000; omega)
      have T2 := fun w => treeOf_any (.nd ya yb) w (by show ya.carets + yb.carets + 1 ≤ 1000; omega)
      have X1 := fun b w h => text_any xa b w h (by omega)
      have X2 := fun b w h => text_any xb b w h (by omega)
      have Y1 := fun b w h => text_any ya b w h (by omega)
      have Y2 := fun b w h => text_any yb b w h (by omega)
      have z1 := xa.str_size
      have z2 := ya.str_size
      have G := fun w => isPair_any xa.str ya.str w (by omega) (by omega)
      have hpo : pairOf xa.str ya.str = if xa.carets = ya.carets then some (xa, ya) else none := by
        split
        · next hk => exact pairOf_str (p := (xa, ya)) hk (by show xa.carets ≤ 8; omega)
        · next hk =>
          cases e : pairOf xa.str ya.str with
          | none => rfl
          | some q =>
            obtain ⟨e1, e2, hq, _⟩ := pairOf_some e
            have e3 := str_inj9 e1
            have e4 := str_inj9 e2
            exact absurd (by rw [e3, e4]; exact hq) hk
      rw [hpo] at G
      clear hR hrb hpo z1 z2
      generalize (Tr.nd xa xb).str = X at *
      generalize (Tr.nd ya yb).str = Y at *
      generalize Tr.lf.str = L at *
      by_cases hk : xa.carets = ya.carets
      · rw [if_pos hk] at G ⊢
        have G' : ∀ w, Calls Try.prog 46 #[.agg #[.string xa.str, .string ya.str]] w (Gives (.bool true) w) := G
        show Calls _ _ _ _ (Gives (.tuple #[.agg #[.string xa.str, .string ya.str], .agg #[.string xb.str, .string yb.str], .bool true]) w)
        clear G hk
        go_enter Try.func30, Try.ntmps30
        go_wp2_with fail
        have hb0 : Below w.heap.size w (((w.alloc (.cells #[.string p.1.str, .string p.2.str] 25 (0, 0))).alloc (.cells #[.string ⟨#[]⟩, .string ⟨#[]⟩] 25 (0, 0))).alloc (.cells #[.string ⟨#[]⟩, .string ⟨#[]⟩] 25 (0, 0))) := nxAlloc (nxAlloc (nxAlloc (Below.refl _ _) _) _) _
        have hx0 := heap_keep (nxAlloc (Below.refl _ _) (.cells #[.string ⟨#[]⟩, .string ⟨#[]⟩] 25 (0, 0))) (heap_keep (nxAlloc (Below.refl _ _) (.cells #[.string ⟨#[]⟩, .string ⟨#[]⟩] 25 (0, 0))) (heap_alloc_at w (.cells #[.string p.1.str, .string p.2.str] 25 (0, 0))))
        have hx1 := heap_keep (nxAlloc (Below.refl _ _) (.cells #[.string ⟨#[]⟩, .string ⟨#[]⟩] 25 (0, 0))) (heap_alloc_at (w.alloc (.cells #[.string p.1.str, .string p.2.str] 25 (0, 0))) (.cells #[.string ⟨#[]⟩, .string ⟨#[]⟩] 25 (0, 0)))
        have hx2 := heap_alloc_at ((w.alloc (.cells #[.string p.1.str, .string p.2.str] 25 (0, 0))).alloc (.cells #[.string ⟨#[]⟩, .string ⟨#[]⟩] 25 (0, 0))) (.cells #[.string ⟨#[]⟩, .string ⟨#[]⟩] 25 (0, 0))
        generalize (((w.alloc (.cells #[.string p.1.str, .string p.2.str] 25 (0, 0))).alloc (.cells #[.string ⟨#[]⟩, .string ⟨#[]⟩] 25 (0, 0))).alloc (.cells #[.string ⟨#[]⟩, .string ⟨#[]⟩] 25 (0, 0))) = w0 at *
        have e1 : (w.alloc (.cells #[.string p.1.str, .string p.2.str] 25 (0, 0))).heap.size = w.heap.size + 1 := by simp
        rw [e1] at hx1
        clear e1
        have e2 : ((w.alloc (.cells #[.string p.1.str, .string p.2.str] 25 (0, 0))).alloc (.cells #[.string ⟨#[]⟩, .string ⟨#[]⟩] 25 (0, 0))).heap.size = w.heap.size + 1 + 1 := by simp
        rw [e2] at hx2
        clear e2
        obtain ⟨hx0a, hx0b, hx0c⟩ := two_facts hx0
        obtain ⟨hx0f, hx0g⟩ := two_frozen hx0
        obtain ⟨hx1a, hx1b, hx1c⟩ := two_facts hx1
        obtain ⟨hx1f, hx1g⟩ := two_frozen hx1
        obtain ⟨hx2a, hx2b, hx2c⟩ := two_facts hx2
        obtain ⟨hx2f, hx2g⟩ := two_frozen hx2
        refine (hR' _).mono ?_; rintro e w1 ⟨rfl, hb1⟩
        have hbw1 := nx hb0 hb1
        replace hx0 := heap_keep hb1 hx0
        replace hx1 := heap_keep hb1 hx1
        replace hx2 := heap_keep hb1 hx2
        clear hx0a hx0b hx0c hx0f hx0g
        obtain ⟨hx0a, hx0b, hx0c⟩ := two_facts hx0
        obtain ⟨hx0f, hx0g⟩ := two_frozen hx0
        clear hx1a hx1b hx1c hx1f hx1g
        obtain ⟨hx1a, hx1b, hx1c⟩ := two_facts hx1
        obtain ⟨hx1f, hx1g⟩ := two_frozen hx1
        clear hx2a hx2b hx2c hx2f hx2g
        obtain ⟨hx2a, hx2b, hx2c⟩ := two_facts hx2
        obtain ⟨hx2f, hx2g⟩ := two_frozen hx2
        clear hb1 hb0
        go_wp2_with fail
        have hs0 := set_two (.string X) (.string Y) hx0
        have hs1 := (Below.heap_setCell (w1.setCell ⟨w.heap.size, 0, none⟩ (.string X)) ⟨w.heap.size, 1, none⟩ (.string Y) _ (by show ¬ _ = w.heap.size; omega)).trans ((Below.heap_setCell w1 ⟨w.heap.size, 0, none⟩ (.string X) _ (by show ¬ _ = w.heap.size; omega)).trans hx1)
        have hs2 := (Below.heap_setCell (w1.setCell ⟨w.heap.size, 0, none⟩ (.string X)) ⟨w.heap.size, 1, none⟩ (.string Y) _ (by show ¬ _ = w.heap.size; omega)).trans ((Below.heap_setCell w1 ⟨w.heap.size, 0, none⟩ (.string X) _ (by show ¬ _ = w.heap.size; omega)).trans hx2)
        have hbs := (hbw1.setCell (p := ⟨w.heap.size, 0, none⟩) (Nat.le_refl _) (.string X)).setCell (p := ⟨w.heap.size, 1, none⟩) (Nat.le_refl _) (.string Y)
        generalize (w1.setCell ⟨w.heap.size, 0, none⟩ (.string X)).setCell ⟨w.heap.size, 1, none⟩ (.string Y) = ws at *
        clear hx0a hx0b hx0c hx0f hx0g hx1a hx1b hx1c hx1f hx1g hx2a hx2b hx2c hx2f hx2g hx0 hx1 hx2 hbw1
        have hx0 := hs0
        clear hs0
        have hx1 := hs1
        clear hs1
        have hx2 := hs2
        clear hs2
        obtain ⟨hx0a, hx0b, hx0c⟩ := two_facts hx0
        obtain ⟨hx0f, hx0g⟩ := two_frozen hx0
        obtain ⟨hx1a, hx1b, hx1c⟩ := two_facts hx1
        obtain ⟨hx1f, hx1g⟩ := two_frozen hx1
        obtain ⟨hx2a, hx2b, hx2c⟩ := two_facts hx2
        obtain ⟨hx2f, hx2g⟩ := two_frozen hx2
        generalize ws = w2 at *
        refine wp_region_cls (by kernel_rfl) (by kernel_rfl) ?_
        repeat (
          refine wpQuiet_step (fun K hK => ?_)
          go_simp
          first
            | (refine hK _ ?_; clear hK K)
            | (refine ⟨_, fun _ _ => rfl, hK _ ?_⟩; clear hK K)
            | (apply Exists.intro
               refine ⟨fun w' hw' => ?_, hK _ ?_⟩
               · first
                   | (go_at_call 54; exact hw'.call (hU _))
                   | (rw [hw'.cell hx0c hx0a]; dsimp only [Result.andThen]; rw [hw'.cell hx0c hx0b]; exact ⟨rfl, rfl⟩)
               clear hK K))
        refine wpQuiet_nil ?_
        intro w' hw'
        have hbwe := nx hbs hw'
        replace hx0 := heap_keep hw' hx0
        replace hx1 := heap_keep hw' hx1
        replace hx2 := heap_keep hw' hx2
        clear hw' hbs
        generalize w' = w3 at *
        clear hx0a hx0b hx0c hx0f hx0g
        obtain ⟨hx0a, hx0b, hx0c⟩ := two_facts hx0
        obtain ⟨hx0f, hx0g⟩ := two_frozen hx0
        clear hx1a hx1b hx1c hx1f hx1g
        obtain ⟨hx1a, hx1b, hx1c⟩ := two_facts hx1
        obtain ⟨hx1f, hx1g⟩ := two_frozen hx1
        clear hx2a hx2b hx2c hx2f hx2g
        obtain ⟨hx2a, hx2b, hx2c⟩ := two_facts hx2
        obtain ⟨hx2f, hx2g⟩ := two_frozen hx2
        go_wp2_with fail
        have hz0 := Below.refl w3.heap.size w3
        refine wp_region_held_drew (S := (fun w' : World => w'.cell? ⟨w.heap.size, 0, none⟩ = some (.string X) ∧ w'.cell? ⟨w.heap.size, 1, none⟩ = some (.string Y))) (by kernel_rfl) ⟨hx0a, hx0b⟩ (fun hH0 => ?_)
        refine wpAnyH_take (i := 0) (oi := ?oi201) (v := ?vv201) ?hi201 ?hn201 ?hf201 ?hr201 ?hq201 (Or.inl ⟨?hg201, ?hy201⟩) hH0 ?rest201
        case hi201 => (simp only [List.getElem?_toArray, List.getElem?_cons_zero]; rfl)
        case hn201 => kernel_rfl
        case hf201 => kernel_rfl
        case hr201 => kernel_rfl
        case hg201 => rfl
        case hy201 => (intro w hSw; (try dsimp only at hSw); go_simp; first | done | with_reducible rfl)
        case hq201 => exact fun _ _ _ h => h
        try dsimp only [Act.put]
        refine wpAnyH_take (i := 1) (oi := ?oi202) (v := ?vv202) ?hi202 ?hn202 ?hf202 ?hr202 ?hq202 (Or.inl ⟨?hg202, ?hy202⟩) hH0 ?rest202
        case hi202 => (simp only [List.getElem?_toArray, List.getElem?_cons_succ, List.getElem?_cons_zero]; rfl)
        case hn202 => kernel_rfl
        case hf202 => kernel_rfl
        case hr202 => kernel_rfl
        case hg202 => rfl
        case hy202 => (intro w hSw; (try dsimp only at hSw); go_simp; first | done | with_reducible rfl)
        case hq202 => exact fun _ _ _ h => h
        try dsimp only [Act.put]
        refine wpAnyH_take (i := 3) (oi := ?oi203) (v := ?vv203) ?hi203 ?hn203 ?hf203 ?hr203 ?hq203 (Or.inl ⟨?hg203, ?hy203⟩) hH0 ?rest203
        case hi203 => (simp only [List.getElem?_toArray, List.getElem?_cons_succ, List.getElem?_cons_zero]; rfl)
        case hn203 => kernel_rfl
        case hf203 => kernel_rfl
        case hr203 => kernel_rfl
        case hg203 => rfl
        case hy203 => (intro w hSw; (try dsimp only at hSw); go_simp; first | done | with_reducible rfl)
        case hq203 => exact fun _ _ _ h => h
        try dsimp only [Act.put]
        refine wpAnyH_take (i := 4) (oi := ?oi204) (v := ?vv204) ?hi204 ?hn204 ?hf204 ?hr204 ?hq204 (Or.inl ⟨?hg204, ?hy204⟩) hH0 ?rest204
        case hi204 => (simp only [List.getElem?_toArray, List.getElem?_cons_succ, List.getElem?_cons_zero]; rfl)
        case hn204 => kernel_rfl
        case hf204 => kernel_rfl
        case hr204 => kernel_rfl
        case hg204 => rfl
        case hy204 => (intro w hSw; (try dsimp only at hSw); go_simp; first | done | with_reducible rfl)
        case hq204 => exact fun _ _ _ h => h
        try dsimp only [Act.put]
        refine held_one 2 rfl (by kernel_rfl) (fun K hK => ?_)
        go_simp
        refine (T1 _).mono ?_; rintro e w21 ⟨b1, hn1, hb21, rfl⟩
        have hb21' := nx hz0.drew hb21
        go_wp2_with fail
        have hH1 : (fun w' : World => w'.cell? ⟨w.heap.size, 0, none⟩ = some (.string X) ∧ w'.cell? ⟨w.heap.size, 1, none⟩ = some (.string Y)) _ := ⟨keep_cell hb21' hx0a, keep_cell hb21' hx0b⟩
        refine hK.out (fun w' : World => w'.cell? ⟨w.heap.size, 0, none⟩ = some (.string X) ∧ w'.cell? ⟨w.heap.size, 1, none⟩ = some (.string Y)) _ _ (fun _ h => h) hH1 ?_
        clear hK K
        try dsimp only [Act.put]
        refine held_one 5 rfl (by kernel_rfl) (fun K hK => ?_)
        go_simp
        refine (T2 _).mono ?_; rintro e w22 ⟨b2, hn2, hb22, rfl⟩
        have hb22' := nx hb21' hb22
        go_wp2_with fail
        have hH2 : (fun w' : World => w'.cell? ⟨w.heap.size, 0, none⟩ = some (.string X) ∧ w'.cell? ⟨w.heap.size, 1, none⟩ = some (.string Y)) _ := ⟨keep_cell hb22' hx0a, keep_cell hb22' hx0b⟩
        refine hK.out (fun w' : World => w'.cell? ⟨w.heap.size, 0, none⟩ = some (.string X) ∧ w'.cell? ⟨w.heap.size, 1, none⟩ = some (.string Y)) _ _ (fun _ h => h) hH2 ?_
        clear hK K
        try dsimp only [Act.put]
        refine wpAnyH_take (i := 6) (oi := ?oi205) (v := ?vv205) ?hi205 ?hn205 ?hf205 ?hr205 ?hq205 (Or.inl ⟨?hg205, ?hy205⟩) hH2 ?rest205
        case hi205 => (simp only [List.getElem?_toArray, List.getElem?_cons_succ, List.getElem?_cons_zero]; rfl)
        case hn205 => kernel_rfl
        case hf205 => kernel_rfl
        case hr205 => kernel_rfl
        case hg205 => rfl
        case hy205 => (intro w hSw; (try dsimp only at hSw); go_simp; first | done | with_reducible rfl)
        case hq205 => exact fun _ _ _ h => h
        try dsimp only [Act.put]
        refine wpAnyH_take (i := 7) (oi := ?oi206) (v := ?vv206) ?hi206 ?hn206 ?hf206 ?hr206 ?hq206 (Or.inl ⟨?hg206, ?hy206⟩) hH2 ?rest206
        case hi206 => (simp only [List.getElem?_toArray, List.getElem?_cons_succ, List.getElem?_cons_zero]; rfl)
        case hn206 => kernel_rfl
        case hf206 => kernel_rfl
        case hr206 => kernel_rfl
        case hg206 => rfl
        case hy206 => (intro w hSw; (try dsimp only at hSw); go_simp; first | done | with_reducible rfl)
        case hq206 => exact fun _ _ _ h => h
        try dsimp only [Act.put]
        refine wpAnyH_done (by kernel_rfl) ?_ _
        simp only [List.setIfInBounds_toArray, List.set_cons_zero, List.set_cons_succ]
        have hm1 := hn1.keep hb22
        have hbw22 := nx hbwe hb22'
        replace hx0 := heap_keep hb22' hx0
        replace hx1 := heap_keep hb22' hx1
        replace hx2 := heap_keep hb22' hx2
        clear hbwe hn1 hb21 hb22 hb21' hb22' hz0
        clear hx0a hx0b hx0c hx0f hx0g
        obtain ⟨hx0a, hx0b, hx0c⟩ := two_facts hx0
        obtain ⟨hx0f, hx0g⟩ := two_frozen hx0
        clear hx1a hx1b hx1c hx1f hx1g
        obtain ⟨hx1a, hx1b, hx1c⟩ := two_facts hx1
        obtain ⟨hx1f, hx1g⟩ := two_frozen hx1
        clear hx2a hx2b hx2c hx2f hx2g
        obtain ⟨hx2a, hx2b, hx2c⟩ := two_facts hx2
        obtain ⟨hx2f, hx2g⟩ := two_frozen hx2
        obtain ⟨bl1, br1, hn1, ml1, mr1⟩ := hm1
        obtain ⟨bl2, br2, hn2', ml2, mr2⟩ := hn2
        have hn2 := hn2'
        clear hn2'
        have u1 := two_left hn1
        have u2 := two_right hn1
        have u3 := two_left hn2
        have u4 := two_right hn2
        have v1 := lt_of_block hn1
        have v2 := lt_of_block hn2
        go_wp2_with fail
        generalize hXA : xa.str = XA at *
        generalize hXB : xb.str = XB at *
        generalize hYA : ya.str = YA at *
        generalize hYB : yb.str = YB at *
        clear hXA hXB hYA hYB
        refine wp_region_floatP 10 11 #[true, true, true, true, true, true, true, true, true, true, false, false, false] _ (.cells #[.string ⟨#[]⟩, .string ⟨#[]⟩] 25 (0, 0)) (by kernel_rfl) (by kernel_rfl) rfl (fun _ => rfl) (fun _ _ => rfl) ?_
        simp only [List.take_succ_cons, List.take_zero, List.drop_succ_cons, List.drop_zero, Nat.reduceSub]
        repeat (
          refine wpQuietR_step (fun K hK => ?_)
          go_simp
          first
            | (refine hK _ ?_; clear hK K)
            | (refine ⟨_, fun _ _ => rfl, hK _ ?_⟩; clear hK K)
            | (apply Exists.intro
               refine ⟨fun w' hw' => ?_, hK _ ?_⟩
               · first
                   | (go_at_call 64; first | (with_reducible exact callR (tx_cls (X1 _ _ (nodeC hw' ml1)))) | (with_reducible exact callR (tx_cls (Y1 _ _ (nodeC hw' ml2)))))
                   | (rw [hw'.cell v1 u1]; exact ⟨rfl, rfl⟩)
                   | (rw [hw'.cell v1 u2]; exact ⟨rfl, rfl⟩)
                   | (rw [hw'.cell v2 u3]; exact ⟨rfl, rfl⟩)
                   | (rw [hw'.cell v2 u4]; exact ⟨rfl, rfl⟩)
               clear hK K))
        refine wpQuietR_nil ?_
        repeat (refine wpPure_step (fun K hK => ?_); go_simp; first | (refine hK _ ?_; clear hK K) | (refine ⟨_, fun _ => rfl, hK _ ?_⟩; clear hK K))
        refine wpPure_nil ?_
        intro ga w' hw' hx hg
        dsimp only [ptrV]
        obtain ⟨xa9, xb9, xc9⟩ := two_facts hx
        obtain ⟨xf9, xg9⟩ := two_frozen hx
        refine only_hide (fun K hK => ?_)
        have HK := Lib.hid hK
        clear hK
        go_wp2_with fail
        refine HK.out _ _ ?_
        clear HK K xa9 xb9 xc9 xf9 xg9
        have hB : Below w22.heap.size w22 ((w'.setCell ⟨ga, 0, none⟩ (.string XA)).setCell ⟨ga, 1, none⟩ (.string YA)) := (Below.setCell hw' hg _).setCell hg _
        have hne1 : ¬ ga = w.heap.size + 1 := by have h1 := hx1c; have h2 : w22.heap.size ≤ ga := hg; omega
        have hnf1 : ¬ ga = w.heap.size + 1 + 1 := by have h1 := hx2c; have h2 : w22.heap.size ≤ ga := hg; omega
        have hy1 := set_two (.string XA) (.string YA) hx
        have hbwk1 := nx hbw22 hB
        replace hx0 := heap_keep hB hx0
        replace hx1 := heap_keep hB hx1
        replace hx2 := heap_keep hB hx2
        replace ml1 := NodeAt.keep hB ml1
        replace mr1 := NodeAt.keep hB mr1
        replace ml2 := NodeAt.keep hB ml2
        replace mr2 := NodeAt.keep hB mr2
        replace hn1 := (hB.block _ v1).trans hn1
        replace hn2 := (hB.block _ v2).trans hn2
        clear v1 v2 u1 u2 u3 u4 hbw22 hB
        generalize ((w'.setCell ⟨ga, 0, none⟩ (.string XA)).setCell ⟨ga, 1, none⟩ (.string YA)) = w23 at *
        clear hw' hx hg w'
        have u1 := two_left hn1
        have u2 := two_right hn1
        have u3 := two_left hn2
        have u4 := two_right hn2
        have v1 := lt_of_block hn1
        have v2 := lt_of_block hn2
        clear hx0a hx0b hx0c hx0f hx0g
        obtain ⟨hx0a, hx0b, hx0c⟩ := two_facts hx0
        obtain ⟨hx0f, hx0g⟩ := two_frozen hx0
        clear hx1a hx1b hx1c hx1f hx1g
        obtain ⟨hx1a, hx1b, hx1c⟩ := two_facts hx1
        obtain ⟨hx1f, hx1g⟩ := two_frozen hx1
        clear hx2a hx2b hx2c hx2f hx2g
        obtain ⟨hx2a, hx2b, hx2c⟩ := two_facts hx2
        obtain ⟨hx2f, hx2g⟩ := two_frozen hx2
        obtain ⟨hy1a, hy1b, hy1c⟩ := two_facts hy1
        obtain ⟨hy1f, hy1g⟩ := two_frozen hy1
        go_wp2_with fail
        refine wp_region_floatP 10 11 #[true, true, true, true, true, true, true, true, true, true, false, false, false] _ (.cells #[.string ⟨#[]⟩, .string ⟨#[]⟩] 25 (0, 0)) (by kernel_rfl) (by kernel_rfl) rfl (fun _ => rfl) (fun _ _ => rfl) ?_
        simp only [List.take_succ_cons, List.take_zero, List.drop_succ_cons, List.drop_zero, Nat.reduceSub]
        repeat (
          refine wpQuietR_step (fun K hK => ?_)
          go_simp
          first
            | (refine hK _ ?_; clear hK K)
            | (refine ⟨_, fun _ _ => rfl, hK _ ?_⟩; clear hK K)
            | (apply Exists.intro
               refine ⟨fun w' hw' => ?_, hK _ ?_⟩
               · first
                   | (go_at_call 64; first | (with_reducible exact callR (tx_cls (X2 _ _ (nodeC hw' mr1)))) | (with_reducible exact callR (tx_cls (Y2 _ _ (nodeC hw' mr2)))))
                   | (rw [hw'.cell v1 u1]; exact ⟨rfl, rfl⟩)
                   | (rw [hw'.cell v1 u2]; exact ⟨rfl, rfl⟩)
                   | (rw [hw'.cell v2 u3]; exact ⟨rfl, rfl⟩)
                   | (rw [hw'.cell v2 u4]; exact ⟨rfl, rfl⟩)
               clear hK K))
        refine wpQuietR_nil ?_
        repeat (refine wpPure_step (fun K hK => ?_); go_simp; first | (refine hK _ ?_; clear hK K) | (refine ⟨_, fun _ => rfl, hK _ ?_⟩; clear hK K))
        refine wpPure_nil ?_
        intro gb w' hw' hx hg
        dsimp only [ptrV]
        obtain ⟨xa9, xb9, xc9⟩ := two_facts hx
        obtain ⟨xf9, xg9⟩ := two_frozen hx
        refine only_hide (fun K hK => ?_)
        have HK := Lib.hid hK
        clear hK
        go_wp2_with fail
        refine HK.out _ _ ?_
        clear HK K xa9 xb9 xc9 xf9 xg9
        have hB : Below w23.heap.size w23 ((w'.setCell ⟨gb, 0, none⟩ (.string XB)).setCell ⟨gb, 1, none⟩ (.string YB)) := (Below.setCell hw' hg _).setCell hg _
        have hne2 : ¬ gb = w.heap.size + 1 := by have h1 := hx1c; have h2 : w23.heap.size ≤ gb := hg; omega
        have hnf2 : ¬ gb = w.heap.size + 1 + 1 := by have h1 := hx2c; have h2 : w23.heap.size ≤ gb := hg; omega
        have hy2 := set_two (.string XB) (.string YB) hx
        have hbwk2 := nx hbwk1 hB
        replace hx0 := heap_keep hB hx0
        replace hx1 := heap_keep hB hx1
        replace hx2 := heap_keep hB hx2
        replace hy1 := heap_keep hB hy1
        replace ml1 := NodeAt.keep hB ml1
        replace mr1 := NodeAt.keep hB mr1
        replace ml2 := NodeAt.keep hB ml2
        replace mr2 := NodeAt.keep hB mr2
        replace hn1 := (hB.block _ v1).trans hn1
        replace hn2 := (hB.block _ v2).trans hn2
        clear v1 v2 u1 u2 u3 u4 hbwk1 hB
        generalize ((w'.setCell ⟨gb, 0, none⟩ (.string XB)).setCell ⟨gb, 1, none⟩ (.string YB)) = w24 at *
        clear hw' hx hg w'
        have u1 := two_left hn1
        have u2 := two_right hn1
        have u3 := two_left hn2
        have u4 := two_right hn2
        have v1 := lt_of_block hn1
        have v2 := lt_of_block hn2
        clear hx0a hx0b hx0c hx0f hx0g
        obtain ⟨hx0a, hx0b, hx0c⟩ := two_facts hx0
        obtain ⟨hx0f, hx0g⟩ := two_frozen hx0
        clear hx1a hx1b hx1c hx1f hx1g
        obtain ⟨hx1a, hx1b, hx1c⟩ := two_facts hx1
        obtain ⟨hx1f, hx1g⟩ := two_frozen hx1
        clear hx2a hx2b hx2c hx2f hx2g
        obtain ⟨hx2a, hx2b, hx2c⟩ := two_facts hx2
        obtain ⟨hx2f, hx2g⟩ := two_frozen hx2
        clear hy1a hy1b hy1c hy1f hy1g
        obtain ⟨hy1a, hy1b, hy1c⟩ := two_facts hy1
        obtain ⟨hy1f, hy1g⟩ := two_frozen hy1
        obtain ⟨hy2a, hy2b, hy2c⟩ := two_facts hy2
        obtain ⟨hy2f, hy2g⟩ := two_frozen hy2
        go_wp2_with fail
        refine (G' _).mono ?_; rintro e w25 ⟨rfl, hb25⟩
        have hbw25 := nx hbwk2 hb25
        replace hx0 := heap_keep hb25 hx0
        replace hx1 := heap_keep hb25 hx1
        replace hx2 := heap_keep hb25 hx2
        replace hy1 := heap_keep hb25 hy1
        replace hy2 := heap_keep hb25 hy2
        clear hx0a hx0b hx0c hx0f hx0g
        obtain ⟨hx0a, hx0b, hx0c⟩ := two_facts hx0
        obtain ⟨hx0f, hx0g⟩ := two_frozen hx0
        clear hx1a hx1b hx1c hx1f hx1g
        obtain ⟨hx1a, hx1b, hx1c⟩ := two_facts hx1
        obtain ⟨hx1f, hx1g⟩ := two_frozen hx1
        clear hx2a hx2b hx2c hx2f hx2g
        obtain ⟨hx2a, hx2b, hx2c⟩ := two_facts hx2
        obtain ⟨hx2f, hx2g⟩ := two_frozen hx2
        clear hy1a hy1b hy1c hy1f hy1g
        obtain ⟨hy1a, hy1b, hy1c⟩ := two_facts hy1
        obtain ⟨hy1f, hy1g⟩ := two_frozen hy1
        clear hy2a hy2b hy2c hy2f hy2g
        obtain ⟨hy2a, hy2b, hy2c⟩ := two_facts hy2
        obtain ⟨hy2f, hy2g⟩ := two_frozen hy2
        clear hb25 hbwk2
        go_wp2_with fail
        go_region
        go_wp2_with fail
        have hr1 := set_two (.string XA) (.string YA) hx1
        have hr2 := (Below.heap_setCell (w25.setCell ⟨w.heap.size + 1, 0, none⟩ (.string XA)) ⟨w.heap.size + 1, 1, none⟩ (.string YA) (w.heap.size + 1 + 1) (by show ¬ w.heap.size + 1 + 1 = w.heap.size + 1; omega)).trans ((Below.heap_setCell w25 ⟨w.heap.size + 1, 0, none⟩ (.string XA) (w.heap.size + 1 + 1) (by show ¬ w.heap.size + 1 + 1 = w.heap.size + 1; omega)).trans hx2)
        have hr3 := set_two (.string XB) (.string YB) hr2
        have hr4 := (Below.heap_setCell (((w25.setCell ⟨w.heap.size + 1, 0, none⟩ (.string XA)).setCell ⟨w.heap.size + 1, 1, none⟩ (.string YA)).setCell ⟨w.heap.size + 1 + 1, 0, none⟩ (.string XB)) ⟨w.heap.size + 1 + 1, 1, none⟩ (.string YB) (w.heap.size + 1) (by show ¬ w.heap.size + 1 = w.heap.size + 1 + 1; omega)).trans ((Below.heap_setCell ((w25.setCell ⟨w.heap.size + 1, 0, none⟩ (.string XA)).setCell ⟨w.heap.size + 1, 1, none⟩ (.string YA)) ⟨w.heap.size + 1 + 1, 0, none⟩ (.string XB) (w.heap.size + 1) (by show ¬ w.heap.size + 1 = w.heap.size + 1 + 1; omega)).trans hr1)
        obtain ⟨q1, q2⟩ := two_cells hr4
        obtain ⟨q3, q4⟩ := two_cells hr3
        refine bodyPost_ret (v := .tuple #[.agg #[.string XA, .string YA], .agg #[.string XB, .string YB], .bool true]) (by simp [q1, q2, q3, q4, results, Try.results30, go_sem]) rfl ⟨rfl, ?_⟩
        exact ((((hbw25.setCell (p := ⟨w.heap.size + 1, 0, none⟩) (by show w.heap.size ≤ w.heap.size + 1; omega) _).setCell (p := ⟨w.heap.size + 1, 1, none⟩) (by show w.heap.size ≤ w.heap.size + 1; omega) _).setCell (p := ⟨w.heap.size + 1 + 1, 0, none⟩) (by show w.heap.size ≤ w.heap.size + 1 + 1; omega) _).setCell (p := ⟨w.heap.size + 1 + 1, 1, none⟩) (by show w.heap.size ≤ w.heap.size + 1 + 1; omega) _).drew
      · rw [if_neg hk] at G ⊢
        have G' : ∀ w, Calls Try.prog 46 #[.agg #[.string xa.str, .string ya.str]] w (Gives (.bool false) w) := G
        show Calls _ _ _ _ (Gives (.tuple #[.agg #[.string ⟨#[]⟩, .string ⟨#[]⟩], .agg #[.string ⟨#[]⟩, .string ⟨#[]⟩], .bool false]) w)
        clear G hk
        go_enter Try.func30, Try.ntmps30
        go_wp2_with fail
        have hb0 : Below w.heap.size w (((w.alloc (.cells #[.string p.1.str, .string p.2.str] 25 (0, 0))).alloc (.cells #[.string ⟨#[]⟩, .string ⟨#[]⟩] 25 (0, 0))).alloc (.cells #[.string ⟨#[]⟩, .string ⟨#[]⟩] 25 (0, 0))) := nxAlloc (nxAlloc (nxAlloc (Below.refl _ _) _) _) _
        have hx0 := heap_keep (nxAlloc (Below.refl _ _) (.cells #[.string ⟨#[]⟩, .string ⟨#[]⟩] 25 (0, 0))) (heap_keep (nxAlloc (Below.refl _ _) (.cells #[.string ⟨#[]⟩, .string ⟨#[]⟩] 25 (0, 0))) (heap_alloc_at w (.cells #[.string p.1.str, .string p.2.str] 25 (0, 0))))
        have hx1 := heap_keep (nxAlloc (Below.refl _ _) (.cells #[.string ⟨#[]⟩, .string ⟨#[]⟩] 25 (0, 0))) (heap_alloc_at (w.alloc (.cells #[.string p.1.str, .string p.2.str] 25 (0, 0))) (.cells #[.string ⟨#[]⟩, .string ⟨#[]⟩] 25 (0, 0)))
        have hx2 := heap_alloc_at ((w.alloc (.cells #[.string p.1.str, .string p.2.str] 25 (0, 0))).alloc (.cells #[.string ⟨#[]⟩, .string ⟨#[]⟩] 25 (0, 0))) (.cells #[.string ⟨#[]⟩, .string ⟨#[]⟩] 25 (0, 0))
        generalize (((w.alloc (.cells #[.string p.1.str, .string p.2.str] 25 (0, 0))).alloc (.cells #[.string ⟨#[]⟩, .string ⟨#[]⟩] 25 (0, 0))).alloc (.cells #[.string ⟨#[]⟩, .string ⟨#[]⟩] 25 (0, 0))) = w0 at *
        have e1 : (w.alloc (.cells #[.string p.1.str, .string p.2.str] 25 (0, 0))).heap.size = w.heap.size + 1 := by simp
        rw [e1] at hx1
        clear e1
        have e2 : ((w.alloc (.cells #[.string p.1.str, .string p.2.str] 25 (0, 0))).alloc (.cells #[.string ⟨#[]⟩, .string ⟨#[]⟩] 25 (0, 0))).heap.size = w.heap.size + 1 + 1 := by simp
        rw [e2] at hx2
        clear e2
        obtain ⟨hx0a, hx0b, hx0c⟩ := two_facts hx0
        obtain ⟨hx0f, hx0g⟩ := two_frozen hx0
        obtain ⟨hx1a, hx1b, hx1c⟩ := two_facts hx1
        obtain ⟨hx1f, hx1g⟩ := two_frozen hx1
        obtain ⟨hx2a, hx2b, hx2c⟩ := two_facts hx2
        obtain ⟨hx2f, hx2g⟩ := two_frozen hx2
        refine (hR' _).mono ?_; rintro e w1 ⟨rfl, hb1⟩
        have hbw1 := nx hb0 hb1
        replace hx0 := heap_keep hb1 hx0
        replace hx1 := heap_keep hb1 hx1
        replace hx2 := heap_keep hb1 hx2
        clear hx0a hx0b hx0c hx0f hx0g
        obtain ⟨hx0a, hx0b, hx0c⟩ := two_facts hx0
        obtain ⟨hx0f, hx0g⟩ := two_frozen hx0
        clear hx1a hx1b hx1c hx1f hx1g
        obtain ⟨hx1a, hx1b, hx1c⟩ := two_facts hx1
        obtain ⟨hx1f, hx1g⟩ := two_frozen hx1
        clear hx2a hx2b hx2c hx2f hx2g
        obtain ⟨hx2a, hx2b, hx2c⟩ := two_facts hx2
        obtain ⟨hx2f, hx2g⟩ := two_frozen hx2
        clear hb1 hb0
        go_wp2_with fail
        have hs0 := set_two (.string X) (.string Y) hx0
        have hs1 := (Below.heap_setCell (w1.setCell ⟨w.heap.size, 0, none⟩ (.string X)) ⟨w.heap.size, 1, none⟩ (.string Y) _ (by show ¬ _ = w.heap.size; omega)).trans ((Below.heap_setCell w1 ⟨w.heap.size, 0, none⟩ (.string X) _ (by show ¬ _ = w.heap.size; omega)).trans hx1)
        have hs2 := (Below.heap_setCell (w1.setCell ⟨w.heap.size, 0, none⟩ (.string X)) ⟨w.heap.size, 1, none⟩ (.string Y) _ (by show ¬ _ = w.heap.size; omega)).trans ((Below.heap_setCell w1 ⟨w.heap.size, 0, none⟩ (.string X) _ (by show ¬ _ = w.heap.size; omega)).trans hx2)
        have hbs := (hbw1.setCell (p := ⟨w.heap.size, 0, none⟩) (Nat.le_refl _) (.string X)).setCell (p := ⟨w.heap.size, 1, none⟩) (Nat.le_refl _) (.string Y)
        generalize (w1.setCell ⟨w.heap.size, 0, none⟩ (.string X)).setCell ⟨w.heap.size, 1, none⟩ (.string Y) = ws at *
        clear hx0a hx0b hx0c hx0f hx0g hx1a hx1b hx1c hx1f hx1g hx2a hx2b hx2c hx2f hx2g hx0 hx1 hx2 hbw1
        have hx0 := hs0
        clear hs0
        have hx1 := hs1
        clear hs1
        have hx2 := hs2
        clear hs2
        obtain ⟨hx0a, hx0b, hx0c⟩ := two_facts hx0
        obtain ⟨hx0f, hx0g⟩ := two_frozen hx0
        obtain ⟨hx1a, hx1b, hx1c⟩ := two_facts hx1
        obtain ⟨hx1f, hx1g⟩ := two_frozen hx1
        obtain ⟨hx2a, hx2b, hx2c⟩ := two_facts hx2
        obtain ⟨hx2f, hx2g⟩ := two_frozen hx2
        generalize ws = w2 at *
        refine wp_region_cls (by kernel_rfl) (by kernel_rfl) ?_
        repeat (
          refine wpQuiet_step (fun K hK => ?_)
          go_simp
          first
            | (refine hK _ ?_; clear hK K)
            | (refine ⟨_, fun _ _ => rfl, hK _ ?_⟩; clear hK K)
            | (apply Exists.intro
               refine ⟨fun w' hw' => ?_, hK _ ?_⟩
               · first
                   | (go_at_call 54; exact hw'.call (hU _))
                   | (rw [hw'.cell hx0c hx0a]; dsimp only [Result.andThen]; rw [hw'.cell hx0c hx0b]; exact ⟨rfl, rfl⟩)
               clear hK K))
        refine wpQuiet_nil ?_
        intro w' hw'
        have hbwe := nx hbs hw'
        replace hx0 := heap_keep hw' hx0
        replace hx1 := heap_keep hw' hx1
        replace hx2 := heap_keep hw' hx2
        clear hw' hbs
        generalize w' = w3 at *
        clear hx0a hx0b hx0c hx0f hx0g
        obtain ⟨hx0a, hx0b, hx0c⟩ := two_facts hx0
        obtain ⟨hx0f, hx0g⟩ := two_frozen hx0
        clear hx1a hx1b hx1c hx1f hx1g
        obtain ⟨hx1a, hx1b, hx1c⟩ := two_facts hx1
        obtain ⟨hx1f, hx1g⟩ := two_frozen hx1
        clear hx2a hx2b hx2c hx2f hx2g
        obtain ⟨hx2a, hx2b, hx2c⟩ := two_facts hx2
        obtain ⟨hx2f, hx2g⟩ := two_frozen hx2
        go_wp2_with fail
        have hz0 := Below.refl w3.heap.size w3
        refine wp_region_held_drew (S := (fun w' : World => w'.cell? ⟨w.heap.size, 0, none⟩ = some (.string X) ∧ w'.cell? ⟨w.heap.size, 1, none⟩ = some (.string Y))) (by kernel_rfl) ⟨hx0a, hx0b⟩ (fun hH0 => ?_)
        refine wpAnyH_take (i := 0) (oi := ?oi401) (v := ?vv401) ?hi401 ?hn401 ?hf401 ?hr401 ?hq401 (Or.inl ⟨?hg401, ?hy401⟩) hH0 ?rest401
        case hi401 => (simp only [List.getElem?_toArray, List.getElem?_cons_zero]; rfl)
        case hn401 => kernel_rfl
        case hf401 => kernel_rfl
        case hr401 => kernel_rfl
        case hg401 => rfl
        case hy401 => (intro w hSw; (try dsimp only at hSw); go_simp; first | done | with_reducible rfl)
        case hq401 => exact fun _ _ _ h => h
        try dsimp only [Act.put]
        refine wpAnyH_take (i := 1) (oi := ?oi402) (v := ?vv402) ?hi402 ?hn402 ?hf402 ?hr402 ?hq402 (Or.inl ⟨?hg402, ?hy402⟩) hH0 ?rest402
        case hi402 => (simp only [List.getElem?_toArray, List.getElem?_cons_succ, List.getElem?_cons_zero]; rfl)
        case hn402 => kernel_rfl
        case hf402 => kernel_rfl
        case hr402 => kernel_rfl
        case hg402 => rfl
        case hy402 => (intro w hSw; (try dsimp only at hSw); go_simp; first | done | with_reducible rfl)
        case hq402 => exact fun _ _ _ h => h
        try dsimp only [Act.put]
        refine wpAnyH_take (i := 3) (oi := ?oi403) (v := ?vv403) ?hi403 ?hn403 ?hf403 ?hr403 ?hq403 (Or.inl ⟨?hg403, ?hy403⟩) hH0 ?rest403
        case hi403 => (simp only [List.getElem?_toArray, List.getElem?_cons_succ, List.getElem?_cons_zero]; rfl)
        case hn403 => kernel_rfl
        case hf403 => kernel_rfl
        case hr403 => kernel_rfl
        case hg403 => rfl
        case hy403 => (intro w hSw; (try dsimp only at hSw); go_simp; first | done | with_reducible rfl)
        case hq403 => exact fun _ _ _ h => h
        try dsimp only [Act.put]
        refine wpAnyH_take (i := 4) (oi := ?oi404) (v := ?vv404) ?hi404 ?hn404 ?hf404 ?hr404 ?hq404 (Or.inl ⟨?hg404, ?hy404⟩) hH0 ?rest404
        case hi404 => (simp only [List.getElem?_toArray, List.getElem?_cons_succ, List.getElem?_cons_zero]; rfl)
        case hn404 => kernel_rfl
        case hf404 => kernel_rfl
        case hr404 => kernel_rfl
        case hg404 => rfl
        case hy404 => (intro w hSw; (try dsimp only at hSw); go_simp; first | done | with_reducible rfl)
        case hq404 => exact fun _ _ _ h => h
        try dsimp only [Act.put]
        refine held_one 2 rfl (by kernel_rfl) (fun K hK => ?_)
        go_simp
        refine (T1 _).mono ?_; rintro e w21 ⟨b1, hn1, hb21, rfl⟩
        have hb21' := nx hz0.drew hb21
        go_wp2_with fail
        have hH1 : (fun w' : World => w'.cell? ⟨w.heap.size, 0, none⟩ = some (.string X) ∧ w'.cell? ⟨w.heap.size, 1, none⟩ = some (.string Y)) _ := ⟨keep_cell hb21' hx0a, keep_cell hb21' hx0b⟩
        refine hK.out (fun w' : World => w'.cell? ⟨w.heap.size, 0, none⟩ = some (.string X) ∧ w'.cell? ⟨w.heap.size, 1, none⟩ = some (.string Y)) _ _ (fun _ h => h) hH1 ?_
        clear hK K
        try dsimp only [Act.put]
        refine held_one 5 rfl (by kernel_rfl) (fun K hK => ?_)
        go_simp
        refine (T2 _).mono ?_; rintro e w22 ⟨b2, hn2, hb22, rfl⟩
        have hb22' := nx hb21' hb22
        go_wp2_with fail
        have hH2 : (fun w' : World => w'.cell? ⟨w.heap.size, 0, none⟩ = some (.string X) ∧ w'.cell? ⟨w.heap.size, 1, none⟩ = some (.string Y)) _ := ⟨keep_cell hb22' hx0a, keep_cell hb22' hx0b⟩
        refine hK.out (fun w' : World => w'.cell? ⟨w.heap.size, 0, none⟩ = some (.string X) ∧ w'.cell? ⟨w.heap.size, 1, none⟩ = some (.string Y)) _ _ (fun _ h => h) hH2 ?_
        clear hK K
        try dsimp only [Act.put]
        refine wpAnyH_take (i := 6) (oi := ?oi405) (v := ?vv405) ?hi405 ?hn405 ?hf405 ?hr405 ?hq405 (Or.inl ⟨?hg405, ?hy405⟩) hH2 ?rest405
        case hi405 => (simp only [List.getElem?_toArray, List.getElem?_cons_succ, List.getElem?_cons_zero]; rfl)
        case hn405 => kernel_rfl
        case hf405 => kernel_rfl
        case hr405 => kernel_rfl
        case hg405 => rfl
        case hy405 => (intro w hSw; (try dsimp only at hSw); go_simp; first | done | with_reducible rfl)
        case hq405 => exact fun _ _ _ h => h
        try dsimp only [Act.put]
        refine wpAnyH_take (i := 7) (oi := ?oi406) (v := ?vv406) ?hi406 ?hn406 ?hf406 ?hr406 ?hq406 (Or.inl ⟨?hg406, ?hy406⟩) hH2 ?rest406
        case hi406 => (simp only [List.getElem?_toArray, List.getElem?_cons_succ, List.getElem?_cons_zero]; rfl)
        case hn406 => kernel_rfl
        case hf406 => kernel_rfl
        case hr406 => kernel_rfl
        case hg406 => rfl
        case hy406 => (intro w hSw; (try dsimp only at hSw); go_simp; first | done | with_reducible rfl)
        case hq406 => exact fun _ _ _ h => h
        try dsimp only [Act.put]
        refine wpAnyH_done (by kernel_rfl) ?_ _
        simp only [List.setIfInBounds_toArray, List.set_cons_zero, List.set_cons_succ]
        have hm1 := hn1.keep hb22
        have hbw22 := nx hbwe hb22'
        replace hx0 := heap_keep hb22' hx0
        replace hx1 := heap_keep hb22' hx1
        replace hx2 := heap_keep hb22' hx2
        clear hbwe hn1 hb21 hb22 hb21' hb22' hz0
        clear hx0a hx0b hx0c hx0f hx0g
        obtain ⟨hx0a, hx0b, hx0c⟩ := two_facts hx0
        obtain ⟨hx0f, hx0g⟩ := two_frozen hx0
        clear hx1a hx1b hx1c hx1f hx1g
        obtain ⟨hx1a, hx1b, hx1c⟩ := two_facts hx1
        obtain ⟨hx1f, hx1g⟩ := two_frozen hx1
        clear hx2a hx2b hx2c hx2f hx2g
        obtain ⟨hx2a, hx2b, hx2c⟩ := two_facts hx2
        obtain ⟨hx2f, hx2g⟩ := two_frozen hx2
        obtain ⟨bl1, br1, hn1, ml1, mr1⟩ := hm1
        obtain ⟨bl2, br2, hn2', ml2, mr2⟩ := hn2
        have hn2 := hn2'
        clear hn2'
        have u1 := two_left hn1
        have u2 := two_right hn1
        have u3 := two_left hn2
        have u4 := two_right hn2
        have v1 := lt_of_block hn1
        have v2 := lt_of_block hn2
        go_wp2_with fail
        generalize hXA : xa.str = XA at *
        generalize hXB : xb.str = XB at *
        generalize hYA : ya.str = YA at *
        generalize hYB : yb.str = YB at *
        clear hXA hXB hYA hYB
        refine wp_region_floatP 10 11 #[true, true, true, true, true, true, true, true, true, true, false, false, false] _ (.cells #[.string ⟨#[]⟩, .string ⟨#[]⟩] 25 (0, 0)) (by kernel_rfl) (by kernel_rfl) rfl (fun _ => rfl) (fun _ _ => rfl) ?_
        simp only [List.take_succ_cons, List.take_zero, List.drop_succ_cons, List.drop_zero, Nat.reduceSub]
        repeat (
          refine wpQuietR_step (fun K hK => ?_)
          go_simp
          first
            | (refine hK _ ?_; clear hK K)
            | (refine ⟨_, fun _ _ => rfl, hK _ ?_⟩; clear hK K)
            | (apply Exists.intro
               refine ⟨fun w' hw' => ?_, hK _ ?_⟩
               · first
                   | (go_at_call 64; first | (with_reducible exact callR (tx_cls (X1 _ _ (nodeC hw' ml1)))) | (with_reducible exact callR (tx_cls (Y1 _ _ (nodeC hw' ml2)))))
                   | (rw [hw'.cell v1 u1]; exact ⟨rfl, rfl⟩)
                   | (rw [hw'.cell v1 u2]; exact ⟨rfl, rfl⟩)
                   | (rw [hw'.cell v2 u3]; exact ⟨rfl, rfl⟩)
                   | (rw [hw'.cell v2 u4]; exact ⟨rfl, rfl⟩)
               clear hK K))
        refine wpQuietR_nil ?_
        repeat (refine wpPure_step (fun K hK => ?_); go_simp; first | (refine hK _ ?_; clear hK K) | (refine ⟨_, fun _ => rfl, hK _ ?_⟩; clear hK K))
        refine wpPure_nil ?_
        intro ga w' hw' hx hg
        dsimp only [ptrV]
        obtain ⟨xa9, xb9, xc9⟩ := two_facts hx
        obtain ⟨xf9, xg9⟩ := two_frozen hx
        refine only_hide (fun K hK => ?_)
        have HK := Lib.hid hK
        clear hK
        go_wp2_with fail
        refine HK.out _ _ ?_
        clear HK K xa9 xb9 xc9 xf9 xg9
        have hB : Below w22.heap.size w22 ((w'.setCell ⟨ga, 0, none⟩ (.string XA)).setCell ⟨ga, 1, none⟩ (.string YA)) := (Below.setCell hw' hg _).setCell hg _
        have hne1 : ¬ ga = w.heap.size + 1 := by have h1 := hx1c; have h2 : w22.heap.size ≤ ga := hg; omega
        have hnf1 : ¬ ga = w.heap.size + 1 + 1 := by have h1 := hx2c; have h2 : w22.heap.size ≤ ga := hg; omega
        have hy1 := set_two (.string XA) (.string YA) hx
        have hbwk1 := nx hbw22 hB
        replace hx0 := heap_keep hB hx0
        replace hx1 := heap_keep hB hx1
        replace hx2 := heap_keep hB hx2
        replace ml1 := NodeAt.keep hB ml1
        replace mr1 := NodeAt.keep hB mr1
        replace ml2 := NodeAt.keep hB ml2
        replace mr2 := NodeAt.keep hB mr2
        replace hn1 := (hB.block _ v1).trans hn1
        replace hn2 := (hB.block _ v2).trans hn2
        clear v1 v2 u1 u2 u3 u4 hbw22 hB
        generalize ((w'.setCell ⟨ga, 0, none⟩ (.string XA)).setCell ⟨ga, 1, none⟩ (.string YA)) = w23 at *
        clear hw' hx hg w'
        have u1 := two_left hn1
        have u2 := two_right hn1
        have u3 := two_left hn2
        have u4 := two_right hn2
        have v1 := lt_of_block hn1
        have v2 := lt_of_block hn2
        clear hx0a hx0b hx0c hx0f hx0g
        obtain ⟨hx0a, hx0b, hx0c⟩ := two_facts hx0
        obtain ⟨hx0f, hx0g⟩ := two_frozen hx0
        clear hx1a hx1b hx1c hx1f hx1g
        obtain ⟨hx1a, hx1b, hx1c⟩ := two_facts hx1
        obtain ⟨hx1f, hx1g⟩ := two_frozen hx1
        clear hx2a hx2b hx2c hx2f hx2g
        obtain ⟨hx2a, hx2b, hx2c⟩ := two_facts hx2
        obtain ⟨hx2f, hx2g⟩ := two_frozen hx2
        obtain ⟨hy1a, hy1b, hy1c⟩ := two_facts hy1
        obtain ⟨hy1f, hy1g⟩ := two_frozen hy1
        go_wp2_with fail
        refine wp_region_floatP 10 11 #[true, true, true, true, true, true, true, true, true, true, false, false, false] _ (.cells #[.string ⟨#[]⟩, .string ⟨#[]⟩] 25 (0, 0)) (by kernel_rfl) (by kernel_rfl) rfl (fun _ => rfl) (fun _ _ => rfl) ?_
        simp only [List.take_succ_cons, List.take_zero, List.drop_succ_cons, List.drop_zero, Nat.reduceSub]
        repeat (
          refine wpQuietR_step (fun K hK => ?_)
          go_simp
          first
            | (refine hK _ ?_; clear hK K)
            | (refine ⟨_, fun _ _ => rfl, hK _ ?_⟩; clear hK K)
            | (apply Exists.intro
               refine ⟨fun w' hw' => ?_, hK _ ?_⟩
               · first
                   | (go_at_call 64; first | (with_reducible exact callR (tx_cls (X2 _ _ (nodeC hw' mr1)))) | (with_reducible exact callR (tx_cls (Y2 _ _ (nodeC hw' mr2)))))
                   | (rw [hw'.cell v1 u1]; exact ⟨rfl, rfl⟩)
                   | (rw [hw'.cell v1 u2]; exact ⟨rfl, rfl⟩)
                   | (rw [hw'.cell v2 u3]; exact ⟨rfl, rfl⟩)
                   | (rw [hw'.cell v2 u4]; exact ⟨rfl, rfl⟩)
               clear hK K))
        refine wpQuietR_nil ?_
        repeat (refine wpPure_step (fun K hK => ?_); go_simp; first | (refine hK _ ?_; clear hK K) | (refine ⟨_, fun _ => rfl, hK _ ?_⟩; clear hK K))
        refine wpPure_nil ?_
        intro gb w' hw' hx hg
        dsimp only [ptrV]
        obtain ⟨xa9, xb9, xc9⟩ := two_facts hx
        obtain ⟨xf9, xg9⟩ := two_frozen hx
        refine only_hide (fun K hK => ?_)
        have HK := Lib.hid hK
        clear hK
        go_wp2_with fail
        refine HK.out _ _ ?_
        clear HK K xa9 xb9 xc9 xf9 xg9
        have hB : Below w23.heap.size w23 ((w'.setCell ⟨gb, 0, none⟩ (.string XB)).setCell ⟨gb, 1, none⟩ (.string YB)) := (Below.setCell hw' hg _).setCell hg _
        have hne2 : ¬ gb = w.heap.size + 1 := by have h1 := hx1c; have h2 : w23.heap.size ≤ gb := hg; omega
        have hnf2 : ¬ gb = w.heap.size + 1 + 1 := by have h1 := hx2c; have h2 : w23.heap.size ≤ gb := hg; omega
        have hy2 := set_two (.string XB) (.string YB) hx
        have hbwk2 := nx hbwk1 hB
        replace hx0 := heap_keep hB hx0
        replace hx1 := heap_keep hB hx1
        replace hx2 := heap_keep hB hx2
        replace hy1 := heap_keep hB hy1
        replace ml1 := NodeAt.keep hB ml1
        replace mr1 := NodeAt.keep hB mr1
        replace ml2 := NodeAt.keep hB ml2
        replace mr2 := NodeAt.keep hB mr2
        replace hn1 := (hB.block _ v1).trans hn1
        replace hn2 := (hB.block _ v2).trans hn2
        clear v1 v2 u1 u2 u3 u4 hbwk1 hB
        generalize ((w'.setCell ⟨gb, 0, none⟩ (.string XB)).setCell ⟨gb, 1, none⟩ (.string YB)) = w24 at *
        clear hw' hx hg w'
        have u1 := two_left hn1
        have u2 := two_right hn1
        have u3 := two_left hn2
        have u4 := two_right hn2
        have v1 := lt_of_block hn1
        have v2 := lt_of_block hn2
        clear hx0a hx0b hx0c hx0f hx0g
        obtain ⟨hx0a, hx0b, hx0c⟩ := two_facts hx0
        obtain ⟨hx0f, hx0g⟩ := two_frozen hx0
        clear hx1a hx1b hx1c hx1f hx1g
        obtain ⟨hx1a, hx1b, hx1c⟩ := two_facts hx1
        obtain ⟨hx1f, hx1g⟩ := two_frozen hx1
        clear hx2a hx2b hx2c hx2f hx2g
        obtain ⟨hx2a, hx2b, hx2c⟩ := two_facts hx2
        obtain ⟨hx2f, hx2g⟩ := two_frozen hx2
        clear hy1a hy1b hy1c hy1f hy1g
        obtain ⟨hy1a, hy1b, hy1c⟩ := two_facts hy1
        obtain ⟨hy1f, hy1g⟩ := two_frozen hy1
        obtain ⟨hy2a, hy2b, hy2c⟩ := two_facts hy2
        obtain ⟨hy2f, hy2g⟩ := two_frozen hy2
        go_wp2_with fail
        refine (G' _).mono ?_; rintro e w25 ⟨rfl, hb25⟩
        have hbw25 := nx hbwk2 hb25
        replace hx0 := heap_keep hb25 hx0
        replace hx1 := heap_keep hb25 hx1
        replace hx2 := heap_keep hb25 hx2
        replace hy1 := heap_keep hb25 hy1
        replace hy2 := heap_keep hb25 hy2
        clear hx0a hx0b hx0c hx0f hx0g
        obtain ⟨hx0a, hx0b, hx0c⟩ := two_facts hx0
        obtain ⟨hx0f, hx0g⟩ := two_frozen hx0
        clear hx1a hx1b hx1c hx1f hx1g
        obtain ⟨hx1a, hx1b, hx1c⟩ := two_facts hx1
        obtain ⟨hx1f, hx1g⟩ := two_frozen hx1
        clear hx2a hx2b hx2c hx2f hx2g
        obtain ⟨hx2a, hx2b, hx2c⟩ := two_facts hx2
        obtain ⟨hx2f, hx2g⟩ := two_frozen hx2
        clear hy1a hy1b hy1c hy1f hy1g
        obtain ⟨hy1a, hy1b, hy1c⟩ := two_facts hy1
        obtain ⟨hy1f, hy1g⟩ := two_frozen hy1
        clear hy2a hy2b hy2c hy2f hy2g
        obtain ⟨hy2a, hy2b, hy2c⟩ := two_facts hy2
        obtain ⟨hy2f, hy2g⟩ := two_frozen hy2
        clear hb25 hbwk2
        go_wp2_with fail
        have hr1 := set_two (.string ⟨#[]⟩) (.string ⟨#[]⟩) hx1
        have hr2 := (Below.heap_setCell (w25.setCell ⟨w.heap.size + 1, 0, none⟩ (.string ⟨#[]⟩)) ⟨w.heap.size + 1, 1, none⟩ (.string ⟨#[]⟩) (w.heap.size + 1 + 1) (by show ¬ w.heap.size + 1 + 1 = w.heap.size + 1; omega)).trans ((Below.heap_setCell w25 ⟨w.heap.size + 1, 0, none⟩ (.string ⟨#[]⟩) (w.heap.size + 1 + 1) (by show ¬ w.heap.size + 1 + 1 = w.heap.size + 1; omega)).trans hx2)
        have hr3 := set_two (.string ⟨#[]⟩) (.string ⟨#[]⟩) hr2
        have hr4 := (Below.heap_setCell (((w25.setCell ⟨w.heap.size + 1, 0, none⟩ (.string ⟨#[]⟩)).setCell ⟨w.heap.size + 1, 1, none⟩ (.string ⟨#[]⟩)).setCell ⟨w.heap.size + 1 + 1, 0, none⟩ (.string ⟨#[]⟩)) ⟨w.heap.size + 1 + 1, 1, none⟩ (.string ⟨#[]⟩) (w.heap.size + 1) (by show ¬ w.heap.size + 1 = w.heap.size + 1 + 1; omega)).trans ((Below.heap_setCell ((w25.setCell ⟨w.heap.size + 1, 0, none⟩ (.string ⟨#[]⟩)).setCell ⟨w.heap.size + 1, 1, none⟩ (.string ⟨#[]⟩)) ⟨w.heap.size + 1 + 1, 0, none⟩ (.string ⟨#[]⟩) (w.heap.size + 1) (by show ¬ w.heap.size + 1 = w.heap.size + 1 + 1; omega)).trans hr1)
        obtain ⟨q1, q2⟩ := two_cells hr4
        obtain ⟨q3, q4⟩ := two_cells hr3
        refine bodyPost_ret (v := .tuple #[.agg #[.string ⟨#[]⟩, .string ⟨#[]⟩], .agg #[.string ⟨#[]⟩, .string ⟨#[]⟩], .bool false]) (by simp [q1, q2, q3, q4, results, Try.results30, go_sem]) rfl ⟨rfl, ?_⟩
        exact (((hbw25.setCell (p := ⟨w.heap.size + 1, 0, none⟩) (by show w.heap.size ≤ w.heap.size + 1; omega) _).setCell (p := ⟨w.heap.size + 1, 1, none⟩) (by show w.heap.size ≤ w.heap.size + 1; omega) _).setCell (p := ⟨w.heap.size + 1 + 1, 0, none⟩) (by show w.heap.size ≤ w.heap.size + 1 + 1; omega) _).setCell (p := ⟨w.heap.size + 1 + 1, 1, none⟩) (by show w.heap.size ≤ w.heap.size + 1 + 1; omega) _
end Go.Proofs.Ytkpganpojdboeaa

/-! WSplitHalves -/
namespace Go.Proofs.Ytkpganpojdboeaa
open Go.RowKit

set_option maxRecDepth 100000 in
set_option maxHeartbeats 1000000 in
theorem fnExactSplitHalves_walk (a0 : ByteArray) (ha0 : a0.size ≤ maxLen) (b0 : ByteArray) (hb0' : b0.size ≤ maxLen) (w : World) :
    Calls Try.prog 8 #[.agg #[.string a0, .string b0]] w fun e w' => e = .returned (.bool true) ∧ Below w.heap.size w w' := by
  unfold maxLen at ha0 hb0'
  have hsz0 := fun w => szPair_any a0 b0 w (by omega) (by omega) 1048576 (by omega) (by omega)
  by_cases hz0 : (a0.size : Int) + b0.size ≤ 1048576
  rotate_left
  · simp only [if_neg hz0] at hsz0
    go_enter Try.func8, Try.ntmps8
    go_wp2_with fail
    have hb0 : Below w.heap.size w (w.alloc (.cells #[.string a0, .string b0] 23 (0, 0))) := nxAlloc (Below.refl _ _) _
    have hx0 := heap_alloc_at w (.cells #[.string a0, .string b0] 23 (0, 0))
    generalize (w.alloc (.cells #[.string a0, .string b0] 23 (0, 0))) = w0 at *
    obtain ⟨hx0a, hx0b, hx0c⟩ := two_facts hx0
    obtain ⟨hx0f, hx0g⟩ := two_frozen hx0
    refine (hsz0 _).mono ?_; rintro e w1 ⟨rfl, hb1⟩
    have hbw1 := nx hb0 hb1
    replace hx0 := heap_keep hb1 hx0
    clear hx0a hx0b hx0c hx0f hx0g
    obtain ⟨hx0a, hx0b, hx0c⟩ := two_facts hx0
    obtain ⟨hx0f, hx0g⟩ := two_frozen hx0
    clear hb1 hb0
    go_wp2_with fail
    go_ret
    exact ⟨rfl, hbw1⟩
  simp only [if_pos hz0] at hsz0
  have hS := fun w => specSplitHalves_any a0 b0 w (by omega) (by omega)
  have hI := fun w => implSplitHalves_any a0 b0 w (by omega) (by omega)
  have hS' : ∀ w, Calls Try.prog 29 #[.agg #[.string a0, .string b0]] w (Gives (ansPP ((pairOf a0 b0).bind fun p => splP (red p))) w) := hS
  have hI' : ∀ w, Calls Try.prog 30 #[.agg #[.string a0, .string b0]] w (Gives (ansPP ((pairOf a0 b0).bind fun p => splP (red p))) w) := hI
  clear hS hI
  generalize ((pairOf a0 b0).bind fun p => splP (red p)) = o at hS' hI'
  unfold ansPP at hS' hI'
  generalize pS1 (o.map Prod.fst) = A at hS' hI'
  generalize pS2 (o.map Prod.fst) = B at hS' hI'
  generalize pS1 (o.map Prod.snd) = C at hS' hI'
  generalize pS2 (o.map Prod.snd) = D at hS' hI'
  generalize o.isSome = ok at hS' hI'
  clear o
  go_enter Try.func8, Try.ntmps8
  go_wp2_with fail
  have hb0 : Below w.heap.size w (w.alloc (.cells #[.string a0, .string b0] 23 (0, 0))) := nxAlloc (Below.refl _ _) _
  have hx0 := heap_alloc_at w (.cells #[.string a0, .string b0] 23 (0, 0))
  generalize (w.alloc (.cells #[.string a0, .string b0] 23 (0, 0))) = w0 at *
  obtain ⟨hx0a, hx0b, hx0c⟩ := two_facts hx0
  obtain ⟨hx0f, hx0g⟩ := two_frozen hx0
  refine (hsz0 _).mono ?_; rintro e w1 ⟨rfl, hb1⟩
  have hbw1 := nx hb0 hb1
  replace hx0 := heap_keep hb1 hx0
  clear hx0a hx0b hx0c hx0f hx0g
  obtain ⟨hx0a, hx0b, hx0c⟩ := two_facts hx0
  obtain ⟨hx0f, hx0g⟩ := two_frozen hx0
  clear hb1 hb0
  go_wp2_with fail
  refine (toPair_any a0 b0 _).mono ?_; rintro e w2 ⟨rfl, hb2⟩
  have hbw2 := nx hbw1 hb2
  replace hx0 := heap_keep hb2 hx0
  clear hx0a hx0b hx0c hx0f hx0g
  obtain ⟨hx0a, hx0b, hx0c⟩ := two_facts hx0
  obtain ⟨hx0f, hx0g⟩ := two_frozen hx0
  clear hb2 hbw1
  go_wp2_with fail
  refine (hS' _).mono ?_; rintro e w3 ⟨rfl, hb3⟩
  have hbw3 := nx hbw2 hb3
  replace hx0 := heap_keep hb3 hx0
  clear hx0a hx0b hx0c hx0f hx0g
  obtain ⟨hx0a, hx0b, hx0c⟩ := two_facts hx0
  obtain ⟨hx0f, hx0g⟩ := two_frozen hx0
  clear hb3 hbw2
  go_wp2_with fail
  have hbw4 := nxAlloc (nxAlloc hbw3 (.cells #[.string A, .string B] 25 (0, 0))) (.cells #[.string C, .string D] 25 (0, 0))
  replace hx0 := heap_keep (nxAlloc (nxAlloc (Below.refl _ _) (.cells #[.string A, .string B] 25 (0, 0))) (.cells #[.string C, .string D] 25 (0, 0))) hx0
  have hy4 := heap_keep (nxAlloc (Below.refl _ _) (.cells #[.string C, .string D] 25 (0, 0))) (heap_alloc_at w3 (.cells #[.string A, .string B] 25 (0, 0)))
  have hz4 := heap_alloc_at (w3.alloc (.cells #[.string A, .string B] 25 (0, 0))) (.cells #[.string C, .string D] 25 (0, 0))
  have es4 : (w3.alloc (.cells #[.string A, .string B] 25 (0, 0))).heap.size = w3.heap.size + 1 := by simp
  rw [es4] at hz4
  clear es4
  generalize (w3.alloc (.cells #[.string A, .string B] 25 (0, 0))).alloc (.cells #[.string C, .string D] 25 (0, 0)) = w4 at *
  clear hbw3
  clear hx0a hx0b hx0c hx0f hx0g
  obtain ⟨hx0a, hx0b, hx0c⟩ := two_facts hx0
  obtain ⟨hx0f, hx0g⟩ := two_frozen hx0
  obtain ⟨hy4a, hy4b, hy4c⟩ := two_facts hy4
  obtain ⟨hy4f, hy4g⟩ := two_frozen hy4
  obtain ⟨hz4a, hz4b, hz4c⟩ := two_facts hz4
  obtain ⟨hz4f, hz4g⟩ := two_frozen hz4
  go_wp2_with fail
  refine (toPair_any a0 b0 _).mono ?_; rintro e w5 ⟨rfl, hb5⟩
  have hbw5 := nx hbw4 hb5
  replace hx0 := heap_keep hb5 hx0
  replace hy4 := heap_keep hb5 hy4
  replace hz4 := heap_keep hb5 hz4
  clear hx0a hx0b hx0c hx0f hx0g
  obtain ⟨hx0a, hx0b, hx0c⟩ := two_facts hx0
  obtain ⟨hx0f, hx0g⟩ := two_frozen hx0
  clear hy4a hy4b hy4c hy4f hy4g
  obtain ⟨hy4a, hy4b, hy4c⟩ := two_facts hy4
  obtain ⟨hy4f, hy4g⟩ := two_frozen hy4
  clear hz4a hz4b hz4c hz4f hz4g
  obtain ⟨hz4a, hz4b, hz4c⟩ := two_facts hz4
  obtain ⟨hz4f, hz4g⟩ := two_frozen hz4
  clear hb5 hbw4
  go_wp2_with fail
  refine (hI' _).mono ?_; rintro e w6 ⟨rfl, hb6⟩
  have hbw6 := nx hbw5 hb6
  replace hx0 := heap_keep hb6 hx0
  replace hy4 := heap_keep hb6 hy4
  replace hz4 := heap_keep hb6 hz4
  clear hx0a hx0b hx0c hx0f hx0g
  obtain ⟨hx0a, hx0b, hx0c⟩ := two_facts hx0
  obtain ⟨hx0f, hx0g⟩ := two_frozen hx0
  clear hy4a hy4b hy4c hy4f hy4g
  obtain ⟨hy4a, hy4b, hy4c⟩ := two_facts hy4
  obtain ⟨hy4f, hy4g⟩ := two_frozen hy4
  clear hz4a hz4b hz4c hz4f hz4g
  obtain ⟨hz4a, hz4b, hz4c⟩ := two_facts hz4
  obtain ⟨hz4f, hz4g⟩ := two_frozen hz4
  clear hb6 hbw5
  go_wp2_with fail
  have hbw7 := nxAlloc (nxAlloc hbw6 (.cells #[.string A, .string B] 25 (0, 0))) (.cells #[.string C, .string D] 25 (0, 0))
  replace hx0 := heap_keep (nxAlloc (nxAlloc (Below.refl _ _) (.cells #[.string A, .string B] 25 (0, 0))) (.cells #[.string C, .string D] 25 (0, 0))) hx0
  replace hy4 := heap_keep (nxAlloc (nxAlloc (Below.refl _ _) (.cells #[.string A, .string B] 25 (0, 0))) (.cells #[.string C, .string D] 25 (0, 0))) hy4
  replace hz4 := heap_keep (nxAlloc (nxAlloc (Below.refl _ _) (.cells #[.string A, .string B] 25 (0, 0))) (.cells #[.string C, .string D] 25 (0, 0))) hz4
  have hy7 := heap_keep (nxAlloc (Below.refl _ _) (.cells #[.string C, .string D] 25 (0, 0))) (heap_alloc_at w6 (.cells #[.string A, .string B] 25 (0, 0)))
  have hz7 := heap_alloc_at (w6.alloc (.cells #[.string A, .string B] 25 (0, 0))) (.cells #[.string C, .string D] 25 (0, 0))
  have es7 : (w6.alloc (.cells #[.string A, .string B] 25 (0, 0))).heap.size = w6.heap.size + 1 := by simp
  rw [es7] at hz7
  clear es7
  generalize (w6.alloc (.cells #[.string A, .string B] 25 (0, 0))).alloc (.cells #[.string C, .string D] 25 (0, 0)) = w7 at *
  clear hbw6
  clear hx0a hx0b hx0c hx0f hx0g
  obtain ⟨hx0a, hx0b, hx0c⟩ := two_facts hx0
  obtain ⟨hx0f, hx0g⟩ := two_frozen hx0
  clear hy4a hy4b hy4c hy4f hy4g
  obtain ⟨hy4a, hy4b, hy4c⟩ := two_facts hy4
  obtain ⟨hy4f, hy4g⟩ := two_frozen hy4
  clear hz4a hz4b hz4c hz4f hz4g
  obtain ⟨hz4a, hz4b, hz4c⟩ := two_facts hz4
  obtain ⟨hz4f, hz4g⟩ := two_frozen hz4
  obtain ⟨hy7a, hy7b, hy7c⟩ := two_facts hy7
  obtain ⟨hy7f, hy7g⟩ := two_frozen hy7
  obtain ⟨hz7a, hz7b, hz7c⟩ := two_facts hz7
  obtain ⟨hz7f, hz7g⟩ := two_frozen hz7
  go_wp2_with fail
  refine (eqPair_same A B _).mono ?_; rintro e w8 ⟨rfl, hb8⟩
  have hbw8 := nx hbw7 hb8
  replace hx0 := heap_keep hb8 hx0
  replace hy4 := heap_keep hb8 hy4
  replace hz4 := heap_keep hb8 hz4
  replace hy7 := heap_keep hb8 hy7
  replace hz7 := heap_keep hb8 hz7
  clear hx0a hx0b hx0c hx0f hx0g
  obtain ⟨hx0a, hx0b, hx0c⟩ := two_facts hx0
  obtain ⟨hx0f, hx0g⟩ := two_frozen hx0
  clear hy4a hy4b hy4c hy4f hy4g
  obtain ⟨hy4a, hy4b, hy4c⟩ := two_facts hy4
  obtain ⟨hy4f, hy4g⟩ := two_frozen hy4
  clear hz4a hz4b hz4c hz4f hz4g
  obtain ⟨hz4a, hz4b, hz4c⟩ := two_facts hz4
  obtain ⟨hz4f, hz4g⟩ := two_frozen hz4
  clear hy7a hy7b hy7c hy7f hy7g
  obtain ⟨hy7a, hy7b, hy7c⟩ := two_facts hy7
  obtain ⟨hy7f, hy7g⟩ := two_frozen hy7
  clear hz7a hz7b hz7c hz7f hz7g
  obtain ⟨hz7a, hz7b, hz7c⟩ := two_facts hz7
  obtain ⟨hz7f, hz7g⟩ := two_frozen hz7
  clear hb8 hbw7
  go_wp2_with fail
  refine (eqPair_same C D _).mono ?_; rintro e w9 ⟨rfl, hb9⟩
  have hbw9 := nx hbw8 hb9
  replace hx0 := heap_keep hb9 hx0
  replace hy4 := heap_keep hb9 hy4
  replace hz4 := heap_keep hb9 hz4
  replace hy7 := heap_keep hb9 hy7
  replace hz7 := heap_keep hb9 hz7
  clear hx0a hx0b hx0c hx0f hx0g
  obtain ⟨hx0a, hx0b, hx0c⟩ := two_facts hx0
  obtain ⟨hx0f, hx0g⟩ := two_frozen hx0
  clear hy4a hy4b hy4c hy4f hy4g
  obtain ⟨hy4a, hy4b, hy4c⟩ := two_facts hy4
  obtain ⟨hy4f, hy4g⟩ := two_frozen hy4
  clear hz4a hz4b hz4c hz4f hz4g
  obtain ⟨hz4a, hz4b, hz4c⟩ := two_facts hz4
  obtain ⟨hz4f, hz4g⟩ := two_frozen hz4
  clear hy7a hy7b hy7c hy7f hy7g
  obtain ⟨hy7a, hy7b, hy7c⟩ := two_facts hy7
  obtain ⟨hy7f, hy7g⟩ := two_frozen hy7
  clear hz7a hz7b hz7c hz7f hz7g
  obtain ⟨hz7a, hz7b, hz7c⟩ := two_facts hz7
  obtain ⟨hz7f, hz7g⟩ := two_frozen hz7
  clear hb9 hbw8
  go_wp2_with fail
  go_ret
  exact ⟨rfl, hbw9⟩
end Go.Proofs.Ytkpganpojdboeaa

/-! LFnExactSplitHalves -/
namespace Go.Proofs.Ytkpganpojdboeaa.fnExactSplitHalves
open Go.ChangeShapes Go.WideShapes Go.ChangeAt Go.RowKit
open Go.ChangeMaps (open_string shut_string)
open Go.Joins (open_agg2 shut_agg2)
set_option linter.unusedVariables false

theorem cellsPair : Try.prog.cellsOf 23 = 2 := by kernel_rfl
theorem own : ownKnob Try.prog.godebug = none := by kernel_rfl
theorem laidOut : laidOutB Try.prog = true := by kernel_rfl

set_option maxRecDepth 100000 in
theorem lifted (os : Os) (started : os.Started) (H : Type) (enc : TypeId × Value → H) :
    ReturnsInHanded {} Try.checked os 8 .any (Rows.fnExactSplitHalvesSpec.pre6 enc Try.prog Try.f8 Rows.fnExactSplitHalvesRow.domain false) (Rows.fnExactSplitHalvesSpec.post enc Try.prog Try.f8 false true false false) := by
  refine returnsInHanded_of_change (C := Try.checked) own started (by kernel_rfl) Try.func8
    (ChangeSpec.witness6 (enc := enc) (C := Try.checked) false ⟨#[], #[.agg #[.string ByteArray.empty, .string ByteArray.empty]], []⟩ 8 (by kernel_rfl) (by kernel_rfl) (by kernel_rfl) (by kernel_rfl)) ?_
  intro W base args ds gs before hval0 hW hcnd _
  have hval : ∀ (j : Nat) t v, Try.f8.params[j]? = some t → args[j]? = some v → Value.okWide Try.prog W .any base t v := hval0
  have hW' := hW
  obtain ⟨p, q, hA0, hV, rfl, hfz, hnd⟩ := hW
  have hA : DataW.TrodAll enc Try.prog W 0 (fun _ => true) true Try.f8.params.toList args.toList ds p := hA0
  rw [Try.params8] at hA hval
  obtain ⟨v0, vs0, d0, ds0, p0, q0, hargs, rfl, rfl, h0, r0⟩ := trodAll_cons hA
  obtain ⟨rfl, rfl, rfl⟩ := trodAll_nil r0
  obtain rfl : args = #[v0] := by cases args; simp_all
  obtain ⟨rfl, rfl⟩ := trodVars_none hV
  obtain ⟨c0a, c0b, y0a, y0b, m0, rfl, rfl, rfl, hy0a, hy0b⟩ := open_agg2 Try.underlying23 (by kernel_rfl) cellsPair (hval 0 23 v0 rfl rfl) h0
  obtain ⟨a0a, e0a, rfl, w0a⟩ := DataW.trod_string Try.underlying9 hy0a
  obtain ⟨a0b, e0b, rfl, w0b⟩ := DataW.trod_string Try.underlying9 hy0b
  simp at e0a e0b
  subst e0a e0b
  clear hA0 hval0
  simp only [List.append_nil] at hW'
  refine (fnExactSplitHalves_walk a0a w0a a0b w0b W).mono fun e W' ⟨he, bel⟩ => ?_
  subst he
  exact ⟨_, rfl, _, _, _, [], _, [], hW', trodAll_mk1 (shut_bool Try.underlying4 _), (trodAll_cons_mk (shut_agg2 (y0 := (.lit (.string a0a.data.toList), [])) (y1 := (.lit (.string a0b.data.toList), [])) Try.underlying23 (by kernel_rfl) cellsPair (Go.Deep.shut_string_cell Try.underlying9 w0a) (Go.Deep.shut_string_cell Try.underlying9 w0b)) trodAll_mk0), rfl, bel.frame _, fun h => by cases h⟩

theorem over : Rows.fnExactSplitHalvesRow.holds Try.pinned (OpenSpec.ofChange Rows.fnExactSplitHalvesSpec) :=
  OpenClaim.holds_of_wide 8 Try.f8 rfl rfl rfl rfl rfl rfl rfl ⟨rfl, rfl, rfl, rfl, rfl⟩ rfl rfl rfl rfl rfl (by kernel_rfl) Try.func8 (by kernel_rfl)
    (of_decide_eq_true (by kernel_rfl)) (by unfold Func.isWrapper; first | (rw [if_pos (by decide +kernel)]; kernel_rfl) | (rw [if_neg (by decide +kernel)]; exact ⟨rfl, rfl⟩))
    (fun os started H enc _ => lifted os started H enc)

theorem proved : Rows.FnExactSplitHalvesSaid := over
#print axioms proved
end Go.Proofs.Ytkpganpojdboeaa.fnExactSplitHalves
