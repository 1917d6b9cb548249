/- Texts that the claim needs, part 5. -/
import Derived.Test.YtjmbkieocmhmiaaGreatMgEndsAddUp3
import Derived.Deep.AppendLies
/-! RegF -/
namespace Go.Proofs.YtjmbkieocmhmiaaGreat
open Go.RowKit

section
variable {P : Program} {ops : Array Oper} {md : Region.Mode} {w0 : World}

/-- In every world that leaves what was there, o yields v and leaves what is there. -/
def yR (P : Program) (ops : Array Oper) (w0 : World) (o : Oper) (v : Value) (a : Act) : Prop := ∀ w1, Cls w0 w1 → YieldsIn P ops (Cls w1) o v a

/-- The operations in the text's order. -/
def wpQuietR (P : Program) (ops : Array Oper) (w0 : World) (Q : Act → Prop) : List Oper → Act → Prop
  | [], a => Q a
  | o :: rest, a => ∃ v, yR P ops w0 o v a ∧ wpQuietR P ops w0 Q rest (a.put o.dst v)

theorem wpQuietR_nil {Q : Act → Prop} {a : Act} (h : Q a) : wpQuietR P ops w0 Q [] a := h
theorem wpQuietR_step {Q : Act → Prop} {a : Act} {o : Oper} {rest : List Oper}
    (h : ∀ K : Act → Prop, (∀ a, wpQuietR P ops w0 Q rest a → K a) → if Region.wanted o (yielded ops a.tmps) then ∃ v, (∀ w1, Cls w0 w1 → o.quietAt P a (Cls w1) w1 v) ∧ K (a.put o.dst v) else K (a.put o.dst undef)) : wpQuietR P ops w0 Q (o :: rest) a := by
  have := h _ (fun _ h => h)
  unfold wpQuietR
  by_cases hw : Region.wanted o (yielded ops a.tmps) = true
  · rw [if_pos hw] at this
    obtain ⟨v, h1, h2⟩ := this
    refine ⟨v, fun w1 hw1 => .inl ⟨hw, fun w2 hw2 => ?_⟩, h2⟩
    have h3 := h1 w2 (nx hw1 hw2)
    have h4 : ∀ w3, Cls w2 w3 → Cls w1 w3 := fun w3 hw3 => nx hw2 hw3
    unfold Oper.quietAt at *
    generalize (execOp a.eval o).run P w2 = r at *
    cases r with
    | ok n w' =>
      cases n <;> simp only [Oper.quietUpon] at h3 ⊢ <;> try exact h3
      exact ⟨h3.1, h3.2.mono fun _ _ ⟨e1, e2⟩ => ⟨e1, h4 _ e2⟩⟩
    | halt x w' => simp only [Oper.quietUpon] at h3
  · rw [if_neg hw] at this
    exact ⟨undef, fun w1 _ => .inr ⟨by simpa using hw, rfl⟩, this⟩

theorem quiet_wider {C C' : World → Prop} {o : Oper} {a : Act} {w : World} {v : Value} (h : ∀ w, C w → C' w) (hh : o.quietAt P a C w v) : o.quietAt P a C' w v := by
  unfold Oper.quietAt at *
  generalize (execOp a.eval o).run P w = r at *
  cases r with
  | ok n w' =>
    cases n <;> simp only [Oper.quietUpon] at hh ⊢ <;> try exact hh
    exact ⟨hh.1, hh.2.mono fun _ _ ⟨e1, e2⟩ => ⟨e1, h _ e2⟩⟩
  | halt x w' => simp only [Oper.quietUpon] at hh

/-- Operation i comes up. -/
def qR (P : Program) (ops : Array Oper) (w0 : World) (i : Nat) (K : Act → Prop) (a : Act) : Prop :=
  ∃ o v, ops[i]? = some o ∧ yR P ops w0 o v a ∧ K (a.put o.dst v)

/-- What has come up is closed. -/
structure ClInv (md : Region.Mode) (ops : Array Oper) (listed : Array Bool) : Prop where
  size : listed.size = ops.size
  closed : ∀ j oj, ops[j]? = some oj → listed.getD j false = true → ∀ e ∈ oj.after, Region.binds md e = true → listed.getD e.on false = true

theorem ClInv.set {i : Nat} {listed : Array Bool} (inv : ClInv md ops listed) (hi : i ∈ Region.ready md ops listed) : ClInv md ops (listed.setIfInBounds i true) := by
  obtain ⟨_, oi, hoi, hall⟩ := mem_ready.1 hi
  refine ⟨by simp [inv.size], fun j oj hj hl e he hb => ?_⟩
  by_cases hij : i = j
  · subst hij
    have : oj = oi := Option.some.inj (hj.symm.trans hoi)
    subst this
    exact getD_set_true (hall e he hb)
  · rw [getD_set_ne false hij] at hl
    exact getD_set_true (inv.closed j oj hj hl e he hb)

/-- Each of the first m waits for the next ones up to the last of them, and all behind them, number n aside, for that one. -/
def gateB (md : Region.Mode) (ops : Array Oper) (m n : Nat) : Bool :=
  ((List.range m).all fun i => decide (i + 1 = m) || (List.range m).any fun j => decide (i < j) && Region.waitsFor md ops j i) &&
  (List.range ops.size).all fun t => decide (t < m) || decide (t = n) || Region.waitsFor md ops t (m - 1)

theorem gate_waits {m n : Nat} {listed : Array Bool} (hg : gateB md ops m n = true) (inv : ClInv md ops listed) (_hm : m ≤ ops.size) :
    ∀ (d i : Nat), m - i = d → i < m → listed.getD i true = false → ∀ t, m ≤ t → t ≠ n → t ∉ Region.ready md ops listed := by
  simp only [gateB, Bool.and_eq_true] at hg
  obtain ⟨hs, hc⟩ := hg
  intro d
  induction d using Nat.strongRecOn with
  | _ d ih =>
    intro i hd hi hun t ht htn hr
    obtain ⟨_, ot, hot, hall⟩ := mem_ready.1 hr
    have htlt : t < ops.size := (Array.getElem?_eq_some_iff.1 hot).1
    by_cases him : i + 1 = m
    · have h1 := List.all_eq_true.1 hc t (List.mem_range.2 htlt)
      simp only [Bool.or_eq_true, decide_eq_true_eq] at h1
      rcases h1 with (h1 | h1) | h1
      · omega
      · exact htn h1
      · obtain ⟨o', ho', e, he, hb, hon⟩ := Region.waitsFor_spec h1
        obtain rfl : o' = ot := Option.some.inj (ho'.symm.trans hot)
        have h2 := hall e he hb
        rw [hon, show m - 1 = i by omega, getD_both hun] at h2
        cases h2
    · have h1 := List.all_eq_true.1 hs i (List.mem_range.2 hi)
      simp only [Bool.or_eq_true, decide_eq_true_eq, him, false_or] at h1
      obtain ⟨j, hj, hj2⟩ := List.any_eq_true.1 h1
      have hjm := List.mem_range.1 hj
      simp only [Bool.and_eq_true, decide_eq_true_eq] at hj2
      obtain ⟨oj, hoj, e, he, hb, hon⟩ := Region.waitsFor_spec hj2.2
      cases hl : listed.getD j false with
      | true =>
        have h2 := inv.closed j oj hoj hl e he hb
        rw [hon, getD_both hun] at h2
        cases h2
      | false =>
        exact ih (m - j) (by omega) j rfl (by omega) (getD_in (by rw [inv.size]; omega) hl) t ht htn hr

/-- Whatever order is drawn for the first m operations, number n aside. -/
def headF (P : Program) (md : Region.Mode) (ops : Array Oper) (w0 : World) (m n : Nat) (L : Array Bool → Act → Prop) : Nat → Array Bool → Act → Prop
  | 0, listed, a => L listed a
  | f + 1, listed, a => (∃ i ∈ Region.ready md ops listed, i ≠ n) ∧ ∀ i ∈ Region.ready md ops listed, i ≠ n → i < m ∧ qR P ops w0 i (headF P md ops w0 m n L f (listed.setIfInBounds i true)) a

theorem headF_first {m n i : Nat} {oi : Oper} {v : Value} {L : Array Bool → Act → Prop} (hi : ops[i]? = some oi) (hsel : ∀ (j : Nat) (o : Oper) cs b, ops[j]? = some o → o.op ≠ .select cs b)
    (hg : gateB md ops m n = true) (hm : m ≤ ops.size) (hmn : m ≤ n) (hin : i < m)
    (hdone : ∀ listed a, L listed a → ∀ j ∈ Region.ready md ops listed, m ≤ j) :
    ∀ (f : Nat) (listed : Array Bool) (a : Act), ClInv md ops listed →
      (∀ j oj, ops[j]? = some oj → j ≠ i → listed.getD j true = false → (∀ e ∈ oj.after, Region.binds md e = true → e.on ≠ i) → oi.apart ops oj = true) →
      i ∈ Region.ready md ops listed → yR P ops w0 oi v a →
      headF P md ops w0 m n L f (listed.setIfInBounds i true) (a.put oi.dst v) → headF P md ops w0 m n L (f + 1) listed a := by
  intro f
  induction f with
  | zero =>
    intro listed a inv _ hr hy H
    have hun := (mem_ready.1 hr).1
    refine ⟨⟨i, hr, by omega⟩, fun j hj hjn => ?_⟩
    have hjn' : j < m := Nat.lt_of_not_le fun h => gate_waits hg inv hm _ i rfl hin hun j h hjn hj
    refine ⟨hjn', ?_⟩
    by_cases hji : j = i
    · subst hji; exact ⟨oi, v, hi, hy, H⟩
    · have := hdone _ _ H j (ready_mono hj hji)
      omega
  | succ f ih =>
    intro listed a inv hfree hr hy H
    have hun := (mem_ready.1 hr).1
    refine ⟨⟨i, hr, by omega⟩, fun j hj hjn => ?_⟩
    have hjn' : j < m := Nat.lt_of_not_le fun h => gate_waits hg inv hm _ i rfl hin hun j h hjn hj
    refine ⟨hjn', ?_⟩
    by_cases hji : j = i
    · subst hji; exact ⟨oi, v, hi, hy, H⟩
    · obtain ⟨oj, u, hoj, hyj, k⟩ := (H.2 j (ready_mono hj hji) hjn).2
      obtain ⟨hjun, oj', hoj', hall⟩ := mem_ready.1 hj
      obtain rfl : oj' = oj := Option.some.inj (hoj'.symm.trans hoj)
      have hnot : ∀ e ∈ oj'.after, Region.binds md e = true → e.on ≠ i := by
        intro e he hb heq
        have k2 := hall e he hb
        rw [heq, getD_both hun] at k2
        cases k2
      have hap := hfree j oj' hoj hji hjun hnot
      obtain ⟨h1, h2, h3⟩ := Oper.apart_spec hap
      refine ⟨oj', u, hoj, fun w1 hw1 => (hyj w1 hw1).of_same (execOp_put oj' (fun cs b => hsel j oj' cs b hoj) a oi.dst v h1).symm (wanted_put oj' a oi.dst v h1).symm, ?_⟩
      refine ih (listed.setIfInBounds j true) (a.put oj'.dst u) (inv.set hj) ?_ (ready_mono hr (Ne.symm hji))
        (fun w1 hw1 => (hy w1 hw1).of_same (execOp_put oi (fun cs b => hsel i oi cs b hi) a oj'.dst u h3) (wanted_put oi a oj'.dst u h3)) ?_
      · intro k ok hk hki hunk hno
        refine hfree k ok hk hki ?_ hno
        by_cases hjk : j = k
        · subst hjk; exact hjun
        · rw [getD_set_ne true hjk] at hunk; exact hunk
      · rw [Array.setIfInBounds_comm _ _ hji, ← Act.put_comm a v u h2]
        exact k

/-- The first m, from number k on, in the text's order; then it is Z that has come up. -/
def lexF (md : Region.Mode) (ops : Array Oper) (m : Nat) (Z : Array Bool) : Nat → Nat → Array Bool → Bool
  | 0, _, listed => listed == Z && (Region.ready md ops Z).all fun j => decide (m ≤ j)
  | f + 1, k, listed => (Region.ready md ops listed).contains k && Region.free md ops listed k && lexF md ops m Z f (k + 1) (listed.setIfInBounds k true)

theorem lexF_done {m : Nat} {Z : Array Bool} : ∀ {f k : Nat} {listed : Array Bool}, lexF md ops m Z f k listed = true → ∀ j ∈ Region.ready md ops Z, m ≤ j
  | 0, _, _, h => by
    simp only [lexF, Bool.and_eq_true] at h
    exact fun j hj => by simpa using List.all_eq_true.1 h.2 j hj
  | f + 1, _, _, h => by
    simp only [lexF, Bool.and_eq_true] at h
    exact lexF_done h.2

theorem headF_lex {m n : Nat} {Z : Array Bool} {Lq : Act → Prop} (hsel : Region.noSelect ops = true) (hg : gateB md ops m n = true) (hm : m ≤ ops.size) (hmn : m ≤ n) :
    ∀ (l : List Oper) (k : Nat) (listed : Array Bool) (a : Act), (∀ j, j < l.length → l[j]? = ops[k + j]?) → k + l.length = m → ClInv md ops listed →
    lexF md ops m Z l.length k listed = true → wpQuietR P ops w0 Lq l a →
    headF P md ops w0 m n (fun listed' a' => listed' = Z ∧ Lq a') l.length listed a
  | [], k, listed, a, _, hk, _, hB, h => by
    simp only [List.length_nil, lexF, Bool.and_eq_true, beq_iff_eq] at hB
    exact ⟨hB.1, h⟩
  | o :: l, k, listed, a, hl, hk, inv, hB, h => by
    have h0 : ops[k]? = some o := by simpa using (hl 0 (by simp)).symm
    have hdone := lexF_done hB
    simp only [List.length_cons, lexF, Bool.and_eq_true] at hB
    obtain ⟨⟨hr, hf⟩, hB'⟩ := hB
    have hkn : k < m := by simp only [List.length_cons] at hk; omega
    have hr' : k ∈ Region.ready md ops listed := by simpa using hr
    obtain ⟨v, hy, hK⟩ := h
    refine headF_first h0 (Region.noSelect_spec hsel) hg hm hmn hkn (fun listed' a' hL => by rw [hL.1]; exact hdone) l.length listed a inv (Region.free_spec h0 hf) hr' hy ?_
    refine headF_lex hsel hg hm hmn l (k + 1) _ _ (fun j hj => ?_) (by simp only [List.length_cons] at hk; omega) (inv.set hr') hB' hK
    have := hl (j + 1) (by simp; omega)
    simpa [Nat.add_assoc, Nat.add_comm 1 j] using this

theorem wpOp_of_qR {i : Nat} {a : Act} {K : Act → Prop} {K' : Act → World → Prop} {Q' : Exit → Act → World → Prop} {w : World} (hC : Cls w0 w) (h : ∀ a w', Cls w w' → K a → K' a w') (hh : qR P ops w0 i K a) : wpOp P ops Q' i K' a w := by
  obtain ⟨o, v, ho, hy, hk⟩ := hh
  exact wpOp_of_qOp (C := Cls w) (Below.refl _ _) h ((hy w hC).qOp ho hk)

/-- No operation among the first m waits for number n or meets its slot; it waits for none. -/
def looseB (md : Region.Mode) (ops : Array Oper) (m n : Nat) : Bool :=
  (List.range m).all fun i => !Region.waitsFor md ops i n && match ops[n]?, ops[i]? with
    | some o, some oi => o.apart ops oi
    | _, _ => false

theorem looseB_spec {m n i : Nat} {o oi : Oper} (h : looseB md ops m n = true) (hi : i < m) (hn : ops[n]? = some o) (ho : ops[i]? = some oi) : o.apart ops oi = true ∧ ∀ e ∈ oi.after, Region.binds md e = true → e.on ≠ n := by
  have h1 := List.all_eq_true.1 h i (List.mem_range.2 hi)
  rw [hn, ho] at h1
  simp only [Bool.and_eq_true, Bool.not_eq_true'] at h1
  refine ⟨h1.2, fun e he hb heq => ?_⟩
  have h2 := h1.1
  unfold Region.waitsFor at h2
  rw [ho] at h2
  have h3 : (oi.after.any fun e => Region.binds md e && e.on == n) = true := Array.any_eq_true'.2 ⟨e, he, by simp [hb, heq]⟩
  dsimp only at h2
  rw [h3] at h2
  cases h2

def ptrV (g : Nat) : Value := .pointer (some ⟨g, 0, none⟩)

theorem heap_keepF {w w' : World} {g : Nat} {o : Obj} (hb : Cls w w') (h : w.heap[g]? = some o) : w'.heap[g]? = some o :=
  (Below.block hb g (by rcases Nat.lt_or_ge g w.heap.size with h' | h'; exact h'; rw [Array.getElem?_eq_none h'] at h; cases h)).trans h

/-- Once the cell is laid. -/
theorem any_post {m n g : Nat} {L : Array Bool → Act → Prop} {Q' : Exit → Act → World → Prop} {o : Oper} {X : Obj} (hsel : ∀ (j : Nat) (o : Oper) cs b, ops[j]? = some o → o.op ≠ .select cs b)
    (hgt : gateB md ops m n = true) (hm : m ≤ ops.size) (hn : n < ops.size) (hlo : looseB md ops m n = true) (ho : ops[n]? = some o)
    (hL : ∀ listed a w gp, L listed a → Cls w0 w → w.heap[gp]? = some X → w0.heap.size ≤ gp → wpAny P md ops Q' g (listed.setIfInBounds n true) (a.put o.dst (ptrV gp)) w) :
    ∀ (f : Nat) (listed : Array Bool) (a : Act) (w : World) (gp : Nat), listed.size = ops.size → ClInv md ops (listed.setIfInBounds n true) → Cls w0 w → w.heap[gp]? = some X → w0.heap.size ≤ gp →
      headF P md ops w0 m n L f listed a → wpAny P md ops Q' (f + g) (listed.setIfInBounds n true) (a.put o.dst (ptrV gp)) w := by
  intro f
  induction f with
  | zero => intro listed a w gp _ _ hw hx hg h; rw [Nat.zero_add]; exact hL _ _ _ _ h hw hx hg
  | succ f ih =>
    intro listed a w gp hsz inv hw hx hg h
    obtain ⟨⟨i0, hi0, hne⟩, hall⟩ := h
    have hi0n := (hall i0 hi0 hne).1
    have hr0 := ready_mono hi0 hne
    rw [Nat.add_right_comm]
    refine ⟨fun h0 => absurd h0 (List.ne_nil_of_mem hr0), fun i hi => ?_⟩
    obtain ⟨hun, oi, hoi, haft⟩ := mem_ready.1 hi
    have hin : i ≠ n := by
      rintro rfl
      have : (listed.setIfInBounds i true).getD i true = true := by
        rw [Array.getD_eq_getD_getElem?, Array.getElem?_setIfInBounds_self_of_lt (by omega)]; rfl
      rw [this] at hun; cases hun
    have hin' : i < m := Nat.lt_of_not_le fun h => gate_waits hgt inv hm _ i0 rfl hi0n (mem_ready.1 hr0).1 i h hin hi
    obtain ⟨hap, hno⟩ := looseB_spec hlo hin' ho hoi
    have hri : i ∈ Region.ready md ops listed := by
      refine mem_ready.2 ⟨by rw [getD_set_ne true (Ne.symm hin)] at hun; exact hun, oi, hoi, fun e he hb => ?_⟩
      have := haft e he hb
      rwa [getD_set_ne false (Ne.symm (hno e he hb))] at this
    obtain ⟨_, oi', v, hoi', hy, hk⟩ := hall i hri hin
    obtain rfl : oi' = oi := Option.some.inj (hoi'.symm.trans hoi)
    obtain ⟨h1, h2, h3⟩ := Oper.apart_spec hap
    refine wpOp_of_qR (K := fun a' => a' = (a.put o.dst (ptrV gp)).put oi'.dst v) hw (fun a' w' hw' he => ?_)
      ⟨oi', v, hoi, fun w1 hw1 => (hy w1 hw1).of_same (execOp_put oi' (fun cs b => hsel i oi' cs b hoi) a o.dst _ h1) (wanted_put oi' a o.dst _ h1), rfl⟩
    subst he
    rw [Act.put_comm a (ptrV gp) v h2, Array.setIfInBounds_comm _ _ (Ne.symm hin)]
    refine ih _ _ _ _ (by simp [hsz]) ?_ (nx hw hw') (heap_keepF hw' hx) hg hk
    rw [Array.setIfInBounds_comm _ _ hin]
    exact inv.set hi

/-- Before the cell is laid. -/
theorem any_pre {m n g : Nat} {L : Array Bool → Act → Prop} {Q' : Exit → Act → World → Prop} {o : Oper} {X : Obj} (hsel : ∀ (j : Nat) (o : Oper) cs b, ops[j]? = some o → o.op ≠ .select cs b)
    (hgt : gateB md ops m n = true) (hm : m ≤ ops.size) (hn : n < ops.size) (hlo : looseB md ops m n = true) (ho : ops[n]? = some o)
    (hW : ∀ t, Region.wanted o t = true) (hR : ∀ (a : Act) (w : World), (execOp a.eval o).run P w = .ok (.value (ptrV w.heap.size)) (w.alloc X))
    (hD : ∀ listed a w, L listed a → Cls w0 w → wpAny P md ops Q' (g + 1) listed a w)
    (hL : ∀ listed a w gp, L listed a → Cls w0 w → w.heap[gp]? = some X → w0.heap.size ≤ gp → wpAny P md ops Q' g (listed.setIfInBounds n true) (a.put o.dst (ptrV gp)) w) :
    ∀ (f : Nat) (listed : Array Bool) (a : Act) (w : World), ClInv md ops listed → Cls w0 w →
      headF P md ops w0 m n L f listed a → wpAny P md ops Q' (f + (g + 1)) listed a w := by
  intro f
  induction f with
  | zero =>
    intro listed a w inv hw h
    rw [Nat.zero_add]
    exact hD _ _ _ h hw
  | succ f ih =>
    intro listed a w inv hw h
    have h' := h
    obtain ⟨⟨i0, hi0, hne⟩, hall⟩ := h
    rw [Nat.add_right_comm]
    refine ⟨fun h0 => absurd h0 (List.ne_nil_of_mem hi0), fun i hi => ?_⟩
    by_cases hin : i = n
    · subst hin
      unfold wpOp
      simp only [ho, hW, if_true]
      left
      unfold Oper.wp
      rw [hR]
      simp only [Oper.upon]
      rw [show f + (g + 1) = (f + 1) + g by omega]
      exact any_post hsel hgt hm hn hlo ho hL (f + 1) listed a _ _ inv.size (inv.set hi) (nxAlloc hw _) (by show (w.heap.push X)[w.heap.size]? = _; simp) (Below.size hw) h'
    · obtain ⟨hlt, hq⟩ := hall i hi hin
      exact wpOp_of_qR hw (fun a' w' hw' hk => ih _ _ _ (inv.set hi) (nx hw hw') hk) hq

/-- The checks of a region whose first m operations are quiet, with a loose allocation at number n. -/
def floatB (md : Region.Mode) (ops : Array Oper) (m n : Nat) (Z : Array Bool) : Bool :=
  Region.noSelect ops && decide (m ≤ ops.size) && decide (m ≤ n) && decide (n < ops.size) && gateB md ops m n && looseB md ops m n && lexF md ops m Z m 0 (Array.replicate ops.size false)

theorem wpAny_mono {Q Q' : Exit → Act → World → Prop} (hQ : ∀ e a w, Q e a w → Q' e a w) : ∀ (f : Nat) (listed : Array Bool) (a : Act) (w : World), wpAny P md ops Q f listed a w → wpAny P md ops Q' f listed a w
  | 0, _, _, _, h => ⟨h.1, hQ _ _ _ h.2⟩
  | f + 1, listed, _, _, h => ⟨fun h0 => hQ _ _ _ (h.1 h0), fun i hi => by
      have h1 := wpOp_mono (fun a' w' h2 => wpAny_mono hQ f _ a' w' h2) (h.2 i hi)
      have hl : LetsOut Q → LetsOut Q' := fun ⟨a, w, h⟩ => ⟨a, w, hQ _ _ _ h⟩
      unfold wpOp at *
      split
      · rename_i ho; simpa only [ho] using h1
      · rename_i o ho
        simp only [ho] at h1
        split
        · rename_i hw
          simp only [hw, if_true] at h1
          refine h1.imp (fun h3 => ?_) (fun h3 => ⟨h3.1, hl h3.2⟩)
          unfold Oper.wp at *
          generalize (execOp _ o).run P _ = r at *
          cases r with
          | ok nx' w' =>
            cases nx' <;> simp only [Oper.upon] at h3 ⊢ <;> first
              | exact h3
              | exact Calls.mono h3 (fun e w'' he => by cases e <;> first | exact he | exact hQ _ _ _ he | exact hl he)
          | halt x w' =>
            cases x <;> simp only [Oper.upon] at h3 ⊢
            exact hQ _ _ _ h3
        · rename_i hw; simp only [hw] at h1; exact h1⟩

/-- Only the normal end. -/
def only (Q : Exit → Act → World → Prop) : Exit → Act → World → Prop := Exit.then (Q .normal) (fun _ _ _ => False)
theorem only_le {Q : Exit → Act → World → Prop} : ∀ e a w, only Q e a w → Q e a w := by
  intro e a w h
  cases e <;> first | exact h | exact False.elim h

/-- The first m operations are quiet; number n lays a cell, at any time; what else there is is shown in each order (the second time with the cell laid). -/
theorem wp_region_float {id : Nat} {Q : Exit → Act → World → Prop} {a : Act} {w : World} {l : List Oper} (m n : Nat) (Z : Array Bool) (o : Oper) (X : Obj) (hfm : P.follows .mixedOrders = true) (hB : floatB .any l.toArray m n Z = true)
    (ho' : l[n]? = some o) (hW : ∀ t, Region.wanted o t = true) (hR : ∀ (a : Act) (w : World), (execOp a.eval o).run P w = .ok (.value (ptrV w.heap.size)) (w.alloc X))
    (h : wpQuietR P l.toArray w (fun a' => (∀ w', Cls w w' → wpAny P .any l.toArray (only Q) (l.length - m) Z a' w') ∧
      ∀ gp w', Cls w w' → w'.heap[gp]? = some X → w.heap.size ≤ gp → wpAny P .any l.toArray (only Q) (l.length - m - 1) (Z.setIfInBounds n true) (a'.put o.dst (ptrV gp)) w') (l.take m) a) : (Code.region id l.toArray true).wp P Q a w := by
  simp only [floatB, Bool.and_eq_true, decide_eq_true_eq] at hB
  obtain ⟨⟨⟨⟨⟨⟨hsel, hm⟩, hmn⟩, hn⟩, hg⟩, hlo⟩, hlex⟩ := hB
  have ho : l.toArray[n]? = some o := by simpa using ho'
  have hm' : m ≤ l.length := by simpa using hm
  have hn' : n < l.length := by simpa using hn
  have htl : (l.take m).length = m := by simp; omega
  have inv0 : ClInv .any l.toArray (Array.replicate l.toArray.size false) := by
    refine ⟨by simp, fun j oj _ hl => ?_⟩
    rw [getD_replicate_false] at hl; cases hl
  have H := headF_lex (md := .any) (Z := Z) hsel hg hm hmn (l.take m) 0 _ a (fun j hj => by
    have hj' : j < m := by rw [htl] at hj; exact hj
    simp [hj']) (by simpa using htl) inv0 (by rw [htl]; exact hlex) h
  refine wp_region_any hfm (wpAny_mono only_le _ _ _ _ ?_)
  have := any_pre (Q' := only Q) (g := l.length - m - 1) (Region.noSelect_spec hsel) hg hm hn hlo ho hW hR
    (fun listed a' w' hL hw' => by
      have := hL.2.1 w' hw'
      rw [hL.1, show l.length - m - 1 + 1 = l.length - m by omega]
      exact this)
    (fun listed a' w' gp hL hw' hx hg => by rw [hL.1]; exact hL.2.2 gp w' hw' hx hg) _ _ _ _ inv0 ((Below.refl _ _).drew) H
  rw [htl, show m + (l.length - m - 1 + 1) = l.toArray.size by simp; omega] at this
  exact this
/-- Operations that yield one value in whatever world, in the text's order. -/
def wpPure (P : Program) (ops : Array Oper) (Q : Act → Prop) : List Oper → Act → Prop
  | [], a => Q a
  | o :: rest, a => ∃ v, Yields P ops o v a ∧ wpPure P ops Q rest (a.put o.dst v)
theorem wpPure_nil {Q : Act → Prop} {a : Act} (h : Q a) : wpPure P ops Q [] a := h
theorem wpPure_step {Q : Act → Prop} {a : Act} {o : Oper} {rest : List Oper}
    (h : ∀ K : Act → Prop, (∀ a, wpPure P ops Q rest a → K a) → if Region.wanted o (yielded ops a.tmps) then ∃ v, (∀ w, (execOp a.eval o).run P w = .ok (.value v) w) ∧ K (a.put o.dst v) else K (a.put o.dst undef)) : wpPure P ops Q (o :: rest) a := by
  have := h _ (fun _ h => h)
  unfold wpPure
  by_cases hw : Region.wanted o (yielded ops a.tmps) = true
  · rw [if_pos hw] at this
    obtain ⟨v, h1, h2⟩ := this
    exact ⟨v, .inl ⟨hw, h1⟩, h2⟩
  · rw [if_neg hw] at this
    exact ⟨undef, .inr ⟨by simpa using hw, rfl⟩, this⟩

/-- So many of them, from number k on, may be taken first; then all is forced from number e on. -/
def lexTo (md : Region.Mode) (ops : Array Oper) (g e : Nat) : Nat → Nat → Array Bool → Bool
  | 0, _, listed => Region.seqB md ops g e listed
  | f + 1, k, listed => (Region.ready md ops listed).contains k && Region.free md ops listed k && lexTo md ops g e f (k + 1) (listed.setIfInBounds k true)

theorem any_of_pure {g e : Nat} {Q' : Exit → Act → World → Prop} {C : World → Prop} {Lq : Act → Prop} (hsel : Region.noSelect ops = true) (hQ : ∀ c a w, ¬ Q' (.panic c) a w)
    (hL : ∀ listed a w, Region.seqB md ops g e listed = true → Lq a → C w → wpAny P md ops Q' g listed a w) :
    ∀ (l : List Oper) (k : Nat) (listed : Array Bool) (a : Act) (w : World), (∀ j, j < l.length → l[j]? = ops[k + j]?) → lexTo md ops g e l.length k listed = true → wpPure P ops Lq l a → C w → wpAny P md ops Q' (l.length + g) listed a w
  | [], _, listed, a, w, _, hB, h, hw => by
    rw [List.length_nil, Nat.zero_add]
    exact hL _ _ _ (by simpa [lexTo] using hB) h hw
  | o :: l, k, listed, a, w, hl, hB, h, hw => by
    have h0 : ops[k]? = some o := by simpa using (hl 0 (by simp)).symm
    simp only [List.length_cons, lexTo, Bool.and_eq_true] at hB
    obtain ⟨⟨hr, hf⟩, hB'⟩ := hB
    obtain ⟨v, hy, hK⟩ := h
    rw [List.length_cons, Nat.add_right_comm]
    refine wpAny_first h0 (Region.noSelect_spec hsel) (fun c a w h => absurd h (hQ _ _ _)) _ listed a w (Region.free_spec h0 hf) (by simpa using hr) hy ?_
    refine any_of_pure hsel hQ hL l (k + 1) _ _ w (fun j hj => ?_) hB' hK hw
    have := hl (j + 1) (by simp; omega)
    simpa [Nat.add_assoc, Nat.add_comm 1 j] using this

theorem wpPure_put {o : Oper} {x : Value} {Lq : Act → Prop} (hsel : ∀ (j : Nat) (o : Oper) cs b, ops[j]? = some o → o.op ≠ .select cs b) : ∀ (l : List Oper) (k : Nat) (a : Act), (∀ j, j < l.length → l[j]? = ops[k + j]?) → (∀ oi ∈ l, o.apart ops oi = true) →
    wpPure P ops (fun a => Lq (a.put o.dst x)) l a → wpPure P ops Lq l (a.put o.dst x)
  | [], _, _, _, _, h => h
  | oi :: l, k, a, hl, hap, h => by
    have h0 : ops[k]? = some oi := by simpa using (hl 0 (by simp)).symm
    obtain ⟨v, hy, hK⟩ := h
    obtain ⟨h1, h2, _⟩ := Oper.apart_spec (hap oi (by simp))
    refine ⟨v, hy.of_same (execOp_put oi (fun cs b => hsel k oi cs b h0) a o.dst x h1) (wanted_put oi a o.dst x h1), ?_⟩
    rw [Act.put_comm a x v h2]
    refine wpPure_put hsel l (k + 1) _ (fun j hj => ?_) (fun o' ho' => hap o' (by simp [ho'])) hK
    have := hl (j + 1) (by simp; omega)
    simpa [Nat.add_assoc, Nat.add_comm 1 j] using this

theorem wpQuietR_mono {Q Q' : Act → Prop} (h : ∀ a, Q a → Q' a) : ∀ (l : List Oper) (a : Act), wpQuietR P ops w0 Q l a → wpQuietR P ops w0 Q' l a
  | [], a, hh => h a hh
  | _ :: l, _, ⟨v, h1, h2⟩ => ⟨v, h1, wpQuietR_mono h l _ h2⟩
theorem wpPure_mono {Q Q' : Act → Prop} (h : ∀ a, Q a → Q' a) : ∀ (l : List Oper) (a : Act), wpPure P ops Q l a → wpPure P ops Q' l a
  | [], a, hh => h a hh
  | _ :: l, _, ⟨v, h1, h2⟩ => ⟨v, h1, wpPure_mono h l _ h2⟩

/-- The checks, with pure operations m .. n-1 between. -/
def floatPB (md : Region.Mode) (ops : Array Oper) (m n : Nat) (Z : Array Bool) : Bool :=
  floatB md ops m n Z && ((ops.toList.drop m).take (n - m)).all (fun oi => match ops[n]? with
    | some o => o.apart ops oi
    | none => false) &&
  lexTo md ops (ops.size - n) n (n - m) m Z && lexTo md ops (ops.size - n - 1) (n + 1) (n - m) m (Z.setIfInBounds n true)

/-- The first m operations are quiet, those from m up to n pure; number n lays a cell, at any time; the rest, in one forced order, is walked. -/
theorem wp_region_floatP {id : Nat} {Q : Exit → Act → World → Prop} {a : Act} {w : World} {l : List Oper} (m n : Nat) (Z : Array Bool) (o : Oper) (X : Obj) (hfm : P.follows .mixedOrders = true) (hB : floatPB .any l.toArray m n Z = true)
    (ho' : l[n]? = some o) (hW : ∀ t, Region.wanted o t = true) (hR : ∀ (a : Act) (w : World), (execOp a.eval o).run P w = .ok (.value (ptrV w.heap.size)) (w.alloc X))
    (h : wpQuietR P l.toArray w (wpPure P l.toArray (fun a' => ∀ gp w', Cls w w' → w'.heap[gp]? = some X → w.heap.size ≤ gp → wpList P l.toArray (only Q) (l.drop (n + 1)) (a'.put o.dst (ptrV gp)) w') ((l.drop m).take (n - m))) (l.take m) a) : (Code.region id l.toArray true).wp P Q a w := by
  simp only [floatPB, Bool.and_eq_true] at hB
  obtain ⟨⟨⟨hB, hap⟩, hp1⟩, hp2⟩ := hB
  have ho : l.toArray[n]? = some o := by simpa using ho'
  have hB' := hB
  simp only [floatB, Bool.and_eq_true, decide_eq_true_eq] at hB'
  obtain ⟨⟨⟨⟨⟨⟨hsel, hm⟩, hmn⟩, hn⟩, _⟩, _⟩, _⟩ := hB'
  have hn' : n < l.length := by simpa using hn
  have hsz : l.toArray.size = l.length := by simp
  have hln : ((l.drop m).take (n - m)).length = n - m := by simp; omega
  have hget : ∀ j, j < ((l.drop m).take (n - m)).length → ((l.drop m).take (n - m))[j]? = l.toArray[m + j]? := by
    intro j hj
    rw [hln] at hj
    simp [hj]
  have hap' : ∀ oi ∈ (l.drop m).take (n - m), o.apart l.toArray oi = true := by
    intro oi hoi
    have := List.all_eq_true.1 hap oi (by simpa using hoi)
    rw [ho] at this
    exact this
  refine wp_region_float m n Z o X hfm hB ho' hW hR (wpQuietR_mono (fun a' ha' => ⟨fun w' hw' => ?_, fun gp w' hw' hx hg => ?_⟩) _ _ h)
  · have := any_of_pure (md := .any) (g := l.toArray.size - n) (e := n) (Q' := only Q) (C := Cls w) hsel (fun _ _ _ h => h) (fun listed a w1 hq hL hw1 => by
      have eg : l.toArray.size - n = (l.length - n - 1) + 1 := by omega
      rw [eg] at hq ⊢
      simp only [Region.seqB, Bool.and_eq_true, decide_eq_true_eq] at hq
      refine ⟨fun h0 => (by rw [hq.1] at h0; cases h0), fun i hi => ?_⟩
      rw [hq.1] at hi
      obtain rfl : i = n := by simpa using hi
      unfold wpOp
      simp only [ho, hW, if_true]
      left
      unfold Oper.wp
      rw [hR]
      simp only [Oper.upon]
      have hdl : (l.drop (i + 1)).length = l.length - i - 1 := by simp; omega
      have := wpAny_of_seq (md := .any) (Q' := only Q) (l.drop (i + 1)) (i + 1) (listed.setIfInBounds i true) _ _ (fun j => by simp [List.getElem?_drop]) (by rw [hdl]; exact hq.2) (hL w1.heap.size _ (nxAlloc hw1 X) (by show (w1.heap.push X)[w1.heap.size]? = _; simp) (Below.size hw1))
      rwa [hdl] at this) _ m Z a' w' hget (by rw [hln]; exact hp1) ha' hw'
    rw [hln, show n - m + (l.toArray.size - n) = l.length - m by omega] at this
    exact this
  · have hdl : (l.drop (n + 1)).length = l.toArray.size - n - 1 := by simp; omega
    have hP := wpPure_put (o := o) (x := ptrV gp) (Lq := fun a => ∀ w', Cls w w' → w'.heap[gp]? = some X → wpList P l.toArray (only Q) (l.drop (n + 1)) a w') (Region.noSelect_spec hsel) _ m a' hget hap' (wpPure_mono (fun a h w' hw' hx => h gp w' hw' hx hg) _ _ ha')
    have := any_of_pure (md := .any) (g := l.toArray.size - n - 1) (e := n + 1) (Q' := only Q) (C := fun w' => Cls w w' ∧ w'.heap[gp]? = some X) hsel (fun _ _ _ h => h) (fun listed a w1 hq hL hw1 => by
      have := wpAny_of_seq (md := .any) (Q' := only Q) (l.drop (n + 1)) (n + 1) listed a w1 (fun j => by simp [List.getElem?_drop]) (by rw [hdl]; exact hq) (hL w1 hw1.1 hw1.2)
      rwa [hdl] at this) _ m _ _ w' hget (by rw [hln]; exact hp2) hP ⟨hw', hx⟩
    rw [hln, show n - m + (l.toArray.size - n - 1) = l.length - m - 1 by omega] at this
    exact this
end
/-- What follows behind a variable. -/
theorem only_hide {P : Program} {ops : Array Oper} {Q : Exit → Act → World → Prop} {l : List Oper} {a : Act} {w : World}
    (h : ∀ K : Act → World → Prop, (∀ a w, Q .normal a w → K a w) → wpList P ops (Exit.then K (fun _ _ _ => False)) l a w) : wpList P ops (only Q) l a w := h (Q .normal) (fun _ _ h => h)
theorem callR {P : Program} {f : FuncId} {args : Array Value} {w : World} {v : Value} (k : Calls P f args w (Gives v w)) : Calls P f args w fun e w'' => e = .returned v ∧ Cls w w'' := k
end Go.Proofs.YtjmbkieocmhmiaaGreat

/-! CommC -/
namespace Go.Proofs.YtjmbkieocmhmiaaGreat
open Go.RowKit

set_option maxRecDepth 100000 in
set_option maxHeartbeats 2000000 in
theorem specCommutatorPair_any (a b c d : ByteArray) (w : World) (ha : a.size ≤ 9223372036854775806) (hb : b.size ≤ 9223372036854775806) (hc : c.size ≤ 9223372036854775806) (hd : d.size ≤ 9223372036854775806) :
    Calls Tryz.prog 19 #[.agg #[.string a, .string b], .agg #[.string c, .string d]] w (Gives (ansPr ((pairOf a b).bind fun p => (pairOf c d).bind fun q => limP (mulP (mulP (invP p) (invP q)) (mulP p q)))) w) := by
  have hg := fun w => prGood_any a b w ha hb
  have hk := fun w => prGood_any c d w hc hd
  cases h : pairOf a b with
  | none =>
    rw [h] at hg
    clear h hk
    go_enter Tryz.func19, Tryz.ntmps19
    go_wp2_with fail
    have hb0 : Below w.heap.size w (((w.alloc (.cells #[.string a, .string b] 25 (0, 0))).alloc (.cells #[.string c, .string d] 25 (0, 0))).alloc (.cells #[.string ⟨#[]⟩, .string ⟨#[]⟩] 25 (0, 0))) := nxAlloc (nxAlloc (nxAlloc (Below.refl _ _) _) _) _
    have hx0 := heap_keep (nxAlloc (Below.refl _ _) (.cells #[.string ⟨#[]⟩, .string ⟨#[]⟩] 25 (0, 0))) (heap_keep (nxAlloc (Below.refl _ _) (.cells #[.string c, .string d] 25 (0, 0))) (heap_alloc_at w (.cells #[.string a, .string b] 25 (0, 0))))
    have hx1 := heap_keep (nxAlloc (Below.refl _ _) (.cells #[.string ⟨#[]⟩, .string ⟨#[]⟩] 25 (0, 0))) (heap_alloc_at (w.alloc (.cells #[.string a, .string b] 25 (0, 0))) (.cells #[.string c, .string d] 25 (0, 0)))
    have hx2 := heap_alloc_at ((w.alloc (.cells #[.string a, .string b] 25 (0, 0))).alloc (.cells #[.string c, .string d] 25 (0, 0))) (.cells #[.string ⟨#[]⟩, .string ⟨#[]⟩] 25 (0, 0))
    generalize (((w.alloc (.cells #[.string a, .string b] 25 (0, 0))).alloc (.cells #[.string c, .string d] 25 (0, 0))).alloc (.cells #[.string ⟨#[]⟩, .string ⟨#[]⟩] 25 (0, 0))) = w0 at *
    have e1 : (w.alloc (.cells #[.string a, .string b] 25 (0, 0))).heap.size = w.heap.size + 1 := by simp
    rw [e1] at hx1
    clear e1
    have e2 : ((w.alloc (.cells #[.string a, .string b] 25 (0, 0))).alloc (.cells #[.string c, .string d] 25 (0, 0))).heap.size = w.heap.size + 1 + 1 := by simp
    rw [e2] at hx2
    clear e2
    obtain ⟨hx0a, hx0b, hx0c⟩ := two_facts hx0
    obtain ⟨hx0f, hx0g⟩ := two_frozen hx0
    obtain ⟨hx1a, hx1b, hx1c⟩ := two_facts hx1
    obtain ⟨hx1f, hx1g⟩ := two_frozen hx1
    obtain ⟨hx2a, hx2b, hx2c⟩ := two_facts hx2
    obtain ⟨hx2f, hx2g⟩ := two_frozen hx2
    refine (hg _).mono ?_; rintro e w1 ⟨rfl, hb1⟩
    have hbw1 := nx hb0 hb1
    replace hx0 := heap_keep hb1 hx0
    replace hx1 := heap_keep hb1 hx1
    replace hx2 := heap_keep hb1 hx2
    clear hx0a hx0b hx0c hx0f hx0g
    obtain ⟨hx0a, hx0b, hx0c⟩ := two_facts hx0
    obtain ⟨hx0f, hx0g⟩ := two_frozen hx0
    clear hx1a hx1b hx1c hx1f hx1g
    obtain ⟨hx1a, hx1b, hx1c⟩ := two_facts hx1
    obtain ⟨hx1f, hx1g⟩ := two_frozen hx1
    clear hx2a hx2b hx2c hx2f hx2g
    obtain ⟨hx2a, hx2b, hx2c⟩ := two_facts hx2
    obtain ⟨hx2f, hx2g⟩ := two_frozen hx2
    clear hb1 hb0
    go_wp2_with fail
    obtain ⟨q1, q2⟩ := two_cells (set_two (.string ⟨#[]⟩) (.string ⟨#[]⟩) hx2)
    refine bodyPost_ret (v := .tuple #[.agg #[.string ⟨#[]⟩, .string ⟨#[]⟩], .bool false]) (by simp [q1, q2, results, Tryz.results19, go_sem]) rfl ⟨rfl, ?_⟩
    exact (hbw1.setCell (by show w.heap.size ≤ w.heap.size + 1 + 1; omega) _).setCell (by show w.heap.size ≤ w.heap.size + 1 + 1; omega) _
  | some p =>
    rw [h] at hg
    obtain ⟨rfl, rfl, hok1, hp1, hp2⟩ := pairOf_some h
    clear h
    cases k : pairOf c d with
    | none =>
      rw [k] at hk
      clear k
      go_enter Tryz.func19, Tryz.ntmps19
      go_wp2_with fail
      have hb0 : Below w.heap.size w (((w.alloc (.cells #[.string p.1.str, .string p.2.str] 25 (0, 0))).alloc (.cells #[.string c, .string d] 25 (0, 0))).alloc (.cells #[.string ⟨#[]⟩, .string ⟨#[]⟩] 25 (0, 0))) := nxAlloc (nxAlloc (nxAlloc (Below.refl _ _) _) _) _
      have hx0 := heap_keep (nxAlloc (Below.refl _ _) (.cells #[.string ⟨#[]⟩, .string ⟨#[]⟩] 25 (0, 0))) (heap_keep (nxAlloc (Below.refl _ _) (.cells #[.string c, .string d] 25 (0, 0))) (heap_alloc_at w (.cells #[.string p.1.str, .string p.2.str] 25 (0, 0))))
      have hx1 := heap_keep (nxAlloc (Below.refl _ _) (.cells #[.string ⟨#[]⟩, .string ⟨#[]⟩] 25 (0, 0))) (heap_alloc_at (w.alloc (.cells #[.string p.1.str, .string p.2.str] 25 (0, 0))) (.cells #[.string c, .string d] 25 (0, 0)))
      have hx2 := heap_alloc_at ((w.alloc (.cells #[.string p.1.str, .string p.2.str] 25 (0, 0))).alloc (.cells #[.string c, .string d] 25 (0, 0))) (.cells #[.string ⟨#[]⟩, .string ⟨#[]⟩] 25 (0, 0))
      generalize (((w.alloc (.cells #[.string p.1.str, .string p.2.str] 25 (0, 0))).alloc (.cells #[.string c, .string d] 25 (0, 0))).alloc (.cells #[.string ⟨#[]⟩, .string ⟨#[]⟩] 25 (0, 0))) = w0 at *
      have e1 : (w.alloc (.cells #[.string p.1.str, .string p.2.str] 25 (0, 0))).heap.size = w.heap.size + 1 := by simp
      rw [e1] at hx1
      clear e1
      have e2 : ((w.alloc (.cells #[.string p.1.str, .string p.2.str] 25 (0, 0))).alloc (.cells #[.string c, .string d] 25 (0, 0))).heap.size = w.heap.size + 1 + 1 := by simp
      rw [e2] at hx2
      clear e2
      obtain ⟨hx0a, hx0b, hx0c⟩ := two_facts hx0
      obtain ⟨hx0f, hx0g⟩ := two_frozen hx0
      obtain ⟨hx1a, hx1b, hx1c⟩ := two_facts hx1
      obtain ⟨hx1f, hx1g⟩ := two_frozen hx1
      obtain ⟨hx2a, hx2b, hx2c⟩ := two_facts hx2
      obtain ⟨hx2f, hx2g⟩ := two_frozen hx2
      refine (hg _).mono ?_; rintro e w1 ⟨rfl, hb1⟩
      have hbw1 := nx hb0 hb1
      replace hx0 := heap_keep hb1 hx0
      replace hx1 := heap_keep hb1 hx1
      replace hx2 := heap_keep hb1 hx2
      clear hx0a hx0b hx0c hx0f hx0g
      obtain ⟨hx0a, hx0b, hx0c⟩ := two_facts hx0
      obtain ⟨hx0f, hx0g⟩ := two_frozen hx0
      clear hx1a hx1b hx1c hx1f hx1g
      obtain ⟨hx1a, hx1b, hx1c⟩ := two_facts hx1
      obtain ⟨hx1f, hx1g⟩ := two_frozen hx1
      clear hx2a hx2b hx2c hx2f hx2g
      obtain ⟨hx2a, hx2b, hx2c⟩ := two_facts hx2
      obtain ⟨hx2f, hx2g⟩ := two_frozen hx2
      clear hb1 hb0
      go_wp2_with fail
      refine (hk _).mono ?_; rintro e w2 ⟨rfl, hb2⟩
      have hbw2 := nx hbw1 hb2
      replace hx0 := heap_keep hb2 hx0
      replace hx1 := heap_keep hb2 hx1
      replace hx2 := heap_keep hb2 hx2
      clear hx0a hx0b hx0c hx0f hx0g
      obtain ⟨hx0a, hx0b, hx0c⟩ := two_facts hx0
      obtain ⟨hx0f, hx0g⟩ := two_frozen hx0
      clear hx1a hx1b hx1c hx1f hx1g
      obtain ⟨hx1a, hx1b, hx1c⟩ := two_facts hx1
      obtain ⟨hx1f, hx1g⟩ := two_frozen hx1
      clear hx2a hx2b hx2c hx2f hx2g
      obtain ⟨hx2a, hx2b, hx2c⟩ := two_facts hx2
      obtain ⟨hx2f, hx2g⟩ := two_frozen hx2
      clear hb2 hbw1
      go_wp2_with fail
      obtain ⟨q1, q2⟩ := two_cells (set_two (.string ⟨#[]⟩) (.string ⟨#[]⟩) hx2)
      refine bodyPost_ret (v := .tuple #[.agg #[.string ⟨#[]⟩, .string ⟨#[]⟩], .bool false]) (by simp [q1, q2, results, Tryz.results19, go_sem]) rfl ⟨rfl, ?_⟩
      exact (hbw2.setCell (by show w.heap.size ≤ w.heap.size + 1 + 1; omega) _).setCell (by show w.heap.size ≤ w.heap.size + 1 + 1; omega) _
    | some q =>
      rw [k] at hk
      obtain ⟨rfl, rfl, hok2, hq1, hq2⟩ := pairOf_some k
      clear k
      show Calls _ _ _ _ (Gives (ansPr (limP (mulP (mulP (invP p) (invP q)) (mulP p q)))) w)
      have hi1 : okP (invP p) := hok1.symm
      have hi2 : okP (invP q) := hok2.symm
      have hu := mulP_ok hi1 hi2
      have huc := mulP_carets hi1 hi2
      have hv := mulP_ok hok1 hok2
      have hvc := mulP_carets hok1 hok2
      have hx := mulP_ok hu hv
      have hxc := mulP_carets hu hv
      have hub := redBy_carets (rawP (invP p) (invP q)) []
      have hvb := redBy_carets (rawP p q) []
      have c1 : (invP p).1.carets = p.2.carets := rfl
      have c2 : (invP p).2.carets = p.1.carets := rfl
      have c3 : (invP q).1.carets = q.2.carets := rfl
      have c4 : (mulP (invP p) (invP q)).1.carets = (mulP (invP p) (invP q)).2.carets := hu
      have c5 : (mulP p q).1.carets = (mulP p q).2.carets := hv
      have I1 : ∀ w, Calls Tryz.prog 49 #[.agg #[.string p.1.str, .string p.2.str]] w (Gives (.agg #[.string (invP p).1.str, .string (invP p).2.str]) w) := fun w => prInverse_any p.1.str p.2.str w
      have I2 : ∀ w, Calls Tryz.prog 49 #[.agg #[.string q.1.str, .string q.2.str]] w (Gives (.agg #[.string (invP q).1.str, .string (invP q).2.str]) w) := fun w => prInverse_any q.1.str q.2.str w
      have U := fun w => prTimes_any (invP p) (invP q) w hi1 hi2 (by omega) (by omega)
      have V := fun w => prTimes_any p q w hok1 hok2 (by omega) (by omega)
      have X := fun w => prTimes_any (mulP (invP p) (invP q)) (mulP p q) w hu hv (by omega) (by omega)
      have L := fun w => prIf_any (mulP (mulP (invP p) (invP q)) (mulP p q)) w hx (by omega)
      clear hub hvb huc hvc hxc c1 c2 c3 c4 c5
      generalize hO : limP (mulP (mulP (invP p) (invP q)) (mulP p q)) = o at *
      unfold ansPr at *
      generalize pS1 o = x1 at *
      generalize pS2 o = x2 at *
      generalize o.isSome = ok at *
      clear hO
      generalize mulP (mulP (invP p) (invP q)) (mulP p q) = XX at *
      generalize mulP (invP p) (invP q) = UU at *
      generalize mulP p q = VV at *
      generalize invP p = IP at *
      generalize invP q = IQ at *
      go_enter Tryz.func19, Tryz.ntmps19
      go_wp2_with fail
      have hb0 : Below w.heap.size w (((w.alloc (.cells #[.string p.1.str, .string p.2.str] 25 (0, 0))).alloc (.cells #[.string q.1.str, .string q.2.str] 25 (0, 0))).alloc (.cells #[.string ⟨#[]⟩, .string ⟨#[]⟩] 25 (0, 0))) := nxAlloc (nxAlloc (nxAlloc (Below.refl _ _) _) _) _
      have hx0 := heap_keep (nxAlloc (Below.refl _ _) (.cells #[.string ⟨#[]⟩, .string ⟨#[]⟩] 25 (0, 0))) (heap_keep (nxAlloc (Below.refl _ _) (.cells #[.string q.1.str, .string q.2.str] 25 (0, 0))) (heap_alloc_at w (.cells #[.string p.1.str, .string p.2.str] 25 (0, 0))))
      have hx1 := heap_keep (nxAlloc (Below.refl _ _) (.cells #[.string ⟨#[]⟩, .string ⟨#[]⟩] 25 (0, 0))) (heap_alloc_at (w.alloc (.cells #[.string p.1.str, .string p.2.str] 25 (0, 0))) (.cells #[.string q.1.str, .string q.2.str] 25 (0, 0)))
      have hx2 := heap_alloc_at ((w.alloc (.cells #[.string p.1.str, .string p.2.str] 25 (0, 0))).alloc (.cells #[.string q.1.str, .string q.2.str] 25 (0, 0))) (.cells #[.string ⟨#[]⟩, .string ⟨#[]⟩] 25 (0, 0))
      generalize (((w.alloc (.cells #[.string p.1.str, .string p.2.str] 25 (0, 0))).alloc (.cells #[.string q.1.str, .string q.2.str] 25 (0, 0))).alloc (.cells #[.string ⟨#[]⟩, .string ⟨#[]⟩] 25 (0, 0))) = w0 at *
      have e1 : (w.alloc (.cells #[.string p.1.str, .string p.2.str] 25 (0, 0))).heap.size = w.heap.size + 1 := by simp
      rw [e1] at hx1
      clear e1
      have e2 : ((w.alloc (.cells #[.string p.1.str, .string p.2.str] 25 (0, 0))).alloc (.cells #[.string q.1.str, .string q.2.str] 25 (0, 0))).heap.size = w.heap.size + 1 + 1 := by simp
      rw [e2] at hx2
      clear e2
      obtain ⟨hx0a, hx0b, hx0c⟩ := two_facts hx0
      obtain ⟨hx0f, hx0g⟩ := two_frozen hx0
      obtain ⟨hx1a, hx1b, hx1c⟩ := two_facts hx1
      obtain ⟨hx1f, hx1g⟩ := two_frozen hx1
      obtain ⟨hx2a, hx2b, hx2c⟩ := two_facts hx2
      obtain ⟨hx2f, hx2g⟩ := two_frozen hx2
      refine (hg _).mono ?_; rintro e w1 ⟨rfl, hb1⟩
      have hbw1 := nx hb0 hb1
      replace hx0 := heap_keep hb1 hx0
      replace hx1 := heap_keep hb1 hx1
      replace hx2 := heap_keep hb1 hx2
      clear hx0a hx0b hx0c hx0f hx0g
      obtain ⟨hx0a, hx0b, hx0c⟩ := two_facts hx0
      obtain ⟨hx0f, hx0g⟩ := two_frozen hx0
      clear hx1a hx1b hx1c hx1f hx1g
      obtain ⟨hx1a, hx1b, hx1c⟩ := two_facts hx1
      obtain ⟨hx1f, hx1g⟩ := two_frozen hx1
      clear hx2a hx2b hx2c hx2f hx2g
      obtain ⟨hx2a, hx2b, hx2c⟩ := two_facts hx2
      obtain ⟨hx2f, hx2g⟩ := two_frozen hx2
      clear hb1 hb0
      go_wp2_with fail
      refine (hk _).mono ?_; rintro e w2 ⟨rfl, hb2⟩
      have hbw2 := nx hbw1 hb2
      replace hx0 := heap_keep hb2 hx0
      replace hx1 := heap_keep hb2 hx1
      replace hx2 := heap_keep hb2 hx2
      clear hx0a hx0b hx0c hx0f hx0g
      obtain ⟨hx0a, hx0b, hx0c⟩ := two_facts hx0
      obtain ⟨hx0f, hx0g⟩ := two_frozen hx0
      clear hx1a hx1b hx1c hx1f hx1g
      obtain ⟨hx1a, hx1b, hx1c⟩ := two_facts hx1
      obtain ⟨hx1f, hx1g⟩ := two_frozen hx1
      clear hx2a hx2b hx2c hx2f hx2g
      obtain ⟨hx2a, hx2b, hx2c⟩ := two_facts hx2
      obtain ⟨hx2f, hx2g⟩ := two_frozen hx2
      clear hb2 hbw1
      go_wp2_with fail
      refine wp_region_clsT 12 (by kernel_rfl) (by kernel_rfl) ?_
      simp only [List.take_succ_cons, List.take_zero, List.drop_succ_cons, List.drop_zero]
      repeat (
        refine wpQuiet_step (fun K hK => ?_)
        go_simp
        first
          | (refine hK _ ?_; clear hK K)
          | (refine ⟨_, fun _ _ => rfl, hK _ ?_⟩; clear hK K)
          | (apply Exists.intro
             refine ⟨fun w' hw' => ?_, hK _ ?_⟩
             · first
                 | (go_at_call 49; first | (with_reducible exact hw'.call (I1 _)) | (with_reducible exact hw'.call (I2 _)))
                 | (go_at_call 40; first | (with_reducible exact hw'.call (U _)) | (with_reducible exact hw'.call (V _)) | (with_reducible exact hw'.call (X _)))
                 | (go_at_call 39; exact hw'.call (L _))
                 | (rw [hw'.cell hx0c hx0a]; dsimp only [Result.andThen]; rw [hw'.cell hx0c hx0b]; exact ⟨rfl, rfl⟩)
                 | (rw [hw'.cell hx1c hx1a]; dsimp only [Result.andThen]; rw [hw'.cell hx1c hx1b]; exact ⟨rfl, rfl⟩)
             clear hK K))
      refine wpQuiet_nil ?_
      intro w' hw'
      have hbwf := nx hbw2 hw'
      replace hx0 := heap_keep hw' hx0
      replace hx1 := heap_keep hw' hx1
      replace hx2 := heap_keep hw' hx2
      clear hw' hbw2
      clear hx0a hx0b hx0c hx0f hx0g
      obtain ⟨hx0a, hx0b, hx0c⟩ := two_facts hx0
      obtain ⟨hx0f, hx0g⟩ := two_frozen hx0
      clear hx1a hx1b hx1c hx1f hx1g
      obtain ⟨hx1a, hx1b, hx1c⟩ := two_facts hx1
      obtain ⟨hx1f, hx1g⟩ := two_frozen hx1
      clear hx2a hx2b hx2c hx2f hx2g
      obtain ⟨hx2a, hx2b, hx2c⟩ := two_facts hx2
      obtain ⟨hx2f, hx2g⟩ := two_frozen hx2
      go_wp2_with fail
      obtain ⟨q1, q2⟩ := two_cells (set_two (.string x1) (.string x2) hx2)
      refine bodyPost_ret (v := .tuple #[.agg #[.string x1, .string x2], .bool ok]) (by simp [q1, q2, results, Tryz.results19, go_sem]) rfl ⟨rfl, ?_⟩
      exact (hbwf.setCell (by show w.heap.size ≤ w.heap.size + 1 + 1; omega) _).setCell (by show w.heap.size ≤ w.heap.size + 1 + 1; omega) _

set_option maxRecDepth 100000 in
set_option maxHeartbeats 2000000 in
theorem implCommutatorPair_any (a b c d : ByteArray) (w : World) (ha : a.size ≤ 9223372036854775806) (hb : b.size ≤ 9223372036854775806) (hc : c.size ≤ 9223372036854775806) (hd : d.size ≤ 9223372036854775806) :
    Calls Tryz.prog 18 #[.agg #[.string a, .string b], .agg #[.string c, .string d]] w (Gives (ansPr ((pairOf a b).bind fun p => (pairOf c d).bind fun q => limP (mulP (mulP (invP p) (invP q)) (mulP p q)))) w) := by
  have hg := fun w => isPair_any a b w ha hb
  have hk := fun w => isPair_any c d w hc hd
  cases h : pairOf a b with
  | none =>
    rw [h] at hg
    clear h hk
    go_enter Tryz.func18, Tryz.ntmps18
    go_wp2_with fail
    have hb0 : Below w.heap.size w (((w.alloc (.cells #[.string a, .string b] 25 (0, 0))).alloc (.cells #[.string c, .string d] 25 (0, 0))).alloc (.cells #[.string ⟨#[]⟩, .string ⟨#[]⟩] 25 (0, 0))) := nxAlloc (nxAlloc (nxAlloc (Below.refl _ _) _) _) _
    have hx0 := heap_keep (nxAlloc (Below.refl _ _) (.cells #[.string ⟨#[]⟩, .string ⟨#[]⟩] 25 (0, 0))) (heap_keep (nxAlloc (Below.refl _ _) (.cells #[.string c, .string d] 25 (0, 0))) (heap_alloc_at w (.cells #[.string a, .string b] 25 (0, 0))))
    have hx1 := heap_keep (nxAlloc (Below.refl _ _) (.cells #[.string ⟨#[]⟩, .string ⟨#[]⟩] 25 (0, 0))) (heap_alloc_at (w.alloc (.cells #[.string a, .string b] 25 (0, 0))) (.cells #[.string c, .string d] 25 (0, 0)))
    have hx2 := heap_alloc_at ((w.alloc (.cells #[.string a, .string b] 25 (0, 0))).alloc (.cells #[.string c, .string d] 25 (0, 0))) (.cells #[.string ⟨#[]⟩, .string ⟨#[]⟩] 25 (0, 0))
    generalize (((w.alloc (.cells #[.string a, .string b] 25 (0, 0))).alloc (.cells #[.string c, .string d] 25 (0, 0))).alloc (.cells #[.string ⟨#[]⟩, .string ⟨#[]⟩] 25 (0, 0))) = w0 at *
    have e1 : (w.alloc (.cells #[.string a, .string b] 25 (0, 0))).heap.size = w.heap.size + 1 := by simp
    rw [e1] at hx1
    clear e1
    have e2 : ((w.alloc (.cells #[.string a, .string b] 25 (0, 0))).alloc (.cells #[.string c, .string d] 25 (0, 0))).heap.size = w.heap.size + 1 + 1 := by simp
    rw [e2] at hx2
    clear e2
    obtain ⟨hx0a, hx0b, hx0c⟩ := two_facts hx0
    obtain ⟨hx0f, hx0g⟩ := two_frozen hx0
    obtain ⟨hx1a, hx1b, hx1c⟩ := two_facts hx1
    obtain ⟨hx1f, hx1g⟩ := two_frozen hx1
    obtain ⟨hx2a, hx2b, hx2c⟩ := two_facts hx2
    obtain ⟨hx2f, hx2g⟩ := two_frozen hx2
    refine (hg _).mono ?_; rintro e w1 ⟨rfl, hb1⟩
    have hbw1 := nx hb0 hb1
    replace hx0 := heap_keep hb1 hx0
    replace hx1 := heap_keep hb1 hx1
    replace hx2 := heap_keep hb1 hx2
    clear hx0a hx0b hx0c hx0f hx0g
    obtain ⟨hx0a, hx0b, hx0c⟩ := two_facts hx0
    obtain ⟨hx0f, hx0g⟩ := two_frozen hx0
    clear hx1a hx1b hx1c hx1f hx1g
    obtain ⟨hx1a, hx1b, hx1c⟩ := two_facts hx1
    obtain ⟨hx1f, hx1g⟩ := two_frozen hx1
    clear hx2a hx2b hx2c hx2f hx2g
    obtain ⟨hx2a, hx2b, hx2c⟩ := two_facts hx2
    obtain ⟨hx2f, hx2g⟩ := two_frozen hx2
    clear hb1 hb0
    go_wp2_with fail
    obtain ⟨q1, q2⟩ := two_cells (set_two (.string ⟨#[]⟩) (.string ⟨#[]⟩) hx2)
    refine bodyPost_ret (v := .tuple #[.agg #[.string ⟨#[]⟩, .string ⟨#[]⟩], .bool false]) (by simp [q1, q2, results, Tryz.results18, go_sem]) rfl ⟨rfl, ?_⟩
    exact (hbw1.setCell (by show w.heap.size ≤ w.heap.size + 1 + 1; omega) _).setCell (by show w.heap.size ≤ w.heap.size + 1 + 1; omega) _
  | some p =>
    rw [h] at hg
    obtain ⟨rfl, rfl, hok1, hp1, hp2⟩ := pairOf_some h
    clear h
    cases k : pairOf c d with
    | none =>
      rw [k] at hk
      clear k
      go_enter Tryz.func18, Tryz.ntmps18
      go_wp2_with fail
      have hb0 : Below w.heap.size w (((w.alloc (.cells #[.string p.1.str, .string p.2.str] 25 (0, 0))).alloc (.cells #[.string c, .string d] 25 (0, 0))).alloc (.cells #[.string ⟨#[]⟩, .string ⟨#[]⟩] 25 (0, 0))) := nxAlloc (nxAlloc (nxAlloc (Below.refl _ _) _) _) _
      have hx0 := heap_keep (nxAlloc (Below.refl _ _) (.cells #[.string ⟨#[]⟩, .string ⟨#[]⟩] 25 (0, 0))) (heap_keep (nxAlloc (Below.refl _ _) (.cells #[.string c, .string d] 25 (0, 0))) (heap_alloc_at w (.cells #[.string p.1.str, .string p.2.str] 25 (0, 0))))
      have hx1 := heap_keep (nxAlloc (Below.refl _ _) (.cells #[.string ⟨#[]⟩, .string ⟨#[]⟩] 25 (0, 0))) (heap_alloc_at (w.alloc (.cells #[.string p.1.str, .string p.2.str] 25 (0, 0))) (.cells #[.string c, .string d] 25 (0, 0)))
      have hx2 := heap_alloc_at ((w.alloc (.cells #[.string p.1.str, .string p.2.str] 25 (0, 0))).alloc (.cells #[.string c, .string d] 25 (0, 0))) (.cells #[.string ⟨#[]⟩, .string ⟨#[]⟩] 25 (0, 0))
      generalize (((w.alloc (.cells #[.string p.1.str, .string p.2.str] 25 (0, 0))).alloc (.cells #[.string c, .string d] 25 (0, 0))).alloc (.cells #[.string ⟨#[]⟩, .string ⟨#[]⟩] 25 (0, 0))) = w0 at *
      have e1 : (w.alloc (.cells #[.string p.1.str, .string p.2.str] 25 (0, 0))).heap.size = w.heap.size + 1 := by simp
      rw [e1] at hx1
      clear e1
      have e2 : ((w.alloc (.cells #[.string p.1.str, .string p.2.str] 25 (0, 0))).alloc (.cells #[.string c, .string d] 25 (0, 0))).heap.size = w.heap.size + 1 + 1 := by simp
      rw [e2] at hx2
      clear e2
      obtain ⟨hx0a, hx0b, hx0c⟩ := two_facts hx0
      obtain ⟨hx0f, hx0g⟩ := two_frozen hx0
      obtain ⟨hx1a, hx1b, hx1c⟩ := two_facts hx1
      obtain ⟨hx1f, hx1g⟩ := two_frozen hx1
      obtain ⟨hx2a, hx2b, hx2c⟩ := two_facts hx2
      obtain ⟨hx2f, hx2g⟩ := two_frozen hx2
      refine (hg _).mono ?_; rintro e w1 ⟨rfl, hb1⟩
      have hbw1 := nx hb0 hb1
      replace hx0 := heap_keep hb1 hx0
      replace hx1 := heap_keep hb1 hx1
      replace hx2 := heap_keep hb1 hx2
      clear hx0a hx0b hx0c hx0f hx0g
      obtain ⟨hx0a, hx0b, hx0c⟩ := two_facts hx0
      obtain ⟨hx0f, hx0g⟩ := two_frozen hx0
      clear hx1a hx1b hx1c hx1f hx1g
      obtain ⟨hx1a, hx1b, hx1c⟩ := two_facts hx1
      obtain ⟨hx1f, hx1g⟩ := two_frozen hx1
      clear hx2a hx2b hx2c hx2f hx2g
      obtain ⟨hx2a, hx2b, hx2c⟩ := two_facts hx2
      obtain ⟨hx2f, hx2g⟩ := two_frozen hx2
      clear hb1 hb0
      go_wp2_with fail
      refine (hk _).mono ?_; rintro e w2 ⟨rfl, hb2⟩
      have hbw2 := nx hbw1 hb2
      replace hx0 := heap_keep hb2 hx0
      replace hx1 := heap_keep hb2 hx1
      replace hx2 := heap_keep hb2 hx2
      clear hx0a hx0b hx0c hx0f hx0g
      obtain ⟨hx0a, hx0b, hx0c⟩ := two_facts hx0
      obtain ⟨hx0f, hx0g⟩ := two_frozen hx0
      clear hx1a hx1b hx1c hx1f hx1g
      obtain ⟨hx1a, hx1b, hx1c⟩ := two_facts hx1
      obtain ⟨hx1f, hx1g⟩ := two_frozen hx1
      clear hx2a hx2b hx2c hx2f hx2g
      obtain ⟨hx2a, hx2b, hx2c⟩ := two_facts hx2
      obtain ⟨hx2f, hx2g⟩ := two_frozen hx2
      clear hb2 hbw1
      go_wp2_with fail
      obtain ⟨q1, q2⟩ := two_cells (set_two (.string ⟨#[]⟩) (.string ⟨#[]⟩) hx2)
      refine bodyPost_ret (v := .tuple #[.agg #[.string ⟨#[]⟩, .string ⟨#[]⟩], .bool false]) (by simp [q1, q2, results, Tryz.results18, go_sem]) rfl ⟨rfl, ?_⟩
      exact (hbw2.setCell (by show w.heap.size ≤ w.heap.size + 1 + 1; omega) _).setCell (by show w.heap.size ≤ w.heap.size + 1 + 1; omega) _
    | some q =>
      rw [k] at hk
      obtain ⟨rfl, rfl, hok2, hq1, hq2⟩ := pairOf_some k
      clear k
      show Calls _ _ _ _ (Gives (ansPr (limP (mulP (mulP (invP p) (invP q)) (mulP p q)))) w)
      have hi1 : okP (invP p) := hok1.symm
      have hi2 : okP (invP q) := hok2.symm
      have hu := mulP_ok hi1 hi2
      have huc := mulP_carets hi1 hi2
      have hv := mulP_ok hok1 hok2
      have hvc := mulP_carets hok1 hok2
      have hx := mulP_ok hu hv
      have hxc := mulP_carets hu hv
      have hub := redBy_carets (rawP (invP p) (invP q)) []
      have hvb := redBy_carets (rawP p q) []
      have c1 : (invP p).1.carets = p.2.carets := rfl
      have c2 : (invP p).2.carets = p.1.carets := rfl
      have c3 : (invP q).1.carets = q.2.carets := rfl
      have c4 : (mulP (invP p) (invP q)).1.carets = (mulP (invP p) (invP q)).2.carets := hu
      have c5 : (mulP p q).1.carets = (mulP p q).2.carets := hv
      have I1 : ∀ w, Calls Tryz.prog 41 #[.agg #[.string p.1.str, .string p.2.str]] w (Gives (.agg #[.string (invP p).1.str, .string (invP p).2.str]) w) := fun w => inverse_any p.1.str p.2.str w
      have I2 : ∀ w, Calls Tryz.prog 41 #[.agg #[.string q.1.str, .string q.2.str]] w (Gives (.agg #[.string (invP q).1.str, .string (invP q).2.str]) w) := fun w => inverse_any q.1.str q.2.str w
      have U := fun w => product_any (invP p) (invP q) w hi1 hi2 (by omega) (by omega)
      have V := fun w => product_any p q w hok1 hok2 (by omega) (by omega)
      have X := fun w => product_any (mulP (invP p) (invP q)) (mulP p q) w hu hv (by omega) (by omega)
      have L := fun w => pairLimit_any (mulP (mulP (invP p) (invP q)) (mulP p q)) w
      clear hub hvb huc hvc hxc c1 c2 c3 c4 c5
      generalize hO : limP (mulP (mulP (invP p) (invP q)) (mulP p q)) = o at *
      unfold ansPr at *
      generalize pS1 o = x1 at *
      generalize pS2 o = x2 at *
      generalize o.isSome = ok at *
      clear hO
      generalize mulP (mulP (invP p) (invP q)) (mulP p q) = XX at *
      generalize mulP (invP p) (invP q) = UU at *
      generalize mulP p q = VV at *
      generalize invP p = IP at *
      generalize invP q = IQ at *
      go_enter Tryz.func18, Tryz.ntmps18
      go_wp2_with fail
      have hb0 : Below w.heap.size w (((w.alloc (.cells #[.string p.1.str, .string p.2.str] 25 (0, 0))).alloc (.cells #[.string q.1.str, .string q.2.str] 25 (0, 0))).alloc (.cells #[.string ⟨#[]⟩, .string ⟨#[]⟩] 25 (0, 0))) := nxAlloc (nxAlloc (nxAlloc (Below.refl _ _) _) _) _
      have hx0 := heap_keep (nxAlloc (Below.refl _ _) (.cells #[.string ⟨#[]⟩, .string ⟨#[]⟩] 25 (0, 0))) (heap_keep (nxAlloc (Below.refl _ _) (.cells #[.string q.1.str, .string q.2.str] 25 (0, 0))) (heap_alloc_at w (.cells #[.string p.1.str, .string p.2.str] 25 (0, 0))))
      have hx1 := heap_keep (nxAlloc (Below.refl _ _) (.cells #[.string ⟨#[]⟩, .string ⟨#[]⟩] 25 (0, 0))) (heap_alloc_at (w.alloc (.cells #[.string p.1.str, .string p.2.str] 25 (0, 0))) (.cells #[.string q.1.str, .string q.2.str] 25 (0, 0)))
      have hx2 := heap_alloc_at ((w.alloc (.cells #[.string p.1.str, .string p.2.str] 25 (0, 0))).alloc (.cells #[.string q.1.str, .string q.2.str] 25 (0, 0))) (.cells #[.string ⟨#[]⟩, .string ⟨#[]⟩] 25 (0, 0))
      generalize (((w.alloc (.cells #[.string p.1.str, .string p.2.str] 25 (0, 0))).alloc (.cells #[.string q.1.str, .string q.2.str] 25 (0, 0))).alloc (.cells #[.string ⟨#[]⟩, .string ⟨#[]⟩] 25 (0, 0))) = w0 at *
      have e1 : (w.alloc (.cells #[.string p.1.str, .string p.2.str] 25 (0, 0))).heap.size = w.heap.size + 1 := by simp
      rw [e1] at hx1
      clear e1
      have e2 : ((w.alloc (.cells #[.string p.1.str, .string p.2.str] 25 (0, 0))).alloc (.cells #[.string q.1.str, .string q.2.str] 25 (0, 0))).heap.size = w.heap.size + 1 + 1 := by simp
      rw [e2] at hx2
      clear e2
      obtain ⟨hx0a, hx0b, hx0c⟩ := two_facts hx0
      obtain ⟨hx0f, hx0g⟩ := two_frozen hx0
      obtain ⟨hx1a, hx1b, hx1c⟩ := two_facts hx1
      obtain ⟨hx1f, hx1g⟩ := two_frozen hx1
      obtain ⟨hx2a, hx2b, hx2c⟩ := two_facts hx2
      obtain ⟨hx2f, hx2g⟩ := two_frozen hx2
      refine (hg _).mono ?_; rintro e w1 ⟨rfl, hb1⟩
      have hbw1 := nx hb0 hb1
      replace hx0 := heap_keep hb1 hx0
      replace hx1 := heap_keep hb1 hx1
      replace hx2 := heap_keep hb1 hx2
      clear hx0a hx0b hx0c hx0f hx0g
      obtain ⟨hx0a, hx0b, hx0c⟩ := two_facts hx0
      obtain ⟨hx0f, hx0g⟩ := two_frozen hx0
      clear hx1a hx1b hx1c hx1f hx1g
      obtain ⟨hx1a, hx1b, hx1c⟩ := two_facts hx1
      obtain ⟨hx1f, hx1g⟩ := two_frozen hx1
      clear hx2a hx2b hx2c hx2f hx2g
      obtain ⟨hx2a, hx2b, hx2c⟩ := two_facts hx2
      obtain ⟨hx2f, hx2g⟩ := two_frozen hx2
      clear hb1 hb0
      go_wp2_with fail
      refine (hk _).mono ?_; rintro e w2 ⟨rfl, hb2⟩
      have hbw2 := nx hbw1 hb2
      replace hx0 := heap_keep hb2 hx0
      replace hx1 := heap_keep hb2 hx1
      replace hx2 := heap_keep hb2 hx2
      clear hx0a hx0b hx0c hx0f hx0g
      obtain ⟨hx0a, hx0b, hx0c⟩ := two_facts hx0
      obtain ⟨hx0f, hx0g⟩ := two_frozen hx0
      clear hx1a hx1b hx1c hx1f hx1g
      obtain ⟨hx1a, hx1b, hx1c⟩ := two_facts hx1
      obtain ⟨hx1f, hx1g⟩ := two_frozen hx1
      clear hx2a hx2b hx2c hx2f hx2g
      obtain ⟨hx2a, hx2b, hx2c⟩ := two_facts hx2
      obtain ⟨hx2f, hx2g⟩ := two_frozen hx2
      clear hb2 hbw1
      go_wp2_with fail
      refine wp_region_floatP 5 5 #[true, true, true, true, true, false, false] _ (.cells #[.string ⟨#[]⟩, .string ⟨#[]⟩] 25 (0, 0)) (by kernel_rfl) (by kernel_rfl) rfl (fun _ => rfl) (fun _ _ => rfl) ?_
      simp only [List.take_succ_cons, List.take_zero, List.drop_succ_cons, List.drop_zero, Nat.reduceSub]
      repeat (
        refine wpQuietR_step (fun K hK => ?_)
        go_simp
        first
          | (refine hK _ ?_; clear hK K)
          | (refine ⟨_, fun _ _ => rfl, hK _ ?_⟩; clear hK K)
          | (apply Exists.intro
             refine ⟨fun w' hw' => ?_, hK _ ?_⟩
             · first
                 | (go_at_call 41; first | (with_reducible exact callR (I1 _)) | (with_reducible exact callR (I2 _)))
                 | (go_at_call 37; first | (with_reducible exact callR (U _)) | (with_reducible exact callR (V _)) | (with_reducible exact callR (X _)))
                 | (rw [hw'.cell hx0c hx0a]; dsimp only [Result.andThen]; rw [hw'.cell hx0c hx0b]; exact ⟨rfl, rfl⟩)
                 | (rw [hw'.cell hx1c hx1a]; dsimp only [Result.andThen]; rw [hw'.cell hx1c hx1b]; exact ⟨rfl, rfl⟩)
             clear hK K))
      refine wpQuietR_nil ?_
      refine wpPure_nil ?_
      intro gp w' hw' hx hg
      dsimp only [ptrV]
      obtain ⟨xa, xb, xc⟩ := two_facts hx
      obtain ⟨xf, xg⟩ := two_frozen hx
      refine only_hide (fun K hK => ?_)
      have HK := Lib.hid hK
      clear hK
      go_wp2_with fail
      refine HK.out _ _ ?_
      clear HK K xa xb xc xf xg
      have hB : Below w2.heap.size w2 ((w'.setCell ⟨gp, 0, none⟩ (.string UU.1.str)).setCell ⟨gp, 1, none⟩ (.string UU.2.str)) := (Below.setCell hw' hg _).setCell hg _
      have hy := set_two (.string UU.1.str) (.string UU.2.str) hx
      have hbwf := nx hbw2 hB
      replace hx0 := heap_keep hB hx0
      replace hx1 := heap_keep hB hx1
      replace hx2 := heap_keep hB hx2
      clear hB hbw2
      generalize ((w'.setCell ⟨gp, 0, none⟩ (.string UU.1.str)).setCell ⟨gp, 1, none⟩ (.string UU.2.str)) = wf at *
      clear hw' hx hg w'
      clear hx0a hx0b hx0c hx0f hx0g
      obtain ⟨hx0a, hx0b, hx0c⟩ := two_facts hx0
      obtain ⟨hx0f, hx0g⟩ := two_frozen hx0
      clear hx1a hx1b hx1c hx1f hx1g
      obtain ⟨hx1a, hx1b, hx1c⟩ := two_facts hx1
      obtain ⟨hx1f, hx1g⟩ := two_frozen hx1
      clear hx2a hx2b hx2c hx2f hx2g
      obtain ⟨hx2a, hx2b, hx2c⟩ := two_facts hx2
      obtain ⟨hx2f, hx2g⟩ := two_frozen hx2
      obtain ⟨hya, hyb, hyc⟩ := two_facts hy
      go_wp2_with fail
      refine wp_region_clsT 8 (by kernel_rfl) (by kernel_rfl) ?_
      simp only [List.take_succ_cons, List.take_zero, List.drop_succ_cons, List.drop_zero]
      repeat (
        refine wpQuiet_step (fun K hK => ?_)
        go_simp
        first
          | (refine hK _ ?_; clear hK K)
          | (refine ⟨_, fun _ _ => rfl, hK _ ?_⟩; clear hK K)
          | (apply Exists.intro
             refine ⟨fun w' hw' => ?_, hK _ ?_⟩
             · first
                 | (go_at_call 37; first | (with_reducible exact hw'.call (U _)) | (with_reducible exact hw'.call (V _)) | (with_reducible exact hw'.call (X _)))
                 | (go_at_call 36; exact hw'.call (L _))
                 | (rw [hw'.cell hx0c hx0a]; dsimp only [Result.andThen]; rw [hw'.cell hx0c hx0b]; exact ⟨rfl, rfl⟩)
                 | (rw [hw'.cell hx1c hx1a]; dsimp only [Result.andThen]; rw [hw'.cell hx1c hx1b]; exact ⟨rfl, rfl⟩)
                 | (rw [hw'.cell hyc hya]; dsimp only [Result.andThen]; rw [hw'.cell hyc hyb]; exact ⟨rfl, rfl⟩)
             clear hK K))
      refine wpQuiet_nil ?_
      intro w' hw'
      have hbwg := nx hbwf hw'
      replace hx0 := heap_keep hw' hx0
      replace hx1 := heap_keep hw' hx1
      replace hx2 := heap_keep hw' hx2
      clear hw' hbwf
      clear hx0a hx0b hx0c hx0f hx0g
      obtain ⟨hx0a, hx0b, hx0c⟩ := two_facts hx0
      obtain ⟨hx0f, hx0g⟩ := two_frozen hx0
      clear hx1a hx1b hx1c hx1f hx1g
      obtain ⟨hx1a, hx1b, hx1c⟩ := two_facts hx1
      obtain ⟨hx1f, hx1g⟩ := two_frozen hx1
      clear hx2a hx2b hx2c hx2f hx2g
      obtain ⟨hx2a, hx2b, hx2c⟩ := two_facts hx2
      obtain ⟨hx2f, hx2g⟩ := two_frozen hx2
      go_wp2_with fail
      obtain ⟨q1, q2⟩ := two_cells (set_two (.string x1) (.string x2) hx2)
      refine bodyPost_ret (v := .tuple #[.agg #[.string x1, .string x2], .bool ok]) (by simp [q1, q2, results, Tryz.results18, go_sem]) rfl ⟨rfl, ?_⟩
      exact (hbwg.setCell (by show w.heap.size ≤ w.heap.size + 1 + 1; omega) _).setCell (by show w.heap.size ≤ w.heap.size + 1 + 1; omega) _
end Go.Proofs.YtjmbkieocmhmiaaGreat

/-! Fr1 -/
namespace Go.Proofs.YtjmbkieocmhmiaaGreat
open Go.RowKit

/-- A fraction as a value. -/
abbrev fv (n d : Int) : Value := .agg #[.int .i64 n, .int .i64 d]

set_option maxHeartbeats 1000000 in
theorem mpGood_any (n d : Int) (w : World) :
    Calls Tryz.prog 58 #[.agg #[.int .i64 n, .int .i64 d]] w (Gives (.bool (isFr n d)) w) := by
  by_cases h1 : d < 1 ∨ 1024 < d
  · have e : isFr n d = false := by rw [Bool.eq_false_iff, Ne, isFr_iff]; intro h; have := isP2_bounds h.1; omega
    rw [e]
    clear e
    have H := Lib.hid h1
    clear h1
    go_enter Tryz.func58, Tryz.ntmps58
    go_wp2_with fail
    have hb0 : Below w.heap.size w (w.alloc (.cells #[.int .i64 n, .int .i64 d] 42 (0, 0))) := nxAlloc (Below.refl _ _) _
    have hx0 := heap_alloc_at w (.cells #[.int .i64 n, .int .i64 d] 42 (0, 0))
    generalize (w.alloc (.cells #[.int .i64 n, .int .i64 d] 42 (0, 0))) = w0 at *
    obtain ⟨hx0a, hx0b, hx0c⟩ := two_facts hx0
    obtain ⟨hx0f, hx0g⟩ := two_frozen hx0
    refine (l1In_no d 1 1024 _ H.out).mono ?_; rintro e w' ⟨rfl, rfl⟩
    go_wp2_with fail
    go_ret
    exact ⟨rfl, hb0⟩
  · have h1a : 1 ≤ d := by omega
    have h1b : d ≤ 1024 := by omega
    clear h1
    by_cases h2 : n < 0 ∨ d < n
    · have e : isFr n d = false := by rw [Bool.eq_false_iff, Ne, isFr_iff]; intro h; omega
      rw [e]
      clear e
      have H := Lib.hid h2
      clear h2
      go_enter Tryz.func58, Tryz.ntmps58
      go_wp2_with fail
      have hb0 : Below w.heap.size w (w.alloc (.cells #[.int .i64 n, .int .i64 d] 42 (0, 0))) := nxAlloc (Below.refl _ _) _
      have hx0 := heap_alloc_at w (.cells #[.int .i64 n, .int .i64 d] 42 (0, 0))
      generalize (w.alloc (.cells #[.int .i64 n, .int .i64 d] 42 (0, 0))) = w0 at *
      obtain ⟨hx0a, hx0b, hx0c⟩ := two_facts hx0
      obtain ⟨hx0f, hx0g⟩ := two_frozen hx0
      refine (l1In_yes d 1 1024 _ h1a h1b).mono ?_; rintro e w' ⟨rfl, rfl⟩
      go_wp2_with fail
      refine (l1In_no n 0 d _ H.out).mono ?_; rintro e w' ⟨rfl, rfl⟩
      go_wp2_with fail
      go_ret
      exact ⟨rfl, hb0⟩
    · have h2a : 0 ≤ n := by omega
      have h2b : n ≤ d := by omega
      clear h2
      have e : isFr n d = (isP2 d && (decide (d = 1) || decide (n % 2 = 1))) := by
        unfold isFr
        rw [show decide (0 ≤ n) = true by simpa using h2a, show decide (n ≤ d) = true by simpa using h2b, Bool.true_and, Bool.true_and]
      obtain ⟨R, hR⟩ : ∃ R, R = isFr n d := ⟨_, rfl⟩
      rw [← hR]
      rw [e] at hR
      have HR := Lib.hid hR
      clear e hR
      go_enter Tryz.func58, Tryz.ntmps58
      go_wp2_with fail
      have hb0 : Below w.heap.size w (w.alloc (.cells #[.int .i64 n, .int .i64 d] 42 (0, 0))) := nxAlloc (Below.refl _ _) _
      have hx0 := heap_alloc_at w (.cells #[.int .i64 n, .int .i64 d] 42 (0, 0))
      generalize (w.alloc (.cells #[.int .i64 n, .int .i64 d] 42 (0, 0))) = w0 at *
      obtain ⟨hx0a, hx0b, hx0c⟩ := two_facts hx0
      obtain ⟨hx0f, hx0g⟩ := two_frozen hx0
      refine (l1In_yes d 1 1024 _ h1a h1b).mono ?_; rintro e w' ⟨rfl, rfl⟩
      go_wp2_with fail
      refine (l1In_yes n 0 d _ h2a h2b).mono ?_; rintro e w' ⟨rfl, rfl⟩
      go_wp2_with fail
      go_loop [3] (fun i => ∃ k : Int, i = .int .i64 k ∧ 1 ≤ k ∧ k ≤ 1024 ∧ Hid (isP2 d = isP2 k)) (fun i => (intOf i).toNat)
      case atStart => exact ⟨d, rfl, h1a, h1b, rfl⟩
      case round =>
        obtain ⟨k, rfl, k1, k2, he⟩ := hrel
        by_cases hlt : 1 < k
        · by_cases hodd : k % 2 = 1
          · have he' := he.out
            rw [isP2_odd hlt hodd] at he'
            have HE := Lib.hid he'
            clear he he'
            go_wp2_with fail
            go_ret
            refine ⟨ret_bool ?_, hb0⟩
            rw [HR.out, HE.out, Bool.false_and]
          · have he' := he.out
            rw [← isP2_half hlt k2 hodd] at he'
            have HE := Lib.hid he'
            clear he he'
            go_wp2_with fail
            go_round
            case rel => exact ⟨k / 2, by go_num, by omega, by omega, HE⟩
            case measure => simp [intOf]; omega
        · obtain rfl : k = 1 := by omega
          have he' := he.out
          rw [show isP2 1 = true by decide] at he'
          have HE := Lib.hid he'
          clear he he'
          by_cases hd : d = 1
          · have hd0 : (d == 1) = true := by rw [beq_iff_eq]; exact hd
            have HD := Lib.hid hd
            clear hd
            go_wp2_with fail
            go_ret
            refine ⟨ret_bool ?_, hb0⟩
            rw [HR.out, HE.out, HD.out]
            rfl
          · have hd0 : (d == 1) = false := by rw [beq_eq_false_iff_ne]; exact hd
            have HD := Lib.hid hd
            clear hd
            go_wp2_with fail
            go_ret
            refine ⟨ret_bool ?_, hb0⟩
            rw [HR.out, HE.out, decide_eq_false HD.out]
            rfl

/-- A fraction as an answer, zeros for none. -/
def fS1 (o : Option (Nat × Nat)) : Int := match o with
  | some x => x.1
  | none => 0
def fS2 (o : Option (Nat × Nat)) : Int := match o with
  | some x => x.2
  | none => 0
def ansF (o : Option (Nat × Nat)) : Value := .tuple #[.agg #[.int .i64 (fS1 o), .int .i64 (fS2 o)], .bool o.isSome]

set_option maxHeartbeats 1000000 in
theorem mpGcd_any (a b : Nat) (w : World) (ha : (a : Int) ≤ 9223372036854775807) (hb : (b : Int) ≤ 9223372036854775807) :
    Calls Tryz.prog 117 #[.int .i64 a, .int .i64 b] w (Gives (.int .i64 (Nat.gcd a b : Nat)) w) := by
  go_enter Tryz.func117, Tryz.ntmps117
  go_wp2_with fail
  go_loopw [0, 1] (fun i j wr => ∃ x y : Nat, i = .int .i64 x ∧ j = .int .i64 y ∧ (x : Int) ≤ 9223372036854775807 ∧ (y : Int) ≤ 9223372036854775807 ∧ Below w.heap.size w wr ∧ Hid (Nat.gcd a b = Nat.gcd x y)) (fun _ j _ => (intOf j).toNat)
  case atStart => exact ⟨a, b, rfl, rfl, ha, hb, Below.refl _ _, rfl⟩
  case round =>
    obtain ⟨x, y, rfl, rfl, hx, hy, hbw, he⟩ := hrel
    by_cases hlt : (0 : Int) < y
    · have he' := he.out
      rw [Nat.gcd_comm x y, Nat.gcd_rec y x, Nat.gcd_comm (x % y) y] at he'
      have hy0 : ((y : Int) == 0) = false := by rw [beq_eq_false_iff_ne]; omega
      have hmod : x % y < y := Nat.mod_lt _ (by omega)
      have HE := Lib.hid he'
      clear he he'
      go_wp2_with fail
      go_quiet (fail)
      go_wp2_with fail
      go_roundw
      case rel => exact ⟨y, x % y, rfl, by go_num, hy, by omega, drewB hbw _, HE⟩
      case measure => simp [intOf]; omega
    · obtain rfl : y = 0 := by omega
      have he' := he.out
      rw [Nat.gcd_zero_right] at he'
      have HE := Lib.hid he'
      clear he he'
      go_wp2_with fail
      go_ret
      exact ⟨ret_int (by rw [HE.out]), hbw⟩
end Go.Proofs.YtjmbkieocmhmiaaGreat

/-! Fr2 -/
namespace Go.Proofs.YtjmbkieocmhmiaaGreat
open Go.RowKit

theorem wrap_div {n g : Nat} (h : (n : Int) ≤ 4611686018427387904) : IntKind.i64.wrap ((n : Int) / (g : Int)) = ((n / g : Nat) : Int) := by
  have h1 := Nat.div_le_self n g
  rw [← Int.natCast_ediv]
  generalize n / g = x at *
  rw [IntKind.wrap_i64] <;> omega
set_option maxHeartbeats 1000000 in
theorem mpShort_any (n d : Nat) (w : World) (hd : 0 < d) (hn2 : (n : Int) ≤ 4611686018427387904) (hd2 : (d : Int) ≤ 4611686018427387904) :
    Calls Tryz.prog 94 #[.int .i64 n, .int .i64 d] w (Gives (.agg #[.int .i64 (shortN n d).1, .int .i64 (shortN n d).2]) w) := by
  have hg := fun w => mpGcd_any n d w (by omega) (by omega)
  have g0 : 0 < Nat.gcd n d := Nat.gcd_pos_of_pos_right _ hd
  unfold shortN
  dsimp only
  generalize Nat.gcd n d = g at *
  have hg0 : ((g : Int) == 0) = false := by rw [beq_eq_false_iff_ne]; omega
  have q1 := wrap_div (g := g) hn2
  have q2 := wrap_div (g := g) hd2
  generalize n / g = x1 at *
  generalize d / g = x2 at *
  have HQ1 := Lib.hid q1
  have HQ2 := Lib.hid q2
  clear q1 q2
  go_enter Tryz.func94, Tryz.ntmps94
  go_wp2_with fail
  have hb0 : Below w.heap.size w (w.alloc (.cells #[.int .i64 0, .int .i64 0] 42 (0, 0))) := nxAlloc (Below.refl _ _) _
  have hx0 := heap_alloc_at w (.cells #[.int .i64 0, .int .i64 0] 42 (0, 0))
  generalize (w.alloc (.cells #[.int .i64 0, .int .i64 0] 42 (0, 0))) = w0 at *
  obtain ⟨hx0a, hx0b, hx0c⟩ := two_facts hx0
  obtain ⟨hx0f, hx0g⟩ := two_frozen hx0
  refine (hg _).mono ?_; rintro e w1 ⟨rfl, hb1⟩
  have hbw1 := nx hb0 hb1
  replace hx0 := heap_keep hb1 hx0
  clear hx0a hx0b hx0c hx0f hx0g
  obtain ⟨hx0a, hx0b, hx0c⟩ := two_facts hx0
  obtain ⟨hx0f, hx0g⟩ := two_frozen hx0
  clear hb1 hb0
  go_wp2_with fail
  refine wp_region_clsT 7 (by kernel_rfl) (by kernel_rfl) ?_
  simp only [List.take_succ_cons, List.take_zero, List.drop_succ_cons, List.drop_zero]
  repeat (
    refine wpQuiet_step (fun K hK => ?_)
    go_simp
    first
      | (refine hK _ ?_; clear hK K)
      | (refine ⟨_, fun _ _ => rfl, hK _ ?_⟩; clear hK K)
      | (apply Exists.intro
         refine ⟨fun w' hw' => ?_, hK _ ?_⟩
         · first
             | (rw [if_neg (by omega), HQ1.out]; exact ⟨rfl, rfl⟩)
             | (rw [if_neg (by omega), HQ2.out]; exact ⟨rfl, rfl⟩)
         clear hK K))
  refine wpQuiet_nil ?_
  intro w' hw'
  have hbwf := nx hbw1 hw'
  replace hx0 := heap_keep hw' hx0
  clear hw' hbw1
  clear hx0a hx0b hx0c hx0f hx0g
  obtain ⟨hx0a, hx0b, hx0c⟩ := two_facts hx0
  obtain ⟨hx0f, hx0g⟩ := two_frozen hx0
  go_wp2_with fail
  obtain ⟨q1, q2⟩ := two_cells (set_two (.int .i64 x1) (.int .i64 x2) hx0)
  refine bodyPost_ret (v := .agg #[.int .i64 x1, .int .i64 x2]) (by simp [q1, q2, results, Tryz.results94, go_sem]) rfl ⟨rfl, ?_⟩
  exact (hbwf.setCell (by show w.heap.size ≤ w.heap.size; omega) _).setCell (by show w.heap.size ≤ w.heap.size; omega) _

/-- The half of a sum of two fractions. -/
def halfO (n d m e : Int) : Option (Nat × Nat) := if isFr n d = true ∧ isFr m e = true then frA ((stepsOf n d + stepsOf m e) / 2) else none
theorem isFr_nats {n d : Int} (h : isFr n d = true) : ∃ a b : Nat, n = a ∧ d = b ∧ a ≤ b ∧ 1 ≤ b ∧ b ≤ 1024 := by
  obtain ⟨h1, h2, h3, h4⟩ := isFr_iff.1 h
  have := isP2_bounds h1
  exact ⟨n.toNat, d.toNat, by omega, by omega, by omega, by omega, by omega⟩
theorem mul_bound {a b : Nat} {x y : Nat} (h : a ≤ x) (k : b ≤ y) : a * b ≤ x * y := Nat.mul_le_mul h k

end Go.Proofs.YtjmbkieocmhmiaaGreat

/-! AdP -/
namespace Go.Proofs.YtjmbkieocmhmiaaGreat

/-- The letters of a number in the base 2. -/
def bitsL (m len : Nat) : List UInt8 := (List.range len).map fun i => UInt8.ofNat (48 + m / 2 ^ (len - 1 - i) % 2)
theorem bitsL_length (m len : Nat) : (bitsL m len).length = len := by simp [bitsL]
theorem bitsL_take {m len k : Nat} (h : k < len) : (bitsL m len).take (k + 1) = (bitsL m len).take k ++ [UInt8.ofNat (48 + m / 2 ^ (len - 1 - k) % 2)] := by
  rw [List.take_succ_eq_append_getElem (by rw [bitsL_length]; exact h)]
  simp [bitsL]
/-- How many intervals of addresses with so many letters lie in front. -/
def adM (n d len : Nat) : Nat := n * (2 ^ len / d)
/-- The address of a fraction. -/
def adO (n d len : Int) : Option ByteArray :=
  if isFr n d = true ∧ 0 ≤ len ∧ len ≤ 10 ∧ n ≠ d ∧ d ≤ ((2 ^ len.toNat : Nat) : Int) then some ⟨(bitsL (adM n.toNat d.toNat len.toNat) len.toNat).toArray⟩ else none
theorem steps_whole {n d : Nat} (h : isFr n d = true) : stepsOf n d = 1048576 ↔ n = d := by
  obtain ⟨h1, h2, h3, h4⟩ := isFr_iff.1 h
  unfold stepsOf
  rcases isP2_mem.1 h1 with e | e | e | e | e | e | e | e | e | e | e <;>
    (have e' := congrArg Int.toNat e; simp at e'; subst e'; simp; try omega)
theorem small_cases {len : Nat} (h : len ≤ 10) : len = 0 ∨ len = 1 ∨ len = 2 ∨ len = 3 ∨ len = 4 ∨ len = 5 ∨ len = 6 ∨ len = 7 ∨ len = 8 ∨ len = 9 ∨ len = 10 := by omega
theorem steps_fit {n d len : Nat} (h : isFr n d = true) (hl : len ≤ 10) : stepsOf n d % 2 ^ (20 - len) = 0 ↔ d ≤ 2 ^ len := by
  obtain ⟨h1, h2, h3, h4⟩ := isFr_iff.1 h
  unfold stepsOf
  rcases isP2_mem.1 h1 with e | e | e | e | e | e | e | e | e | e | e <;>
    (have e' := congrArg Int.toNat e
     simp at e'
     subst e'
     rcases small_cases hl with f | f | f | f | f | f | f | f | f | f | f <;> (subst f; simp; try omega))
theorem steps_adM {n d len : Nat} (h : isFr n d = true) (hl : len ≤ 10) (hd : d ≤ 2 ^ len) : stepsOf n d = adM n d len * 2 ^ (20 - len) := by
  obtain ⟨h1, h2, h3, h4⟩ := isFr_iff.1 h
  obtain ⟨k, hk, e⟩ := isP2_pow h1
  have e' : d = 2 ^ k := by omega
  have hkl : k ≤ len := by
    rw [e'] at hd
    exact (Nat.pow_le_pow_iff_right (by omega)).1 hd
  unfold stepsOf adM
  rw [Int.toNat_natCast, Int.toNat_natCast, e']
  have e1 : 1048576 = 2 ^ (20 - k) * 2 ^ k := by rw [← Nat.pow_add, show 20 - k + k = 20 by omega]
  have e2 : 2 ^ len = 2 ^ (len - k) * 2 ^ k := by rw [← Nat.pow_add, show len - k + k = len by omega]
  rw [e1, e2, Nat.mul_div_cancel _ (Nat.pow_pos (by omega)), Nat.mul_div_cancel _ (Nat.pow_pos (by omega)), Nat.mul_assoc, ← Nat.pow_add, show len - k + (20 - len) = 20 - k by omega]
theorem steps_bit {n d len i : Nat} (h : isFr n d = true) (hl : len ≤ 10) (hd : d ≤ 2 ^ len) (hi : i < len) : stepsOf n d / 2 ^ (19 - i) % 2 = adM n d len / 2 ^ (len - 1 - i) % 2 := by
  rw [steps_adM h hl hd, show 19 - i = (len - 1 - i) + (20 - len) by omega, Nat.pow_add, Nat.mul_div_mul_right _ _ (Nat.pow_pos (by omega))]
theorem adM_lt {n d len : Nat} (h : isFr n d = true) (hl : len ≤ 10) : adM n d len ≤ 1024 := by
  obtain ⟨h1, h2, h3, h4⟩ := isFr_iff.1 h
  have hd : 1 ≤ d := by have := isP2_bounds h1; omega
  unfold adM
  have a : n * (2 ^ len / d) ≤ d * (2 ^ len / d) := Nat.mul_le_mul_right _ (by omega)
  have b : d * (2 ^ len / d) ≤ 2 ^ len := Nat.mul_div_le _ _
  have c : 2 ^ len ≤ 2 ^ 10 := Nat.pow_le_pow_right (by omega) hl
  omega
end Go.Proofs.YtjmbkieocmhmiaaGreat

/-! Fs1 -/
namespace Go.Proofs.YtjmbkieocmhmiaaGreat
open Go.RowKit

set_option maxHeartbeats 2000000 in
theorem widthOf_any (k : Nat) (w : World) (h : k ≤ 10) :
    Calls Tryz.prog 120 #[.int .i64 k] w fun e w' => e = .returned (.int .i64 ((2 ^ (20 - k) : Nat) : Int)) ∧ w = w' := by
  rcases small_cases h with e | e | e | e | e | e | e | e | e | e | e <;>
    (subst e
     go_enter Tryz.func120, Tryz.ntmps120
     go_wp2_with fail
     go_ret
     exact ⟨rfl, rfl⟩)

theorem getD_at {l : List UInt8} {k : Nat} (h : k < l.length) : l.getD k 0 = l[k]'h := by simp [h]
/-- What letters make so far. -/
theorem start_steps {a : ByteArray} (h : a.size ≤ 10) (hb : a.data.toList.all isBit = true) :
    ∃ P : Nat → Nat, P 0 = 0 ∧ P a.size = stA a ∧ (∀ k, k ≤ a.size → P k ≤ 1048576) ∧ ∀ k (hk : k < a.size), ((a[k]'hk).toNat = 48 ∧ P (k + 1) = P k) ∨ ((a[k]'hk).toNat = 49 ∧ P (k + 1) = P k + 2 ^ (20 - (k + 1))) := by
  refine ⟨fun k => numA (a.data.toList.take k) * 2 ^ (20 - k), by simp [numA], ?_, ?_, ?_⟩
  · show numA (a.data.toList.take a.data.toList.length) * _ = _
    rw [List.take_length]; rfl
  · intro k hk
    have hk' : k ≤ a.data.toList.length := hk
    have h1 := numA_lt k (a.data.toList.take k) (by rw [List.length_take]; omega) (by rw [List.all_eq_true] at hb ⊢; exact fun x hx => hb x (List.mem_of_mem_take hx))
    show numA (a.data.toList.take k) * 2 ^ (20 - k) ≤ 1048576
    have h2 := Nat.mul_le_mul_right (2 ^ (20 - k)) (Nat.le_of_lt h1)
    rw [← Nat.pow_add, show k + (20 - k) = 20 by omega] at h2
    exact h2
  · intro k hk
    have hk' : k < a.data.toList.length := hk
    have e : (a[k]'hk) = a.data.toList[k]'hk' := by cases a; simp; rfl
    have hbk := isBit_nat ((List.all_eq_true.1 hb) _ (List.getElem_mem hk'))
    have eg : (a.data.toList.getD k 0) = a.data.toList[k]'hk' := getD_at hk'
    have hp : 2 ^ (20 - k) = 2 * 2 ^ (20 - (k + 1)) := by
      rw [show 20 - k = (20 - (k + 1)) + 1 by omega, Nat.pow_succ]; omega
    have hn := numA_take hk'
    rw [eg] at hn
    rw [e]
    show _ ∨ (_ ∧ numA (a.data.toList.take (k + 1)) * 2 ^ (20 - (k + 1)) = numA (a.data.toList.take k) * 2 ^ (20 - k) + 2 ^ (20 - (k + 1)))
    rcases hbk with hb' | hb'
    · left
      refine ⟨hb', ?_⟩
      show numA (a.data.toList.take (k + 1)) * 2 ^ (20 - (k + 1)) = numA (a.data.toList.take k) * 2 ^ (20 - k)
      rw [hn, hb', hp, Nat.sub_self, Nat.add_zero]
      ac_rfl
    · right
      refine ⟨hb', ?_⟩
      rw [hn, hb', hp, show 49 - 48 = 1 by rfl, Nat.add_mul, Nat.one_mul]
      congr 1
      ac_rfl

set_option maxHeartbeats 2000000 in
theorem startOf_any (a : ByteArray) (w : World) (h : a.size ≤ 10) (hb : a.data.toList.all isBit = true) :
    Calls Tryz.prog 99 #[.string a] w (Gives (.int .i64 (stA a)) w) := by
  obtain ⟨P, h0, h1, h2, h3⟩ := start_steps h hb
  rw [← h1]
  have H3 := Lib.hid h3
  have H2 := Lib.hid h2
  have H0 := Lib.hid h0
  clear h0 h1 h2 h3 hb
  go_enter Tryz.func99, Tryz.ntmps99
  go_wp2_with fail
  go_loopw [3, 7] (fun s i wr => ∃ k : Nat, k ≤ a.size ∧ i = .int .i64 k ∧ s = .int .i64 (P k) ∧ Below w.heap.size w wr) (fun _ i _ => a.size - (intOf i).toNat)
  case atStart => exact ⟨0, Nat.zero_le _, rfl, by rw [H0.out]; rfl, Below.refl _ _⟩
  case round =>
    obtain ⟨k, hk, rfl, rfl, hbw⟩ := hrel
    by_cases hlt : k < a.size
    · have hW := fun w => widthOf_any (k + 1) w (by omega)
      have hp := H2.out (k + 1) (by omega)
      have hq := H2.out k hk
      have h4 := H3.out k hlt
      have i1 : (((k + 1 : Nat) : Nat) : Int) = (k : Int) + 1 := by omega
      rw [i1] at hW
      have hq9 : (2 : Nat) ^ (20 - (k + 1)) ≤ 2 ^ 20 := Nat.pow_le_pow_right (by omega) (by omega)
      generalize hqq : (2 : Nat) ^ (20 - (k + 1)) = q at *
      clear i1 hqq
      rcases h4 with ⟨hx, hp'⟩ | ⟨hx, hp'⟩
      · skip
        have hv : (((a[k]'hlt).toNat : Nat) : Int) = 48 := by omega
        have HP := Lib.hid hp'
        clear hx hp'
        go_wp2_with fail
        go_quiet ((go_at_call 120; with_reducible exact quiet_eq (hW _)))
        go_wp2_with fail
        go_roundw
        case rel => exact ⟨k + 1, by omega, by go_num, (by first | (rw [HP.out]; done) | (rw [HP.out]; go_num)), drewB hbw _⟩
        case measure => simp [intOf]; omega
      · skip
        have hv : (((a[k]'hlt).toNat : Nat) : Int) = 49 := by omega
        have HP := Lib.hid hp'
        clear hx hp'
        go_wp2_with fail
        go_quiet ((go_at_call 120; with_reducible exact quiet_eq (hW _)))
        go_wp2_with fail
        go_roundw
        case rel => exact ⟨k + 1, by omega, by go_num, (by first | (rw [HP.out]; done) | (rw [HP.out]; go_num)), drewB hbw _⟩
        case measure => simp [intOf]; omega
    · obtain rfl : k = a.size := by omega
      go_wp2_with fail
      go_ret
      exact ⟨rfl, hbw⟩
end Go.Proofs.YtjmbkieocmhmiaaGreat

/-! RowW -/
namespace Go.Proofs.YtjmbkieocmhmiaaGreat
open Go.RowKit

/-- v is a slice of n structs of type e, of c integers each: L, one after the other. -/
def OwnW (e : TypeId) (c base : Nat) (w : World) (v : Value) (n : Nat) (L : List Int) : Prop := w.ownsRow base e c v n (L.map (Value.int .i64))
theorem OwnW.keep {e : TypeId} {c base : Nat} {w w' : World} {v : Value} {n : Nat} {L : List Int} (h : OwnW e c base w v n L) (hb : Below w.heap.size w w') : OwnW e c base w' v n L := ownsRow_keep h hb
theorem OwnW.mono {e : TypeId} {c base base' : Nat} {w : World} {v : Value} {n : Nat} {L : List Int} (h : OwnW e c base w v n L) (hb : base' ≤ base) : OwnW e c base' w v n L := ownsRow_mono h hb
theorem OwnW.nil (e : TypeId) (c base : Nat) (w : World) : OwnW e c base w (.slice none 0 0) 0 [] := World.ownsRow_nil _ _ _ _
theorem OwnW.len {e : TypeId} {c base : Nat} {w : World} {v : Value} {n : Nat} {L : List Int} (h : OwnW e c base w v n L) : L.length = n * c := by
  have := h.1; simpa using this
/-- What can be read of such a slice. -/
def CellsW (c base : Nat) (w : World) (v : Value) (n : Nat) (L : List Int) : Prop :=
  (v = .slice none 0 0 ∧ n = 0) ∨ ∃ g cap : Nat, v = .slice (some ⟨g, 0, none⟩) n cap ∧ base ≤ g ∧ g < w.heap.size ∧ n ≤ cap ∧ cap ≤ maxLen ∧
    (∀ i, i < n * c → w.cell? ⟨g, i, none⟩ = some (.int .i64 (L.getD i 0))) ∧ ∀ i, w.frozen? ⟨g, i, none⟩ = false
theorem OwnW.cells {e : TypeId} {c base : Nat} {w : World} {v : Value} {n : Nat} {L : List Int} (h : OwnW e c base w v n L) : CellsW c base w v n L := by
  have h0 := h
  have hl := h.len
  obtain ⟨h1, h2⟩ := h
  rcases h2 with ⟨hv, hn⟩ | ⟨g, cap, cur, hv, hg, hh, r1, r2, r3⟩
  · exact .inl ⟨hv, hn⟩
  · subst hv
    refine .inr ⟨g, cap, rfl, hg, lt_of_block hh, r1, r2, fun i hi => ?_, fun i => World.ownsRow.frozenAt h0 i⟩
    have := World.ownsRow.cellAt h0 i (by omega)
    rw [this]
    have hi' : i < L.length := by omega
    simp [hi']
theorem CellsW.keep {c base : Nat} {w w' : World} {v : Value} {n : Nat} {L : List Int} (h : CellsW c base w v n L) (hb : Below w.heap.size w w') : CellsW c base w' v n L := by
  rcases h with h | ⟨g, cap, hv, h1, h2, h3, h4, h5, h6⟩
  · exact .inl h
  · refine .inr ⟨g, cap, hv, h1, Nat.lt_of_lt_of_le h2 hb.size, h3, h4, fun i hi => (hb.cell (p := ⟨g, i, none⟩) h2).trans (h5 i hi), fun i => (hb.frozen (p := ⟨g, i, none⟩) h2).trans (h6 i)⟩
/-- Pairs of numbers, one after the other. -/
def flatF : List (Nat × Nat) → List Int
  | [] => []
  | x :: l => (x.1 : Int) :: (x.2 : Int) :: flatF l
theorem flatF_length (l : List (Nat × Nat)) : (flatF l).length = l.length * 2 := by
  induction l with
  | nil => rfl
  | cons x l ih => simp [flatF, ih]; omega
theorem flatF_append (l m : List (Nat × Nat)) : flatF (l ++ m) = flatF l ++ flatF m := by
  induction l with
  | nil => rfl
  | cons x l ih => simp [flatF, ih]
theorem flatF_get (l : List (Nat × Nat)) : ∀ k, k < l.length → (flatF l).getD (k * 2) 0 = ((l.getD k (0, 0)).1 : Int) ∧ (flatF l).getD (k * 2 + 1) 0 = ((l.getD k (0, 0)).2 : Int) := by
  induction l with
  | nil => intro k hk; simp at hk
  | cons x l ih =>
    intro k hk
    match k with
    | 0 => exact ⟨rfl, rfl⟩
    | k + 1 =>
      have := ih k (by simpa using hk)
      rw [show (k + 1) * 2 = k * 2 + 2 by omega]
      exact this
/-- v is a slice of fractions that the call has made. -/
def OwnF (base : Nat) (w : World) (v : Value) (xs : List (Nat × Nat)) : Prop := OwnW 42 2 base w v xs.length (flatF xs)
theorem OwnF.keep {base : Nat} {w w' : World} {v : Value} {xs : List (Nat × Nat)} (h : OwnF base w v xs) (hb : Below w.heap.size w w') : OwnF base w' v xs := OwnW.keep h hb
theorem OwnF.mono {base base' : Nat} {w : World} {v : Value} {xs : List (Nat × Nat)} (h : OwnF base w v xs) (hb : base' ≤ base) : OwnF base' w v xs := OwnW.mono h hb
theorem OwnF.cells {base : Nat} {w : World} {v : Value} {xs : List (Nat × Nat)} (h : OwnF base w v xs) : CellsW 2 base w v xs.length (flatF xs) := OwnW.cells h
def AnsF2 (xs : List (Nat × Nat)) (ok : Bool) (w : World) (e : Ending) (w' : World) : Prop :=
  ∃ v, OwnF w.heap.size w' v xs ∧ Below w.heap.size w w' ∧ e = .returned (.tuple #[v, .bool ok])
def AnsFs (o : Option (List (Nat × Nat))) (w : World) (e : Ending) (w' : World) : Prop := AnsF2 (o.getD []) o.isSome w e w'
/-- A call that hands back a slice of fractions of its own. -/
def GivesF (xs : List (Nat × Nat)) (w : World) (e : Ending) (w' : World) : Prop :=
  ∃ v, OwnF w.heap.size w' v xs ∧ Below w.heap.size w w' ∧ e = .returned v
theorem info_frac : (Tryz.prog.info? 42).map (fun i => (i.zero, i.size, i.bytes)) = some (some (.agg #[.int .i64 0, .int .i64 0]), 2, 16) := by kernel_rfl
/-- What an append of one struct asks. -/
theorem newsK (w : World) (cs : Array Value) (e : TypeId) : ∀ (j : Nat) (u : Value), cs.toList[j]? = some u → (w.alloc (.cells cs e)).cell? ((⟨w.heap.size, 0, none⟩ : Addr).add j) = some u := by
  intro j u hj
  have hb : (w.alloc (.cells cs e)).heap[w.heap.size]? = some (.cells cs e (0, 0)) := by show (w.heap.push _)[w.heap.size]? = _; simp
  rw [addr_add]
  simp only [World.cell?, hb]
  simpa using hj
theorem OwnF.snoc {base : Nat} {w : World} {v : Value} {xs : List (Nat × Nat)} {a b : Nat} (h : w.ownsRow base 42 2 v (xs.length + 1) ((flatF xs).map (Value.int .i64) ++ [Value.int .i64 a, Value.int .i64 b])) : OwnF base w v (xs ++ [(a, b)]) := by
  unfold OwnF OwnW
  rw [List.length_append, flatF_append, List.map_append]
  exact h
end Go.Proofs.YtjmbkieocmhmiaaGreat

/-! Fs2 -/
namespace Go.Proofs.YtjmbkieocmhmiaaGreat
open Go.RowKit

theorem num_steps {a : ByteArray} (h : a.size ≤ 10) (hb : a.data.toList.all isBit = true) :
    ∃ N : Nat → Nat, N 0 = 0 ∧ N a.size = numA a.data.toList ∧ (∀ k, k ≤ a.size → N k ≤ 1024) ∧ ∀ k (hk : k < a.size), ((a[k]'hk).toNat = 48 ∧ N (k + 1) = 2 * N k) ∨ ((a[k]'hk).toNat = 49 ∧ N (k + 1) = 2 * N k + 1) := by
  refine ⟨fun k => numA (a.data.toList.take k), by simp [numA], ?_, ?_, ?_⟩
  · show numA (a.data.toList.take a.data.toList.length) = _
    rw [List.take_length]
  · intro k hk
    have hk' : k ≤ a.data.toList.length := hk
    have h1 := numA_lt k (a.data.toList.take k) (by rw [List.length_take]; omega) (by rw [List.all_eq_true] at hb ⊢; exact fun x hx => hb x (List.mem_of_mem_take hx))
    have h2 : (2 : Nat) ^ k ≤ 2 ^ 10 := Nat.pow_le_pow_right (by omega) (by omega)
    show numA (a.data.toList.take k) ≤ 1024
    omega
  · intro k hk
    have hk' : k < a.data.toList.length := hk
    have e : (a[k]'hk) = a.data.toList[k]'hk' := by cases a; simp; rfl
    have hbk := isBit_nat ((List.all_eq_true.1 hb) _ (List.getElem_mem hk'))
    have eg : (a.data.toList.getD k 0) = a.data.toList[k]'hk' := getD_at hk'
    have hn := numA_take hk'
    rw [eg] at hn
    rw [e]
    show (_ ∧ numA (a.data.toList.take (k + 1)) = 2 * numA (a.data.toList.take k)) ∨ (_ ∧ numA (a.data.toList.take (k + 1)) = 2 * numA (a.data.toList.take k) + 1)
    omega

set_option maxHeartbeats 2000000 in
set_option maxRecDepth 100000 in
theorem mpOf_any (a : ByteArray) (w : World) (h : a.size ≤ 10) (hb : a.data.toList.all isBit = true) :
    Calls Tryz.prog 93 #[.string a] w (Gives (.agg #[.int .i64 (frOf (stA a)).1, .int .i64 (frOf (stA a)).2]) w) := by
  obtain ⟨N, h0, h1, h2, h3⟩ := num_steps h hb
  have hsh : wrap64 ((2 : Int) ^ a.size) = ((2 ^ a.size : Nat) : Int) := by
    rcases small_cases h with e | e | e | e | e | e | e | e | e | e | e <;> (rw [e]; decide +kernel)
  have hp : 2 ^ a.size ≤ 2 ^ 10 := Nat.pow_le_pow_right (by omega) h
  have hM := fun w => mpShort_any (N a.size) (2 ^ a.size) w (Nat.pow_pos (by omega)) (by have := h2 a.size (Nat.le_refl _); omega) (by omega)
  rw [← hsh] at hM
  clear hsh
  rw [stA_frOf (by omega), ← h1]
  generalize (shortN (N a.size) (2 ^ a.size)).1 = x1 at *
  generalize (shortN (N a.size) (2 ^ a.size)).2 = x2 at *
  have H3 := Lib.hid h3
  have H2 := Lib.hid h2
  have H0 := Lib.hid h0
  clear h0 h1 h2 h3 hb hp
  go_enter Tryz.func93, Tryz.ntmps93
  go_wp2_with fail
  have hb0 : Below w.heap.size w (w.alloc (.cells #[.int .i64 0, .int .i64 0] 42 (0, 0))) := nxAlloc (Below.refl _ _) _
  have hx0 := heap_alloc_at w (.cells #[.int .i64 0, .int .i64 0] 42 (0, 0))
  generalize (w.alloc (.cells #[.int .i64 0, .int .i64 0] 42 (0, 0))) = w0 at *
  obtain ⟨hx0a, hx0b, hx0c⟩ := two_facts hx0
  obtain ⟨hx0f, hx0g⟩ := two_frozen hx0
  go_loop [3, 4] (fun s i => ∃ k : Nat, k ≤ a.size ∧ i = .int .i64 k ∧ s = .int .i64 (N k)) (fun _ i => a.size - (intOf i).toNat)
  case atStart => exact ⟨0, Nat.zero_le _, rfl, by rw [H0.out]; rfl⟩
  case round =>
    obtain ⟨k, hk, rfl, rfl⟩ := hrel
    by_cases hlt : k < a.size
    · have hp := H2.out (k + 1) (by omega)
      have hq := H2.out k hk
      have h4 := H3.out k hlt
      rcases h4 with ⟨hx, hp'⟩ | ⟨hx, hp'⟩
      · have hv : (((a[k]'hlt).toNat : Nat) : Int) = 48 := by omega
        have HP := Lib.hid hp'
        clear hx hp'
        go_wp2_with fail
        go_round
        case rel => exact ⟨k + 1, by omega, by go_num, (by first | (rw [HP.out]; done) | (rw [HP.out]; go_num))⟩
        case measure => simp [intOf]; omega
      · have hv : (((a[k]'hlt).toNat : Nat) : Int) = 49 := by omega
        have HP := Lib.hid hp'
        clear hx hp'
        go_wp2_with fail
        go_round
        case rel => exact ⟨k + 1, by omega, by go_num, (by first | (rw [HP.out]; done) | (rw [HP.out]; go_num))⟩
        case measure => simp [intOf]; omega
    · obtain rfl : k = a.size := by omega
      go_wp2_with fail
      refine (hM _).mono ?_; rintro e w1 ⟨rfl, hb1⟩
      have hbw1 := nx hb0 hb1
      replace hx0 := heap_keep hb1 hx0
      clear hx0a hx0b hx0c hx0f hx0g
      obtain ⟨hx0a, hx0b, hx0c⟩ := two_facts hx0
      obtain ⟨hx0f, hx0g⟩ := two_frozen hx0
      clear hb1 hb0
      go_wp2_with fail
      obtain ⟨q1, q2⟩ := two_cells (set_two (.int .i64 x1) (.int .i64 x2) hx0)
      refine bodyPost_ret (v := .agg #[.int .i64 x1, .int .i64 x2]) (by simp [q1, q2, results, Tryz.results93, go_sem]) rfl ⟨rfl, ?_⟩
      exact (hbw1.setCell (by show w.heap.size ≤ w.heap.size; omega) _).setCell (by show w.heap.size ≤ w.heap.size; omega) _
end Go.Proofs.YtjmbkieocmhmiaaGreat

/-! Fr3 -/
namespace Go.Proofs.YtjmbkieocmhmiaaGreat
open Go.RowKit

def pop1 (d : Int) : Int := IntKind.u64.wrap (bits BinOp.and IntKind.u64 (d / 2) 6148914691236517205 + bits BinOp.and IntKind.u64 d 6148914691236517205)
def pop2 (x : Int) : Int := IntKind.u64.wrap (bits BinOp.and IntKind.u64 (x / 4) 3689348814741910323 + bits BinOp.and IntKind.u64 x 3689348814741910323)
def pop3 (x : Int) : Int := bits BinOp.and IntKind.u64 (IntKind.u64.wrap (x / 16 + x)) 1085102592571150095
def pop4 (x : Int) : Int := IntKind.u64.wrap (x + x / 256)
def pop5 (x : Int) : Int := IntKind.u64.wrap (x + x / 65536)
def pop6 (x : Int) : Int := IntKind.u64.wrap (x + x / 4294967296)
/-- How many ones, as math/bits counts them. -/
def pop (d : Int) : Int := bits BinOp.and IntKind.i64 (wrap64 (pop6 (pop5 (pop4 (pop3 (pop2 (pop1 d))))))) 127
set_option maxRecDepth 100000 in
theorem pop_isP2 : ∀ d : Fin 1025, 0 < d.val → ((pop (d.val : Int) == 1) = isP2 (d.val : Int)) := by decide +kernel
theorem pop_ne {d : Int} (h0 : 1 ≤ d) (h1 : d ≤ 1024) : (pop d != 1) = !isP2 d := by
  have := pop_isP2 ⟨d.toNat, by omega⟩ (by show 0 < d.toNat; omega)
  have e : ((d.toNat : Nat) : Int) = d := by omega
  simp only [e] at this
  rw [bne, this]

set_option maxHeartbeats 2000000 in
theorem onesCount64_any (d : Int) (w : World) (_h0 : 1 ≤ d) (_h : d ≤ 1024) :
    Calls Tryz.prog 119 #[.int .u64 d] w (Gives (.int .i64 (pop d)) w) := by
  go_enter Tryz.func119, Tryz.ntmps119
  go_wp2_with fail
  go_ret
  refine ⟨ret_int ?_, Below.refl _ _⟩
  rfl
set_option maxHeartbeats 2000000 in
theorem onesCount_any (d : Int) (w : World) (h0 : 1 ≤ d) (h : d ≤ 1024) :
    Calls Tryz.prog 95 #[.int .u64 d] w (Gives (.int .i64 (pop d)) w) := by
  have ho := fun w => onesCount64_any d w h0 h
  generalize pop d = r at *
  go_enter Tryz.func95, Tryz.ntmps95
  go_wp2_with fail
  refine (ho _).mono ?_; rintro e w1 ⟨rfl, hb1⟩
  go_wp2_with fail
  go_ret
  exact ⟨rfl, hb1⟩

set_option maxHeartbeats 2000000 in
theorem isFraction_any (n d : Int) (w : World) :
    Calls Tryz.prog 62 #[.agg #[.int .i64 n, .int .i64 d]] w (Gives (.bool (isFr n d)) w) := by
  by_cases h1 : d < 1
  · have e : isFr n d = false := by rw [Bool.eq_false_iff, Ne, isFr_iff]; intro h; have := isP2_bounds h.1; omega
    rw [e]
    clear e
    go_enter Tryz.func62, Tryz.ntmps62
    go_wp2_with fail
    have hb0 : Below w.heap.size w (w.alloc (.cells #[.int .i64 n, .int .i64 d] 42 (0, 0))) := nxAlloc (Below.refl _ _) _
    have hx0 := heap_alloc_at w (.cells #[.int .i64 n, .int .i64 d] 42 (0, 0))
    generalize (w.alloc (.cells #[.int .i64 n, .int .i64 d] 42 (0, 0))) = w0 at *
    obtain ⟨hx0a, hx0b, hx0c⟩ := two_facts hx0
    obtain ⟨hx0f, hx0g⟩ := two_frozen hx0
    go_ret
    exact ⟨rfl, hb0⟩
  · by_cases h2 : 1024 < d
    · have e : isFr n d = false := by rw [Bool.eq_false_iff, Ne, isFr_iff]; intro h; have := isP2_bounds h.1; omega
      rw [e]
      clear e
      go_enter Tryz.func62, Tryz.ntmps62
      go_wp2_with fail
      have hb0 : Below w.heap.size w (w.alloc (.cells #[.int .i64 n, .int .i64 d] 42 (0, 0))) := nxAlloc (Below.refl _ _) _
      have hx0 := heap_alloc_at w (.cells #[.int .i64 n, .int .i64 d] 42 (0, 0))
      generalize (w.alloc (.cells #[.int .i64 n, .int .i64 d] 42 (0, 0))) = w0 at *
      obtain ⟨hx0a, hx0b, hx0c⟩ := two_facts hx0
      obtain ⟨hx0f, hx0g⟩ := two_frozen hx0
      go_ret
      exact ⟨rfl, hb0⟩
    · have hp := pop_ne (d := d) (by omega) (by omega)
      have ho := fun w => onesCount_any d w (by omega) (by omega)
      cases hq : isP2 d with
      | false =>
        rw [hq] at hp
        have hp' : (pop d != 1) = true := hp
        have e : isFr n d = false := by unfold isFr; rw [hq]; rfl
        rw [e]
        clear e hp hq
        generalize pop d = r at *
        go_enter Tryz.func62, Tryz.ntmps62
        go_wp2_with fail
        have hb0 : Below w.heap.size w (w.alloc (.cells #[.int .i64 n, .int .i64 d] 42 (0, 0))) := nxAlloc (Below.refl _ _) _
        have hx0 := heap_alloc_at w (.cells #[.int .i64 n, .int .i64 d] 42 (0, 0))
        generalize (w.alloc (.cells #[.int .i64 n, .int .i64 d] 42 (0, 0))) = w0 at *
        obtain ⟨hx0a, hx0b, hx0c⟩ := two_facts hx0
        obtain ⟨hx0f, hx0g⟩ := two_frozen hx0
        refine (ho _).mono ?_; rintro e w1 ⟨rfl, hb1⟩
        have hbw1 := nx hb0 hb1
        replace hx0 := heap_keep hb1 hx0
        clear hx0a hx0b hx0c hx0f hx0g
        obtain ⟨hx0a, hx0b, hx0c⟩ := two_facts hx0
        obtain ⟨hx0f, hx0g⟩ := two_frozen hx0
        clear hb1 hb0
        go_wp2_with fail
        go_ret
        exact ⟨rfl, hbw1⟩
      | true =>
        rw [hq] at hp
        have hp' : (pop d != 1) = false := hp
        obtain ⟨R, hR⟩ : ∃ R, R = isFr n d := ⟨_, rfl⟩
        rw [← hR]
        have e : isFr n d = (decide (0 ≤ n) && (decide (n ≤ d) && (decide (d = 1) || decide (n % 2 = 1)))) := by unfold isFr; rw [hq, Bool.true_and]
        rw [e] at hR
        clear e hp hq
        generalize pop d = r at *
        by_cases h3 : 0 ≤ n
        · by_cases h4 : n ≤ d
          · rw [decide_eq_true h3, decide_eq_true h4, Bool.true_and, Bool.true_and] at hR
            by_cases hd : d = 1
            · have hd0 : (d == 1) = true := by rw [beq_iff_eq]; exact hd
              rw [decide_eq_true hd, Bool.true_or] at hR
              have HR := Lib.hid hR
              clear hd hR
              go_enter Tryz.func62, Tryz.ntmps62
              go_wp2_with fail
              have hb0 : Below w.heap.size w (w.alloc (.cells #[.int .i64 n, .int .i64 d] 42 (0, 0))) := nxAlloc (Below.refl _ _) _
              have hx0 := heap_alloc_at w (.cells #[.int .i64 n, .int .i64 d] 42 (0, 0))
              generalize (w.alloc (.cells #[.int .i64 n, .int .i64 d] 42 (0, 0))) = w0 at *
              obtain ⟨hx0a, hx0b, hx0c⟩ := two_facts hx0
              obtain ⟨hx0f, hx0g⟩ := two_frozen hx0
              refine (ho _).mono ?_; rintro e w1 ⟨rfl, hb1⟩
              have hbw1 := nx hb0 hb1
              replace hx0 := heap_keep hb1 hx0
              clear hx0a hx0b hx0c hx0f hx0g
              obtain ⟨hx0a, hx0b, hx0c⟩ := two_facts hx0
              obtain ⟨hx0f, hx0g⟩ := two_frozen hx0
              clear hb1 hb0
              go_wp2_with fail
              go_ret
              refine ⟨ret_bool ?_, hbw1⟩
              first | (rw [HR.out]; done) | (rw [HR.out]; rfl)
            · have hd0 : (d == 1) = false := by rw [beq_eq_false_iff_ne]; exact hd
              rw [decide_eq_false hd, Bool.false_or] at hR
              have HR := Lib.hid hR
              clear hd hR
              go_enter Tryz.func62, Tryz.ntmps62
              go_wp2_with fail
              have hb0 : Below w.heap.size w (w.alloc (.cells #[.int .i64 n, .int .i64 d] 42 (0, 0))) := nxAlloc (Below.refl _ _) _
              have hx0 := heap_alloc_at w (.cells #[.int .i64 n, .int .i64 d] 42 (0, 0))
              generalize (w.alloc (.cells #[.int .i64 n, .int .i64 d] 42 (0, 0))) = w0 at *
              obtain ⟨hx0a, hx0b, hx0c⟩ := two_facts hx0
              obtain ⟨hx0f, hx0g⟩ := two_frozen hx0
              refine (ho _).mono ?_; rintro e w1 ⟨rfl, hb1⟩
              have hbw1 := nx hb0 hb1
              replace hx0 := heap_keep hb1 hx0
              clear hx0a hx0b hx0c hx0f hx0g
              obtain ⟨hx0a, hx0b, hx0c⟩ := two_facts hx0
              obtain ⟨hx0f, hx0g⟩ := two_frozen hx0
              clear hb1 hb0
              go_wp2_with fail
              go_ret
              refine ⟨ret_bool ?_, hbw1⟩
              first | (rw [HR.out]; done) | (rw [HR.out]; rfl)
          · rw [decide_eq_false h4, Bool.false_and, Bool.and_false] at hR
            have HR := Lib.hid hR
            clear hR
            go_enter Tryz.func62, Tryz.ntmps62
            go_wp2_with fail
            have hb0 : Below w.heap.size w (w.alloc (.cells #[.int .i64 n, .int .i64 d] 42 (0, 0))) := nxAlloc (Below.refl _ _) _
            have hx0 := heap_alloc_at w (.cells #[.int .i64 n, .int .i64 d] 42 (0, 0))
            generalize (w.alloc (.cells #[.int .i64 n, .int .i64 d] 42 (0, 0))) = w0 at *
            obtain ⟨hx0a, hx0b, hx0c⟩ := two_facts hx0
            obtain ⟨hx0f, hx0g⟩ := two_frozen hx0
            refine (ho _).mono ?_; rintro e w1 ⟨rfl, hb1⟩
            have hbw1 := nx hb0 hb1
            replace hx0 := heap_keep hb1 hx0
            clear hx0a hx0b hx0c hx0f hx0g
            obtain ⟨hx0a, hx0b, hx0c⟩ := two_facts hx0
            obtain ⟨hx0f, hx0g⟩ := two_frozen hx0
            clear hb1 hb0
            go_wp2_with fail
            go_ret
            refine ⟨ret_bool ?_, hbw1⟩
            first | (rw [HR.out]; done) | (rw [HR.out]; rfl)
        · rw [decide_eq_false h3, Bool.false_and] at hR
          have HR := Lib.hid hR
          clear hR
          go_enter Tryz.func62, Tryz.ntmps62
          go_wp2_with fail
          have hb0 : Below w.heap.size w (w.alloc (.cells #[.int .i64 n, .int .i64 d] 42 (0, 0))) := nxAlloc (Below.refl _ _) _
          have hx0 := heap_alloc_at w (.cells #[.int .i64 n, .int .i64 d] 42 (0, 0))
          generalize (w.alloc (.cells #[.int .i64 n, .int .i64 d] 42 (0, 0))) = w0 at *
          obtain ⟨hx0a, hx0b, hx0c⟩ := two_facts hx0
          obtain ⟨hx0f, hx0g⟩ := two_frozen hx0
          refine (ho _).mono ?_; rintro e w1 ⟨rfl, hb1⟩
          have hbw1 := nx hb0 hb1
          replace hx0 := heap_keep hb1 hx0
          clear hx0a hx0b hx0c hx0f hx0g
          obtain ⟨hx0a, hx0b, hx0c⟩ := two_facts hx0
          obtain ⟨hx0f, hx0g⟩ := two_frozen hx0
          clear hb1 hb0
          go_wp2_with fail
          go_ret
          refine ⟨ret_bool ?_, hbw1⟩
          first | (rw [HR.out]; done) | (rw [HR.out]; rfl)
end Go.Proofs.YtjmbkieocmhmiaaGreat

/-! Fr4 -/
namespace Go.Proofs.YtjmbkieocmhmiaaGreat
open Go.RowKit

theorem pow_even {j : Nat} (h : 1 < 2 ^ j) : ∃ i, 2 ^ j = 2 * 2 ^ i ∧ i < j := by
  cases j with
  | zero => simp at h
  | succ i => exact ⟨i, by rw [Nat.pow_succ]; omega, by omega⟩
theorem half_step {W n s p : Nat} (h : n * W = s * (2 * p)) (hev : n % 2 = 0) : n / 2 * W = s * p := by
  obtain ⟨m, rfl⟩ : ∃ m, n = 2 * m := ⟨n / 2, by omega⟩
  have e : 2 * m / 2 = m := by omega
  rw [e]
  refine Nat.eq_of_mul_eq_mul_left (show 0 < 2 by omega) ?_
  rw [← Nat.mul_assoc, h]
  ac_rfl
theorem frA_end {s n d j : Nat} (h : n * 1048576 = s * d) (hd : d = 2 ^ j) (ho : ¬ 1 < d ∨ n % 2 = 1) : frA s = if isFr n d = true then some (n, d) else none := by
  have hp : 0 < d := by rw [hd]; exact Nat.pow_pos (by omega)
  have e : frOf s = (n, d) := by
    rw [frOf_even h hp]
    apply short_self
    rcases ho with ho | ho
    · obtain rfl : d = 1 := by omega
      exact Nat.gcd_one_right _
    · rw [hd]; exact gcd_odd_pow ho j
  unfold frA
  rw [e]
set_option maxHeartbeats 2000000 in
theorem steps_any (n d : Nat) (w : World) (h : isFr n d = true) :
    Calls Tryz.prog 57 #[.agg #[.int .i64 n, .int .i64 d]] w (Gives (.int .i64 (stepsOf n d)) w) := by
  obtain ⟨h1, h2, h3, h4⟩ := isFr_iff.1 h
  obtain ⟨k1, k2, k3⟩ := steps_le h
  generalize stepsOf n d = s at *
  have HK := Lib.hid k3
  clear h4 k1 k2 k3 h
  rcases isP2_mem.1 h1 with e | e | e | e | e | e | e | e | e | e | e <;>
    (have e' := congrArg Int.toNat e
     simp at e'
     subst e'
     clear e h1
     go_enter Tryz.func57, Tryz.ntmps57
     go_wp2_with fail
     go_quiet (fail)
     go_wp2_with fail
     go_ret
     have := HK.out
     simp at this
     exact ⟨ret_int (by omega), drewB (nxAlloc (Below.refl _ _) _) _⟩)

set_option maxHeartbeats 2000000 in
theorem fractionAt_any (s : Nat) (w : World) (hs : (s : Int) ≤ 4611686018427387904) :
    Calls Tryz.prog 64 #[.int .i64 s] w (Gives (ansF (frA s)) w) := by
  go_enter Tryz.func64, Tryz.ntmps64
  go_wp2_with fail
  have hb0 : Below w.heap.size w ((w.alloc (.cells #[.int .i64 0, .int .i64 0] 42 (0, 0))).alloc (.cells #[.int .i64 s, .int .i64 1048576] 42 (0, 0))) := nxAlloc (nxAlloc (Below.refl _ _) _) _
  have hx0 := heap_keep (nxAlloc (Below.refl _ _) (.cells #[.int .i64 s, .int .i64 1048576] 42 (0, 0))) (heap_alloc_at w (.cells #[.int .i64 0, .int .i64 0] 42 (0, 0)))
  have hx1 := heap_alloc_at (w.alloc (.cells #[.int .i64 0, .int .i64 0] 42 (0, 0))) (.cells #[.int .i64 s, .int .i64 1048576] 42 (0, 0))
  generalize ((w.alloc (.cells #[.int .i64 0, .int .i64 0] 42 (0, 0))).alloc (.cells #[.int .i64 s, .int .i64 1048576] 42 (0, 0))) = w0 at *
  have e1 : (w.alloc (.cells #[.int .i64 0, .int .i64 0] 42 (0, 0))).heap.size = w.heap.size + 1 := by simp
  rw [e1] at hx1
  clear e1
  obtain ⟨hx0a, hx0b, hx0c⟩ := two_facts hx0
  obtain ⟨hx0f, hx0g⟩ := two_frozen hx0
  obtain ⟨hx1a, hx1b, hx1c⟩ := two_facts hx1
  obtain ⟨hx1f, hx1g⟩ := two_frozen hx1
  clear hx0a hx0b hx0c hx0f hx0g hx1a hx1b hx1c hx1f hx1g
  go_loopw [] (fun wr => ∃ n d j : Nat, wr.heap[w.heap.size + 1]? = some (.cells #[.int .i64 n, .int .i64 d] 42 (0, 0)) ∧ wr.heap[w.heap.size]? = some (.cells #[.int .i64 0, .int .i64 0] 42 (0, 0)) ∧ Below w.heap.size w wr ∧ (n : Int) ≤ 4611686018427387904 ∧ d = 2 ^ j ∧ j ≤ 20 ∧ Hid (n * 1048576 = s * d)) (fun wr => (intOf ((wr.cell? ⟨w.heap.size + 1, 1, none⟩).getD undef)).toNat)
  case atStart => exact ⟨s, 1048576, 20, hx1, hx0, hb0, hs, rfl, by omega, rfl⟩
  case round =>
    obtain ⟨n, d, j, hx1, hx0, hbw, hn, hd, hj, he⟩ := hrel
    obtain ⟨ka, kb, kc⟩ := two_facts hx1
    obtain ⟨kf, kg⟩ := two_frozen hx1
    have hdl : d ≤ 2 ^ 20 := by rw [hd]; exact Nat.pow_le_pow_right (by omega) hj
    have HJ := Lib.hid hd
    clear hd
    by_cases hlt : 1 < d
    · obtain ⟨i, hi1, hi2⟩ := pow_even (j := j) (by have := HJ.out; omega)
      have hd2 : d = 2 * 2 ^ i := by rw [HJ.out, hi1]
      have hdh : d / 2 = 2 ^ i := by omega
      have HD2 := Lib.hid hd2
      have HDH := Lib.hid hdh
      clear hi1 hd2 hdh
      by_cases hev : n % 2 = 0
      · go_wp2_with fail
        go_roundw
        case rel =>
          refine ⟨n / 2, d / 2, i, set_two _ _ hx1, (Below.heap_setCell _ _ _ _ (by show w.heap.size ≠ w.heap.size + 1; omega)).trans ((Below.heap_setCell _ _ _ _ (by show w.heap.size ≠ w.heap.size + 1; omega)).trans hx0), (hbw.setCell (by show w.heap.size ≤ w.heap.size + 1; omega) _).setCell (by show w.heap.size ≤ w.heap.size + 1; omega) _, by omega, HDH.out, by omega, ?_⟩
          have h1 := he.out
          rw [HD2.out] at h1
          have h2 := half_step h1 hev
          rw [← HDH.out] at h2
          exact h2
        case measure =>
          have c1 := (two_cells (set_two (.int .i64 ((n : Int) / 2)) (.int .i64 ((d : Int) / 2)) hx1)).2
          rw [c1, kb]
          simp [intOf]
          omega
      · have hA := frA_end he.out HJ.out (.inr (by omega))
        have hg := fun w => isFraction_any n d w
        cases hf : isFr n d with
        | false =>
          rw [hf] at hg hA
          rw [if_neg (by simp)] at hA
          have HA := Lib.hid hA
          clear hA hf he
          go_wp2_with fail
          refine (hg _).mono ?_; rintro e w1 ⟨rfl, hb1⟩
          have hx0' := heap_keep hb1 hx0
          have hbw1 := nx hbw hb1
          obtain ⟨q3, q4⟩ := two_frozen hx0'
          obtain ⟨q5, q6, q7⟩ := two_facts hx0'
          go_wp2_with fail
          rw [HA.out]
          obtain ⟨q1, q2⟩ := two_cells (set_two (.int .i64 0) (.int .i64 0) hx0')
          refine bodyPost_ret (v := .tuple #[.agg #[.int .i64 0, .int .i64 0], .bool false]) (by simp [q1, q2, results, Tryz.results64, go_sem]) rfl ⟨rfl, ?_⟩
          exact (hbw1.setCell (by show w.heap.size ≤ w.heap.size; omega) _).setCell (by show w.heap.size ≤ w.heap.size; omega) _
        | true =>
          rw [hf] at hg hA
          rw [if_pos rfl] at hA
          have HA := Lib.hid hA
          clear hA hf he
          go_wp2_with fail
          refine (hg _).mono ?_; rintro e w1 ⟨rfl, hb1⟩
          have hx0' := heap_keep hb1 hx0
          have hx1' := heap_keep hb1 hx1
          have hbw1 := nx hbw hb1
          obtain ⟨q3, q4⟩ := two_frozen hx0'
          obtain ⟨q5, q6, q7⟩ := two_facts hx0'
          obtain ⟨r5, r6, r7⟩ := two_facts hx1'
          go_wp2_with fail
          rw [HA.out]
          obtain ⟨q1, q2⟩ := two_cells (set_two (.int .i64 n) (.int .i64 d) hx0')
          refine bodyPost_ret (v := .tuple #[.agg #[.int .i64 n, .int .i64 d], .bool true]) (by simp [q1, q2, results, Tryz.results64, go_sem]) rfl ⟨rfl, ?_⟩
          exact (hbw1.setCell (by show w.heap.size ≤ w.heap.size; omega) _).setCell (by show w.heap.size ≤ w.heap.size; omega) _
    · have hA := frA_end he.out HJ.out (.inl hlt)
      have hg := fun w => isFraction_any n d w
      cases hf : isFr n d with
      | false =>
        rw [hf] at hg hA
        rw [if_neg (by simp)] at hA
        have HA := Lib.hid hA
        clear hA hf he
        go_wp2_with fail
        refine (hg _).mono ?_; rintro e w1 ⟨rfl, hb1⟩
        have hx0' := heap_keep hb1 hx0
        have hbw1 := nx hbw hb1
        obtain ⟨q3, q4⟩ := two_frozen hx0'
        obtain ⟨q5, q6, q7⟩ := two_facts hx0'
        go_wp2_with fail
        rw [HA.out]
        obtain ⟨q1, q2⟩ := two_cells (set_two (.int .i64 0) (.int .i64 0) hx0')
        refine bodyPost_ret (v := .tuple #[.agg #[.int .i64 0, .int .i64 0], .bool false]) (by simp [q1, q2, results, Tryz.results64, go_sem]) rfl ⟨rfl, ?_⟩
        exact (hbw1.setCell (by show w.heap.size ≤ w.heap.size; omega) _).setCell (by show w.heap.size ≤ w.heap.size; omega) _
      | true =>
        rw [hf] at hg hA
        rw [if_pos rfl] at hA
        have HA := Lib.hid hA
        clear hA hf he
        go_wp2_with fail
        refine (hg _).mono ?_; rintro e w1 ⟨rfl, hb1⟩
        have hx0' := heap_keep hb1 hx0
        have hx1' := heap_keep hb1 hx1
        have hbw1 := nx hbw hb1
        obtain ⟨q3, q4⟩ := two_frozen hx0'
        obtain ⟨q5, q6, q7⟩ := two_facts hx0'
        obtain ⟨r5, r6, r7⟩ := two_facts hx1'
        go_wp2_with fail
        rw [HA.out]
        obtain ⟨q1, q2⟩ := two_cells (set_two (.int .i64 n) (.int .i64 d) hx0')
        refine bodyPost_ret (v := .tuple #[.agg #[.int .i64 n, .int .i64 d], .bool true]) (by simp [q1, q2, results, Tryz.results64, go_sem]) rfl ⟨rfl, ?_⟩
        exact (hbw1.setCell (by show w.heap.size ≤ w.heap.size; omega) _).setCell (by show w.heap.size ≤ w.heap.size; omega) _
end Go.Proofs.YtjmbkieocmhmiaaGreat

/-! Ft2 -/
namespace Go.Proofs.YtjmbkieocmhmiaaGreat
open Go.RowKit

theorem two1 (a b : Int) : ∀ u ∈ [Value.int .i64 a, Value.int .i64 b], u.oneCell' = true := by
  intro u hu
  simp at hu
  rcases hu with rfl | rfl <;> rfl
/-- The fractions at which addresses begin. -/
def frs (ss : List ByteArray) : List (Nat × Nat) := ss.map fun a => frOf (stA a)
theorem frs_snoc {ss : List ByteArray} {k : Nat} (h : k < ss.length) : frs (ss.take (k + 1)) = frs (ss.take k) ++ [((frOf (stA (ss.getD k ⟨#[]⟩))).1, (frOf (stA (ss.getD k ⟨#[]⟩))).2)] := by
  unfold frs
  rw [List.take_succ_eq_append_getElem h, List.map_append]
  simp [h]
def okAd (a : ByteArray) : Prop := a.size ≤ 10 ∧ a.data.toList.all isBit = true
theorem addrs_ok (t : Tr) (h : t.carets ≤ 8) : ∀ a ∈ t.addrs ⟨#[]⟩, okAd a := by
  intro a ha
  refine ⟨?_, addrs_bits t ⟨#[]⟩ rfl a ha⟩
  have := addrs_size t ⟨#[]⟩ a ha
  have e : (⟨#[]⟩ : ByteArray).size = 0 := rfl
  omega

set_option maxRecDepth 100000 in
set_option maxHeartbeats 2000000 in
theorem mpStarts_any (t : Tr) (w : World) (h : t.carets ≤ 8) :
    Calls Tryz.prog 60 #[.string t.str] w (GivesF (frs (t.addrs ⟨#[]⟩)) w) := by
  obtain ⟨i0, hi, hz0, hz1, hz2⟩ := info_parts info_frac
  have hl := addrs_length t ⟨#[]⟩
  have hA := fun w => trAddresses_any t ⟨#[]⟩ w (by omega) (by show 0 + t.carets ≤ 1000; omega)
  have hok := addrs_ok t h
  obtain ⟨ss, hss⟩ : ∃ ss, ss = t.addrs ⟨#[]⟩ := ⟨_, rfl⟩
  rw [← hss] at hl hA hok ⊢
  have hln : ss.length ≤ 9 := by omega
  have hlp : 0 < ss.length := by omega
  have HZ := Lib.hid hok
  clear hss hl hok
  go_enter Tryz.func60, Tryz.ntmps60
  go_wp2_with fail
  refine (hA _).mono ?_; rintro e w2 ⟨g, cap, own, hb2, rfl⟩
  go_wp2_with fail
  rcases own.cells with ⟨_, h0⟩ | ⟨g', cap', hv, hg0, hg, hc1, hc2, hcell, _⟩
  · rw [h0] at hlp; simp at hlp
  · obtain ⟨rfl, rfl⟩ : g' = g ∧ cap' = cap := by simpa using hv.symm
    have HC := Lib.hid hcell
    clear hv hcell own
    go_loopw [3, 9] (fun v i wr => ∃ k : Nat, k ≤ ss.length ∧ i = .int .i64 k ∧ OwnF w2.heap.size wr v (frs (ss.take k)) ∧ Below w2.heap.size w2 wr) (fun _ i _ => ss.length - (intOf i).toNat)
    case atStart => exact ⟨0, Nat.zero_le _, rfl, OwnW.nil _ _ _ _, Below.refl _ _⟩
    case round =>
      obtain ⟨k, hk, rfl, hown, hbw2⟩ := hrel
      by_cases hlt : k < ss.length
      · have hlt' : (k : Int) < (ss.length : Int) := by omega
        have hlen : (frs (ss.take k)).length = k := by simp [frs]; omega
        have c1 := (hbw2.cell (p := ⟨g', k, none⟩) hg).trans (HC.out k hlt)
        have hz := HZ.out (ss.getD k ⟨#[]⟩) (by rw [List.getD_eq_getElem?_getD, List.getElem?_eq_getElem hlt]; exact List.getElem_mem hlt)
        have hnext := frs_snoc hlt
        obtain ⟨xs, hxs⟩ : ∃ xs, xs = frs (ss.take k) := ⟨_, rfl⟩
        rw [← hxs] at hown hlen hnext
        obtain ⟨s, hs⟩ : ∃ s, s = ss.getD k ⟨#[]⟩ := ⟨_, rfl⟩
        rw [← hs] at c1 hz hnext
        have hM := fun w => mpOf_any s w hz.1 hz.2
        generalize (frOf (stA s)).1 = x at *
        generalize (frOf (stA s)).2 = y at *
        have HN := Lib.hid hnext
        have hxl : xs.length ≤ 9 := by omega
        clear hs hnext hxs hlen hz
        go_wp2_with fail
        refine (hM _).mono ?_; rintro e w3 ⟨rfl, hb3⟩
        have hown3 := hown.keep hb3
        have hbw3 := nx hbw2 hb3
        have hs3 := hbw3.size
        clear hown hbw2 hb3
        go_wp2_with (at_builtin; refine wpList_append_own _ rfl _ _ 48 rfl w2.heap.size 42 i0 (.agg #[.int .i64 0, .int .i64 0]) 2 16 Tryz.underlying48 hi hz0 hz1 hz2 rfl (by decide) _ _ _ rfl (hown3.alloc _) ⟨w3.heap.size, 0, none⟩ 1 1 [.int .i64 x, .int .i64 y] rfl rfl (newsK _ #[.int .i64 x, .int .i64 y] _) (two1 _ _) (by unfold maxLen; omega) (by omega) (by simp; omega) ?_; intro v' w9 hown' hgrow hnn)
        have hbw9 := (nxAlloc hbw3 _).grown hgrow (by simp; omega) (fun k hk => ownsRow_ge hown3 k hk)
        have hown1 := OwnF.snoc hown'
        clear hown3 hown' hgrow hbw3 hnn
        go_wp2_with fail
        go_roundw
        case rel => exact ⟨k + 1, by omega, by go_num, by rw [HN.out]; exact hown1, hbw9⟩
        case measure => simp [intOf]; omega
      · obtain rfl : k = ss.length := by omega
        rw [List.take_of_length_le (Nat.le_refl _)] at hown
        go_wp2_with fail
        go_ret
        exact ⟨_, hown.mono hb2.size, nx hb2 hbw2, rfl⟩

end Go.Proofs.YtjmbkieocmhmiaaGreat

/-! Fp1 -/
namespace Go.Proofs.YtjmbkieocmhmiaaGreat
open Go.RowKit

theorem info_piece : (Tryz.prog.info? 85).map (fun i => (i.zero, i.size, i.bytes)) = some (some (.agg #[.int .i64 0, .int .i64 0, .int .i64 0]), 3, 24) := by kernel_rfl
theorem three1 (a b c : Int) : ∀ u ∈ [Value.int .i64 a, Value.int .i64 b, Value.int .i64 c], u.oneCell' = true := by
  intro u hu
  simp at hu
  rcases hu with rfl | rfl | rfl <;> rfl
/-- Where the pieces of a pair begin, to what this is carried, and the slope. -/
def pcsL : List ByteArray → List ByteArray → List (Nat × Nat × Int)
  | a :: l, b :: m => (stA a, stA b, (a.size : Int) - b.size) :: pcsL l m
  | _, _ => []
def flatP : List (Nat × Nat × Int) → List Int
  | [] => []
  | x :: l => (x.1 : Int) :: (x.2.1 : Int) :: x.2.2 :: flatP l
theorem flatP_length (l : List (Nat × Nat × Int)) : (flatP l).length = l.length * 3 := by
  induction l with
  | nil => rfl
  | cons x l ih => simp [flatP, ih]; omega
theorem flatP_append (l m : List (Nat × Nat × Int)) : flatP (l ++ m) = flatP l ++ flatP m := by
  induction l with
  | nil => rfl
  | cons x l ih => simp [flatP, ih]
theorem flatP_get (l : List (Nat × Nat × Int)) : ∀ k, k < l.length → (flatP l).getD (k * 3) 0 = ((l.getD k (0, 0, 0)).1 : Int) ∧ (flatP l).getD (k * 3 + 1) 0 = ((l.getD k (0, 0, 0)).2.1 : Int) ∧ (flatP l).getD (k * 3 + 2) 0 = (l.getD k (0, 0, 0)).2.2 := by
  induction l with
  | nil => intro k hk; simp at hk
  | cons x l ih =>
    intro k hk
    match k with
    | 0 => exact ⟨rfl, rfl, rfl⟩
    | k + 1 =>
      have := ih k (by simpa using hk)
      rw [show (k + 1) * 3 = k * 3 + 3 by omega]
      exact this
theorem pcsL_length : ∀ (l m : List ByteArray), l.length = m.length → (pcsL l m).length = l.length := by
  intro l
  induction l with
  | nil => intro m h; cases m <;> rfl
  | cons a l ih => intro m h; match m, h with
    | b :: m, h => simp [pcsL, ih m (by simpa using h)]
theorem pcsL_get : ∀ (l m : List ByteArray), l.length = m.length → ∀ k, k < l.length → (pcsL l m).getD k (0, 0, 0) = (stA (l.getD k ⟨#[]⟩), stA (m.getD k ⟨#[]⟩), ((l.getD k ⟨#[]⟩).size : Int) - (m.getD k ⟨#[]⟩).size) := by
  intro l
  induction l with
  | nil => intro m h k hk; simp at hk
  | cons a l ih => intro m h k hk; match m, h with
    | b :: m, h =>
      match k with
      | 0 => rfl
      | k + 1 => exact ih m (by simpa using h) k (by simpa using hk)
def pcs (p : Pr) : List (Nat × Nat × Int) := pcsL (p.1.addrs ⟨#[]⟩) (p.2.addrs ⟨#[]⟩)
/-- v is a slice of pieces that the call has made. -/
def OwnP (base : Nat) (w : World) (v : Value) (xs : List (Nat × Nat × Int)) : Prop := OwnW 85 3 base w v xs.length (flatP xs)
theorem OwnP.keep {base : Nat} {w w' : World} {v : Value} {xs : List (Nat × Nat × Int)} (h : OwnP base w v xs) (hb : Below w.heap.size w w') : OwnP base w' v xs := OwnW.keep h hb
theorem OwnP.mono {base base' : Nat} {w : World} {v : Value} {xs : List (Nat × Nat × Int)} (h : OwnP base w v xs) (hb : base' ≤ base) : OwnP base' w v xs := OwnW.mono h hb
theorem OwnP.cells {base : Nat} {w : World} {v : Value} {xs : List (Nat × Nat × Int)} (h : OwnP base w v xs) : CellsW 3 base w v xs.length (flatP xs) := OwnW.cells h
theorem OwnP.snoc {base : Nat} {w : World} {v : Value} {xs : List (Nat × Nat × Int)} {a b : Nat} {c : Int} (h : w.ownsRow base 85 3 v (xs.length + 1) ((flatP xs).map (Value.int .i64) ++ [Value.int .i64 a, Value.int .i64 b, Value.int .i64 c])) : OwnP base w v (xs ++ [(a, b, c)]) := by
  unfold OwnP OwnW
  rw [List.length_append, flatP_append, List.map_append]
  exact h
def GivesP (xs : List (Nat × Nat × Int)) (w : World) (e : Ending) (w' : World) : Prop :=
  ∃ v, OwnP w.heap.size w' v xs ∧ Below w.heap.size w w' ∧ e = .returned v

theorem size_of_alloc (w : World) (o : Obj) : (w.alloc o).heap.size = w.heap.size + 1 := by simp
set_option maxRecDepth 100000 in
set_option maxHeartbeats 4000000 in
theorem leafPieces_any (p : Pr) (w : World) (h1 : p.1.carets ≤ 8) (h2 : p.2.carets ≤ 8) (he : p.1.carets = p.2.carets) :
    Calls Tryz.prog 66 #[.agg #[.string p.1.str, .string p.2.str]] w (GivesP (pcs p) w) := by
  obtain ⟨i0, hi, hz0, hz1, hz2⟩ := info_parts info_piece
  have T1 := fun w => treeOf_any p.1 w (by omega)
  have T2 := fun w => treeOf_any p.2 w (by omega)
  have A1 := fun b w h => addressesFrom_any p.1 b ⟨#[]⟩ w h (by omega) (by show 0 + p.1.carets ≤ 1000; omega)
  have A2 := fun b w h => addressesFrom_any p.2 b ⟨#[]⟩ w h (by omega) (by show 0 + p.2.carets ≤ 1000; omega)
  have l1 := addrs_length p.1 ⟨#[]⟩
  have l2 := addrs_length p.2 ⟨#[]⟩
  have o1 := addrs_ok p.1 h1
  have o2 := addrs_ok p.2 h2
  unfold pcs
  generalize p.1.addrs ⟨#[]⟩ = xs at *
  generalize p.2.addrs ⟨#[]⟩ = ys at *
  obtain ⟨n, hn⟩ : ∃ n, n = xs.length := ⟨_, rfl⟩
  have hny : ys.length = n := by omega
  have hn9 : n ≤ 9 := by omega
  have hn0 : 0 < n := by omega
  have hxy : xs.length = ys.length := by omega
  have pl := pcsL_length xs ys hxy
  have pg := pcsL_get xs ys hxy
  have hO : Hid (∀ k, k < n → okAd (xs.getD k ⟨#[]⟩) ∧ okAd (ys.getD k ⟨#[]⟩)) := by
    intro k hk
    have hk1 : k < xs.length := by omega
    have hk2 : k < ys.length := by omega
    exact ⟨o1 _ (by simp [hk1]), o2 _ (by simp [hk2])⟩
  have A1' : ∀ b w, NodeAt w p.1 b → Calls Tryz.prog 98 #[.pointer (some ⟨b, 0, none⟩), .string ⟨#[]⟩] w fun e w' => ∃ g cap : Nat, OwnS w.heap.size w' (.slice (some ⟨g, 0, none⟩) n cap) xs ∧ Below w.heap.size w w' ∧ e = .returned (.slice (some ⟨g, 0, none⟩) n cap) := by
    intro b w h
    have := A1 b w h
    unfold GivesTexts at this
    rw [← hn] at this
    exact this
  have A2' : ∀ b w, NodeAt w p.2 b → Calls Tryz.prog 98 #[.pointer (some ⟨b, 0, none⟩), .string ⟨#[]⟩] w fun e w' => ∃ g cap : Nat, OwnS w.heap.size w' (.slice (some ⟨g, 0, none⟩) n cap) ys ∧ Below w.heap.size w w' ∧ e = .returned (.slice (some ⟨g, 0, none⟩) n cap) := by
    intro b w h
    have := A2 b w h
    unfold GivesTexts at this
    rw [hny] at this
    exact this
  clear A1 A2
  rw [← hn] at pl pg
  have hX := hn.symm
  clear hn
  generalize pcsL xs ys = ps at *
  have PG := Lib.hid pg
  have PL := Lib.hid pl
  have HX := Lib.hid hX
  have HY := Lib.hid hny
  clear pg pl o1 o2 hxy l1 l2 hX hny
  go_enter Tryz.func66, Tryz.ntmps66
  go_wp2_with fail
  have hb0 : Below w.heap.size w (w.alloc (.cells #[.string p.1.str, .string p.2.str] 25 (0, 0))) := nxAlloc (Below.refl _ _) _
  have hx0 := heap_alloc_at w (.cells #[.string p.1.str, .string p.2.str] 25 (0, 0))
  generalize (w.alloc (.cells #[.string p.1.str, .string p.2.str] 25 (0, 0))) = w0 at *
  obtain ⟨hx0a, hx0b, hx0c⟩ := two_facts hx0
  obtain ⟨hx0f, hx0g⟩ := two_frozen hx0
  have hz0' := Below.refl w0.heap.size w0
  go_region_held3 (fun w' => w'.cell? ⟨w.heap.size, 0, none⟩ = some (.string p.1.str) ∧ w'.cell? ⟨w.heap.size, 1, none⟩ = some (.string p.2.str))
    (first
      | exact ⟨hx0a, hx0b⟩
      | exact ⟨B1, B2⟩
      | exact ⟨C1, C2⟩
      | exact ⟨D1, D2⟩
      | exact ⟨E1, E2⟩)
    (first
      | (go_at_call 75; (with_reducible refine (T1 _).mono ?_); rintro e w1 ⟨b1, hn1, hb1, rfl⟩; have hb1' := nx hz0'.drew hb1; have B1 := keep_cell hb1' hx0a; have B2 := keep_cell hb1' hx0b)
      | (go_at_call_of 98 (some (⟨b1, 0, none⟩ : Addr)); refine (A1' b1 _ ?_).mono ?_; exact hn1; rintro e w2 ⟨g1, cap1, own1, hb2, rfl⟩; have hb2' := nx hb1' hb2; have C1 := keep_cell hb2' hx0a; have C2 := keep_cell hb2' hx0b)
      | (go_at_call 75; (with_reducible refine (T2 _).mono ?_); rintro e w3 ⟨b2, hn2, hb3, rfl⟩; have hb3' := nx hb2' hb3; have D1 := keep_cell hb3' hx0a; have D2 := keep_cell hb3' hx0b)
      | (go_at_call_of 98 (some (⟨b2, 0, none⟩ : Addr)); refine (A2' b2 _ ?_).mono ?_; exact hn2; rintro e w4 ⟨g2, cap2, own2, hb4, rfl⟩; have hb4' := nx hb3' hb4; have E1 := keep_cell hb4' hx0a; have E2 := keep_cell hb4' hx0b))
  have hbw4 := nx hb0 hb4'
  have own1' := own1.keep (nx hb3 hb4)
  clear hx0 hx0a hx0b hx0c hx0f hx0g B1 B2 C1 C2 D1 D2 E1 E2 hb0 hb1 hb2 hb3 hb4 hb1' hb2' hb3' hb4' hn1 hn2 own1 T1 T2 A1' A2' hz0'
  rcases own1'.cells with ⟨h0, _⟩ | ⟨g1', cap1', hv1, _, hg1, hc1, hc2, hcell1, _⟩
  · simp at h0
  rcases own2.cells with ⟨h0, _⟩ | ⟨g2', cap2', hv2, _, hg2, hc3, hc4, hcell2, _⟩
  · simp at h0
  simp only [Value.slice.injEq, Option.some.injEq, Addr.mk.injEq, and_true] at hv1 hv2
  obtain ⟨rfl, e1, rfl⟩ := hv1
  obtain ⟨rfl, e2, rfl⟩ := hv2
  clear e1 e2
  have HC1 := Lib.hid hcell1
  have HC2 := Lib.hid hcell2
  unfold maxLen at hc2 hc4
  clear hcell1 hcell2 own1' own2
  go_wp2_with fail
  go_loopw [5, 17] (fun v i wr => ∃ (k : Nat) (v0 : Value), v0 = v ∧ k ≤ n ∧ i = .int .i64 k ∧ OwnP w4.heap.size wr v0 (ps.take k) ∧ Below w4.heap.size w4 wr ∧ Below w.heap.size w wr) (fun _ i _ => n - (intOf i).toNat)
  case atStart => exact ⟨0, _, rfl, Nat.zero_le _, rfl, OwnW.nil _ _ _ _, Below.refl _ _, hbw4⟩
  case round =>
    obtain ⟨k, v, rfl, hk, rfl, hown, hbw, hbww⟩ := hrel
    by_cases hlt : k < n
    · have hlt' : (k : Int) < (n : Int) := by omega
      have hX := HX.out
      have hY := HY.out
      have d1 := HC1.out k (by omega)
      have d2 := HC2.out k (by omega)
      obtain ⟨ok1, ok2⟩ := hO.out k hlt
      have hpl := PL.out
      have hnext : ps.take (k + 1) = ps.take k ++ [ps.getD k (0, 0, 0)] := by
        have : k < ps.length := by omega
        rw [List.take_succ_eq_append_getElem this]; simp [this]
      have hlen : (ps.take k).length = k := by simp; omega
      rw [PG.out k (by omega)] at hnext
      generalize ps.take k = qs at hown hlen hnext
      generalize xs.getD k ⟨#[]⟩ = a at *
      generalize ys.getD k ⟨#[]⟩ = b at *
      have hS1 := fun w => startOf_any a w ok1.1 ok1.2
      have hS2 := fun w => startOf_any b w ok2.1 ok2.2
      have sa := ok1.1
      have sb := ok2.1
      have hi3 : IntKind.i64.wrap ((a.size : Int) - (b.size : Int)) = (a.size : Int) - (b.size : Int) := by rw [IntKind.wrap_i64] <;> omega
      generalize hx : stA a = x at *
      generalize hy : stA b = y at *
      have HN := Lib.hid hnext
      have hq9 : qs.length ≤ 9 := by omega
      clear hnext hX hY ok1 ok2 hpl hx hy hlen
      have c1 := (hbw.cell (p := ⟨g1, k, none⟩) hg1).trans d1
      have c2 := (hbw.cell (p := ⟨g2, k, none⟩) hg2).trans d2
      have hz := Below.refl wr.heap.size wr
      have hsw := hbw4.size
      have hm9 : qs.length + 1 ≤ maxLen := by unfold maxLen; omega
      have hb9 : (qs.length + 1) * 24 ≤ 140737488355328 := by omega
      go_wp2_with fail
      go_region_held3 (fun w' => w'.cell? ⟨g1, k, none⟩ = some (.string a) ∧ w'.cell? ⟨g2, k, none⟩ = some (.string b))
        (first
          | exact ⟨c1, c2⟩
          | exact ⟨B1, B2⟩
          | exact ⟨C1, C2⟩
          | exact ⟨D1 _, D2 _⟩
          | exact ⟨E1, E2⟩)
        (first
          | (go_at_call 99; (with_reducible refine (hS1 _).mono ?_); rintro e w5 ⟨rfl, hb5⟩; have hb5' := nx hz.drew hb5; have B1 := keep_cell hb5' c1; have B2 := keep_cell hb5' c2)
          | (go_at_call 99; (with_reducible refine (hS2 _).mono ?_); rintro e w6 ⟨rfl, hb6⟩; have hb6' := nx hb5' hb6; have C1 := keep_cell hb6' c1; have C2 := keep_cell hb6' c2; have D1 := fun o => keep_cell (nxAlloc hb6' o) c1; have D2 := fun o => keep_cell (nxAlloc hb6' o) c2; have hown6 := hown.keep hb6'; have hb46 := nx hbw hb6'; have hbw6 := nx hbww hb6'; have hnews := newsK w6 #[.int .i64 x, .int .i64 y, .int .i64 ((a.size : Int) - (b.size : Int))] 85; have hown7 := World.ownsRow.alloc hown6 (.cells #[.int .i64 x, .int .i64 y, .int .i64 ((a.size : Int) - (b.size : Int))] 85 (0, 0)); have hs46 := hb46.size; have hbs := Nat.le_trans hs46 (Nat.le_trans (Nat.le_succ _) (Nat.le_of_eq (size_of_alloc w6 (.cells #[.int .i64 x, .int .i64 y, .int .i64 ((a.size : Int) - (b.size : Int))] 85 (0, 0))).symm)); have hsz7 := size_of_alloc w6 (.cells #[.int .i64 x, .int .i64 y, .int .i64 ((a.size : Int) - (b.size : Int))] 85 (0, 0)))
          | (refine step_append_lies _ (by rfl) _ _ _ (by rfl) w4.heap.size 85 i0 _ 3 24 Tryz.underlying87 hi hz0 hz1 hz2 rfl (by omega) v qs.length ((flatP qs).map (Value.int .i64)) (by rfl) hown7 ⟨w6.heap.size, 0, none⟩ 1 1 [.int .i64 x, .int .i64 y, .int .i64 ((a.size : Int) - (b.size : Int))] (by rfl) (by rfl) hnews (three1 _ _ _) (by omega) hm9 hb9 hbs (w6.heap.size + 1) hsz7 ?_; intro gg cap9 w9 hown' hgrow hat hlt9; have hbw9 := (nxAlloc hb46 _).grown hgrow hbs (fun k hk => ownsRow_ge hown7 k hk); have E1 := (hbw9.cell (p := ⟨g1, k, none⟩) hg1).trans d1; have E2 := (hbw9.cell (p := ⟨g2, k, none⟩) hg2).trans d2))
      have hbw9w := (nxAlloc hbw6 _).grown hgrow (Nat.le_trans hsw hbs) (fun k hk => Nat.le_trans hsw (ownsRow_ge hown7 k hk))
      have hown1 := OwnP.snoc hown'
      go_wp2_with fail
      go_roundw
      case rel =>
        rw [← HN.out] at hown1
        first
          | exact ⟨k + 1, _, rfl, by omega, by go_num, hown1, hbw9, hbw9w⟩
          | ((repeat apply Exists.intro); exact ⟨⟨k + 1, _, rfl, by omega, by go_num, hown1, hbw9, hbw9w⟩, rfl⟩)
      case measure => simp [intOf]; omega
    · obtain rfl : k = n := by omega
      have hpl := PL.out
      rw [List.take_of_length_le (by omega)] at hown
      go_wp2_with fail
      go_ret
      exact ⟨_, hown.mono hbw4.size, hbww, rfl⟩
end Go.Proofs.YtjmbkieocmhmiaaGreat

/-! Ft4 -/
namespace Go.Proofs.YtjmbkieocmhmiaaGreat
open Go.RowKit

theorem less_steps {n d m e : Nat} (h : isFr n d = true) (k : isFr m e = true) : n * e < m * d ↔ stepsOf n d < stepsOf m e := by
  have h1 := steps_cross h
  have k1 := steps_cross k
  have hd : 0 < d := by have := isP2_bounds (isFr_iff.1 h).1; omega
  have he : 0 < e := by have := isP2_bounds (isFr_iff.1 k).1; omega
  obtain ⟨W, hW⟩ : ∃ W, W = 1048576 := ⟨_, rfl⟩
  have hW0 : 0 < W := by omega
  rw [← hW] at h1 k1
  generalize stepsOf n d = s at *
  generalize stepsOf m e = t at *
  have a1 : n * e * W = s * (d * e) := by
    calc n * e * W = (n * W) * e := by ac_rfl
      _ = s * (d * e) := by rw [h1]; ac_rfl
  have a2 : m * d * W = t * (d * e) := by
    calc m * d * W = (m * W) * d := by ac_rfl
      _ = t * (d * e) := by rw [k1]; ac_rfl
  rw [← Nat.mul_lt_mul_right hW0, a1, a2]
  exact Nat.mul_lt_mul_right (Nat.mul_pos hd he)
theorem frOf_pos (s : Nat) : 0 < (frOf s).2 := short_pos (by omega)
theorem frOf_cross (s : Nat) : (frOf s).1 * 1048576 = s * (frOf s).2 := by
  obtain ⟨W, hW⟩ : ∃ W, W = 1048576 := ⟨_, rfl⟩
  have := short_steps (W := W) (n := s) (d := W) (by omega) ⟨1, by omega⟩
  rw [Nat.div_self (by omega), Nat.mul_one] at this
  unfold frOf
  rw [← hW]
  exact this
theorem steps_frOf {s : Nat} (h : s ≤ 1048576) (h2 : s % 1024 = 0) : stepsOf (frOf s).1 (frOf s).2 = s := by
  have h1 := steps_cross (frOf_thousand h h2)
  have h3 := frOf_cross s
  rw [h3] at h1
  exact (Nat.eq_of_mul_eq_mul_right (frOf_pos s) h1).symm

set_option maxHeartbeats 2000000 in
theorem mpLess_any (n d m e : Nat) (w : World) (h : isFr n d = true) (k : isFr m e = true) :
    Calls Tryz.prog 92 #[.agg #[.int .i64 n, .int .i64 d], .agg #[.int .i64 m, .int .i64 e]] w (Gives (.bool (decide (stepsOf n d < stepsOf m e))) w) := by
  have hl := less_steps h k
  obtain ⟨a1, a2, a3, a4⟩ := isFr_iff.1 h
  obtain ⟨b1, b2, b3, b4⟩ := isFr_iff.1 k
  have c1 := isP2_bounds a1
  have c2 := isP2_bounds b1
  have p1 : n * e ≤ 1024 * 1024 := mul_bound (by omega) (by omega)
  have p2 : m * d ≤ 1024 * 1024 := mul_bound (by omega) (by omega)
  have i1 : (n : Int) * (e : Int) = ((n * e : Nat) : Int) := by simp
  have i2 : (m : Int) * (d : Int) = ((m * d : Nat) : Int) := by simp
  have j1 : 0 ≤ (n : Int) * (e : Int) ∧ (n : Int) * (e : Int) ≤ 1048576 := by omega
  have j2 : 0 ≤ (m : Int) * (d : Int) ∧ (m : Int) * (d : Int) ≤ 1048576 := by omega
  have hl' : (decide (stepsOf n d < stepsOf m e)) = decide ((n : Int) * (e : Int) < (m : Int) * (d : Int)) := by
    rw [i1, i2]
    exact decide_eq_decide.2 (hl.symm.trans (by omega))
  rw [hl']
  clear hl' hl p1 p2 i1 i2 c1 c2 a1 a2 a3 a4 b1 b2 b3 b4 h k
  obtain ⟨j1a, j1b⟩ := j1
  obtain ⟨j2a, j2b⟩ := j2
  generalize hu : (n : Int) * (e : Int) = u at *
  generalize hv : (m : Int) * (d : Int) = v at *
  generalize hr : decide (u < v) = r
  have HR := Lib.hid hr
  clear hr
  go_enter Tryz.func92, Tryz.ntmps92
  go_wp2_with fail
  have hb0 : Below w.heap.size w ((w.alloc (.cells #[.int .i64 n, .int .i64 d] 42 (0, 0))).alloc (.cells #[.int .i64 m, .int .i64 e] 42 (0, 0))) := nxAlloc (nxAlloc (Below.refl _ _) _) _
  have hx0 := heap_keep (nxAlloc (Below.refl _ _) (.cells #[.int .i64 m, .int .i64 e] 42 (0, 0))) (heap_alloc_at w (.cells #[.int .i64 n, .int .i64 d] 42 (0, 0)))
  have hx1 := heap_alloc_at (w.alloc (.cells #[.int .i64 n, .int .i64 d] 42 (0, 0))) (.cells #[.int .i64 m, .int .i64 e] 42 (0, 0))
  generalize ((w.alloc (.cells #[.int .i64 n, .int .i64 d] 42 (0, 0))).alloc (.cells #[.int .i64 m, .int .i64 e] 42 (0, 0))) = w0 at *
  have e1 : (w.alloc (.cells #[.int .i64 n, .int .i64 d] 42 (0, 0))).heap.size = w.heap.size + 1 := by simp
  rw [e1] at hx1
  clear e1
  obtain ⟨hx0a, hx0b, hx0c⟩ := two_facts hx0
  obtain ⟨hx0f, hx0g⟩ := two_frozen hx0
  obtain ⟨hx1a, hx1b, hx1c⟩ := two_facts hx1
  obtain ⟨hx1f, hx1g⟩ := two_frozen hx1
  go_ret
  refine ⟨ret_bool ?_, hb0⟩
  rw [← HR.out]

set_option maxRecDepth 100000 in
set_option maxHeartbeats 2000000 in
theorem mpLeaf_any (t : Tr) (n d : Nat) (w : World) (h : t.carets ≤ 8) (hf : isFr n d = true) :
    Calls Tryz.prog 59 #[.string t.str, .agg #[.int .i64 n, .int .i64 d]] w (Gives (.int .i64 (lastTo t.starts (stepsOf n d))) w) := by
  have hM := fun w => mpStarts_any t w h
  have hok := addrs_ok t h
  have hl := addrs_length t ⟨#[]⟩
  unfold Tr.starts
  generalize t.addrs ⟨#[]⟩ = ss at *
  obtain ⟨S, hS⟩ : ∃ S : List Nat, S = ss.map stA := ⟨_, rfl⟩
  rw [← hS]
  have hSl : S.length = ss.length := by rw [hS]; simp
  have hstep : ∀ k, k < ss.length → ∃ x y : Nat, (flatF (frs ss)).getD (k * 2) 0 = (x : Int) ∧ (flatF (frs ss)).getD (k * 2 + 1) 0 = (y : Int) ∧ isFr x y = true ∧ stepsOf x y = S.getD k 0 := by
    intro k hk
    have hk2 : k < (frs ss).length := by simpa [frs] using hk
    have ha := hok (ss.getD k ⟨#[]⟩) (by simp [hk])
    have hlt := stA_lt (a := ss.getD k ⟨#[]⟩) (by have := ha.1; omega) ha.2
    have hth := stA_thousand ha.1
    have e : (frs ss).getD k (0, 0) = frOf (stA (ss.getD k ⟨#[]⟩)) := by simp [frs, hk]
    have e2 : S.getD k 0 = stA (ss.getD k ⟨#[]⟩) := by rw [hS]; simp [hk]
    have g := flatF_get (frs ss) k hk2
    rw [e] at g
    exact ⟨_, _, g.1, g.2, frOf_thousand (by omega) hth, by rw [e2]; exact steps_frOf (by omega) hth⟩
  have hfl : (frs ss).length = ss.length := by simp [frs]
  generalize frs ss = fs at *
  have HS := Lib.hid hstep
  have hL := fun x y w (k : isFr ((x : Nat) : Int) ((y : Nat) : Int) = true) => mpLess_any n d x y w hf k
  generalize stepsOf n d = s at *
  have HF := Lib.hid hf
  clear hstep hok hS hf
  go_enter Tryz.func59, Tryz.ntmps59
  go_wp2_with fail
  have hb0 : Below w.heap.size w (w.alloc (.cells #[.int .i64 n, .int .i64 d] 42 (0, 0))) := nxAlloc (Below.refl _ _) _
  have hx0 := heap_alloc_at w (.cells #[.int .i64 n, .int .i64 d] 42 (0, 0))
  generalize (w.alloc (.cells #[.int .i64 n, .int .i64 d] 42 (0, 0))) = w0 at *
  obtain ⟨hx0a, hx0b, hx0c⟩ := two_facts hx0
  obtain ⟨hx0f, hx0g⟩ := two_frozen hx0
  refine (hM _).mono ?_; rintro e w1 ⟨v, own, hb1, rfl⟩
  have hbw1 := nx hb0 hb1
  have hx1 := heap_keep hb1 hx0
  rcases own.cells with ⟨_, h0⟩ | ⟨g, cap, rfl, hg0, hg, hc1, hc2, hcell, _⟩
  · omega
  · have HC := Lib.hid hcell
    unfold maxLen at hc2
    clear hcell own hx0 hx0a hx0b hx0c hx0f hx0g hM
    rw [hfl] at *
    obtain ⟨hx0a, hx0b, hx0c⟩ := two_facts hx1
    go_wp2_with fail
    go_loopw [5, 11] (fun v i wr => ∃ k : Nat, k ≤ ss.length ∧ i = .int .i64 k ∧ v = .int .i64 (lastTo (S.take k) s) ∧ Below w1.heap.size w1 wr) (fun _ i _ => ss.length - (intOf i).toNat)
    case atStart => exact ⟨0, Nat.zero_le _, rfl, rfl, Below.refl _ _⟩
    case round =>
      obtain ⟨k, hk, rfl, rfl, hbw⟩ := hrel
      by_cases hlt : k < ss.length
      · have hlt' : (k : Int) < (ss.length : Int) := by omega
        obtain ⟨x, y, g1, g2, hf2, hst⟩ := HS.out k hlt
        have c1 := (hbw.cell (p := ⟨g, k * 2, none⟩) hg).trans (HC.out (k * 2) (by omega))
        have c2 := (hbw.cell (p := ⟨g, k * 2 + 1, none⟩) hg).trans (HC.out (k * 2 + 1) (by omega))
        rw [g1] at c1
        rw [g2] at c2
        obtain ⟨ka, kb, kc⟩ := two_facts (heap_keep hbw hx1)
        have hLs := fun w => hL x y w hf2
        rw [hst] at hLs
        have hnext := lastTo_take (l := S) (k := k) (s := s) (by omega)
        clear g1 g2 hf2 hst
        by_cases hc : s < S.getD k 0
        · rw [decide_eq_true hc] at hLs
          rw [if_neg (by omega)] at hnext
          have HN := Lib.hid hnext
          clear hnext hc
          go_wp2_with fail
          refine (hLs _).mono ?_; rintro e w3 ⟨rfl, hb3⟩
          have hbw3 := nx (nxAlloc hbw _) hb3
          go_wp2_with fail
          go_roundw
          case rel => exact ⟨k + 1, by omega, by go_num, by rw [HN.out], hbw3⟩
          case measure => simp [intOf]; omega
        · rw [decide_eq_false hc] at hLs
          rw [if_pos (by omega)] at hnext
          have HN := Lib.hid hnext
          clear hnext hc
          go_wp2_with fail
          refine (hLs _).mono ?_; rintro e w3 ⟨rfl, hb3⟩
          have hbw3 := nx (nxAlloc hbw _) hb3
          go_wp2_with fail
          go_roundw
          case rel => exact ⟨k + 1, by omega, by go_num, by rw [HN.out], hbw3⟩
          case measure => simp [intOf]; omega
      · obtain rfl : k = ss.length := by omega
        rw [List.take_of_length_le (by omega)]
        go_wp2_with fail
        go_ret
        exact ⟨rfl, nx hbw1 hbw⟩

end Go.Proofs.YtjmbkieocmhmiaaGreat

/-! WSlopesOf -/
namespace Go.Proofs.YtjmbkieocmhmiaaGreat
open Go.RowKit

theorem slopesL_pcs : ∀ (l m : List ByteArray), (pcsL l m).map (fun x => x.2.2) = slopesL l m := by
  intro l
  induction l with
  | nil => intro m; cases m <;> rfl
  | cons a l ih => intro m; cases m with
    | nil => rfl
    | cons b m => simp [pcsL, slopesL, ih m]
theorem slopes_pcs (p : Pr) : (pcs p).map (fun x => x.2.2) = slopes p := slopesL_pcs _ _
def SlopesOf_o (a b : ByteArray) : Option (List Int) := (pairOf a b).bind fun p => some (slopes p)
theorem SlopesOf_len (a b : ByteArray) : ((SlopesOf_o a b).getD []).length ≤ 1000000000 := by
  unfold SlopesOf_o
  cases h : pairOf a b with
  | none => simp
  | some p =>
    obtain ⟨_, _, hok, hc1, hc2⟩ := pairOf_some h
    have l1 := addrs_length p.1 ⟨#[]⟩
    have l2 := addrs_length p.2 ⟨#[]⟩
    have hok' : p.1.carets = p.2.carets := hok
    have := slopesL_length (p.1.addrs ⟨#[]⟩) (p.2.addrs ⟨#[]⟩) (by omega)
    show (slopesL (p.1.addrs ⟨#[]⟩) (p.2.addrs ⟨#[]⟩)).length ≤ 1000000000
    omega

set_option maxRecDepth 100000 in
set_option maxHeartbeats 2000000 in
theorem mpSlopes_any (p : Pr) (w : World) (h1 : p.1.carets ≤ 8) (h2 : p.2.carets ≤ 8) (he : p.1.carets = p.2.carets) :
    Calls Tryz.prog 54 #[.agg #[.string p.1.str, .string p.2.str]] w (GivesInts (slopes p) w) := by
  obtain ⟨i0, hi, hz0, hz1, hz2⟩ := info_parts info_int
  have A1 := fun w => trAddresses_any p.1 ⟨#[]⟩ w (by omega) (by show 0 + p.1.carets ≤ 1000; omega)
  have A2 := fun w => trAddresses_any p.2 ⟨#[]⟩ w (by omega) (by show 0 + p.2.carets ≤ 1000; omega)
  have l1 := addrs_length p.1 ⟨#[]⟩
  have l2 := addrs_length p.2 ⟨#[]⟩
  have o1 := addrs_ok p.1 h1
  have o2 := addrs_ok p.2 h2
  unfold slopes
  generalize p.1.addrs ⟨#[]⟩ = xs at *
  generalize p.2.addrs ⟨#[]⟩ = ys at *
  obtain ⟨n, hn⟩ : ∃ n, n = xs.length := ⟨_, rfl⟩
  have hny : ys.length = n := by omega
  have hn9 : n ≤ 9 := by omega
  have hxy : xs.length = ys.length := by omega
  have pl := slopesL_length xs ys hxy
  have pg := slopesL_get xs ys hxy
  have hO : Hid (∀ k, k < n → okAd (xs.getD k ⟨#[]⟩) ∧ okAd (ys.getD k ⟨#[]⟩)) := by
    intro k hk
    have hk1 : k < xs.length := by omega
    have hk2 : k < ys.length := by omega
    exact ⟨o1 _ (by simp [hk1]), o2 _ (by simp [hk2])⟩
  have A1' : ∀ w, Calls Tryz.prog 91 #[.string p.1.str, .string ⟨#[]⟩] w fun e w' => ∃ g cap : Nat, OwnS w.heap.size w' (.slice (some ⟨g, 0, none⟩) n cap) xs ∧ Below w.heap.size w w' ∧ e = .returned (.slice (some ⟨g, 0, none⟩) n cap) := by
    intro w
    have := A1 w
    unfold GivesTexts at this
    rw [← hn] at this
    exact this
  have A2' : ∀ w, Calls Tryz.prog 91 #[.string p.2.str, .string ⟨#[]⟩] w fun e w' => ∃ g cap : Nat, OwnS w.heap.size w' (.slice (some ⟨g, 0, none⟩) n cap) ys ∧ Below w.heap.size w w' ∧ e = .returned (.slice (some ⟨g, 0, none⟩) n cap) := by
    intro w
    have := A2 w
    unfold GivesTexts at this
    rw [hny] at this
    exact this
  clear A1 A2
  rw [← hn] at pl pg
  have hX := hn.symm
  clear hn
  generalize slopesL xs ys = ps at *
  have PG := Lib.hid pg
  have PL := Lib.hid pl
  have HX := Lib.hid hX
  have HY := Lib.hid hny
  clear pg pl o1 o2 hxy l1 l2 hX hny
  go_enter Tryz.func54, Tryz.ntmps54
  go_wp2_with fail
  have hb0 : Below w.heap.size w (w.alloc (.cells #[.string p.1.str, .string p.2.str] 25 (0, 0))) := nxAlloc (Below.refl _ _) _
  have hx0 := heap_alloc_at w (.cells #[.string p.1.str, .string p.2.str] 25 (0, 0))
  generalize (w.alloc (.cells #[.string p.1.str, .string p.2.str] 25 (0, 0))) = w0 at *
  obtain ⟨hx0a, hx0b, hx0c⟩ := two_facts hx0
  obtain ⟨hx0f, hx0g⟩ := two_frozen hx0
  refine (A2' _).mono ?_; rintro e w1 ⟨g2, cap2, own2, hb1, rfl⟩
  have hbw1 := nx hb0 hb1
  replace hx0 := heap_keep hb1 hx0
  clear hx0a hx0b hx0c hx0f hx0g
  obtain ⟨hx0a, hx0b, hx0c⟩ := two_facts hx0
  obtain ⟨hx0f, hx0g⟩ := two_frozen hx0
  clear hb1 hb0
  go_wp2_with fail
  refine (A1' _).mono ?_; rintro e w2 ⟨g1, cap1, own1, hb2, rfl⟩
  have hbw2 := nx hbw1 hb2
  replace own2 := own2.keep hb2
  clear hb2 hbw1 hx0 hx0a hx0b hx0c hx0f hx0g A1' A2'
  go_wp2_with fail
  rcases own1.cells with ⟨h0, _⟩ | ⟨g1', cap1', hv1, _, hg1, hc1, hc2, hcell1, _⟩
  · simp at h0
  rcases own2.cells with ⟨h0, _⟩ | ⟨g2', cap2', hv2, _, hg2, hc3, hc4, hcell2, _⟩
  · simp at h0
  simp only [Value.slice.injEq, Option.some.injEq, Addr.mk.injEq, and_true] at hv1 hv2
  obtain ⟨rfl, e1, rfl⟩ := hv1
  obtain ⟨rfl, e2, rfl⟩ := hv2
  clear e1 e2
  have HC1 := Lib.hid hcell1
  have HC2 := Lib.hid hcell2
  unfold maxLen at hc2 hc4
  clear hcell1 hcell2 own1 own2
  go_loopw [3, 14] (fun v i wr => ∃ k : Nat, k ≤ n ∧ i = .int .i64 k ∧ OwnI w2.heap.size wr v (ps.take k) ∧ Below w2.heap.size w2 wr) (fun _ i _ => n - (intOf i).toNat)
  case atStart => exact ⟨0, Nat.zero_le _, rfl, OwnI.nil _ _, Below.refl _ _⟩
  case round =>
    obtain ⟨k, hk, rfl, hown, hbw⟩ := hrel
    by_cases hlt : k < n
    · have hlt' : (k : Int) < (n : Int) := by omega
      have hX := HX.out
      have hY := HY.out
      have c1 := (hbw.cell (p := ⟨g1, k, none⟩) hg1).trans (HC1.out k (by omega))
      have c2 := (hbw.cell (p := ⟨g2, k, none⟩) hg2).trans (HC2.out k (by omega))
      obtain ⟨ok1, ok2⟩ := hO.out k hlt
      have hpl := PL.out
      have hnext : ps.take (k + 1) = ps.take k ++ [ps.getD k 0] := by
        have : k < ps.length := by omega
        rw [List.take_succ_eq_append_getElem this]; simp [this]
      have hlen : (ps.take k).length = k := by simp; omega
      rw [PG.out k (by omega)] at hnext
      generalize ps.take k = qs at hown hlen hnext
      generalize xs.getD k ⟨#[]⟩ = a at *
      generalize ys.getD k ⟨#[]⟩ = b at *
      have sa := ok1.1
      have sb := ok2.1
      have hi3 : IntKind.i64.wrap ((a.size : Int) - (b.size : Int)) = (a.size : Int) - (b.size : Int) := by rw [IntKind.wrap_i64] <;> omega
      have HN := Lib.hid hnext
      have hq9 : qs.length ≤ 9 := by omega
      clear hnext hX hY ok1 ok2 hpl hlen
      go_wp2_with (at_builtin; refine wpList_append_own _ rfl _ _ 68 rfl w2.heap.size 3 i0 (.int .i64 0) 1 8 Tryz.underlying68 hi hz0 hz1 hz2 rfl (by decide) _ _ _ rfl (hown.alloc _) ⟨wr.heap.size, 0, none⟩ 1 1 [.int .i64 ((a.size : Int) - (b.size : Int))] rfl rfl (new1 _ _ _) (one1 _) (by unfold maxLen; omega) (by omega) (size_al hbw _) ?_; intro v' w3 hown' hgrow hnn)
      have hbw' := below_app hbw hown (Nat.le_refl _) hgrow
      have hown1 := OwnI.snoc hown'
      clear hown hown' hgrow hbw hnn
      go_wp2_with fail
      go_roundw
      case rel => exact ⟨k + 1, by omega, by go_num, by rw [HN.out]; exact hown1, hbw'⟩
      case measure => simp [intOf]; omega
    · obtain rfl : k = n := by omega
      have hpl := PL.out
      rw [List.take_of_length_le (by omega)] at hown
      go_wp2_with fail
      go_ret
      exact ⟨_, hown.mono hbw2.size, nx hbw2 hbw, rfl⟩

theorem newsAt (w : World) (n : Nat) (v : Value) (e : TypeId) (h : n = w.heap.size) : ∀ (j : Nat) (u : Value), [v][j]? = some u → (w.alloc (.cells #[v] e)).cell? ((⟨n, 0, none⟩ : Addr).add j) = some u := by
  subst h; exact new1 w v e
end Go.Proofs.YtjmbkieocmhmiaaGreat
