/- FnExactImageOfAddress: for every input the law returns true and leaves its arguments as they were. No conditions. -/
import Derived.Test.YtdhjchibhlcchaaDoorMgImageOfAddress0
import Derived.StillTail
import Derived.Deep.QuietTactic
import Derived.BigQuiet
import Derived.Shelf.Small.Wraps
import Derived.Test.YtdhjchibhlcchaaDoorProg
import Derived.Test.YtdhjchibhlcchaaDoorCards
import Derived.Test.YtdhjchibhlcchaaDoorTie
import Derived.LaidMore
import Derived.Lay
import Derived.SevenTiedAt
import Derived.Stop.Joined
import Derived.ProofKit
import Derived.OpenShut
import Derived.ShutString
import Derived.ChangeOld
import Derived.Below
import Derived.Lib.SmallJoins
/-! RegT -/
namespace Go.Proofs.YtdhjchibhlcchaaDoor
open Go.RowKit

section
variable {P : Program} {ops : Array Oper} {md : Region.Mode} {C : World → Prop}

/-- Whatever order is drawn for the first n operations. -/
def headQ (P : Program) (md : Region.Mode) (ops : Array Oper) (C : World → Prop) (n : Nat) (L : Array Bool → Act → Prop) : Nat → Array Bool → Act → Prop
  | 0, listed, a => L listed a
  | f + 1, listed, a => Region.ready md ops listed ≠ [] ∧ ∀ i ∈ Region.ready md ops listed, i < n ∧ qOp P ops C i (headQ P md ops C n L f (listed.setIfInBounds i true)) a

theorem any_of_headQ {n g : Nat} {L : Array Bool → Act → Prop} {Q' : Exit → Act → World → Prop} (hL : ∀ listed a w, C w → L listed a → wpAny P md ops Q' g listed a w) :
    ∀ (f : Nat) (listed : Array Bool) (a : Act) (w : World), C w → headQ P md ops C n L f listed a → wpAny P md ops Q' (f + g) listed a w
  | 0, listed, a, w, hw, h => by rw [Nat.zero_add]; exact hL _ _ _ hw h
  | f + 1, listed, a, w, hw, h => by
    rw [Nat.add_right_comm]
    exact ⟨fun h0 => absurd h0 h.1, fun i hi => wpOp_of_qOp hw (fun a' w' hw' h' => any_of_headQ hL f _ a' w' hw' h') (h.2 i hi).2⟩

theorem headQ_first {n i : Nat} {oi : Oper} {v : Value} {L : Array Bool → Act → Prop} (hi : ops[i]? = some oi) (hsel : ∀ (j : Nat) (o : Oper) cs b, ops[j]? = some o → o.op ≠ .select cs b)
    (hs : Region.sinkB md ops n = true) (hc : Region.chainB md ops n = true) (hn : n < ops.size) (hin : i < n)
    (hdone : ∀ listed a, L listed a → ∀ j ∈ Region.ready md ops listed, n ≤ j) :
    ∀ (f : Nat) (listed : Array Bool) (a : Act), HeadInv md ops n listed →
      (∀ j oj, ops[j]? = some oj → j ≠ i → listed.getD j true = false → (∀ e ∈ oj.after, Region.binds md e = true → e.on ≠ i) → oi.apart ops oj = true) →
      i ∈ Region.ready md ops listed → YieldsIn P ops C oi v a →
      headQ P md ops C n L f (listed.setIfInBounds i true) (a.put oi.dst v) → headQ P md ops C n L (f + 1) listed a := by
  intro f
  induction f with
  | zero =>
    intro listed a inv _ hr hy H
    have hun := (mem_ready.1 hr).1
    refine ⟨(List.ne_nil_of_mem hr), fun j hj => ?_⟩
    have hjn : j < n := Nat.lt_of_not_le fun h => tail_waits hs hc hn inv _ i rfl hin hun j h hj
    refine ⟨hjn, ?_⟩
    by_cases hji : j = i
    · subst hji; exact hy.qOp hi H
    · have := hdone _ _ H j (ready_mono hj hji)
      omega
  | succ f ih =>
    intro listed a inv hfree hr hy H
    have hun := (mem_ready.1 hr).1
    refine ⟨(List.ne_nil_of_mem hr), fun j hj => ?_⟩
    have hjn : j < n := Nat.lt_of_not_le fun h => tail_waits hs hc hn inv _ i rfl hin hun j h hj
    refine ⟨hjn, ?_⟩
    by_cases hji : j = i
    · subst hji; exact hy.qOp hi H
    · have k1 := (H.2 j (ready_mono hj hji)).2
      obtain ⟨hjun, oj, hoj, hall⟩ := mem_ready.1 hj
      have hnot : ∀ e ∈ oj.after, Region.binds md e = true → e.on ≠ i := by
        intro e he hb heq
        have k2 := hall e he hb
        rw [heq, getD_both hun] at k2
        cases k2
      have k3 := qOp_put hoj (hfree j oj hoj hji hjun hnot) (fun cs b => hsel i oi cs b hi) (fun cs b => hsel j oj cs b hoj) hy k1
      refine qOp_mono (fun a' k4 => ih (listed.setIfInBounds j true) a' (inv.set hj hjn) ?_ (ready_mono hr (Ne.symm hji)) k4.1 ?_) k3
      · intro k ok hk hki hunk hno
        refine hfree k ok hk hki ?_ hno
        by_cases hjk : j = k
        · subst hjk; exact hjun
        · rw [getD_set_ne true hjk] at hunk; exact hunk
      · rw [Array.setIfInBounds_comm _ _ hji]
        exact k4.2

theorem headQ_lex {n g : Nat} {Lq : Act → Prop} (hsel : Region.noSelect ops = true) (hs : Region.sinkB md ops n = true) (hc : Region.chainB md ops n = true) (hn : n < ops.size) :
    ∀ (l : List Oper) (k : Nat) (listed : Array Bool) (a : Act), (∀ j, j < l.length → l[j]? = ops[k + j]?) → k + l.length = n → HeadInv md ops n listed →
    Region.lexHead md ops g l.length k listed = true → wpQuiet P ops C Lq l a →
    headQ P md ops C n (fun listed' a' => Region.seqB md ops g n listed' = true ∧ Lq a') l.length listed a
  | [], k, listed, a, _, hk, _, hB, h => by
    obtain rfl : k = n := by simpa using hk
    exact ⟨by simpa [Region.lexHead] using hB, h⟩
  | o :: l, k, listed, a, hl, hk, inv, hB, h => by
    have h0 : ops[k]? = some o := by simpa using (hl 0 (by simp)).symm
    simp only [List.length_cons, Region.lexHead, Bool.and_eq_true] at hB
    obtain ⟨⟨hr, hf⟩, hB'⟩ := hB
    have hkn : k < n := by simp only [List.length_cons] at hk; omega
    have hr' : k ∈ Region.ready md ops listed := by simpa using hr
    have hst : qOp P ops C k (wpQuiet P ops C Lq l) a := by unfold qOp; simp only [h0]; exact h
    obtain ⟨v, hy, hK⟩ := yieldsIn_of_qOp h0 hst
    refine headQ_first h0 (Region.noSelect_spec hsel) hs hc hn hkn (fun listed' a' hL => seqB_ready hL.1) l.length listed a inv (Region.free_spec h0 hf) hr' hy ?_
    refine headQ_lex hsel hs hc hn l (k + 1) _ _ (fun j hj => ?_) (by simp only [List.length_cons] at hk; omega) (inv.set hr' hkn) hB' hK
    have := hl (j + 1) (by simp; omega)
    simpa [Nat.add_assoc, Nat.add_comm 1 j] using this

/-- The first n operations are quiet in the class; the rest is walked in each of its worlds. -/
theorem wp_region_headQ {id : Nat} {Q : Exit → Act → World → Prop} {a : Act} {w : World} {l : List Oper} (n : Nat) (hm : P.follows .mixedOrders = true) (hB : Region.lexTailB .any l.toArray n = true) (hC : C w.drew)
    (h : wpQuiet P l.toArray C (fun a' => ∀ w', C w' → wpList P l.toArray Q (l.drop n) a' w') (l.take n) a) : (Code.region id l.toArray true).wp P Q a w := by
  simp only [Region.lexTailB, Bool.and_eq_true, decide_eq_true_eq] at hB
  obtain ⟨⟨⟨⟨hsel, hn⟩, hs⟩, hc⟩, hlex⟩ := hB
  have hn' : n < l.length := by simpa using hn
  have htl : (l.take n).length = n := by simp; omega
  have hdl : (l.drop n).length = l.toArray.size - n := by simp
  have inv0 : HeadInv .any l.toArray n (Array.replicate l.toArray.size false) := by
    refine ⟨by simp, fun j oj _ hl => ?_, fun t _ ht => getD_in (by simpa using ht) (getD_replicate_false _ _)⟩
    rw [getD_replicate_false] at hl; cases hl
  have H := headQ_lex (md := .any) (C := C) (g := l.toArray.size - n) hsel hs hc hn (l.take n) 0 _ a (fun j hj => by
    have hj' : j < n := by rw [htl] at hj; exact hj
    simp [hj']) (by simpa using htl) inv0 (by rw [htl]; exact hlex) h
  refine wp_region_any hm ?_
  have := any_of_headQ (Q' := Q) (g := l.toArray.size - n) (fun listed a' w' hw' hL => by
    have := wpAny_of_seq (md := .any) (Q' := Q) (l.drop n) n listed a' w' (fun j => by simp [List.getElem?_drop]) (by rw [hdl]; exact hL.1) (hL.2 w' hw')
    rwa [hdl] at this) _ _ _ _ hC H
  rw [htl, show n + (l.toArray.size - n) = l.toArray.size by omega] at this
  exact this
end

/-- The worlds that leave what was there. -/
def Cls (w w' : World) : Prop := Below w.heap.size w w'
theorem Cls.cell {w w' : World} (h : Cls w w') {g i : Nat} {v : Value} (hg : g < w.heap.size) (hc : w.cell? ⟨g, i, none⟩ = some v) : w'.cell? ⟨g, i, none⟩ = some v := (Below.cell h (p := ⟨g, i, none⟩) hg).trans hc
theorem Cls.call {P : Program} {f : FuncId} {args : Array Value} {w w' : World} {v : Value} (h : Cls w w') (k : Calls P f args w' (Gives v w')) : Calls P f args w' fun e w'' => e = .returned v ∧ Cls w w'' :=
  k.mono fun _ _ ⟨he, hb⟩ => ⟨he, nx h hb⟩

theorem wp_region_cls {P : Program} {id : Nat} {Q : Exit → Act → World → Prop} {a : Act} {w : World} {l : List Oper} (hm : P.follows .mixedOrders = true) (hB : Region.lexB .any l.toArray = true)
    (h : wpQuiet P l.toArray (Cls w) (fun a' => ∀ w', Cls w w' → Q .normal a' w') l a) : (Code.region id l.toArray true).wp P Q a w :=
  wp_region_quiet (C := Cls w) hm hB ((Below.refl _ _).drew) (by simpa using h)

theorem wp_region_clsT {P : Program} {id : Nat} {Q : Exit → Act → World → Prop} {a : Act} {w : World} {l : List Oper} (n : Nat) (hm : P.follows .mixedOrders = true) (hB : Region.lexTailB .any l.toArray n = true)
    (h : wpQuiet P l.toArray (Cls w) (fun a' => ∀ w', Cls w w' → wpList P l.toArray Q (l.drop n) a' w') (l.take n) a) : (Code.region id l.toArray true).wp P Q a w :=
  wp_region_headQ n hm hB ((Below.refl _ _).drew) h
end Go.Proofs.YtdhjchibhlcchaaDoor

/-! Fr2 -/
namespace Go.Proofs.YtdhjchibhlcchaaDoor
open Go.RowKit

theorem wrap_div {n g : Nat} (h : (n : Int) ≤ 4611686018427387904) : IntKind.i64.wrap ((n : Int) / (g : Int)) = ((n / g : Nat) : Int) := by
  have h1 := Nat.div_le_self n g
  rw [← Int.natCast_ediv]
  generalize n / g = x at *
  rw [IntKind.wrap_i64] <;> omega
set_option maxHeartbeats 1000000 in
theorem mpShort_any (n d : Nat) (w : World) (hd : 0 < d) (hn2 : (n : Int) ≤ 4611686018427387904) (hd2 : (d : Int) ≤ 4611686018427387904) :
    Calls Tryd.prog 33 #[.int .i64 n, .int .i64 d] w (Gives (.agg #[.int .i64 (shortN n d).1, .int .i64 (shortN n d).2]) w) := by
  have hg := fun w => mpGcd_any n d w (by omega) (by omega)
  have g0 : 0 < Nat.gcd n d := Nat.gcd_pos_of_pos_right _ hd
  unfold shortN
  dsimp only
  generalize Nat.gcd n d = g at *
  have hg0 : ((g : Int) == 0) = false := by rw [beq_eq_false_iff_ne]; omega
  have q1 := wrap_div (g := g) hn2
  have q2 := wrap_div (g := g) hd2
  generalize n / g = x1 at *
  generalize d / g = x2 at *
  have HQ1 := Lib.hid q1
  have HQ2 := Lib.hid q2
  clear q1 q2
  go_enter Tryd.func33, Tryd.ntmps33
  go_wp2_with fail
  have hb0 : Below w.heap.size w (w.alloc (.cells #[.int .i64 0, .int .i64 0] 23 (0, 0))) := nxAlloc (Below.refl _ _) _
  have hx0 := heap_alloc_at w (.cells #[.int .i64 0, .int .i64 0] 23 (0, 0))
  generalize (w.alloc (.cells #[.int .i64 0, .int .i64 0] 23 (0, 0))) = w0 at *
  obtain ⟨hx0a, hx0b, hx0c⟩ := two_facts hx0
  obtain ⟨hx0f, hx0g⟩ := two_frozen hx0
  refine (hg _).mono ?_; rintro e w1 ⟨rfl, hb1⟩
  have hbw1 := nx hb0 hb1
  replace hx0 := heap_keep hb1 hx0
  clear hx0a hx0b hx0c hx0f hx0g
  obtain ⟨hx0a, hx0b, hx0c⟩ := two_facts hx0
  obtain ⟨hx0f, hx0g⟩ := two_frozen hx0
  clear hb1 hb0
  go_wp2_with fail
  refine wp_region_clsT 7 (by kernel_rfl) (by kernel_rfl) ?_
  simp only [List.take_succ_cons, List.take_zero, List.drop_succ_cons, List.drop_zero]
  repeat (
    refine wpQuiet_step (fun K hK => ?_)
    go_simp
    first
      | (refine hK _ ?_; clear hK K)
      | (refine ⟨_, fun _ _ => rfl, hK _ ?_⟩; clear hK K)
      | (apply Exists.intro
         refine ⟨fun w' hw' => ?_, hK _ ?_⟩
         · first
             | (rw [if_neg (by omega), HQ1.out]; exact ⟨rfl, rfl⟩)
             | (rw [if_neg (by omega), HQ2.out]; exact ⟨rfl, rfl⟩)
         clear hK K))
  refine wpQuiet_nil ?_
  intro w' hw'
  have hbwf := nx hbw1 hw'
  replace hx0 := heap_keep hw' hx0
  clear hw' hbw1
  clear hx0a hx0b hx0c hx0f hx0g
  obtain ⟨hx0a, hx0b, hx0c⟩ := two_facts hx0
  obtain ⟨hx0f, hx0g⟩ := two_frozen hx0
  go_wp2_with fail
  obtain ⟨q1, q2⟩ := two_cells (set_two (.int .i64 x1) (.int .i64 x2) hx0)
  refine bodyPost_ret (v := .agg #[.int .i64 x1, .int .i64 x2]) (by simp [q1, q2, results, Tryd.results33, go_sem]) rfl ⟨rfl, ?_⟩
  exact (hbwf.setCell (by show w.heap.size ≤ w.heap.size; omega) _).setCell (by show w.heap.size ≤ w.heap.size; omega) _

/-- The half of a sum of two fractions. -/
def halfO (n d m e : Int) : Option (Nat × Nat) := if isFr n d = true ∧ isFr m e = true then frA ((stepsOf n d + stepsOf m e) / 2) else none
theorem isFr_nats {n d : Int} (h : isFr n d = true) : ∃ a b : Nat, n = a ∧ d = b ∧ a ≤ b ∧ 1 ≤ b ∧ b ≤ 1024 := by
  obtain ⟨h1, h2, h3, h4⟩ := isFr_iff.1 h
  have := isP2_bounds h1
  exact ⟨n.toNat, d.toNat, by omega, by omega, by omega, by omega, by omega⟩
theorem mul_bound {a b : Nat} {x y : Nat} (h : a ≤ x) (k : b ≤ y) : a * b ≤ x * y := Nat.mul_le_mul h k

end Go.Proofs.YtdhjchibhlcchaaDoor

/-! AdP -/
namespace Go.Proofs.YtdhjchibhlcchaaDoor

/-- The letters of a number in the base 2. -/
def bitsL (m len : Nat) : List UInt8 := (List.range len).map fun i => UInt8.ofNat (48 + m / 2 ^ (len - 1 - i) % 2)
theorem bitsL_length (m len : Nat) : (bitsL m len).length = len := by simp [bitsL]
theorem bitsL_take {m len k : Nat} (h : k < len) : (bitsL m len).take (k + 1) = (bitsL m len).take k ++ [UInt8.ofNat (48 + m / 2 ^ (len - 1 - k) % 2)] := by
  rw [List.take_succ_eq_append_getElem (by rw [bitsL_length]; exact h)]
  simp [bitsL]
/-- How many intervals of addresses with so many letters lie in front. -/
def adM (n d len : Nat) : Nat := n * (2 ^ len / d)
/-- The address of a fraction. -/
def adO (n d len : Int) : Option ByteArray :=
  if isFr n d = true ∧ 0 ≤ len ∧ len ≤ 10 ∧ n ≠ d ∧ d ≤ ((2 ^ len.toNat : Nat) : Int) then some ⟨(bitsL (adM n.toNat d.toNat len.toNat) len.toNat).toArray⟩ else none
theorem steps_whole {n d : Nat} (h : isFr n d = true) : stepsOf n d = 1048576 ↔ n = d := by
  obtain ⟨h1, h2, h3, h4⟩ := isFr_iff.1 h
  unfold stepsOf
  rcases isP2_mem.1 h1 with e | e | e | e | e | e | e | e | e | e | e <;>
    (have e' := congrArg Int.toNat e; simp at e'; subst e'; simp; try omega)
theorem small_cases {len : Nat} (h : len ≤ 10) : len = 0 ∨ len = 1 ∨ len = 2 ∨ len = 3 ∨ len = 4 ∨ len = 5 ∨ len = 6 ∨ len = 7 ∨ len = 8 ∨ len = 9 ∨ len = 10 := by omega
theorem steps_fit {n d len : Nat} (h : isFr n d = true) (hl : len ≤ 10) : stepsOf n d % 2 ^ (20 - len) = 0 ↔ d ≤ 2 ^ len := by
  obtain ⟨h1, h2, h3, h4⟩ := isFr_iff.1 h
  unfold stepsOf
  rcases isP2_mem.1 h1 with e | e | e | e | e | e | e | e | e | e | e <;>
    (have e' := congrArg Int.toNat e
     simp at e'
     subst e'
     rcases small_cases hl with f | f | f | f | f | f | f | f | f | f | f <;> (subst f; simp; try omega))
theorem steps_adM {n d len : Nat} (h : isFr n d = true) (hl : len ≤ 10) (hd : d ≤ 2 ^ len) : stepsOf n d = adM n d len * 2 ^ (20 - len) := by
  obtain ⟨h1, h2, h3, h4⟩ := isFr_iff.1 h
  obtain ⟨k, hk, e⟩ := isP2_pow h1
  have e' : d = 2 ^ k := by omega
  have hkl : k ≤ len := by
    rw [e'] at hd
    exact (Nat.pow_le_pow_iff_right (by omega)).1 hd
  unfold stepsOf adM
  rw [Int.toNat_natCast, Int.toNat_natCast, e']
  have e1 : 1048576 = 2 ^ (20 - k) * 2 ^ k := by rw [← Nat.pow_add, show 20 - k + k = 20 by omega]
  have e2 : 2 ^ len = 2 ^ (len - k) * 2 ^ k := by rw [← Nat.pow_add, show len - k + k = len by omega]
  rw [e1, e2, Nat.mul_div_cancel _ (Nat.pow_pos (by omega)), Nat.mul_div_cancel _ (Nat.pow_pos (by omega)), Nat.mul_assoc, ← Nat.pow_add, show len - k + (20 - len) = 20 - k by omega]
theorem steps_bit {n d len i : Nat} (h : isFr n d = true) (hl : len ≤ 10) (hd : d ≤ 2 ^ len) (hi : i < len) : stepsOf n d / 2 ^ (19 - i) % 2 = adM n d len / 2 ^ (len - 1 - i) % 2 := by
  rw [steps_adM h hl hd, show 19 - i = (len - 1 - i) + (20 - len) by omega, Nat.pow_add, Nat.mul_div_mul_right _ _ (Nat.pow_pos (by omega))]
theorem adM_lt {n d len : Nat} (h : isFr n d = true) (hl : len ≤ 10) : adM n d len ≤ 1024 := by
  obtain ⟨h1, h2, h3, h4⟩ := isFr_iff.1 h
  have hd : 1 ≤ d := by have := isP2_bounds h1; omega
  unfold adM
  have a : n * (2 ^ len / d) ≤ d * (2 ^ len / d) := Nat.mul_le_mul_right _ (by omega)
  have b : d * (2 ^ len / d) ≤ 2 ^ len := Nat.mul_div_le _ _
  have c : 2 ^ len ≤ 2 ^ 10 := Nat.pow_le_pow_right (by omega) hl
  omega
end Go.Proofs.YtdhjchibhlcchaaDoor

/-! Fs1 -/
namespace Go.Proofs.YtdhjchibhlcchaaDoor
open Go.RowKit

set_option maxHeartbeats 2000000 in
theorem widthOf_any (k : Nat) (w : World) (h : k ≤ 10) :
    Calls Tryd.prog 36 #[.int .i64 k] w fun e w' => e = .returned (.int .i64 ((2 ^ (20 - k) : Nat) : Int)) ∧ w = w' := by
  rcases small_cases h with e | e | e | e | e | e | e | e | e | e | e <;>
    (subst e
     go_enter Tryd.func36, Tryd.ntmps36
     go_wp2_with fail
     go_ret
     exact ⟨rfl, rfl⟩)

theorem getD_at {l : List UInt8} {k : Nat} (h : k < l.length) : l.getD k 0 = l[k]'h := by simp [h]
/-- What letters make so far. -/
theorem start_steps {a : ByteArray} (h : a.size ≤ 10) (hb : a.data.toList.all isBit = true) :
    ∃ P : Nat → Nat, P 0 = 0 ∧ P a.size = stA a ∧ (∀ k, k ≤ a.size → P k ≤ 1048576) ∧ ∀ k (hk : k < a.size), ((a[k]'hk).toNat = 48 ∧ P (k + 1) = P k) ∨ ((a[k]'hk).toNat = 49 ∧ P (k + 1) = P k + 2 ^ (20 - (k + 1))) := by
  refine ⟨fun k => numA (a.data.toList.take k) * 2 ^ (20 - k), by simp [numA], ?_, ?_, ?_⟩
  · show numA (a.data.toList.take a.data.toList.length) * _ = _
    rw [List.take_length]; rfl
  · intro k hk
    have hk' : k ≤ a.data.toList.length := hk
    have h1 := numA_lt k (a.data.toList.take k) (by rw [List.length_take]; omega) (by rw [List.all_eq_true] at hb ⊢; exact fun x hx => hb x (List.mem_of_mem_take hx))
    show numA (a.data.toList.take k) * 2 ^ (20 - k) ≤ 1048576
    have h2 := Nat.mul_le_mul_right (2 ^ (20 - k)) (Nat.le_of_lt h1)
    rw [← Nat.pow_add, show k + (20 - k) = 20 by omega] at h2
    exact h2
  · intro k hk
    have hk' : k < a.data.toList.length := hk
    have e : (a[k]'hk) = a.data.toList[k]'hk' := by cases a; simp; rfl
    have hbk := isBit_nat ((List.all_eq_true.1 hb) _ (List.getElem_mem hk'))
    have eg : (a.data.toList.getD k 0) = a.data.toList[k]'hk' := getD_at hk'
    have hp : 2 ^ (20 - k) = 2 * 2 ^ (20 - (k + 1)) := by
      rw [show 20 - k = (20 - (k + 1)) + 1 by omega, Nat.pow_succ]; omega
    have hn := numA_take hk'
    rw [eg] at hn
    rw [e]
    show _ ∨ (_ ∧ numA (a.data.toList.take (k + 1)) * 2 ^ (20 - (k + 1)) = numA (a.data.toList.take k) * 2 ^ (20 - k) + 2 ^ (20 - (k + 1)))
    rcases hbk with hb' | hb'
    · left
      refine ⟨hb', ?_⟩
      show numA (a.data.toList.take (k + 1)) * 2 ^ (20 - (k + 1)) = numA (a.data.toList.take k) * 2 ^ (20 - k)
      rw [hn, hb', hp, Nat.sub_self, Nat.add_zero]
      ac_rfl
    · right
      refine ⟨hb', ?_⟩
      rw [hn, hb', hp, show 49 - 48 = 1 by rfl, Nat.add_mul, Nat.one_mul]
      congr 1
      ac_rfl

set_option maxHeartbeats 2000000 in
theorem startOf_any (a : ByteArray) (w : World) (h : a.size ≤ 10) (hb : a.data.toList.all isBit = true) :
    Calls Tryd.prog 19 #[.string a] w (Gives (.int .i64 (stA a)) w) := by
  obtain ⟨P, h0, h1, h2, h3⟩ := start_steps h hb
  rw [← h1]
  have H3 := Lib.hid h3
  have H2 := Lib.hid h2
  have H0 := Lib.hid h0
  clear h0 h1 h2 h3 hb
  go_enter Tryd.func19, Tryd.ntmps19
  go_wp2_with fail
  go_loopw [3, 7] (fun s i wr => ∃ k : Nat, k ≤ a.size ∧ i = .int .i64 k ∧ s = .int .i64 (P k) ∧ Below w.heap.size w wr) (fun _ i _ => a.size - (intOf i).toNat)
  case atStart => exact ⟨0, Nat.zero_le _, rfl, by rw [H0.out]; rfl, Below.refl _ _⟩
  case round =>
    obtain ⟨k, hk, rfl, rfl, hbw⟩ := hrel
    by_cases hlt : k < a.size
    · have hW := fun w => widthOf_any (k + 1) w (by omega)
      have hp := H2.out (k + 1) (by omega)
      have hq := H2.out k hk
      have h4 := H3.out k hlt
      have i1 : (((k + 1 : Nat) : Nat) : Int) = (k : Int) + 1 := by omega
      rw [i1] at hW
      have hq9 : (2 : Nat) ^ (20 - (k + 1)) ≤ 2 ^ 20 := Nat.pow_le_pow_right (by omega) (by omega)
      generalize hqq : (2 : Nat) ^ (20 - (k + 1)) = q at *
      clear i1 hqq
      rcases h4 with ⟨hx, hp'⟩ | ⟨hx, hp'⟩
      · skip
        have hv : (((a[k]'hlt).toNat : Nat) : Int) = 48 := by omega
        have HP := Lib.hid hp'
        clear hx hp'
        go_wp2_with fail
        go_quiet ((go_at_call 36; with_reducible exact quiet_eq (hW _)))
        go_wp2_with fail
        go_roundw
        case rel => exact ⟨k + 1, by omega, by go_num, (by first | (rw [HP.out]; done) | (rw [HP.out]; go_num)), drewB hbw _⟩
        case measure => simp [intOf]; omega
      · skip
        have hv : (((a[k]'hlt).toNat : Nat) : Int) = 49 := by omega
        have HP := Lib.hid hp'
        clear hx hp'
        go_wp2_with fail
        go_quiet ((go_at_call 36; with_reducible exact quiet_eq (hW _)))
        go_wp2_with fail
        go_roundw
        case rel => exact ⟨k + 1, by omega, by go_num, (by first | (rw [HP.out]; done) | (rw [HP.out]; go_num)), drewB hbw _⟩
        case measure => simp [intOf]; omega
    · obtain rfl : k = a.size := by omega
      go_wp2_with fail
      go_ret
      exact ⟨rfl, hbw⟩
end Go.Proofs.YtdhjchibhlcchaaDoor

/-! Fs2 -/
namespace Go.Proofs.YtdhjchibhlcchaaDoor
open Go.RowKit

theorem num_steps {a : ByteArray} (h : a.size ≤ 10) (hb : a.data.toList.all isBit = true) :
    ∃ N : Nat → Nat, N 0 = 0 ∧ N a.size = numA a.data.toList ∧ (∀ k, k ≤ a.size → N k ≤ 1024) ∧ ∀ k (hk : k < a.size), ((a[k]'hk).toNat = 48 ∧ N (k + 1) = 2 * N k) ∨ ((a[k]'hk).toNat = 49 ∧ N (k + 1) = 2 * N k + 1) := by
  refine ⟨fun k => numA (a.data.toList.take k), by simp [numA], ?_, ?_, ?_⟩
  · show numA (a.data.toList.take a.data.toList.length) = _
    rw [List.take_length]
  · intro k hk
    have hk' : k ≤ a.data.toList.length := hk
    have h1 := numA_lt k (a.data.toList.take k) (by rw [List.length_take]; omega) (by rw [List.all_eq_true] at hb ⊢; exact fun x hx => hb x (List.mem_of_mem_take hx))
    have h2 : (2 : Nat) ^ k ≤ 2 ^ 10 := Nat.pow_le_pow_right (by omega) (by omega)
    show numA (a.data.toList.take k) ≤ 1024
    omega
  · intro k hk
    have hk' : k < a.data.toList.length := hk
    have e : (a[k]'hk) = a.data.toList[k]'hk' := by cases a; simp; rfl
    have hbk := isBit_nat ((List.all_eq_true.1 hb) _ (List.getElem_mem hk'))
    have eg : (a.data.toList.getD k 0) = a.data.toList[k]'hk' := getD_at hk'
    have hn := numA_take hk'
    rw [eg] at hn
    rw [e]
    show (_ ∧ numA (a.data.toList.take (k + 1)) = 2 * numA (a.data.toList.take k)) ∨ (_ ∧ numA (a.data.toList.take (k + 1)) = 2 * numA (a.data.toList.take k) + 1)
    omega

set_option maxHeartbeats 2000000 in
set_option maxRecDepth 100000 in
theorem mpOf_any (a : ByteArray) (w : World) (h : a.size ≤ 10) (hb : a.data.toList.all isBit = true) :
    Calls Tryd.prog 16 #[.string a] w (Gives (.agg #[.int .i64 (frOf (stA a)).1, .int .i64 (frOf (stA a)).2]) w) := by
  obtain ⟨N, h0, h1, h2, h3⟩ := num_steps h hb
  have hsh : wrap64 ((2 : Int) ^ a.size) = ((2 ^ a.size : Nat) : Int) := by
    rcases small_cases h with e | e | e | e | e | e | e | e | e | e | e <;> (rw [e]; decide +kernel)
  have hp : 2 ^ a.size ≤ 2 ^ 10 := Nat.pow_le_pow_right (by omega) h
  have hM := fun w => mpShort_any (N a.size) (2 ^ a.size) w (Nat.pow_pos (by omega)) (by have := h2 a.size (Nat.le_refl _); omega) (by omega)
  rw [← hsh] at hM
  clear hsh
  rw [stA_frOf (by omega), ← h1]
  generalize (shortN (N a.size) (2 ^ a.size)).1 = x1 at *
  generalize (shortN (N a.size) (2 ^ a.size)).2 = x2 at *
  have H3 := Lib.hid h3
  have H2 := Lib.hid h2
  have H0 := Lib.hid h0
  clear h0 h1 h2 h3 hb hp
  go_enter Tryd.func16, Tryd.ntmps16
  go_wp2_with fail
  have hb0 : Below w.heap.size w (w.alloc (.cells #[.int .i64 0, .int .i64 0] 23 (0, 0))) := nxAlloc (Below.refl _ _) _
  have hx0 := heap_alloc_at w (.cells #[.int .i64 0, .int .i64 0] 23 (0, 0))
  generalize (w.alloc (.cells #[.int .i64 0, .int .i64 0] 23 (0, 0))) = w0 at *
  obtain ⟨hx0a, hx0b, hx0c⟩ := two_facts hx0
  obtain ⟨hx0f, hx0g⟩ := two_frozen hx0
  go_loop [3, 4] (fun s i => ∃ k : Nat, k ≤ a.size ∧ i = .int .i64 k ∧ s = .int .i64 (N k)) (fun _ i => a.size - (intOf i).toNat)
  case atStart => exact ⟨0, Nat.zero_le _, rfl, by rw [H0.out]; rfl⟩
  case round =>
    obtain ⟨k, hk, rfl, rfl⟩ := hrel
    by_cases hlt : k < a.size
    · have hp := H2.out (k + 1) (by omega)
      have hq := H2.out k hk
      have h4 := H3.out k hlt
      rcases h4 with ⟨hx, hp'⟩ | ⟨hx, hp'⟩
      · have hv : (((a[k]'hlt).toNat : Nat) : Int) = 48 := by omega
        have HP := Lib.hid hp'
        clear hx hp'
        go_wp2_with fail
        go_round
        case rel => exact ⟨k + 1, by omega, by go_num, (by first | (rw [HP.out]; done) | (rw [HP.out]; go_num))⟩
        case measure => simp [intOf]; omega
      · have hv : (((a[k]'hlt).toNat : Nat) : Int) = 49 := by omega
        have HP := Lib.hid hp'
        clear hx hp'
        go_wp2_with fail
        go_round
        case rel => exact ⟨k + 1, by omega, by go_num, (by first | (rw [HP.out]; done) | (rw [HP.out]; go_num))⟩
        case measure => simp [intOf]; omega
    · obtain rfl : k = a.size := by omega
      go_wp2_with fail
      refine (hM _).mono ?_; rintro e w1 ⟨rfl, hb1⟩
      have hbw1 := nx hb0 hb1
      replace hx0 := heap_keep hb1 hx0
      clear hx0a hx0b hx0c hx0f hx0g
      obtain ⟨hx0a, hx0b, hx0c⟩ := two_facts hx0
      obtain ⟨hx0f, hx0g⟩ := two_frozen hx0
      clear hb1 hb0
      go_wp2_with fail
      obtain ⟨q1, q2⟩ := two_cells (set_two (.int .i64 x1) (.int .i64 x2) hx0)
      refine bodyPost_ret (v := .agg #[.int .i64 x1, .int .i64 x2]) (by simp [q1, q2, results, Tryd.results16, go_sem]) rfl ⟨rfl, ?_⟩
      exact (hbw1.setCell (by show w.heap.size ≤ w.heap.size; omega) _).setCell (by show w.heap.size ≤ w.heap.size; omega) _
end Go.Proofs.YtdhjchibhlcchaaDoor

/-! Tail -/
namespace Go.Proofs.YtdhjchibhlcchaaDoor
open Go.RowKit

theorem CellsI.len {base : Nat} {w : World} {v : Value} {xs : List Int} (h : CellsI base w v xs) : (xs.length : Int) ≤ 9223372036854775807 := by
  rcases h with ⟨_, rfl⟩ | ⟨g, cap, _, _, _, h1, h2, _⟩
  · simp
  · unfold maxLen at h2; omega

theorem CellsI.drewN {base : Nat} {w : World} {v : Value} {xs : List Int} (h : CellsI base w v xs) (n : Nat) : CellsI base (w.drewN n) v xs := h

/-- k, k + 1, .. : n numbers. -/
def marks (k : Int) (n : Nat) : List Int := (List.range n).map fun (i : Nat) => k + (i : Int)
theorem marks_length (k : Int) (n : Nat) : (marks k n).length = n := by simp [marks]
theorem marks_getD (k : Int) {n i : Nat} (h : i < n) : (marks k n).getD i 0 = k + i := by simp [marks, h]

theorem marks_set (k : Int) (xs : List Int) (j : Nat) (h : j < xs.length) : (marks k j ++ xs.drop j).set j (k + j) = marks k (j + 1) ++ xs.drop (j + 1) := by
  have hm := marks_length k j
  have e1 : marks k (j + 1) = marks k j ++ [k + j] := by simp [marks, List.range_succ]
  rw [List.set_append_right _ _ (by omega), hm, Nat.sub_self, e1, List.append_assoc]
  congr 1
  rw [List.drop_eq_getElem_cons h]
  rfl

theorem OwnI.set {base : Nat} {w : World} {g cap : Nat} {xs : List Int} {n : Nat} (hn : xs.length = n) (h : OwnI base w (.slice (some ⟨g, 0, none⟩) n cap) xs) (j : Nat) (m : Int) :
    OwnI base (w.setCell ⟨g, j, none⟩ (.int .i64 m)) (.slice (some ⟨g, 0, none⟩) n cap) (xs.set j m) := by
  unfold OwnI at *
  subst hn
  rw [List.length_set, List.map_set]
  exact (World.ownsRow.stored h j _).1

/-- A call that hands back a number, and leaves the slice v with other numbers. -/
def Marked (base : Nat) (r : Int) (v : Value) (xs : List Int) (w : World) (e : Ending) (w' : World) : Prop := e = .returned (.int .i64 r) ∧ OwnI base w' v xs ∧ Below base w w'

end Go.Proofs.YtdhjchibhlcchaaDoor

/-! RowW -/
namespace Go.Proofs.YtdhjchibhlcchaaDoor
open Go.RowKit

/-- v is a slice of n structs of type e, of c integers each: L, one after the other. -/
def OwnW (e : TypeId) (c base : Nat) (w : World) (v : Value) (n : Nat) (L : List Int) : Prop := w.ownsRow base e c v n (L.map (Value.int .i64))
theorem OwnW.keep {e : TypeId} {c base : Nat} {w w' : World} {v : Value} {n : Nat} {L : List Int} (h : OwnW e c base w v n L) (hb : Below w.heap.size w w') : OwnW e c base w' v n L := ownsRow_keep h hb
theorem OwnW.mono {e : TypeId} {c base base' : Nat} {w : World} {v : Value} {n : Nat} {L : List Int} (h : OwnW e c base w v n L) (hb : base' ≤ base) : OwnW e c base' w v n L := ownsRow_mono h hb
theorem OwnW.nil (e : TypeId) (c base : Nat) (w : World) : OwnW e c base w (.slice none 0 0) 0 [] := World.ownsRow_nil _ _ _ _
theorem OwnW.len {e : TypeId} {c base : Nat} {w : World} {v : Value} {n : Nat} {L : List Int} (h : OwnW e c base w v n L) : L.length = n * c := by
  have := h.1; simpa using this
/-- What can be read of such a slice. -/
def CellsW (c base : Nat) (w : World) (v : Value) (n : Nat) (L : List Int) : Prop :=
  (v = .slice none 0 0 ∧ n = 0) ∨ ∃ g cap : Nat, v = .slice (some ⟨g, 0, none⟩) n cap ∧ base ≤ g ∧ g < w.heap.size ∧ n ≤ cap ∧ cap ≤ maxLen ∧
    (∀ i, i < n * c → w.cell? ⟨g, i, none⟩ = some (.int .i64 (L.getD i 0))) ∧ ∀ i, w.frozen? ⟨g, i, none⟩ = false
theorem OwnW.cells {e : TypeId} {c base : Nat} {w : World} {v : Value} {n : Nat} {L : List Int} (h : OwnW e c base w v n L) : CellsW c base w v n L := by
  have h0 := h
  have hl := h.len
  obtain ⟨h1, h2⟩ := h
  rcases h2 with ⟨hv, hn⟩ | ⟨g, cap, cur, hv, hg, hh, r1, r2, r3⟩
  · exact .inl ⟨hv, hn⟩
  · subst hv
    refine .inr ⟨g, cap, rfl, hg, lt_of_block hh, r1, r2, fun i hi => ?_, fun i => World.ownsRow.frozenAt h0 i⟩
    have := World.ownsRow.cellAt h0 i (by omega)
    rw [this]
    have hi' : i < L.length := by omega
    simp [hi']
theorem CellsW.keep {c base : Nat} {w w' : World} {v : Value} {n : Nat} {L : List Int} (h : CellsW c base w v n L) (hb : Below w.heap.size w w') : CellsW c base w' v n L := by
  rcases h with h | ⟨g, cap, hv, h1, h2, h3, h4, h5, h6⟩
  · exact .inl h
  · refine .inr ⟨g, cap, hv, h1, Nat.lt_of_lt_of_le h2 hb.size, h3, h4, fun i hi => (hb.cell (p := ⟨g, i, none⟩) h2).trans (h5 i hi), fun i => (hb.frozen (p := ⟨g, i, none⟩) h2).trans (h6 i)⟩
/-- Pairs of numbers, one after the other. -/
def flatF : List (Nat × Nat) → List Int
  | [] => []
  | x :: l => (x.1 : Int) :: (x.2 : Int) :: flatF l
theorem flatF_length (l : List (Nat × Nat)) : (flatF l).length = l.length * 2 := by
  induction l with
  | nil => rfl
  | cons x l ih => simp [flatF, ih]; omega
theorem flatF_append (l m : List (Nat × Nat)) : flatF (l ++ m) = flatF l ++ flatF m := by
  induction l with
  | nil => rfl
  | cons x l ih => simp [flatF, ih]
theorem flatF_get (l : List (Nat × Nat)) : ∀ k, k < l.length → (flatF l).getD (k * 2) 0 = ((l.getD k (0, 0)).1 : Int) ∧ (flatF l).getD (k * 2 + 1) 0 = ((l.getD k (0, 0)).2 : Int) := by
  induction l with
  | nil => intro k hk; simp at hk
  | cons x l ih =>
    intro k hk
    match k with
    | 0 => exact ⟨rfl, rfl⟩
    | k + 1 =>
      have := ih k (by simpa using hk)
      rw [show (k + 1) * 2 = k * 2 + 2 by omega]
      exact this
/-- v is a slice of fractions that the call has made. -/
def OwnF (base : Nat) (w : World) (v : Value) (xs : List (Nat × Nat)) : Prop := OwnW 23 2 base w v xs.length (flatF xs)
theorem OwnF.keep {base : Nat} {w w' : World} {v : Value} {xs : List (Nat × Nat)} (h : OwnF base w v xs) (hb : Below w.heap.size w w') : OwnF base w' v xs := OwnW.keep h hb
theorem OwnF.mono {base base' : Nat} {w : World} {v : Value} {xs : List (Nat × Nat)} (h : OwnF base w v xs) (hb : base' ≤ base) : OwnF base' w v xs := OwnW.mono h hb
theorem OwnF.cells {base : Nat} {w : World} {v : Value} {xs : List (Nat × Nat)} (h : OwnF base w v xs) : CellsW 2 base w v xs.length (flatF xs) := OwnW.cells h
def AnsF2 (xs : List (Nat × Nat)) (ok : Bool) (w : World) (e : Ending) (w' : World) : Prop :=
  ∃ v, OwnF w.heap.size w' v xs ∧ Below w.heap.size w w' ∧ e = .returned (.tuple #[v, .bool ok])
def AnsFs (o : Option (List (Nat × Nat))) (w : World) (e : Ending) (w' : World) : Prop := AnsF2 (o.getD []) o.isSome w e w'
/-- A call that hands back a slice of fractions of its own. -/
def GivesF (xs : List (Nat × Nat)) (w : World) (e : Ending) (w' : World) : Prop :=
  ∃ v, OwnF w.heap.size w' v xs ∧ Below w.heap.size w w' ∧ e = .returned v
theorem info_frac : (Tryd.prog.info? 23).map (fun i => (i.zero, i.size, i.bytes)) = some (some (.agg #[.int .i64 0, .int .i64 0]), 2, 16) := by kernel_rfl
/-- What an append of one struct asks. -/
theorem newsK (w : World) (cs : Array Value) (e : TypeId) : ∀ (j : Nat) (u : Value), cs.toList[j]? = some u → (w.alloc (.cells cs e)).cell? ((⟨w.heap.size, 0, none⟩ : Addr).add j) = some u := by
  intro j u hj
  have hb : (w.alloc (.cells cs e)).heap[w.heap.size]? = some (.cells cs e (0, 0)) := by show (w.heap.push _)[w.heap.size]? = _; simp
  rw [addr_add]
  simp only [World.cell?, hb]
  simpa using hj
theorem OwnF.snoc {base : Nat} {w : World} {v : Value} {xs : List (Nat × Nat)} {a b : Nat} (h : w.ownsRow base 23 2 v (xs.length + 1) ((flatF xs).map (Value.int .i64) ++ [Value.int .i64 a, Value.int .i64 b])) : OwnF base w v (xs ++ [(a, b)]) := by
  unfold OwnF OwnW
  rw [List.length_append, flatF_append, List.map_append]
  exact h
end Go.Proofs.YtdhjchibhlcchaaDoor

/-! Fr3 -/
namespace Go.Proofs.YtdhjchibhlcchaaDoor
open Go.RowKit

def pop1 (d : Int) : Int := IntKind.u64.wrap (bits BinOp.and IntKind.u64 (d / 2) 6148914691236517205 + bits BinOp.and IntKind.u64 d 6148914691236517205)
def pop2 (x : Int) : Int := IntKind.u64.wrap (bits BinOp.and IntKind.u64 (x / 4) 3689348814741910323 + bits BinOp.and IntKind.u64 x 3689348814741910323)
def pop3 (x : Int) : Int := bits BinOp.and IntKind.u64 (IntKind.u64.wrap (x / 16 + x)) 1085102592571150095
def pop4 (x : Int) : Int := IntKind.u64.wrap (x + x / 256)
def pop5 (x : Int) : Int := IntKind.u64.wrap (x + x / 65536)
def pop6 (x : Int) : Int := IntKind.u64.wrap (x + x / 4294967296)
/-- How many ones, as math/bits counts them. -/
def pop (d : Int) : Int := bits BinOp.and IntKind.i64 (wrap64 (pop6 (pop5 (pop4 (pop3 (pop2 (pop1 d))))))) 127
set_option maxRecDepth 100000 in
theorem pop_isP2 : ∀ d : Fin 1025, 0 < d.val → ((pop (d.val : Int) == 1) = isP2 (d.val : Int)) := by decide +kernel
theorem pop_ne {d : Int} (h0 : 1 ≤ d) (h1 : d ≤ 1024) : (pop d != 1) = !isP2 d := by
  have := pop_isP2 ⟨d.toNat, by omega⟩ (by show 0 < d.toNat; omega)
  have e : ((d.toNat : Nat) : Int) = d := by omega
  simp only [e] at this
  rw [bne, this]

set_option maxHeartbeats 2000000 in
theorem onesCount64_any (d : Int) (w : World) (_h0 : 1 ≤ d) (_h : d ≤ 1024) :
    Calls Tryd.prog 80 #[.int .u64 d] w (Gives (.int .i64 (pop d)) w) := by
  go_enter Tryd.func80, Tryd.ntmps80
  go_wp2_with fail
  go_ret
  refine ⟨ret_int ?_, Below.refl _ _⟩
  rfl
set_option maxHeartbeats 2000000 in
theorem onesCount_any (d : Int) (w : World) (h0 : 1 ≤ d) (h : d ≤ 1024) :
    Calls Tryd.prog 65 #[.int .u64 d] w (Gives (.int .i64 (pop d)) w) := by
  have ho := fun w => onesCount64_any d w h0 h
  generalize pop d = r at *
  go_enter Tryd.func65, Tryd.ntmps65
  go_wp2_with fail
  refine (ho _).mono ?_; rintro e w1 ⟨rfl, hb1⟩
  go_wp2_with fail
  go_ret
  exact ⟨rfl, hb1⟩

set_option maxHeartbeats 2000000 in
theorem isFraction_any (n d : Int) (w : World) :
    Calls Tryd.prog 35 #[.agg #[.int .i64 n, .int .i64 d]] w (Gives (.bool (isFr n d)) w) := by
  by_cases h1 : d < 1
  · have e : isFr n d = false := by rw [Bool.eq_false_iff, Ne, isFr_iff]; intro h; have := isP2_bounds h.1; omega
    rw [e]
    clear e
    go_enter Tryd.func35, Tryd.ntmps35
    go_wp2_with fail
    have hb0 : Below w.heap.size w (w.alloc (.cells #[.int .i64 n, .int .i64 d] 23 (0, 0))) := nxAlloc (Below.refl _ _) _
    have hx0 := heap_alloc_at w (.cells #[.int .i64 n, .int .i64 d] 23 (0, 0))
    generalize (w.alloc (.cells #[.int .i64 n, .int .i64 d] 23 (0, 0))) = w0 at *
    obtain ⟨hx0a, hx0b, hx0c⟩ := two_facts hx0
    obtain ⟨hx0f, hx0g⟩ := two_frozen hx0
    go_ret
    exact ⟨rfl, hb0⟩
  · by_cases h2 : 1024 < d
    · have e : isFr n d = false := by rw [Bool.eq_false_iff, Ne, isFr_iff]; intro h; have := isP2_bounds h.1; omega
      rw [e]
      clear e
      go_enter Tryd.func35, Tryd.ntmps35
      go_wp2_with fail
      have hb0 : Below w.heap.size w (w.alloc (.cells #[.int .i64 n, .int .i64 d] 23 (0, 0))) := nxAlloc (Below.refl _ _) _
      have hx0 := heap_alloc_at w (.cells #[.int .i64 n, .int .i64 d] 23 (0, 0))
      generalize (w.alloc (.cells #[.int .i64 n, .int .i64 d] 23 (0, 0))) = w0 at *
      obtain ⟨hx0a, hx0b, hx0c⟩ := two_facts hx0
      obtain ⟨hx0f, hx0g⟩ := two_frozen hx0
      go_ret
      exact ⟨rfl, hb0⟩
    · have hp := pop_ne (d := d) (by omega) (by omega)
      have ho := fun w => onesCount_any d w (by omega) (by omega)
      cases hq : isP2 d with
      | false =>
        rw [hq] at hp
        have hp' : (pop d != 1) = true := hp
        have e : isFr n d = false := by unfold isFr; rw [hq]; rfl
        rw [e]
        clear e hp hq
        generalize pop d = r at *
        go_enter Tryd.func35, Tryd.ntmps35
        go_wp2_with fail
        have hb0 : Below w.heap.size w (w.alloc (.cells #[.int .i64 n, .int .i64 d] 23 (0, 0))) := nxAlloc (Below.refl _ _) _
        have hx0 := heap_alloc_at w (.cells #[.int .i64 n, .int .i64 d] 23 (0, 0))
        generalize (w.alloc (.cells #[.int .i64 n, .int .i64 d] 23 (0, 0))) = w0 at *
        obtain ⟨hx0a, hx0b, hx0c⟩ := two_facts hx0
        obtain ⟨hx0f, hx0g⟩ := two_frozen hx0
        refine (ho _).mono ?_; rintro e w1 ⟨rfl, hb1⟩
        have hbw1 := nx hb0 hb1
        replace hx0 := heap_keep hb1 hx0
        clear hx0a hx0b hx0c hx0f hx0g
        obtain ⟨hx0a, hx0b, hx0c⟩ := two_facts hx0
        obtain ⟨hx0f, hx0g⟩ := two_frozen hx0
        clear hb1 hb0
        go_wp2_with fail
        go_ret
        exact ⟨rfl, hbw1⟩
      | true =>
        rw [hq] at hp
        have hp' : (pop d != 1) = false := hp
        obtain ⟨R, hR⟩ : ∃ R, R = isFr n d := ⟨_, rfl⟩
        rw [← hR]
        have e : isFr n d = (decide (0 ≤ n) && (decide (n ≤ d) && (decide (d = 1) || decide (n % 2 = 1)))) := by unfold isFr; rw [hq, Bool.true_and]
        rw [e] at hR
        clear e hp hq
        generalize pop d = r at *
        by_cases h3 : 0 ≤ n
        · by_cases h4 : n ≤ d
          · rw [decide_eq_true h3, decide_eq_true h4, Bool.true_and, Bool.true_and] at hR
            by_cases hd : d = 1
            · have hd0 : (d == 1) = true := by rw [beq_iff_eq]; exact hd
              rw [decide_eq_true hd, Bool.true_or] at hR
              have HR := Lib.hid hR
              clear hd hR
              go_enter Tryd.func35, Tryd.ntmps35
              go_wp2_with fail
              have hb0 : Below w.heap.size w (w.alloc (.cells #[.int .i64 n, .int .i64 d] 23 (0, 0))) := nxAlloc (Below.refl _ _) _
              have hx0 := heap_alloc_at w (.cells #[.int .i64 n, .int .i64 d] 23 (0, 0))
              generalize (w.alloc (.cells #[.int .i64 n, .int .i64 d] 23 (0, 0))) = w0 at *
              obtain ⟨hx0a, hx0b, hx0c⟩ := two_facts hx0
              obtain ⟨hx0f, hx0g⟩ := two_frozen hx0
              refine (ho _).mono ?_; rintro e w1 ⟨rfl, hb1⟩
              have hbw1 := nx hb0 hb1
              replace hx0 := heap_keep hb1 hx0
              clear hx0a hx0b hx0c hx0f hx0g
              obtain ⟨hx0a, hx0b, hx0c⟩ := two_facts hx0
              obtain ⟨hx0f, hx0g⟩ := two_frozen hx0
              clear hb1 hb0
              go_wp2_with fail
              go_ret
              refine ⟨ret_bool ?_, hbw1⟩
              first | (rw [HR.out]; done) | (rw [HR.out]; rfl)
            · have hd0 : (d == 1) = false := by rw [beq_eq_false_iff_ne]; exact hd
              rw [decide_eq_false hd, Bool.false_or] at hR
              have HR := Lib.hid hR
              clear hd hR
              go_enter Tryd.func35, Tryd.ntmps35
              go_wp2_with fail
              have hb0 : Below w.heap.size w (w.alloc (.cells #[.int .i64 n, .int .i64 d] 23 (0, 0))) := nxAlloc (Below.refl _ _) _
              have hx0 := heap_alloc_at w (.cells #[.int .i64 n, .int .i64 d] 23 (0, 0))
              generalize (w.alloc (.cells #[.int .i64 n, .int .i64 d] 23 (0, 0))) = w0 at *
              obtain ⟨hx0a, hx0b, hx0c⟩ := two_facts hx0
              obtain ⟨hx0f, hx0g⟩ := two_frozen hx0
              refine (ho _).mono ?_; rintro e w1 ⟨rfl, hb1⟩
              have hbw1 := nx hb0 hb1
              replace hx0 := heap_keep hb1 hx0
              clear hx0a hx0b hx0c hx0f hx0g
              obtain ⟨hx0a, hx0b, hx0c⟩ := two_facts hx0
              obtain ⟨hx0f, hx0g⟩ := two_frozen hx0
              clear hb1 hb0
              go_wp2_with fail
              go_ret
              refine ⟨ret_bool ?_, hbw1⟩
              first | (rw [HR.out]; done) | (rw [HR.out]; rfl)
          · rw [decide_eq_false h4, Bool.false_and, Bool.and_false] at hR
            have HR := Lib.hid hR
            clear hR
            go_enter Tryd.func35, Tryd.ntmps35
            go_wp2_with fail
            have hb0 : Below w.heap.size w (w.alloc (.cells #[.int .i64 n, .int .i64 d] 23 (0, 0))) := nxAlloc (Below.refl _ _) _
            have hx0 := heap_alloc_at w (.cells #[.int .i64 n, .int .i64 d] 23 (0, 0))
            generalize (w.alloc (.cells #[.int .i64 n, .int .i64 d] 23 (0, 0))) = w0 at *
            obtain ⟨hx0a, hx0b, hx0c⟩ := two_facts hx0
            obtain ⟨hx0f, hx0g⟩ := two_frozen hx0
            refine (ho _).mono ?_; rintro e w1 ⟨rfl, hb1⟩
            have hbw1 := nx hb0 hb1
            replace hx0 := heap_keep hb1 hx0
            clear hx0a hx0b hx0c hx0f hx0g
            obtain ⟨hx0a, hx0b, hx0c⟩ := two_facts hx0
            obtain ⟨hx0f, hx0g⟩ := two_frozen hx0
            clear hb1 hb0
            go_wp2_with fail
            go_ret
            refine ⟨ret_bool ?_, hbw1⟩
            first | (rw [HR.out]; done) | (rw [HR.out]; rfl)
        · rw [decide_eq_false h3, Bool.false_and] at hR
          have HR := Lib.hid hR
          clear hR
          go_enter Tryd.func35, Tryd.ntmps35
          go_wp2_with fail
          have hb0 : Below w.heap.size w (w.alloc (.cells #[.int .i64 n, .int .i64 d] 23 (0, 0))) := nxAlloc (Below.refl _ _) _
          have hx0 := heap_alloc_at w (.cells #[.int .i64 n, .int .i64 d] 23 (0, 0))
          generalize (w.alloc (.cells #[.int .i64 n, .int .i64 d] 23 (0, 0))) = w0 at *
          obtain ⟨hx0a, hx0b, hx0c⟩ := two_facts hx0
          obtain ⟨hx0f, hx0g⟩ := two_frozen hx0
          refine (ho _).mono ?_; rintro e w1 ⟨rfl, hb1⟩
          have hbw1 := nx hb0 hb1
          replace hx0 := heap_keep hb1 hx0
          clear hx0a hx0b hx0c hx0f hx0g
          obtain ⟨hx0a, hx0b, hx0c⟩ := two_facts hx0
          obtain ⟨hx0f, hx0g⟩ := two_frozen hx0
          clear hb1 hb0
          go_wp2_with fail
          go_ret
          refine ⟨ret_bool ?_, hbw1⟩
          first | (rw [HR.out]; done) | (rw [HR.out]; rfl)
end Go.Proofs.YtdhjchibhlcchaaDoor

/-! Fr4 -/
namespace Go.Proofs.YtdhjchibhlcchaaDoor
open Go.RowKit

theorem pow_even {j : Nat} (h : 1 < 2 ^ j) : ∃ i, 2 ^ j = 2 * 2 ^ i ∧ i < j := by
  cases j with
  | zero => simp at h
  | succ i => exact ⟨i, by rw [Nat.pow_succ]; omega, by omega⟩
theorem half_step {W n s p : Nat} (h : n * W = s * (2 * p)) (hev : n % 2 = 0) : n / 2 * W = s * p := by
  obtain ⟨m, rfl⟩ : ∃ m, n = 2 * m := ⟨n / 2, by omega⟩
  have e : 2 * m / 2 = m := by omega
  rw [e]
  refine Nat.eq_of_mul_eq_mul_left (show 0 < 2 by omega) ?_
  rw [← Nat.mul_assoc, h]
  ac_rfl
theorem frA_end {s n d j : Nat} (h : n * 1048576 = s * d) (hd : d = 2 ^ j) (ho : ¬ 1 < d ∨ n % 2 = 1) : frA s = if isFr n d = true then some (n, d) else none := by
  have hp : 0 < d := by rw [hd]; exact Nat.pow_pos (by omega)
  have e : frOf s = (n, d) := by
    rw [frOf_even h hp]
    apply short_self
    rcases ho with ho | ho
    · obtain rfl : d = 1 := by omega
      exact Nat.gcd_one_right _
    · rw [hd]; exact gcd_odd_pow ho j
  unfold frA
  rw [e]
set_option maxHeartbeats 2000000 in
theorem fractionAt_any (s : Nat) (w : World) (hs : (s : Int) ≤ 4611686018427387904) :
    Calls Tryd.prog 18 #[.int .i64 s] w (Gives (ansF (frA s)) w) := by
  go_enter Tryd.func18, Tryd.ntmps18
  go_wp2_with fail
  have hb0 : Below w.heap.size w ((w.alloc (.cells #[.int .i64 0, .int .i64 0] 23 (0, 0))).alloc (.cells #[.int .i64 s, .int .i64 1048576] 23 (0, 0))) := nxAlloc (nxAlloc (Below.refl _ _) _) _
  have hx0 := heap_keep (nxAlloc (Below.refl _ _) (.cells #[.int .i64 s, .int .i64 1048576] 23 (0, 0))) (heap_alloc_at w (.cells #[.int .i64 0, .int .i64 0] 23 (0, 0)))
  have hx1 := heap_alloc_at (w.alloc (.cells #[.int .i64 0, .int .i64 0] 23 (0, 0))) (.cells #[.int .i64 s, .int .i64 1048576] 23 (0, 0))
  generalize ((w.alloc (.cells #[.int .i64 0, .int .i64 0] 23 (0, 0))).alloc (.cells #[.int .i64 s, .int .i64 1048576] 23 (0, 0))) = w0 at *
  have e1 : (w.alloc (.cells #[.int .i64 0, .int .i64 0] 23 (0, 0))).heap.size = w.heap.size + 1 := by simp
  rw [e1] at hx1
  clear e1
  obtain ⟨hx0a, hx0b, hx0c⟩ := two_facts hx0
  obtain ⟨hx0f, hx0g⟩ := two_frozen hx0
  obtain ⟨hx1a, hx1b, hx1c⟩ := two_facts hx1
  obtain ⟨hx1f, hx1g⟩ := two_frozen hx1
  clear hx0a hx0b hx0c hx0f hx0g hx1a hx1b hx1c hx1f hx1g
  go_loopw [] (fun wr => ∃ n d j : Nat, wr.heap[w.heap.size + 1]? = some (.cells #[.int .i64 n, .int .i64 d] 23 (0, 0)) ∧ wr.heap[w.heap.size]? = some (.cells #[.int .i64 0, .int .i64 0] 23 (0, 0)) ∧ Below w.heap.size w wr ∧ (n : Int) ≤ 4611686018427387904 ∧ d = 2 ^ j ∧ j ≤ 20 ∧ Hid (n * 1048576 = s * d)) (fun wr => (intOf ((wr.cell? ⟨w.heap.size + 1, 1, none⟩).getD undef)).toNat)
  case atStart => exact ⟨s, 1048576, 20, hx1, hx0, hb0, hs, rfl, by omega, rfl⟩
  case round =>
    obtain ⟨n, d, j, hx1, hx0, hbw, hn, hd, hj, he⟩ := hrel
    obtain ⟨ka, kb, kc⟩ := two_facts hx1
    obtain ⟨kf, kg⟩ := two_frozen hx1
    have hdl : d ≤ 2 ^ 20 := by rw [hd]; exact Nat.pow_le_pow_right (by omega) hj
    have HJ := Lib.hid hd
    clear hd
    by_cases hlt : 1 < d
    · obtain ⟨i, hi1, hi2⟩ := pow_even (j := j) (by have := HJ.out; omega)
      have hd2 : d = 2 * 2 ^ i := by rw [HJ.out, hi1]
      have hdh : d / 2 = 2 ^ i := by omega
      have HD2 := Lib.hid hd2
      have HDH := Lib.hid hdh
      clear hi1 hd2 hdh
      by_cases hev : n % 2 = 0
      · go_wp2_with fail
        go_roundw
        case rel =>
          refine ⟨n / 2, d / 2, i, set_two _ _ hx1, (Below.heap_setCell _ _ _ _ (by show w.heap.size ≠ w.heap.size + 1; omega)).trans ((Below.heap_setCell _ _ _ _ (by show w.heap.size ≠ w.heap.size + 1; omega)).trans hx0), (hbw.setCell (by show w.heap.size ≤ w.heap.size + 1; omega) _).setCell (by show w.heap.size ≤ w.heap.size + 1; omega) _, by omega, HDH.out, by omega, ?_⟩
          have h1 := he.out
          rw [HD2.out] at h1
          have h2 := half_step h1 hev
          rw [← HDH.out] at h2
          exact h2
        case measure =>
          have c1 := (two_cells (set_two (.int .i64 ((n : Int) / 2)) (.int .i64 ((d : Int) / 2)) hx1)).2
          rw [c1, kb]
          simp [intOf]
          omega
      · have hA := frA_end he.out HJ.out (.inr (by omega))
        have hg := fun w => isFraction_any n d w
        cases hf : isFr n d with
        | false =>
          rw [hf] at hg hA
          rw [if_neg (by simp)] at hA
          have HA := Lib.hid hA
          clear hA hf he
          go_wp2_with fail
          refine (hg _).mono ?_; rintro e w1 ⟨rfl, hb1⟩
          have hx0' := heap_keep hb1 hx0
          have hbw1 := nx hbw hb1
          obtain ⟨q3, q4⟩ := two_frozen hx0'
          obtain ⟨q5, q6, q7⟩ := two_facts hx0'
          go_wp2_with fail
          rw [HA.out]
          obtain ⟨q1, q2⟩ := two_cells (set_two (.int .i64 0) (.int .i64 0) hx0')
          refine bodyPost_ret (v := .tuple #[.agg #[.int .i64 0, .int .i64 0], .bool false]) (by simp [q1, q2, results, Tryd.results18, go_sem]) rfl ⟨rfl, ?_⟩
          exact (hbw1.setCell (by show w.heap.size ≤ w.heap.size; omega) _).setCell (by show w.heap.size ≤ w.heap.size; omega) _
        | true =>
          rw [hf] at hg hA
          rw [if_pos rfl] at hA
          have HA := Lib.hid hA
          clear hA hf he
          go_wp2_with fail
          refine (hg _).mono ?_; rintro e w1 ⟨rfl, hb1⟩
          have hx0' := heap_keep hb1 hx0
          have hx1' := heap_keep hb1 hx1
          have hbw1 := nx hbw hb1
          obtain ⟨q3, q4⟩ := two_frozen hx0'
          obtain ⟨q5, q6, q7⟩ := two_facts hx0'
          obtain ⟨r5, r6, r7⟩ := two_facts hx1'
          go_wp2_with fail
          rw [HA.out]
          obtain ⟨q1, q2⟩ := two_cells (set_two (.int .i64 n) (.int .i64 d) hx0')
          refine bodyPost_ret (v := .tuple #[.agg #[.int .i64 n, .int .i64 d], .bool true]) (by simp [q1, q2, results, Tryd.results18, go_sem]) rfl ⟨rfl, ?_⟩
          exact (hbw1.setCell (by show w.heap.size ≤ w.heap.size; omega) _).setCell (by show w.heap.size ≤ w.heap.size; omega) _
    · have hA := frA_end he.out HJ.out (.inl hlt)
      have hg := fun w => isFraction_any n d w
      cases hf : isFr n d with
      | false =>
        rw [hf] at hg hA
        rw [if_neg (by simp)] at hA
        have HA := Lib.hid hA
        clear hA hf he
        go_wp2_with fail
        refine (hg _).mono ?_; rintro e w1 ⟨rfl, hb1⟩
        have hx0' := heap_keep hb1 hx0
        have hbw1 := nx hbw hb1
        obtain ⟨q3, q4⟩ := two_frozen hx0'
        obtain ⟨q5, q6, q7⟩ := two_facts hx0'
        go_wp2_with fail
        rw [HA.out]
        obtain ⟨q1, q2⟩ := two_cells (set_two (.int .i64 0) (.int .i64 0) hx0')
        refine bodyPost_ret (v := .tuple #[.agg #[.int .i64 0, .int .i64 0], .bool false]) (by simp [q1, q2, results, Tryd.results18, go_sem]) rfl ⟨rfl, ?_⟩
        exact (hbw1.setCell (by show w.heap.size ≤ w.heap.size; omega) _).setCell (by show w.heap.size ≤ w.heap.size; omega) _
      | true =>
        rw [hf] at hg hA
        rw [if_pos rfl] at hA
        have HA := Lib.hid hA
        clear hA hf he
        go_wp2_with fail
        refine (hg _).mono ?_; rintro e w1 ⟨rfl, hb1⟩
        have hx0' := heap_keep hb1 hx0
        have hx1' := heap_keep hb1 hx1
        have hbw1 := nx hbw hb1
        obtain ⟨q3, q4⟩ := two_frozen hx0'
        obtain ⟨q5, q6, q7⟩ := two_facts hx0'
        obtain ⟨r5, r6, r7⟩ := two_facts hx1'
        go_wp2_with fail
        rw [HA.out]
        obtain ⟨q1, q2⟩ := two_cells (set_two (.int .i64 n) (.int .i64 d) hx0')
        refine bodyPost_ret (v := .tuple #[.agg #[.int .i64 n, .int .i64 d], .bool true]) (by simp [q1, q2, results, Tryd.results18, go_sem]) rfl ⟨rfl, ?_⟩
        exact (hbw1.setCell (by show w.heap.size ≤ w.heap.size; omega) _).setCell (by show w.heap.size ≤ w.heap.size; omega) _
end Go.Proofs.YtdhjchibhlcchaaDoor

/-! Ft2 -/
namespace Go.Proofs.YtdhjchibhlcchaaDoor
open Go.RowKit

theorem two1 (a b : Int) : ∀ u ∈ [Value.int .i64 a, Value.int .i64 b], u.oneCell' = true := by
  intro u hu
  simp at hu
  rcases hu with rfl | rfl <;> rfl
/-- The fractions at which addresses begin. -/
def frs (ss : List ByteArray) : List (Nat × Nat) := ss.map fun a => frOf (stA a)
theorem frs_snoc {ss : List ByteArray} {k : Nat} (h : k < ss.length) : frs (ss.take (k + 1)) = frs (ss.take k) ++ [((frOf (stA (ss.getD k ⟨#[]⟩))).1, (frOf (stA (ss.getD k ⟨#[]⟩))).2)] := by
  unfold frs
  rw [List.take_succ_eq_append_getElem h, List.map_append]
  simp [h]
def okAd (a : ByteArray) : Prop := a.size ≤ 10 ∧ a.data.toList.all isBit = true
theorem addrs_ok (t : Tr) (h : t.carets ≤ 8) : ∀ a ∈ t.addrs ⟨#[]⟩, okAd a := by
  intro a ha
  refine ⟨?_, addrs_bits t ⟨#[]⟩ rfl a ha⟩
  have := addrs_size t ⟨#[]⟩ a ha
  have e : (⟨#[]⟩ : ByteArray).size = 0 := rfl
  omega

set_option maxRecDepth 100000 in
set_option maxHeartbeats 2000000 in
theorem mpStarts_any (t : Tr) (w : World) (h : t.carets ≤ 8) :
    Calls Tryd.prog 47 #[.string t.str] w (GivesF (frs (t.addrs ⟨#[]⟩)) w) := by
  obtain ⟨i0, hi, hz0, hz1, hz2⟩ := info_parts info_frac
  have hl := addrs_length t ⟨#[]⟩
  have hA := fun w => trAddresses_any t ⟨#[]⟩ w (by omega) (by show 0 + t.carets ≤ 1000; omega)
  have hok := addrs_ok t h
  obtain ⟨ss, hss⟩ : ∃ ss, ss = t.addrs ⟨#[]⟩ := ⟨_, rfl⟩
  rw [← hss] at hl hA hok ⊢
  have hln : ss.length ≤ 9 := by omega
  have hlp : 0 < ss.length := by omega
  have HZ := Lib.hid hok
  clear hss hl hok
  go_enter Tryd.func47, Tryd.ntmps47
  go_wp2_with fail
  refine (hA _).mono ?_; rintro e w2 ⟨g, cap, own, hb2, rfl⟩
  go_wp2_with fail
  rcases own.cells with ⟨_, h0⟩ | ⟨g', cap', hv, hg0, hg, hc1, hc2, hcell, _⟩
  · rw [h0] at hlp; simp at hlp
  · obtain ⟨rfl, rfl⟩ : g' = g ∧ cap' = cap := by simpa using hv.symm
    have HC := Lib.hid hcell
    clear hv hcell own
    go_loopw [3, 9] (fun v i wr => ∃ k : Nat, k ≤ ss.length ∧ i = .int .i64 k ∧ OwnF w2.heap.size wr v (frs (ss.take k)) ∧ Below w2.heap.size w2 wr) (fun _ i _ => ss.length - (intOf i).toNat)
    case atStart => exact ⟨0, Nat.zero_le _, rfl, OwnW.nil _ _ _ _, Below.refl _ _⟩
    case round =>
      obtain ⟨k, hk, rfl, hown, hbw2⟩ := hrel
      by_cases hlt : k < ss.length
      · have hlt' : (k : Int) < (ss.length : Int) := by omega
        have hlen : (frs (ss.take k)).length = k := by simp [frs]; omega
        have c1 := (hbw2.cell (p := ⟨g', k, none⟩) hg).trans (HC.out k hlt)
        have hz := HZ.out (ss.getD k ⟨#[]⟩) (by rw [List.getD_eq_getElem?_getD, List.getElem?_eq_getElem hlt]; exact List.getElem_mem hlt)
        have hnext := frs_snoc hlt
        obtain ⟨xs, hxs⟩ : ∃ xs, xs = frs (ss.take k) := ⟨_, rfl⟩
        rw [← hxs] at hown hlen hnext
        obtain ⟨s, hs⟩ : ∃ s, s = ss.getD k ⟨#[]⟩ := ⟨_, rfl⟩
        rw [← hs] at c1 hz hnext
        have hM := fun w => mpOf_any s w hz.1 hz.2
        generalize (frOf (stA s)).1 = x at *
        generalize (frOf (stA s)).2 = y at *
        have HN := Lib.hid hnext
        have hxl : xs.length ≤ 9 := by omega
        clear hs hnext hxs hlen hz
        go_wp2_with fail
        refine (hM _).mono ?_; rintro e w3 ⟨rfl, hb3⟩
        have hown3 := hown.keep hb3
        have hbw3 := nx hbw2 hb3
        have hs3 := hbw3.size
        clear hown hbw2 hb3
        go_wp2_with (at_builtin; refine wpList_append_own _ rfl _ _ 50 rfl w2.heap.size 23 i0 (.agg #[.int .i64 0, .int .i64 0]) 2 16 Tryd.underlying50 hi hz0 hz1 hz2 rfl (by decide) _ _ _ rfl (hown3.alloc _) ⟨w3.heap.size, 0, none⟩ 1 1 [.int .i64 x, .int .i64 y] rfl rfl (newsK _ #[.int .i64 x, .int .i64 y] _) (two1 _ _) (by unfold maxLen; omega) (by omega) (by simp; omega) ?_; intro v' w9 hown' hgrow hnn)
        have hbw9 := (nxAlloc hbw3 _).grown hgrow (by simp; omega) (fun k hk => ownsRow_ge hown3 k hk)
        have hown1 := OwnF.snoc hown'
        clear hown3 hown' hgrow hbw3 hnn
        go_wp2_with fail
        go_roundw
        case rel => exact ⟨k + 1, by omega, by go_num, by rw [HN.out]; exact hown1, hbw9⟩
        case measure => simp [intOf]; omega
      · obtain rfl : k = ss.length := by omega
        rw [List.take_of_length_le (Nat.le_refl _)] at hown
        go_wp2_with fail
        go_ret
        exact ⟨_, hown.mono hb2.size, nx hb2 hbw2, rfl⟩

end Go.Proofs.YtdhjchibhlcchaaDoor

/-! In -/
namespace Go.Proofs.YtdhjchibhlcchaaDoor
open Go.RowKit

/-- An answer of a text and a bool. -/
def ans2 (o : Option ByteArray) : Value := .tuple #[.string (o.getD ⟨#[]⟩), .bool o.isSome]

end Go.Proofs.YtdhjchibhlcchaaDoor

/-! RegF -/
namespace Go.Proofs.YtdhjchibhlcchaaDoor
open Go.RowKit

section
variable {P : Program} {ops : Array Oper} {md : Region.Mode} {w0 : World}

/-- In every world that leaves what was there, o yields v and leaves what is there. -/
def yR (P : Program) (ops : Array Oper) (w0 : World) (o : Oper) (v : Value) (a : Act) : Prop := ∀ w1, Cls w0 w1 → YieldsIn P ops (Cls w1) o v a

/-- The operations in the text's order. -/
def wpQuietR (P : Program) (ops : Array Oper) (w0 : World) (Q : Act → Prop) : List Oper → Act → Prop
  | [], a => Q a
  | o :: rest, a => ∃ v, yR P ops w0 o v a ∧ wpQuietR P ops w0 Q rest (a.put o.dst v)

theorem wpQuietR_nil {Q : Act → Prop} {a : Act} (h : Q a) : wpQuietR P ops w0 Q [] a := h
theorem wpQuietR_step {Q : Act → Prop} {a : Act} {o : Oper} {rest : List Oper}
    (h : ∀ K : Act → Prop, (∀ a, wpQuietR P ops w0 Q rest a → K a) → if Region.wanted o (yielded ops a.tmps) then ∃ v, (∀ w1, Cls w0 w1 → o.quietAt P a (Cls w1) w1 v) ∧ K (a.put o.dst v) else K (a.put o.dst undef)) : wpQuietR P ops w0 Q (o :: rest) a := by
  have := h _ (fun _ h => h)
  unfold wpQuietR
  by_cases hw : Region.wanted o (yielded ops a.tmps) = true
  · rw [if_pos hw] at this
    obtain ⟨v, h1, h2⟩ := this
    refine ⟨v, fun w1 hw1 => .inl ⟨hw, fun w2 hw2 => ?_⟩, h2⟩
    have h3 := h1 w2 (nx hw1 hw2)
    have h4 : ∀ w3, Cls w2 w3 → Cls w1 w3 := fun w3 hw3 => nx hw2 hw3
    unfold Oper.quietAt at *
    generalize (execOp a.eval o).run P w2 = r at *
    cases r with
    | ok n w' =>
      cases n <;> simp only [Oper.quietUpon] at h3 ⊢ <;> try exact h3
      exact ⟨h3.1, h3.2.mono fun _ _ ⟨e1, e2⟩ => ⟨e1, h4 _ e2⟩⟩
    | halt x w' => simp only [Oper.quietUpon] at h3
  · rw [if_neg hw] at this
    exact ⟨undef, fun w1 _ => .inr ⟨by simpa using hw, rfl⟩, this⟩

theorem quiet_wider {C C' : World → Prop} {o : Oper} {a : Act} {w : World} {v : Value} (h : ∀ w, C w → C' w) (hh : o.quietAt P a C w v) : o.quietAt P a C' w v := by
  unfold Oper.quietAt at *
  generalize (execOp a.eval o).run P w = r at *
  cases r with
  | ok n w' =>
    cases n <;> simp only [Oper.quietUpon] at hh ⊢ <;> try exact hh
    exact ⟨hh.1, hh.2.mono fun _ _ ⟨e1, e2⟩ => ⟨e1, h _ e2⟩⟩
  | halt x w' => simp only [Oper.quietUpon] at hh

/-- Operation i comes up. -/
def qR (P : Program) (ops : Array Oper) (w0 : World) (i : Nat) (K : Act → Prop) (a : Act) : Prop :=
  ∃ o v, ops[i]? = some o ∧ yR P ops w0 o v a ∧ K (a.put o.dst v)

/-- What has come up is closed. -/
structure ClInv (md : Region.Mode) (ops : Array Oper) (listed : Array Bool) : Prop where
  size : listed.size = ops.size
  closed : ∀ j oj, ops[j]? = some oj → listed.getD j false = true → ∀ e ∈ oj.after, Region.binds md e = true → listed.getD e.on false = true

theorem ClInv.set {i : Nat} {listed : Array Bool} (inv : ClInv md ops listed) (hi : i ∈ Region.ready md ops listed) : ClInv md ops (listed.setIfInBounds i true) := by
  obtain ⟨_, oi, hoi, hall⟩ := mem_ready.1 hi
  refine ⟨by simp [inv.size], fun j oj hj hl e he hb => ?_⟩
  by_cases hij : i = j
  · subst hij
    have : oj = oi := Option.some.inj (hj.symm.trans hoi)
    subst this
    exact getD_set_true (hall e he hb)
  · rw [getD_set_ne false hij] at hl
    exact getD_set_true (inv.closed j oj hj hl e he hb)

/-- Each of the first m waits for the next ones up to the last of them, and all behind them, number n aside, for that one. -/
def gateB (md : Region.Mode) (ops : Array Oper) (m n : Nat) : Bool :=
  ((List.range m).all fun i => decide (i + 1 = m) || (List.range m).any fun j => decide (i < j) && Region.waitsFor md ops j i) &&
  (List.range ops.size).all fun t => decide (t < m) || decide (t = n) || Region.waitsFor md ops t (m - 1)

theorem gate_waits {m n : Nat} {listed : Array Bool} (hg : gateB md ops m n = true) (inv : ClInv md ops listed) (_hm : m ≤ ops.size) :
    ∀ (d i : Nat), m - i = d → i < m → listed.getD i true = false → ∀ t, m ≤ t → t ≠ n → t ∉ Region.ready md ops listed := by
  simp only [gateB, Bool.and_eq_true] at hg
  obtain ⟨hs, hc⟩ := hg
  intro d
  induction d using Nat.strongRecOn with
  | _ d ih =>
    intro i hd hi hun t ht htn hr
    obtain ⟨_, ot, hot, hall⟩ := mem_ready.1 hr
    have htlt : t < ops.size := (Array.getElem?_eq_some_iff.1 hot).1
    by_cases him : i + 1 = m
    · have h1 := List.all_eq_true.1 hc t (List.mem_range.2 htlt)
      simp only [Bool.or_eq_true, decide_eq_true_eq] at h1
      rcases h1 with (h1 | h1) | h1
      · omega
      · exact htn h1
      · obtain ⟨o', ho', e, he, hb, hon⟩ := Region.waitsFor_spec h1
        obtain rfl : o' = ot := Option.some.inj (ho'.symm.trans hot)
        have h2 := hall e he hb
        rw [hon, show m - 1 = i by omega, getD_both hun] at h2
        cases h2
    · have h1 := List.all_eq_true.1 hs i (List.mem_range.2 hi)
      simp only [Bool.or_eq_true, decide_eq_true_eq, him, false_or] at h1
      obtain ⟨j, hj, hj2⟩ := List.any_eq_true.1 h1
      have hjm := List.mem_range.1 hj
      simp only [Bool.and_eq_true, decide_eq_true_eq] at hj2
      obtain ⟨oj, hoj, e, he, hb, hon⟩ := Region.waitsFor_spec hj2.2
      cases hl : listed.getD j false with
      | true =>
        have h2 := inv.closed j oj hoj hl e he hb
        rw [hon, getD_both hun] at h2
        cases h2
      | false =>
        exact ih (m - j) (by omega) j rfl (by omega) (getD_in (by rw [inv.size]; omega) hl) t ht htn hr

/-- Whatever order is drawn for the first m operations, number n aside. -/
def headF (P : Program) (md : Region.Mode) (ops : Array Oper) (w0 : World) (m n : Nat) (L : Array Bool → Act → Prop) : Nat → Array Bool → Act → Prop
  | 0, listed, a => L listed a
  | f + 1, listed, a => (∃ i ∈ Region.ready md ops listed, i ≠ n) ∧ ∀ i ∈ Region.ready md ops listed, i ≠ n → i < m ∧ qR P ops w0 i (headF P md ops w0 m n L f (listed.setIfInBounds i true)) a

theorem headF_first {m n i : Nat} {oi : Oper} {v : Value} {L : Array Bool → Act → Prop} (hi : ops[i]? = some oi) (hsel : ∀ (j : Nat) (o : Oper) cs b, ops[j]? = some o → o.op ≠ .select cs b)
    (hg : gateB md ops m n = true) (hm : m ≤ ops.size) (hmn : m ≤ n) (hin : i < m)
    (hdone : ∀ listed a, L listed a → ∀ j ∈ Region.ready md ops listed, m ≤ j) :
    ∀ (f : Nat) (listed : Array Bool) (a : Act), ClInv md ops listed →
      (∀ j oj, ops[j]? = some oj → j ≠ i → listed.getD j true = false → (∀ e ∈ oj.after, Region.binds md e = true → e.on ≠ i) → oi.apart ops oj = true) →
      i ∈ Region.ready md ops listed → yR P ops w0 oi v a →
      headF P md ops w0 m n L f (listed.setIfInBounds i true) (a.put oi.dst v) → headF P md ops w0 m n L (f + 1) listed a := by
  intro f
  induction f with
  | zero =>
    intro listed a inv _ hr hy H
    have hun := (mem_ready.1 hr).1
    refine ⟨⟨i, hr, by omega⟩, fun j hj hjn => ?_⟩
    have hjn' : j < m := Nat.lt_of_not_le fun h => gate_waits hg inv hm _ i rfl hin hun j h hjn hj
    refine ⟨hjn', ?_⟩
    by_cases hji : j = i
    · subst hji; exact ⟨oi, v, hi, hy, H⟩
    · have := hdone _ _ H j (ready_mono hj hji)
      omega
  | succ f ih =>
    intro listed a inv hfree hr hy H
    have hun := (mem_ready.1 hr).1
    refine ⟨⟨i, hr, by omega⟩, fun j hj hjn => ?_⟩
    have hjn' : j < m := Nat.lt_of_not_le fun h => gate_waits hg inv hm _ i rfl hin hun j h hjn hj
    refine ⟨hjn', ?_⟩
    by_cases hji : j = i
    · subst hji; exact ⟨oi, v, hi, hy, H⟩
    · obtain ⟨oj, u, hoj, hyj, k⟩ := (H.2 j (ready_mono hj hji) hjn).2
      obtain ⟨hjun, oj', hoj', hall⟩ := mem_ready.1 hj
      obtain rfl : oj' = oj := Option.some.inj (hoj'.symm.trans hoj)
      have hnot : ∀ e ∈ oj'.after, Region.binds md e = true → e.on ≠ i := by
        intro e he hb heq
        have k2 := hall e he hb
        rw [heq, getD_both hun] at k2
        cases k2
      have hap := hfree j oj' hoj hji hjun hnot
      obtain ⟨h1, h2, h3⟩ := Oper.apart_spec hap
      refine ⟨oj', u, hoj, fun w1 hw1 => (hyj w1 hw1).of_same (execOp_put oj' (fun cs b => hsel j oj' cs b hoj) a oi.dst v h1).symm (wanted_put oj' a oi.dst v h1).symm, ?_⟩
      refine ih (listed.setIfInBounds j true) (a.put oj'.dst u) (inv.set hj) ?_ (ready_mono hr (Ne.symm hji))
        (fun w1 hw1 => (hy w1 hw1).of_same (execOp_put oi (fun cs b => hsel i oi cs b hi) a oj'.dst u h3) (wanted_put oi a oj'.dst u h3)) ?_
      · intro k ok hk hki hunk hno
        refine hfree k ok hk hki ?_ hno
        by_cases hjk : j = k
        · subst hjk; exact hjun
        · rw [getD_set_ne true hjk] at hunk; exact hunk
      · rw [Array.setIfInBounds_comm _ _ hji, ← Act.put_comm a v u h2]
        exact k

/-- The first m, from number k on, in the text's order; then it is Z that has come up. -/
def lexF (md : Region.Mode) (ops : Array Oper) (m : Nat) (Z : Array Bool) : Nat → Nat → Array Bool → Bool
  | 0, _, listed => listed == Z && (Region.ready md ops Z).all fun j => decide (m ≤ j)
  | f + 1, k, listed => (Region.ready md ops listed).contains k && Region.free md ops listed k && lexF md ops m Z f (k + 1) (listed.setIfInBounds k true)

theorem lexF_done {m : Nat} {Z : Array Bool} : ∀ {f k : Nat} {listed : Array Bool}, lexF md ops m Z f k listed = true → ∀ j ∈ Region.ready md ops Z, m ≤ j
  | 0, _, _, h => by
    simp only [lexF, Bool.and_eq_true] at h
    exact fun j hj => by simpa using List.all_eq_true.1 h.2 j hj
  | f + 1, _, _, h => by
    simp only [lexF, Bool.and_eq_true] at h
    exact lexF_done h.2

theorem headF_lex {m n : Nat} {Z : Array Bool} {Lq : Act → Prop} (hsel : Region.noSelect ops = true) (hg : gateB md ops m n = true) (hm : m ≤ ops.size) (hmn : m ≤ n) :
    ∀ (l : List Oper) (k : Nat) (listed : Array Bool) (a : Act), (∀ j, j < l.length → l[j]? = ops[k + j]?) → k + l.length = m → ClInv md ops listed →
    lexF md ops m Z l.length k listed = true → wpQuietR P ops w0 Lq l a →
    headF P md ops w0 m n (fun listed' a' => listed' = Z ∧ Lq a') l.length listed a
  | [], k, listed, a, _, hk, _, hB, h => by
    simp only [List.length_nil, lexF, Bool.and_eq_true, beq_iff_eq] at hB
    exact ⟨hB.1, h⟩
  | o :: l, k, listed, a, hl, hk, inv, hB, h => by
    have h0 : ops[k]? = some o := by simpa using (hl 0 (by simp)).symm
    have hdone := lexF_done hB
    simp only [List.length_cons, lexF, Bool.and_eq_true] at hB
    obtain ⟨⟨hr, hf⟩, hB'⟩ := hB
    have hkn : k < m := by simp only [List.length_cons] at hk; omega
    have hr' : k ∈ Region.ready md ops listed := by simpa using hr
    obtain ⟨v, hy, hK⟩ := h
    refine headF_first h0 (Region.noSelect_spec hsel) hg hm hmn hkn (fun listed' a' hL => by rw [hL.1]; exact hdone) l.length listed a inv (Region.free_spec h0 hf) hr' hy ?_
    refine headF_lex hsel hg hm hmn l (k + 1) _ _ (fun j hj => ?_) (by simp only [List.length_cons] at hk; omega) (inv.set hr') hB' hK
    have := hl (j + 1) (by simp; omega)
    simpa [Nat.add_assoc, Nat.add_comm 1 j] using this

theorem wpOp_of_qR {i : Nat} {a : Act} {K : Act → Prop} {K' : Act → World → Prop} {Q' : Exit → Act → World → Prop} {w : World} (hC : Cls w0 w) (h : ∀ a w', Cls w w' → K a → K' a w') (hh : qR P ops w0 i K a) : wpOp P ops Q' i K' a w := by
  obtain ⟨o, v, ho, hy, hk⟩ := hh
  exact wpOp_of_qOp (C := Cls w) (Below.refl _ _) h ((hy w hC).qOp ho hk)

/-- No operation among the first m waits for number n or meets its slot; it waits for none. -/
def looseB (md : Region.Mode) (ops : Array Oper) (m n : Nat) : Bool :=
  (List.range m).all fun i => !Region.waitsFor md ops i n && match ops[n]?, ops[i]? with
    | some o, some oi => o.apart ops oi
    | _, _ => false

theorem looseB_spec {m n i : Nat} {o oi : Oper} (h : looseB md ops m n = true) (hi : i < m) (hn : ops[n]? = some o) (ho : ops[i]? = some oi) : o.apart ops oi = true ∧ ∀ e ∈ oi.after, Region.binds md e = true → e.on ≠ n := by
  have h1 := List.all_eq_true.1 h i (List.mem_range.2 hi)
  rw [hn, ho] at h1
  simp only [Bool.and_eq_true, Bool.not_eq_true'] at h1
  refine ⟨h1.2, fun e he hb heq => ?_⟩
  have h2 := h1.1
  unfold Region.waitsFor at h2
  rw [ho] at h2
  have h3 : (oi.after.any fun e => Region.binds md e && e.on == n) = true := Array.any_eq_true'.2 ⟨e, he, by simp [hb, heq]⟩
  dsimp only at h2
  rw [h3] at h2
  cases h2

def ptrV (g : Nat) : Value := .pointer (some ⟨g, 0, none⟩)

theorem heap_keepF {w w' : World} {g : Nat} {o : Obj} (hb : Cls w w') (h : w.heap[g]? = some o) : w'.heap[g]? = some o :=
  (Below.block hb g (by rcases Nat.lt_or_ge g w.heap.size with h' | h'; exact h'; rw [Array.getElem?_eq_none h'] at h; cases h)).trans h

/-- Once the cell is laid. -/
theorem any_post {m n g : Nat} {L : Array Bool → Act → Prop} {Q' : Exit → Act → World → Prop} {o : Oper} {X : Obj} (hsel : ∀ (j : Nat) (o : Oper) cs b, ops[j]? = some o → o.op ≠ .select cs b)
    (hgt : gateB md ops m n = true) (hm : m ≤ ops.size) (hn : n < ops.size) (hlo : looseB md ops m n = true) (ho : ops[n]? = some o)
    (hL : ∀ listed a w gp, L listed a → Cls w0 w → w.heap[gp]? = some X → w0.heap.size ≤ gp → wpAny P md ops Q' g (listed.setIfInBounds n true) (a.put o.dst (ptrV gp)) w) :
    ∀ (f : Nat) (listed : Array Bool) (a : Act) (w : World) (gp : Nat), listed.size = ops.size → ClInv md ops (listed.setIfInBounds n true) → Cls w0 w → w.heap[gp]? = some X → w0.heap.size ≤ gp →
      headF P md ops w0 m n L f listed a → wpAny P md ops Q' (f + g) (listed.setIfInBounds n true) (a.put o.dst (ptrV gp)) w := by
  intro f
  induction f with
  | zero => intro listed a w gp _ _ hw hx hg h; rw [Nat.zero_add]; exact hL _ _ _ _ h hw hx hg
  | succ f ih =>
    intro listed a w gp hsz inv hw hx hg h
    obtain ⟨⟨i0, hi0, hne⟩, hall⟩ := h
    have hi0n := (hall i0 hi0 hne).1
    have hr0 := ready_mono hi0 hne
    rw [Nat.add_right_comm]
    refine ⟨fun h0 => absurd h0 (List.ne_nil_of_mem hr0), fun i hi => ?_⟩
    obtain ⟨hun, oi, hoi, haft⟩ := mem_ready.1 hi
    have hin : i ≠ n := by
      rintro rfl
      have : (listed.setIfInBounds i true).getD i true = true := by
        rw [Array.getD_eq_getD_getElem?, Array.getElem?_setIfInBounds_self_of_lt (by omega)]; rfl
      rw [this] at hun; cases hun
    have hin' : i < m := Nat.lt_of_not_le fun h => gate_waits hgt inv hm _ i0 rfl hi0n (mem_ready.1 hr0).1 i h hin hi
    obtain ⟨hap, hno⟩ := looseB_spec hlo hin' ho hoi
    have hri : i ∈ Region.ready md ops listed := by
      refine mem_ready.2 ⟨by rw [getD_set_ne true (Ne.symm hin)] at hun; exact hun, oi, hoi, fun e he hb => ?_⟩
      have := haft e he hb
      rwa [getD_set_ne false (Ne.symm (hno e he hb))] at this
    obtain ⟨_, oi', v, hoi', hy, hk⟩ := hall i hri hin
    obtain rfl : oi' = oi := Option.some.inj (hoi'.symm.trans hoi)
    obtain ⟨h1, h2, h3⟩ := Oper.apart_spec hap
    refine wpOp_of_qR (K := fun a' => a' = (a.put o.dst (ptrV gp)).put oi'.dst v) hw (fun a' w' hw' he => ?_)
      ⟨oi', v, hoi, fun w1 hw1 => (hy w1 hw1).of_same (execOp_put oi' (fun cs b => hsel i oi' cs b hoi) a o.dst _ h1) (wanted_put oi' a o.dst _ h1), rfl⟩
    subst he
    rw [Act.put_comm a (ptrV gp) v h2, Array.setIfInBounds_comm _ _ (Ne.symm hin)]
    refine ih _ _ _ _ (by simp [hsz]) ?_ (nx hw hw') (heap_keepF hw' hx) hg hk
    rw [Array.setIfInBounds_comm _ _ hin]
    exact inv.set hi

/-- Before the cell is laid. -/
theorem any_pre {m n g : Nat} {L : Array Bool → Act → Prop} {Q' : Exit → Act → World → Prop} {o : Oper} {X : Obj} (hsel : ∀ (j : Nat) (o : Oper) cs b, ops[j]? = some o → o.op ≠ .select cs b)
    (hgt : gateB md ops m n = true) (hm : m ≤ ops.size) (hn : n < ops.size) (hlo : looseB md ops m n = true) (ho : ops[n]? = some o)
    (hW : ∀ t, Region.wanted o t = true) (hR : ∀ (a : Act) (w : World), (execOp a.eval o).run P w = .ok (.value (ptrV w.heap.size)) (w.alloc X))
    (hD : ∀ listed a w, L listed a → Cls w0 w → wpAny P md ops Q' (g + 1) listed a w)
    (hL : ∀ listed a w gp, L listed a → Cls w0 w → w.heap[gp]? = some X → w0.heap.size ≤ gp → wpAny P md ops Q' g (listed.setIfInBounds n true) (a.put o.dst (ptrV gp)) w) :
    ∀ (f : Nat) (listed : Array Bool) (a : Act) (w : World), ClInv md ops listed → Cls w0 w →
      headF P md ops w0 m n L f listed a → wpAny P md ops Q' (f + (g + 1)) listed a w := by
  intro f
  induction f with
  | zero =>
    intro listed a w inv hw h
    rw [Nat.zero_add]
    exact hD _ _ _ h hw
  | succ f ih =>
    intro listed a w inv hw h
    have h' := h
    obtain ⟨⟨i0, hi0, hne⟩, hall⟩ := h
    rw [Nat.add_right_comm]
    refine ⟨fun h0 => absurd h0 (List.ne_nil_of_mem hi0), fun i hi => ?_⟩
    by_cases hin : i = n
    · subst hin
      unfold wpOp
      simp only [ho, hW, if_true]
      left
      unfold Oper.wp
      rw [hR]
      simp only [Oper.upon]
      rw [show f + (g + 1) = (f + 1) + g by omega]
      exact any_post hsel hgt hm hn hlo ho hL (f + 1) listed a _ _ inv.size (inv.set hi) (nxAlloc hw _) (by show (w.heap.push X)[w.heap.size]? = _; simp) (Below.size hw) h'
    · obtain ⟨hlt, hq⟩ := hall i hi hin
      exact wpOp_of_qR hw (fun a' w' hw' hk => ih _ _ _ (inv.set hi) (nx hw hw') hk) hq

/-- The checks of a region whose first m operations are quiet, with a loose allocation at number n. -/
def floatB (md : Region.Mode) (ops : Array Oper) (m n : Nat) (Z : Array Bool) : Bool :=
  Region.noSelect ops && decide (m ≤ ops.size) && decide (m ≤ n) && decide (n < ops.size) && gateB md ops m n && looseB md ops m n && lexF md ops m Z m 0 (Array.replicate ops.size false)

theorem wpAny_mono {Q Q' : Exit → Act → World → Prop} (hQ : ∀ e a w, Q e a w → Q' e a w) : ∀ (f : Nat) (listed : Array Bool) (a : Act) (w : World), wpAny P md ops Q f listed a w → wpAny P md ops Q' f listed a w
  | 0, _, _, _, h => ⟨h.1, hQ _ _ _ h.2⟩
  | f + 1, listed, _, _, h => ⟨fun h0 => hQ _ _ _ (h.1 h0), fun i hi => by
      have h1 := wpOp_mono (fun a' w' h2 => wpAny_mono hQ f _ a' w' h2) (h.2 i hi)
      have hl : LetsOut Q → LetsOut Q' := fun ⟨a, w, h⟩ => ⟨a, w, hQ _ _ _ h⟩
      unfold wpOp at *
      split
      · rename_i ho; simpa only [ho] using h1
      · rename_i o ho
        simp only [ho] at h1
        split
        · rename_i hw
          simp only [hw, if_true] at h1
          refine h1.imp (fun h3 => ?_) (fun h3 => ⟨h3.1, hl h3.2⟩)
          unfold Oper.wp at *
          generalize (execOp _ o).run P _ = r at *
          cases r with
          | ok nx' w' =>
            cases nx' <;> simp only [Oper.upon] at h3 ⊢ <;> first
              | exact h3
              | exact Calls.mono h3 (fun e w'' he => by cases e <;> first | exact he | exact hQ _ _ _ he | exact hl he)
          | halt x w' =>
            cases x <;> simp only [Oper.upon] at h3 ⊢
            exact hQ _ _ _ h3
        · rename_i hw; simp only [hw] at h1; exact h1⟩

/-- Only the normal end. -/
def only (Q : Exit → Act → World → Prop) : Exit → Act → World → Prop := Exit.then (Q .normal) (fun _ _ _ => False)
theorem only_le {Q : Exit → Act → World → Prop} : ∀ e a w, only Q e a w → Q e a w := by
  intro e a w h
  cases e <;> first | exact h | exact False.elim h

/-- The first m operations are quiet; number n lays a cell, at any time; what else there is is shown in each order (the second time with the cell laid). -/
theorem wp_region_float {id : Nat} {Q : Exit → Act → World → Prop} {a : Act} {w : World} {l : List Oper} (m n : Nat) (Z : Array Bool) (o : Oper) (X : Obj) (hfm : P.follows .mixedOrders = true) (hB : floatB .any l.toArray m n Z = true)
    (ho' : l[n]? = some o) (hW : ∀ t, Region.wanted o t = true) (hR : ∀ (a : Act) (w : World), (execOp a.eval o).run P w = .ok (.value (ptrV w.heap.size)) (w.alloc X))
    (h : wpQuietR P l.toArray w (fun a' => (∀ w', Cls w w' → wpAny P .any l.toArray (only Q) (l.length - m) Z a' w') ∧
      ∀ gp w', Cls w w' → w'.heap[gp]? = some X → w.heap.size ≤ gp → wpAny P .any l.toArray (only Q) (l.length - m - 1) (Z.setIfInBounds n true) (a'.put o.dst (ptrV gp)) w') (l.take m) a) : (Code.region id l.toArray true).wp P Q a w := by
  simp only [floatB, Bool.and_eq_true, decide_eq_true_eq] at hB
  obtain ⟨⟨⟨⟨⟨⟨hsel, hm⟩, hmn⟩, hn⟩, hg⟩, hlo⟩, hlex⟩ := hB
  have ho : l.toArray[n]? = some o := by simpa using ho'
  have hm' : m ≤ l.length := by simpa using hm
  have hn' : n < l.length := by simpa using hn
  have htl : (l.take m).length = m := by simp; omega
  have inv0 : ClInv .any l.toArray (Array.replicate l.toArray.size false) := by
    refine ⟨by simp, fun j oj _ hl => ?_⟩
    rw [getD_replicate_false] at hl; cases hl
  have H := headF_lex (md := .any) (Z := Z) hsel hg hm hmn (l.take m) 0 _ a (fun j hj => by
    have hj' : j < m := by rw [htl] at hj; exact hj
    simp [hj']) (by simpa using htl) inv0 (by rw [htl]; exact hlex) h
  refine wp_region_any hfm (wpAny_mono only_le _ _ _ _ ?_)
  have := any_pre (Q' := only Q) (g := l.length - m - 1) (Region.noSelect_spec hsel) hg hm hn hlo ho hW hR
    (fun listed a' w' hL hw' => by
      have := hL.2.1 w' hw'
      rw [hL.1, show l.length - m - 1 + 1 = l.length - m by omega]
      exact this)
    (fun listed a' w' gp hL hw' hx hg => by rw [hL.1]; exact hL.2.2 gp w' hw' hx hg) _ _ _ _ inv0 ((Below.refl _ _).drew) H
  rw [htl, show m + (l.length - m - 1 + 1) = l.toArray.size by simp; omega] at this
  exact this
/-- Operations that yield one value in whatever world, in the text's order. -/
def wpPure (P : Program) (ops : Array Oper) (Q : Act → Prop) : List Oper → Act → Prop
  | [], a => Q a
  | o :: rest, a => ∃ v, Yields P ops o v a ∧ wpPure P ops Q rest (a.put o.dst v)
theorem wpPure_nil {Q : Act → Prop} {a : Act} (h : Q a) : wpPure P ops Q [] a := h
theorem wpPure_step {Q : Act → Prop} {a : Act} {o : Oper} {rest : List Oper}
    (h : ∀ K : Act → Prop, (∀ a, wpPure P ops Q rest a → K a) → if Region.wanted o (yielded ops a.tmps) then ∃ v, (∀ w, (execOp a.eval o).run P w = .ok (.value v) w) ∧ K (a.put o.dst v) else K (a.put o.dst undef)) : wpPure P ops Q (o :: rest) a := by
  have := h _ (fun _ h => h)
  unfold wpPure
  by_cases hw : Region.wanted o (yielded ops a.tmps) = true
  · rw [if_pos hw] at this
    obtain ⟨v, h1, h2⟩ := this
    exact ⟨v, .inl ⟨hw, h1⟩, h2⟩
  · rw [if_neg hw] at this
    exact ⟨undef, .inr ⟨by simpa using hw, rfl⟩, this⟩

/-- So many of them, from number k on, may be taken first; then all is forced from number e on. -/
def lexTo (md : Region.Mode) (ops : Array Oper) (g e : Nat) : Nat → Nat → Array Bool → Bool
  | 0, _, listed => Region.seqB md ops g e listed
  | f + 1, k, listed => (Region.ready md ops listed).contains k && Region.free md ops listed k && lexTo md ops g e f (k + 1) (listed.setIfInBounds k true)

theorem any_of_pure {g e : Nat} {Q' : Exit → Act → World → Prop} {C : World → Prop} {Lq : Act → Prop} (hsel : Region.noSelect ops = true) (hQ : ∀ c a w, ¬ Q' (.panic c) a w)
    (hL : ∀ listed a w, Region.seqB md ops g e listed = true → Lq a → C w → wpAny P md ops Q' g listed a w) :
    ∀ (l : List Oper) (k : Nat) (listed : Array Bool) (a : Act) (w : World), (∀ j, j < l.length → l[j]? = ops[k + j]?) → lexTo md ops g e l.length k listed = true → wpPure P ops Lq l a → C w → wpAny P md ops Q' (l.length + g) listed a w
  | [], _, listed, a, w, _, hB, h, hw => by
    rw [List.length_nil, Nat.zero_add]
    exact hL _ _ _ (by simpa [lexTo] using hB) h hw
  | o :: l, k, listed, a, w, hl, hB, h, hw => by
    have h0 : ops[k]? = some o := by simpa using (hl 0 (by simp)).symm
    simp only [List.length_cons, lexTo, Bool.and_eq_true] at hB
    obtain ⟨⟨hr, hf⟩, hB'⟩ := hB
    obtain ⟨v, hy, hK⟩ := h
    rw [List.length_cons, Nat.add_right_comm]
    refine wpAny_first h0 (Region.noSelect_spec hsel) (fun c a w h => absurd h (hQ _ _ _)) _ listed a w (Region.free_spec h0 hf) (by simpa using hr) hy ?_
    refine any_of_pure hsel hQ hL l (k + 1) _ _ w (fun j hj => ?_) hB' hK hw
    have := hl (j + 1) (by simp; omega)
    simpa [Nat.add_assoc, Nat.add_comm 1 j] using this

theorem wpPure_put {o : Oper} {x : Value} {Lq : Act → Prop} (hsel : ∀ (j : Nat) (o : Oper) cs b, ops[j]? = some o → o.op ≠ .select cs b) : ∀ (l : List Oper) (k : Nat) (a : Act), (∀ j, j < l.length → l[j]? = ops[k + j]?) → (∀ oi ∈ l, o.apart ops oi = true) →
    wpPure P ops (fun a => Lq (a.put o.dst x)) l a → wpPure P ops Lq l (a.put o.dst x)
  | [], _, _, _, _, h => h
  | oi :: l, k, a, hl, hap, h => by
    have h0 : ops[k]? = some oi := by simpa using (hl 0 (by simp)).symm
    obtain ⟨v, hy, hK⟩ := h
    obtain ⟨h1, h2, _⟩ := Oper.apart_spec (hap oi (by simp))
    refine ⟨v, hy.of_same (execOp_put oi (fun cs b => hsel k oi cs b h0) a o.dst x h1) (wanted_put oi a o.dst x h1), ?_⟩
    rw [Act.put_comm a x v h2]
    refine wpPure_put hsel l (k + 1) _ (fun j hj => ?_) (fun o' ho' => hap o' (by simp [ho'])) hK
    have := hl (j + 1) (by simp; omega)
    simpa [Nat.add_assoc, Nat.add_comm 1 j] using this

theorem wpQuietR_mono {Q Q' : Act → Prop} (h : ∀ a, Q a → Q' a) : ∀ (l : List Oper) (a : Act), wpQuietR P ops w0 Q l a → wpQuietR P ops w0 Q' l a
  | [], a, hh => h a hh
  | _ :: l, _, ⟨v, h1, h2⟩ => ⟨v, h1, wpQuietR_mono h l _ h2⟩
theorem wpPure_mono {Q Q' : Act → Prop} (h : ∀ a, Q a → Q' a) : ∀ (l : List Oper) (a : Act), wpPure P ops Q l a → wpPure P ops Q' l a
  | [], a, hh => h a hh
  | _ :: l, _, ⟨v, h1, h2⟩ => ⟨v, h1, wpPure_mono h l _ h2⟩

/-- The checks, with pure operations m .. n-1 between. -/
def floatPB (md : Region.Mode) (ops : Array Oper) (m n : Nat) (Z : Array Bool) : Bool :=
  floatB md ops m n Z && ((ops.toList.drop m).take (n - m)).all (fun oi => match ops[n]? with
    | some o => o.apart ops oi
    | none => false) &&
  lexTo md ops (ops.size - n) n (n - m) m Z && lexTo md ops (ops.size - n - 1) (n + 1) (n - m) m (Z.setIfInBounds n true)

/-- The first m operations are quiet, those from m up to n pure; number n lays a cell, at any time; the rest, in one forced order, is walked. -/
theorem wp_region_floatP {id : Nat} {Q : Exit → Act → World → Prop} {a : Act} {w : World} {l : List Oper} (m n : Nat) (Z : Array Bool) (o : Oper) (X : Obj) (hfm : P.follows .mixedOrders = true) (hB : floatPB .any l.toArray m n Z = true)
    (ho' : l[n]? = some o) (hW : ∀ t, Region.wanted o t = true) (hR : ∀ (a : Act) (w : World), (execOp a.eval o).run P w = .ok (.value (ptrV w.heap.size)) (w.alloc X))
    (h : wpQuietR P l.toArray w (wpPure P l.toArray (fun a' => ∀ gp w', Cls w w' → w'.heap[gp]? = some X → w.heap.size ≤ gp → wpList P l.toArray (only Q) (l.drop (n + 1)) (a'.put o.dst (ptrV gp)) w') ((l.drop m).take (n - m))) (l.take m) a) : (Code.region id l.toArray true).wp P Q a w := by
  simp only [floatPB, Bool.and_eq_true] at hB
  obtain ⟨⟨⟨hB, hap⟩, hp1⟩, hp2⟩ := hB
  have ho : l.toArray[n]? = some o := by simpa using ho'
  have hB' := hB
  simp only [floatB, Bool.and_eq_true, decide_eq_true_eq] at hB'
  obtain ⟨⟨⟨⟨⟨⟨hsel, hm⟩, hmn⟩, hn⟩, _⟩, _⟩, _⟩ := hB'
  have hn' : n < l.length := by simpa using hn
  have hsz : l.toArray.size = l.length := by simp
  have hln : ((l.drop m).take (n - m)).length = n - m := by simp; omega
  have hget : ∀ j, j < ((l.drop m).take (n - m)).length → ((l.drop m).take (n - m))[j]? = l.toArray[m + j]? := by
    intro j hj
    rw [hln] at hj
    simp [hj]
  have hap' : ∀ oi ∈ (l.drop m).take (n - m), o.apart l.toArray oi = true := by
    intro oi hoi
    have := List.all_eq_true.1 hap oi (by simpa using hoi)
    rw [ho] at this
    exact this
  refine wp_region_float m n Z o X hfm hB ho' hW hR (wpQuietR_mono (fun a' ha' => ⟨fun w' hw' => ?_, fun gp w' hw' hx hg => ?_⟩) _ _ h)
  · have := any_of_pure (md := .any) (g := l.toArray.size - n) (e := n) (Q' := only Q) (C := Cls w) hsel (fun _ _ _ h => h) (fun listed a w1 hq hL hw1 => by
      have eg : l.toArray.size - n = (l.length - n - 1) + 1 := by omega
      rw [eg] at hq ⊢
      simp only [Region.seqB, Bool.and_eq_true, decide_eq_true_eq] at hq
      refine ⟨fun h0 => (by rw [hq.1] at h0; cases h0), fun i hi => ?_⟩
      rw [hq.1] at hi
      obtain rfl : i = n := by simpa using hi
      unfold wpOp
      simp only [ho, hW, if_true]
      left
      unfold Oper.wp
      rw [hR]
      simp only [Oper.upon]
      have hdl : (l.drop (i + 1)).length = l.length - i - 1 := by simp; omega
      have := wpAny_of_seq (md := .any) (Q' := only Q) (l.drop (i + 1)) (i + 1) (listed.setIfInBounds i true) _ _ (fun j => by simp [List.getElem?_drop]) (by rw [hdl]; exact hq.2) (hL w1.heap.size _ (nxAlloc hw1 X) (by show (w1.heap.push X)[w1.heap.size]? = _; simp) (Below.size hw1))
      rwa [hdl] at this) _ m Z a' w' hget (by rw [hln]; exact hp1) ha' hw'
    rw [hln, show n - m + (l.toArray.size - n) = l.length - m by omega] at this
    exact this
  · have hdl : (l.drop (n + 1)).length = l.toArray.size - n - 1 := by simp; omega
    have hP := wpPure_put (o := o) (x := ptrV gp) (Lq := fun a => ∀ w', Cls w w' → w'.heap[gp]? = some X → wpList P l.toArray (only Q) (l.drop (n + 1)) a w') (Region.noSelect_spec hsel) _ m a' hget hap' (wpPure_mono (fun a h w' hw' hx => h gp w' hw' hx hg) _ _ ha')
    have := any_of_pure (md := .any) (g := l.toArray.size - n - 1) (e := n + 1) (Q' := only Q) (C := fun w' => Cls w w' ∧ w'.heap[gp]? = some X) hsel (fun _ _ _ h => h) (fun listed a w1 hq hL hw1 => by
      have := wpAny_of_seq (md := .any) (Q' := only Q) (l.drop (n + 1)) (n + 1) listed a w1 (fun j => by simp [List.getElem?_drop]) (by rw [hdl]; exact hq) (hL w1 hw1.1 hw1.2)
      rwa [hdl] at this) _ m _ _ w' hget (by rw [hln]; exact hp2) hP ⟨hw', hx⟩
    rw [hln, show n - m + (l.toArray.size - n - 1) = l.length - m - 1 by omega] at this
    exact this
end
/-- What follows behind a variable. -/
theorem only_hide {P : Program} {ops : Array Oper} {Q : Exit → Act → World → Prop} {l : List Oper} {a : Act} {w : World}
    (h : ∀ K : Act → World → Prop, (∀ a w, Q .normal a w → K a w) → wpList P ops (Exit.then K (fun _ _ _ => False)) l a w) : wpList P ops (only Q) l a w := h (Q .normal) (fun _ _ h => h)
theorem callR {P : Program} {f : FuncId} {args : Array Value} {w : World} {v : Value} (k : Calls P f args w (Gives v w)) : Calls P f args w fun e w'' => e = .returned v ∧ Cls w w'' := k
end Go.Proofs.YtdhjchibhlcchaaDoor

/-! Im1 -/
namespace Go.Proofs.YtdhjchibhlcchaaDoor
open Go.RowKit

theorem isPre_raw (x s : ByteArray) : isPre x s = (decide (x.size ≤ s.size) && ((s.extract 0 x.size).toList == x.toList)) := by
  unfold isPre
  congr 1
  rw [Bool.eq_iff_iff, decide_eq_true_eq, beq_iff_eq, Lib.toList_data, Lib.toList_data]
  exact ⟨fun h => by rw [h], fun h => ba_ext h⟩
theorem img_step (s : ByteArray) {xs ys : List ByteArray} {j : Nat} (h1 : j < xs.length) (h2 : j < ys.length) :
    imgL s (xs.drop j) (ys.drop j) = if isPre (xs.getD j ⟨#[]⟩) s then (if (ys.getD j ⟨#[]⟩ ++ s.extract (xs.getD j ⟨#[]⟩).size s.size).size ≤ 10 then some (ys.getD j ⟨#[]⟩ ++ s.extract (xs.getD j ⟨#[]⟩).size s.size) else none) else imgL s (xs.drop (j + 1)) (ys.drop (j + 1)) := by
  rw [List.drop_eq_getElem_cons h1, List.drop_eq_getElem_cons h2]
  simp [imgL, h1, h2]
theorem imgI_step (s : ByteArray) {xs ys : List ByteArray} {j : Nat} (h1 : j < xs.length) (h2 : j < ys.length) :
    imgI s (xs.drop j) (ys.drop j) = if isPre (xs.getD j ⟨#[]⟩) s = true ∧ (ys.getD j ⟨#[]⟩ ++ s.extract (xs.getD j ⟨#[]⟩).size s.size).size ≤ 10 then some (ys.getD j ⟨#[]⟩ ++ s.extract (xs.getD j ⟨#[]⟩).size s.size) else imgI s (xs.drop (j + 1)) (ys.drop (j + 1)) := by
  rw [List.drop_eq_getElem_cons h1, List.drop_eq_getElem_cons h2]
  simp [imgI, h1, h2]

set_option maxRecDepth 100000 in
set_option maxHeartbeats 4000000 in
theorem specImageOfAddress_any (a b s : ByteArray) (w : World) (ha : a.size ≤ 9223372036854775806) (hb : b.size ≤ 9223372036854775806) (_hs : s.size ≤ 9223372036854775806) :
    Calls Tryd.prog 10 #[.agg #[.string a, .string b], .string s] w (Gives (ans2 (imgO (pairOf a b) s)) w) := by
  have hg := fun w => prGood_any a b w ha hb
  have hk := fun w => mpBits_any s w
  cases h : pairOf a b with
  | none =>
    rw [h] at hg
    rw [show imgO none s = none by simp [imgO]]
    clear h hk
    go_enter Tryd.func10, Tryd.ntmps10
    go_wp2_with fail
    have hb0 : Below w.heap.size w (w.alloc (.cells #[.string a, .string b] 33 (0, 0))) := nxAlloc (Below.refl _ _) _
    have hx0 := heap_alloc_at w (.cells #[.string a, .string b] 33 (0, 0))
    generalize (w.alloc (.cells #[.string a, .string b] 33 (0, 0))) = w0 at *
    obtain ⟨hx0a, hx0b, hx0c⟩ := two_facts hx0
    obtain ⟨hx0f, hx0g⟩ := two_frozen hx0
    refine (hg _).mono ?_; rintro e w1 ⟨rfl, hb1⟩
    have hbw1 := nx hb0 hb1
    replace hx0 := heap_keep hb1 hx0
    clear hx0a hx0b hx0c hx0f hx0g
    obtain ⟨hx0a, hx0b, hx0c⟩ := two_facts hx0
    obtain ⟨hx0f, hx0g⟩ := two_frozen hx0
    clear hb1 hb0
    go_wp2_with fail
    go_ret2
    exact ⟨rfl, hbw1⟩
  | some p =>
    rw [h] at hg
    obtain ⟨rfl, rfl, hok, hc1, hc2⟩ := pairOf_some h
    have hok' : p.1.carets = p.2.carets := hok
    clear h
    cases k : isAd s with
    | false =>
      rw [k] at hk
      rw [show imgO (some p) s = none by simp [imgO, k]]
      clear k
      go_enter Tryd.func10, Tryd.ntmps10
      go_wp2_with fail
      have hb0 : Below w.heap.size w (w.alloc (.cells #[.string p.1.str, .string p.2.str] 33 (0, 0))) := nxAlloc (Below.refl _ _) _
      have hx0 := heap_alloc_at w (.cells #[.string p.1.str, .string p.2.str] 33 (0, 0))
      generalize (w.alloc (.cells #[.string p.1.str, .string p.2.str] 33 (0, 0))) = w0 at *
      obtain ⟨hx0a, hx0b, hx0c⟩ := two_facts hx0
      obtain ⟨hx0f, hx0g⟩ := two_frozen hx0
      refine (hg _).mono ?_; rintro e w1 ⟨rfl, hb1⟩
      have hbw1 := nx hb0 hb1
      replace hx0 := heap_keep hb1 hx0
      clear hx0a hx0b hx0c hx0f hx0g
      obtain ⟨hx0a, hx0b, hx0c⟩ := two_facts hx0
      obtain ⟨hx0f, hx0g⟩ := two_frozen hx0
      clear hb1 hb0
      go_wp2_with fail
      refine (hk _).mono ?_; rintro e w' ⟨rfl, rfl⟩
      go_wp2_with fail
      go_ret2
      exact ⟨rfl, hbw1⟩
    | true =>
      rw [k] at hk
      rw [show imgO (some p) s = imgL s (p.1.addrs ⟨#[]⟩) (p.2.addrs ⟨#[]⟩) by simp [imgO, k]]
      have l1 := addrs_length p.1 ⟨#[]⟩
      have l2 := addrs_length p.2 ⟨#[]⟩
      have hA1 := fun w => trAddresses_any p.1 ⟨#[]⟩ w (by omega) (by show 0 + p.1.carets ≤ 1000; omega)
      have hA2 := fun w => trAddresses_any p.2 ⟨#[]⟩ w (by omega) (by show 0 + p.2.carets ≤ 1000; omega)
      have hs10 := (isAd_iff.1 k).1
      have y8 : ∀ y ∈ p.2.addrs ⟨#[]⟩, y.size ≤ 10 := fun y hy => (addrs_ok p.2 hc2 y hy).1
      obtain ⟨m, hm⟩ : ∃ m, p.1.carets + 1 = m := ⟨_, rfl⟩
      rw [hm] at l1
      rw [← hok', hm] at l2
      have hm9 : m ≤ 9 := by omega
      have hm0 : 0 < m := by omega
      unfold GivesTexts at hA1 hA2
      rw [l1] at hA1
      rw [l2] at hA2
      generalize p.1.addrs ⟨#[]⟩ = xs at *
      generalize p.2.addrs ⟨#[]⟩ = ys at *
      obtain ⟨R, hR⟩ : ∃ R, R = imgL s xs ys := ⟨_, rfl⟩
      rw [← hR]
      clear hm hc1 hc2 hok hok' k ha hb
      go_enter Tryd.func10, Tryd.ntmps10
      go_wp2_with fail
      have hb0 : Below w.heap.size w (w.alloc (.cells #[.string p.1.str, .string p.2.str] 33 (0, 0))) := nxAlloc (Below.refl _ _) _
      have hx0 := heap_alloc_at w (.cells #[.string p.1.str, .string p.2.str] 33 (0, 0))
      generalize (w.alloc (.cells #[.string p.1.str, .string p.2.str] 33 (0, 0))) = w0 at *
      obtain ⟨hx0a, hx0b, hx0c⟩ := two_facts hx0
      obtain ⟨hx0f, hx0g⟩ := two_frozen hx0
      refine (hg _).mono ?_; rintro e w1 ⟨rfl, hb1⟩
      have hbw1 := nx hb0 hb1
      replace hx0 := heap_keep hb1 hx0
      clear hx0a hx0b hx0c hx0f hx0g
      obtain ⟨hx0a, hx0b, hx0c⟩ := two_facts hx0
      obtain ⟨hx0f, hx0g⟩ := two_frozen hx0
      clear hb1 hb0
      go_wp2_with fail
      refine (hk _).mono ?_; rintro e w' ⟨rfl, rfl⟩
      go_wp2_with fail
      refine (hA2 _).mono ?_; rintro e w2 ⟨g2, cap2, own2, hb2, rfl⟩
      have hbw2 := nx hbw1 hb2
      replace hx0 := heap_keep hb2 hx0
      clear hx0a hx0b hx0c hx0f hx0g
      obtain ⟨hx0a, hx0b, hx0c⟩ := two_facts hx0
      go_wp2_with fail
      refine (hA1 _).mono ?_; rintro e w3 ⟨g1, cap1, own1, hb3, rfl⟩
      have hbw3 := nx hbw2 hb3
      replace own2 := own2.keep hb3
      clear hx0 hx0a hx0b hx0c hb2 hb3 hbw1 hbw2 hA1 hA2 hg hk
      rcases own1.cells with ⟨h0, _⟩ | ⟨g1', cap1', hv1, _, hg1, q1, q2, hcell1, _⟩
      · simp at h0
      rcases own2.cells with ⟨h0, _⟩ | ⟨g2', cap2', hv2, _, hg2, q3, q4, hcell2, _⟩
      · simp at h0
      simp only [Value.slice.injEq, Option.some.injEq, Addr.mk.injEq, and_true] at hv1 hv2
      obtain ⟨rfl, e1, rfl⟩ := hv1
      obtain ⟨rfl, e2, rfl⟩ := hv2
      rw [l1] at hcell1 q1
      rw [l2] at hcell2 q3
      unfold maxLen at q2 q4
      have HC1 := Lib.hid hcell1
      have HC2 := Lib.hid hcell2
      have HR := Lib.hid hR
      have HY := Lib.hid y8
      clear own1 own2 hcell1 hcell2 hR y8 e1 e2
      go_wp2_with fail
      go_loopw [25] (fun i wr => ∃ j : Nat, j ≤ m ∧ i = .int .i64 j ∧ Hid (R = imgL s (xs.drop j) (ys.drop j)) ∧ Below w3.heap.size w3 wr) (fun i _ => m - (intOf i).toNat)
      case atStart => exact ⟨0, Nat.zero_le _, rfl, Lib.hid (by rw [HR.out]; rfl), Below.refl _ _⟩
      case round =>
        obtain ⟨j, hj, rfl, hrj, hbw⟩ := hrel
        by_cases hlt : j < m
        · have hlt' : (j : Int) < (m : Int) := by omega
          have hst := img_step s (xs := xs) (ys := ys) (j := j) (by omega) (by omega)
          rw [← hrj.out] at hst
          have c1 := (hbw.cell (p := ⟨g1, j, none⟩) hg1).trans (HC1.out j hlt)
          have c2 := (hbw.cell (p := ⟨g2, j, none⟩) hg2).trans (HC2.out j hlt)
          have hy := HY.out (ys.getD j ⟨#[]⟩) (by have : j < ys.length := by omega
                                                  simp [this])
          generalize xs.getD j ⟨#[]⟩ = x at *
          generalize ys.getD j ⟨#[]⟩ = y at *
          cases hpre : isPre x s with
          | true =>
            have hp2 := isPre_raw x s
            rw [hpre] at hp2 hst
            have hle : x.size ≤ s.size ∧ ((s.extract 0 x.size).toList == x.toList) = true := by
              have := hp2.symm
              rw [Bool.and_eq_true, decide_eq_true_eq] at this
              exact this
            obtain ⟨hle1, hle2⟩ := hle
            have hle' : (x.size : Int) ≤ (s.size : Int) := by omega
            rw [if_pos rfl] at hst
            have hz9 : (y ++ s.extract x.size s.size).size ≤ 20 := by rw [ByteArray.size_append, ByteArray.size_extract]; omega
            have HS := Lib.hid hst
            have hbw' := nx hbw3 hbw
            have hf1 : ¬ (9223372036854775807 < y.size + (s.extract x.size s.size).size) := by rw [ByteArray.size_extract]; omega
            have hf2 : ¬ (9223372036854775807 < y.size + (s.size - x.size)) := by omega
            clear hp2 hpre hst hrj hbw hbw3 hy
            go_wp2_with fail
            go_quiet (fail)
            have hbd := drewB hbw' nq
            generalize wr.drewN nq = wd at *
            generalize y ++ s.extract x.size s.size = img at *
            by_cases h10 : img.size ≤ 10
            · have hr := HS.out
              rw [if_pos h10] at hr
              have h10' : ¬ (10 : Int) < (img.size : Int) := by omega
              clear HS HR
              subst hr
              go_wp2_with fail
              go_ret2
              exact ⟨rfl, hbd⟩
            · have hr := HS.out
              rw [if_neg h10] at hr
              have h10' : (10 : Int) < (img.size : Int) := by omega
              clear HS HR
              subst hr
              go_wp2_with fail
              go_ret2
              exact ⟨rfl, hbd⟩
          | false =>
            have hp2 := isPre_raw x s
            rw [hpre] at hp2 hst
            rw [if_neg (by simp)] at hst
            have HS := Lib.hid hst
            by_cases hle : x.size ≤ s.size
            · have hle' : (x.size : Int) ≤ (s.size : Int) := by omega
              rw [decide_eq_true hle, Bool.true_and] at hp2
              have heq := hp2.symm
              clear hp2 hpre hst hrj hy
              go_wp2_with fail
              go_roundw
              case rel => exact ⟨j + 1, by omega, by go_num, HS, hbw⟩
              case measure => simp [intOf]; omega
            · have hle' : ¬ (x.size : Int) ≤ (s.size : Int) := by omega
              clear hp2 hpre hst hrj hy
              go_wp2_with fail
              go_roundw
              case rel => exact ⟨j + 1, by omega, by go_num, HS, hbw⟩
              case measure => simp [intOf]; omega
        · obtain rfl : j = m := by omega
          have hr := hrj.out
          rw [List.drop_of_length_le (by omega), List.drop_of_length_le (by omega)] at hr
          rw [show imgL s [] [] = none from rfl] at hr
          clear hrj HR
          subst hr
          go_wp2_with fail
          go_ret2
          exact ⟨rfl, nx hbw3 hbw⟩
end Go.Proofs.YtdhjchibhlcchaaDoor

/-! IsPair -/
namespace Go.Proofs.YtdhjchibhlcchaaDoor
open Go.RowKit

theorem isTree_yes' (t : Tr) (w : World) (h : t.carets ≤ 8) : Calls Tryd.prog 41 #[.string t.str] w (Gives (.bool true) w) := (implIsTree_yes t w h).mono fun _ _ ⟨h1, h2⟩ => ⟨h2, h1⟩
theorem isTree_no' (s : ByteArray) (w : World) (hs : s.size ≤ 9223372036854775806) (h : treeOf s = none) : Calls Tryd.prog 41 #[.string s] w (Gives (.bool false) w) := (implIsTree_no s w hs h).mono fun _ _ ⟨h1, h2⟩ => ⟨h2, h1⟩

set_option maxRecDepth 100000 in
set_option maxHeartbeats 2000000 in
theorem isPair_any (a b : ByteArray) (w : World) (ha : a.size ≤ 9223372036854775806) (hb : b.size ≤ 9223372036854775806) :
    Calls Tryd.prog 22 #[.agg #[.string a, .string b]] w (Gives (.bool (pairOf a b).isSome) w) := by
  cases h : treeOf a with
  | none =>
    have e : (pairOf a b).isSome = false := by unfold pairOf; rw [h]; rfl
    rw [e]
    have T := fun w => isTree_no' a w ha h
    clear h e
    go_enter Tryd.func22, Tryd.ntmps22
    go_wp2_with fail
    have hb0 : Below w.heap.size w (w.alloc (.cells #[.string a, .string b] 33 (0, 0))) := nxAlloc (Below.refl _ _) _
    have hc := two_cells (heap_alloc_at w (.cells #[.string a, .string b] 33 (0, 0)))
    have hs : w.heap.size < (w.alloc (.cells #[.string a, .string b] 33 (0, 0))).heap.size := by simp
    generalize w.alloc (.cells #[.string a, .string b] 33 (0, 0)) = w0 at *
    refine wp_region_cls (by kernel_rfl) (by kernel_rfl) ?_
    repeat (
      refine wpQuiet_step (fun K hK => ?_)
      go_simp
      first
        | (refine hK _ ?_; clear hK K)
        | (refine ⟨_, fun _ _ => rfl, hK _ ?_⟩; clear hK K)
        | (apply Exists.intro
           refine ⟨fun w' hw' => ?_, hK _ ?_⟩
           · first
               | (rw [hw'.cell hs hc.1]; exact ⟨rfl, rfl⟩)
               | (rw [hw'.cell hs hc.2]; exact ⟨rfl, rfl⟩)
               | (go_at_call 41; exact hw'.call (T _))
           clear hK K))
    refine wpQuiet_nil ?_
    intro w' hw'
    go_wp2_with fail
    go_ret
    exact ⟨rfl, nx hb0 hw'⟩
  | some t =>
    cases k : treeOf b with
    | none =>
      have e : (pairOf a b).isSome = false := by unfold pairOf; rw [h, k]; rfl
      rw [e]
      obtain ⟨rfl, hc⟩ := treeOf_some h
      have T := fun w => isTree_yes' t w hc
      have U := fun w => isTree_no' b w hb k
      clear h k e hc
      go_enter Tryd.func22, Tryd.ntmps22
      go_wp2_with fail
      have hb0 : Below w.heap.size w (w.alloc (.cells #[.string t.str, .string b] 33 (0, 0))) := nxAlloc (Below.refl _ _) _
      have hc := two_cells (heap_alloc_at w (.cells #[.string t.str, .string b] 33 (0, 0)))
      have hs : w.heap.size < (w.alloc (.cells #[.string t.str, .string b] 33 (0, 0))).heap.size := by simp
      generalize w.alloc (.cells #[.string t.str, .string b] 33 (0, 0)) = w0 at *
      refine wp_region_cls (by kernel_rfl) (by kernel_rfl) ?_
      repeat (
        refine wpQuiet_step (fun K hK => ?_)
        go_simp
        first
          | (refine hK _ ?_; clear hK K)
          | (refine ⟨_, fun _ _ => rfl, hK _ ?_⟩; clear hK K)
          | (apply Exists.intro
             refine ⟨fun w' hw' => ?_, hK _ ?_⟩
             · first
                 | (rw [hw'.cell hs hc.1]; exact ⟨rfl, rfl⟩)
                 | (rw [hw'.cell hs hc.2]; exact ⟨rfl, rfl⟩)
                 | (go_at_call 41; first | (with_reducible exact hw'.call (T _)) | (with_reducible exact hw'.call (U _)))
             clear hK K))
      refine wpQuiet_nil ?_
      intro w' hw'
      go_wp2_with fail
      go_ret
      exact ⟨rfl, nx hb0 hw'⟩
    | some u =>
      rw [pairOf_isSome a b t u h k]
      obtain ⟨rfl, hc⟩ := treeOf_some h
      obtain ⟨rfl, hd⟩ := treeOf_some k
      have T := fun w => isTree_yes' t w hc
      have U := fun w => isTree_yes' u w hd
      have C := fun w => countCarets_any t w (by omega)
      have D := fun w => countCarets_any u w (by omega)
      clear h k hc hd
      go_enter Tryd.func22, Tryd.ntmps22
      go_wp2_with fail
      have hb0 : Below w.heap.size w (w.alloc (.cells #[.string t.str, .string u.str] 33 (0, 0))) := nxAlloc (Below.refl _ _) _
      have hc := two_cells (heap_alloc_at w (.cells #[.string t.str, .string u.str] 33 (0, 0)))
      have hs : w.heap.size < (w.alloc (.cells #[.string t.str, .string u.str] 33 (0, 0))).heap.size := by simp
      generalize w.alloc (.cells #[.string t.str, .string u.str] 33 (0, 0)) = w0 at *
      refine wp_region_cls (by kernel_rfl) (by kernel_rfl) ?_
      repeat (
        refine wpQuiet_step (fun K hK => ?_)
        go_simp
        first
          | (refine hK _ ?_; clear hK K)
          | (refine ⟨_, fun _ _ => rfl, hK _ ?_⟩; clear hK K)
          | (apply Exists.intro
             refine ⟨fun w' hw' => ?_, hK _ ?_⟩
             · first
                 | (rw [hw'.cell hs hc.1]; exact ⟨rfl, rfl⟩)
                 | (rw [hw'.cell hs hc.2]; exact ⟨rfl, rfl⟩)
                 | (go_at_call 41; first | (with_reducible exact hw'.call (T _)) | (with_reducible exact hw'.call (U _)))
                 | (go_at_call 42; first | (with_reducible exact hw'.call (C _)) | (with_reducible exact hw'.call (D _)))
             clear hK K))
      refine wpQuiet_nil ?_
      intro w' hw'
      go_wp2_with fail
      go_ret
      exact ⟨rfl, nx hb0 hw'⟩
end Go.Proofs.YtdhjchibhlcchaaDoor

/-! TreeO -/
namespace Go.Proofs.YtdhjchibhlcchaaDoor
open Go.RowKit

theorem keep_cell {w w' : World} {b o : Nat} {v : Value} (hb : Below w.heap.size w w') (h : w.cell? ⟨b, o, none⟩ = some v) : w'.cell? ⟨b, o, none⟩ = some v :=
  (hb.cell (p := ⟨b, o, none⟩) (World.block_lt_of_cell? _ _ h)).trans h

theorem treeOf_any (t : Tr) (w : World) (h : t.carets ≤ 1000) : Calls Tryd.prog 23 #[.string t.str] w (GivesNode t w) := by
  have hz := t.str_size
  have hp := place_any (t.str.size + 1) t.str
  rw [parse_str t _ (by have := t.text_len; omega)] at hp
  have hp' : ∀ w, Calls Tryd.prog 43 #[.string t.str] w (PlaceOk t [] t.str w) := fun w => hp w (by omega) (by omega)
  clear hz hp
  go_enter Tryd.func23, Tryd.ntmps23
  go_wp2_with fail
  refine (hp' _).mono ?_; rintro e w1 ⟨b1, s1, hs1, hz1, hn1, hb1, rfl⟩
  clear hs1 hz1
  go_wp2_with fail
  go_ret
  exact ⟨b1, hn1, hb1, rfl⟩

end Go.Proofs.YtdhjchibhlcchaaDoor

/-! ShelfCut -/
namespace Go.Proofs
open Go.Shelf
def Tryd.lays103_ren : Go.Shelf.Ren := ⟨fun | 103 => 25 | 210 => 45 | 206 => 69 | n => n, fun | 9 => 9 | 4 => 4 | 24 => 31 | 3 => 3 | n => n, fun | n => n⟩
theorem Tryd.lays103 : Go.Proofs.Lays.n103 Tryd.prog Tryd.lays103_ren := {
  mixed := by kernel_rfl
  f103 := Tryd.func25.trans (congrArg some (by kernel_rfl))
  f206 := Tryd.func69.trans (congrArg some (by kernel_rfl))
  f210 := Tryd.func45.trans (congrArg some (by kernel_rfl))
  t3 := Tryd.underlying3
  a3 := Tryd.isAgg3
  z3 := Tryd.sizeOf3
  v3 := Tryd.zeroValue3
  t4 := Tryd.underlying4
  a4 := Tryd.isAgg4
  z4 := Tryd.sizeOf4
  v4 := Tryd.zeroValue4
  t9 := Tryd.underlying9
  a9 := Tryd.isAgg9
  z9 := Tryd.sizeOf9
  v9 := Tryd.zeroValue9
  t24 := Tryd.underlying31
  a24 := Tryd.isAgg31
  z24 := Tryd.sizeOf31
  v24 := Tryd.zeroValue31 }
open Go.RowKit in
theorem Tryd.strings_CutPrefix (s p : ByteArray) (w : World) :
    Calls Tryd.prog 25 #[.string s, .string p] w fun e w' => e = .returned (.tuple #[.string ⟨(Lib.trimPrefix s.data.toList p.data.toList).toArray⟩, .bool (Lib.hasPrefix s.data.toList p.data.toList)]) ∧ w' = w := Any.strings_CutPrefix Tryd.lays103 s p w
end Go.Proofs

/-! WImageOfAddress -/
namespace Go.Proofs.YtdhjchibhlcchaaDoor
open Go.RowKit

theorem pre_has (x s : ByteArray) : Lib.hasPrefix s.data.toList x.data.toList = isPre x s := (Lib.hasPrefix_raw s x).symm.trans (isPre_raw x s).symm
theorem pre_rest (x s : ByteArray) (h : isPre x s = true) : (⟨(Lib.trimPrefix s.data.toList x.data.toList).toArray⟩ : ByteArray) = s.extract x.size s.size := by
  unfold Lib.trimPrefix
  rw [pre_has, h, if_pos rfl]
  apply ba_ext
  rw [ByteArray.data_extract, Array.toList_extract]
  show s.data.toList.drop x.data.toList.length = List.extract s.data.toList x.size s.size
  have e1 : x.data.toList.length = x.size := rfl
  have e2 : s.size = s.data.toList.length := rfl
  rw [e1, List.extract_eq_take_drop, List.take_of_length_le (by rw [List.length_drop]; omega)]
theorem pre_not (x s : ByteArray) (h : isPre x s = false) : (⟨(Lib.trimPrefix s.data.toList x.data.toList).toArray⟩ : ByteArray) = s := by
  unfold Lib.trimPrefix
  rw [pre_has, h, if_neg (by simp)]
theorem img_ad {y s : ByteArray} {n : Nat} (hy : y.data.toList.all isBit = true) (hs : s.data.toList.all isBit = true) : isAd (y ++ s.extract n s.size) = decide ((y ++ s.extract n s.size).size ≤ 10) := by
  rw [Bool.eq_iff_iff, isAd_iff, decide_eq_true_eq]
  refine ⟨fun h => h.1, fun h => ⟨h, ?_⟩⟩
  rw [data_append, List.all_append, hy, Bool.true_and, List.all_eq_true]
  intro z hz
  rw [List.all_eq_true] at hs
  apply hs z
  rw [ByteArray.data_extract, Array.toList_extract] at hz
  rw [List.extract_eq_take_drop] at hz
  exact List.mem_of_mem_drop (List.mem_of_mem_take hz)

set_option maxRecDepth 100000 in
set_option maxHeartbeats 4000000 in
theorem implImageOfAddress_any (a b s : ByteArray) (w : World) (ha : a.size ≤ 9223372036854775806) (hb : b.size ≤ 9223372036854775806) (hs : s.size ≤ 9223372036854775806) :
    Calls Tryd.prog 12 #[.agg #[.string a, .string b], .string s] w (Gives (ans2 (imgO (pairOf a b) s)) w) := by
  have hg := fun w => isPair_any a b w ha hb
  have hk := fun w => isAddress_any s w hs
  cases h : pairOf a b with
  | none =>
    rw [h] at hg
    rw [show imgO none s = none by simp [imgO]]
    clear h hk
    go_enter Tryd.func12, Tryd.ntmps12
    go_wp2_with fail
    have hb0 : Below w.heap.size w (w.alloc (.cells #[.string a, .string b] 33 (0, 0))) := nxAlloc (Below.refl _ _) _
    have hx0 := heap_alloc_at w (.cells #[.string a, .string b] 33 (0, 0))
    generalize (w.alloc (.cells #[.string a, .string b] 33 (0, 0))) = w0 at *
    obtain ⟨hx0a, hx0b, hx0c⟩ := two_facts hx0
    obtain ⟨hx0f, hx0g⟩ := two_frozen hx0
    refine (hg _).mono ?_; rintro e w1 ⟨rfl, hb1⟩
    have hbw1 := nx hb0 hb1
    replace hx0 := heap_keep hb1 hx0
    clear hx0a hx0b hx0c hx0f hx0g
    obtain ⟨hx0a, hx0b, hx0c⟩ := two_facts hx0
    obtain ⟨hx0f, hx0g⟩ := two_frozen hx0
    clear hb1 hb0
    go_wp2_with fail
    go_ret2
    exact ⟨rfl, hbw1⟩
  | some p =>
    rw [h] at hg
    obtain ⟨rfl, rfl, hok, hc1, hc2⟩ := pairOf_some h
    have hok' : p.1.carets = p.2.carets := hok
    clear h
    cases k : isAd s with
    | false =>
      rw [k] at hk
      rw [show imgO (some p) s = none by simp [imgO, k]]
      clear k
      go_enter Tryd.func12, Tryd.ntmps12
      go_wp2_with fail
      have hb0 : Below w.heap.size w (w.alloc (.cells #[.string p.1.str, .string p.2.str] 33 (0, 0))) := nxAlloc (Below.refl _ _) _
      have hx0 := heap_alloc_at w (.cells #[.string p.1.str, .string p.2.str] 33 (0, 0))
      generalize (w.alloc (.cells #[.string p.1.str, .string p.2.str] 33 (0, 0))) = w0 at *
      obtain ⟨hx0a, hx0b, hx0c⟩ := two_facts hx0
      obtain ⟨hx0f, hx0g⟩ := two_frozen hx0
      refine (hg _).mono ?_; rintro e w1 ⟨rfl, hb1⟩
      have hbw1 := nx hb0 hb1
      replace hx0 := heap_keep hb1 hx0
      clear hx0a hx0b hx0c hx0f hx0g
      obtain ⟨hx0a, hx0b, hx0c⟩ := two_facts hx0
      obtain ⟨hx0f, hx0g⟩ := two_frozen hx0
      clear hb1 hb0
      go_wp2_with fail
      refine (hk _).mono ?_; rintro e w2 ⟨rfl, hb2⟩
      have hbw2 := nx hbw1 hb2
      replace hx0 := heap_keep hb2 hx0
      clear hx0a hx0b hx0c hx0f hx0g
      obtain ⟨hx0a, hx0b, hx0c⟩ := two_facts hx0
      obtain ⟨hx0f, hx0g⟩ := two_frozen hx0
      clear hb2 hbw1
      go_wp2_with fail
      go_ret2
      exact ⟨rfl, hbw2⟩
    | true =>
      rw [k] at hk
      rw [show imgO (some p) s = imgL s (p.1.addrs ⟨#[]⟩) (p.2.addrs ⟨#[]⟩) by simp [imgO, k]]
      have l1 := addrs_length p.1 ⟨#[]⟩
      have l2 := addrs_length p.2 ⟨#[]⟩
      rw [← imgI_imgL s _ _ (addrs_free p.1 s ⟨#[]⟩)]
      have T1 := fun w => treeOf_any p.1 w (by omega)
      have T2 := fun w => treeOf_any p.2 w (by omega)
      have A1 := fun b w h => addressesFrom_any p.1 b ⟨#[]⟩ w h (by omega) (by show 0 + p.1.carets ≤ 1000; omega)
      have A2 := fun b w h => addressesFrom_any p.2 b ⟨#[]⟩ w h (by omega) (by show 0 + p.2.carets ≤ 1000; omega)
      obtain ⟨hs10, hsb⟩ := isAd_iff.1 k
      have y8 : ∀ y ∈ p.2.addrs ⟨#[]⟩, okAd y := addrs_ok p.2 hc2
      obtain ⟨m, hm⟩ : ∃ m, p.1.carets + 1 = m := ⟨_, rfl⟩
      rw [hm] at l1
      rw [← hok', hm] at l2
      have hm9 : m ≤ 9 := by omega
      have hm0 : 0 < m := by omega
      unfold GivesTexts at A1 A2
      rw [l1] at A1
      rw [l2] at A2
      generalize p.1.addrs ⟨#[]⟩ = xs at *
      generalize p.2.addrs ⟨#[]⟩ = ys at *
      obtain ⟨R, hR⟩ : ∃ R, R = imgI s xs ys := ⟨_, rfl⟩
      rw [← hR]
      clear hm hc1 hc2 hok hok' k ha hb
      go_enter Tryd.func12, Tryd.ntmps12
      go_wp2_with fail
      have hb0 : Below w.heap.size w (w.alloc (.cells #[.string p.1.str, .string p.2.str] 33 (0, 0))) := nxAlloc (Below.refl _ _) _
      have hx0 := heap_alloc_at w (.cells #[.string p.1.str, .string p.2.str] 33 (0, 0))
      generalize (w.alloc (.cells #[.string p.1.str, .string p.2.str] 33 (0, 0))) = w0 at *
      obtain ⟨hx0a, hx0b, hx0c⟩ := two_facts hx0
      obtain ⟨hx0f, hx0g⟩ := two_frozen hx0
      refine (hg _).mono ?_; rintro e w1 ⟨rfl, hb1⟩
      have hbw1 := nx hb0 hb1
      replace hx0 := heap_keep hb1 hx0
      clear hx0a hx0b hx0c hx0f hx0g
      obtain ⟨hx0a, hx0b, hx0c⟩ := two_facts hx0
      obtain ⟨hx0f, hx0g⟩ := two_frozen hx0
      clear hb1 hb0
      go_wp2_with fail
      refine (hk _).mono ?_; rintro e w2 ⟨rfl, hb2⟩
      have hbw2 := nx hbw1 hb2
      replace hx0 := heap_keep hb2 hx0
      clear hx0a hx0b hx0c hx0f hx0g
      obtain ⟨hx0a, hx0b, hx0c⟩ := two_facts hx0
      obtain ⟨hx0f, hx0g⟩ := two_frozen hx0
      clear hb2 hbw1
      go_wp2_with fail
      refine (T2 _).mono ?_; rintro e w3 ⟨b2, hn2, hb3, rfl⟩
      have hbw3 := nx hbw2 hb3
      replace hx0 := heap_keep hb3 hx0
      clear hx0a hx0b hx0c hx0f hx0g hbw2 hb3
      obtain ⟨hx0a, hx0b, hx0c⟩ := two_facts hx0
      go_wp2_with fail
      refine (A2 b2 _ hn2).mono ?_; rintro e w4 ⟨g2, cap2, own2, hb4, rfl⟩
      have hbw4 := nx hbw3 hb4
      replace hx0 := heap_keep hb4 hx0
      clear hx0a hx0b hx0c hbw3 hb4 hn2
      obtain ⟨hx0a, hx0b, hx0c⟩ := two_facts hx0
      go_wp2_with fail
      refine (T1 _).mono ?_; rintro e w5 ⟨b1, hn1, hb5, rfl⟩
      have hbw5 := nx hbw4 hb5
      replace own2 := own2.keep hb5
      replace hx0 := heap_keep hb5 hx0
      clear hx0a hx0b hx0c hbw4 hb5
      obtain ⟨hx0a, hx0b, hx0c⟩ := two_facts hx0
      go_wp2_with fail
      refine (A1 b1 _ hn1).mono ?_; rintro e w6 ⟨g1, cap1, own1, hb6, rfl⟩
      have hbw6 := nx hbw5 hb6
      replace own2 := own2.keep hb6
      clear hx0 hx0a hx0b hx0c hbw5 hb6 hn1 T1 T2 A1 A2 hg hk
      rcases own1.cells with ⟨h0, _⟩ | ⟨g1', cap1', hv1, _, hg1, q1, q2, hcell1, _⟩
      · simp at h0
      rcases own2.cells with ⟨h0, _⟩ | ⟨g2', cap2', hv2, _, hg2, q3, q4, hcell2, _⟩
      · simp at h0
      simp only [Value.slice.injEq, Option.some.injEq, Addr.mk.injEq, and_true] at hv1 hv2
      obtain ⟨rfl, e1, rfl⟩ := hv1
      obtain ⟨rfl, e2, rfl⟩ := hv2
      rw [l1] at hcell1 q1
      rw [l2] at hcell2 q3
      unfold maxLen at q2 q4
      have HC1 := Lib.hid hcell1
      have HC2 := Lib.hid hcell2
      have HR := Lib.hid hR
      have HY := Lib.hid y8
      clear own1 own2 hcell1 hcell2 hR y8 e1 e2
      go_wp2_with fail
      go_loopw [29] (fun i wr => ∃ j : Nat, j ≤ m ∧ i = .int .i64 j ∧ Hid (R = imgI s (xs.drop j) (ys.drop j)) ∧ Below w6.heap.size w6 wr) (fun i _ => m - (intOf i).toNat)
      case atStart => exact ⟨0, Nat.zero_le _, rfl, Lib.hid (by rw [HR.out]; rfl), Below.refl _ _⟩
      case round =>
        obtain ⟨j, hj, rfl, hrj, hbw⟩ := hrel
        by_cases hlt : j < m
        · have hlt' : (j : Int) < (m : Int) := by omega
          have hst := imgI_step s (xs := xs) (ys := ys) (j := j) (by omega) (by omega)
          rw [← hrj.out] at hst
          have c1 := (hbw.cell (p := ⟨g1, j, none⟩) hg1).trans (HC1.out j hlt)
          have c2 := (hbw.cell (p := ⟨g2, j, none⟩) hg2).trans (HC2.out j hlt)
          have hy := HY.out (ys.getD j ⟨#[]⟩) (by have : j < ys.length := by omega
                                                  simp [this])
          generalize xs.getD j ⟨#[]⟩ = x at *
          generalize ys.getD j ⟨#[]⟩ = y at *
          have hcut := fun w => Tryd.strings_CutPrefix s x w
          rw [pre_has] at hcut
          cases hpre : isPre x s with
          | true =>
            have hia := img_ad (n := x.size) hy.2 hsb
            rw [hpre, pre_rest x s hpre] at hcut
            rw [hpre] at hst
            have hsz : (s.extract x.size s.size).size ≤ 10 := by rw [ByteArray.size_extract]; omega
            have hy1 := hy.1
            have hI := fun w => isAddress_any (y ++ s.extract x.size s.size) w (by rw [ByteArray.size_append]; omega)
            rw [hia] at hI
            generalize s.extract x.size s.size = rest at *
            clear hia hpre hrj hy
            by_cases h10 : (y ++ rest).size ≤ 10
            · rw [if_pos ⟨rfl, h10⟩] at hst
              rw [decide_eq_true h10] at hI
              clear h10 HR
              subst hst
              go_wp2_with fail
              refine (hcut _).mono ?_; rintro e w' ⟨rfl, rfl⟩
              go_wp2_with fail
              refine (hI _).mono ?_; rintro e w' ⟨rfl, hb7⟩
              go_wp2_with fail
              go_ret2
              exact ⟨rfl, nx (nx hbw6 hbw) hb7⟩
            · rw [if_neg (by omega)] at hst
              rw [decide_eq_false h10] at hI
              have HS := Lib.hid hst
              clear h10 hst
              go_wp2_with fail
              refine (hcut _).mono ?_; rintro e w' ⟨rfl, rfl⟩
              go_wp2_with fail
              refine (hI _).mono ?_; rintro e w' ⟨rfl, hb7⟩
              have hbw7 := nx hbw hb7
              go_wp2_with fail
              go_roundw
              case rel => exact ⟨j + 1, by omega, by go_num, HS, hbw7⟩
              case measure => simp [intOf]; omega
          | false =>
            rw [hpre, pre_not x s hpre] at hcut
            rw [hpre, if_neg (by simp)] at hst
            have HS := Lib.hid hst
            have hy1 := hy.1
            clear hst hpre hrj hy
            go_wp2_with fail
            refine (hcut _).mono ?_; rintro e w' ⟨rfl, rfl⟩
            go_wp2_with fail
            go_roundw
            case rel => exact ⟨j + 1, by omega, by go_num, HS, hbw⟩
            case measure => simp [intOf]; omega
        · obtain rfl : j = m := by omega
          have hr := hrj.out
          rw [List.drop_of_length_le (by omega), List.drop_of_length_le (by omega)] at hr
          rw [show imgI s [] [] = none from rfl] at hr
          clear hrj HR
          subst hr
          go_wp2_with fail
          go_ret2
          exact ⟨rfl, nx hbw6 hbw⟩

set_option maxRecDepth 100000 in
set_option maxHeartbeats 1000000 in
theorem fnExactImageOfAddress_walk (a0 : ByteArray) (ha0 : a0.size ≤ maxLen) (b0 : ByteArray) (hb0 : b0.size ≤ maxLen) (s1 : ByteArray) (hs1 : s1.size ≤ maxLen) (w : World) :
    Calls Tryd.prog 4 #[.agg #[.string a0, .string b0], .string s1] w fun e w' => e = .returned (.bool true) ∧ Below w.heap.size w w' := by
  unfold maxLen at ha0 hb0 hs1
  by_cases hbigs1 : (1048576 : Int) < s1.size
  · go_enter Tryd.func4, Tryd.ntmps4
    go_wp2_with fail
    have hb0 : Below w.heap.size w (w.alloc (.cells #[.string a0, .string b0] 29 (0, 0))) := nxAlloc (Below.refl _ _) _
    have hx0 := heap_alloc_at w (.cells #[.string a0, .string b0] 29 (0, 0))
    generalize (w.alloc (.cells #[.string a0, .string b0] 29 (0, 0))) = w0 at *
    obtain ⟨ka0, kb0, kc0⟩ := two_facts hx0
    go_ret
    exact ⟨rfl, hb0⟩
  have hsz0 := fun w => szPair_any a0 b0 w (by omega) (by omega) 1048576 (by omega) (by omega)
  by_cases hz0 : (a0.size : Int) + b0.size ≤ 1048576
  rotate_left
  · simp only [if_neg hz0] at hsz0
    go_enter Tryd.func4, Tryd.ntmps4
    go_wp2_with fail
    have hb0 : Below w.heap.size w (w.alloc (.cells #[.string a0, .string b0] 29 (0, 0))) := nxAlloc (Below.refl _ _) _
    have hx0 := heap_alloc_at w (.cells #[.string a0, .string b0] 29 (0, 0))
    generalize (w.alloc (.cells #[.string a0, .string b0] 29 (0, 0))) = w0 at *
    obtain ⟨ka0, kb0, kc0⟩ := two_facts hx0
    refine (hsz0 _).mono ?_; rintro e w1 ⟨rfl, hb1⟩
    have hbw1 := nx hb0 hb1
    replace hx0 := heap_keep hb1 hx0
    clear ka0 kb0 kc0
    obtain ⟨ka0, kb0, kc0⟩ := two_facts hx0
    clear hb1 hb0
    go_wp2_with fail
    go_ret
    exact ⟨rfl, hbw1⟩
  simp only [if_pos hz0] at hsz0
  have hS := fun w => specImageOfAddress_any a0 b0 s1 w (by omega) (by omega) (by omega)
  have hI := fun w => implImageOfAddress_any a0 b0 s1 w (by omega) (by omega) (by omega)
  have hS' : ∀ w, Calls Tryd.prog 10 #[.agg #[.string a0, .string b0], .string s1] w (Gives (ans2 (imgO (pairOf a0 b0) s1)) w) := hS
  have hI' : ∀ w, Calls Tryd.prog 12 #[.agg #[.string a0, .string b0], .string s1] w (Gives (ans2 (imgO (pairOf a0 b0) s1)) w) := hI
  clear hS hI
  generalize (imgO (pairOf a0 b0) s1) = o at hS' hI'
  unfold ans2 at hS' hI'
  go_enter Tryd.func4, Tryd.ntmps4
  go_wp2_with fail
  have hb0 : Below w.heap.size w (w.alloc (.cells #[.string a0, .string b0] 29 (0, 0))) := nxAlloc (Below.refl _ _) _
  have hx0 := heap_alloc_at w (.cells #[.string a0, .string b0] 29 (0, 0))
  generalize (w.alloc (.cells #[.string a0, .string b0] 29 (0, 0))) = w0 at *
  obtain ⟨ka0, kb0, kc0⟩ := two_facts hx0
  refine (hsz0 _).mono ?_; rintro e w1 ⟨rfl, hb1⟩
  have hbw1 := nx hb0 hb1
  replace hx0 := heap_keep hb1 hx0
  clear ka0 kb0 kc0
  obtain ⟨ka0, kb0, kc0⟩ := two_facts hx0
  clear hb1 hb0
  go_wp2_with fail
  refine (toPair_any a0 b0 _).mono ?_; rintro e w2 ⟨rfl, hb2⟩
  have hbw2 := nx hbw1 hb2
  replace hx0 := heap_keep hb2 hx0
  clear ka0 kb0 kc0
  obtain ⟨ka0, kb0, kc0⟩ := two_facts hx0
  clear hb2 hbw1
  go_wp2_with fail
  refine (hS' _).mono ?_; rintro e w3 ⟨rfl, hb3⟩
  have hbw3 := nx hbw2 hb3
  replace hx0 := heap_keep hb3 hx0
  clear ka0 kb0 kc0
  obtain ⟨ka0, kb0, kc0⟩ := two_facts hx0
  clear hb3 hbw2
  go_wp2_with fail
  refine (toPair_any a0 b0 _).mono ?_; rintro e w4 ⟨rfl, hb4⟩
  have hbw4 := nx hbw3 hb4
  replace hx0 := heap_keep hb4 hx0
  clear ka0 kb0 kc0
  obtain ⟨ka0, kb0, kc0⟩ := two_facts hx0
  clear hb4 hbw3
  go_wp2_with fail
  refine (hI' _).mono ?_; rintro e w5 ⟨rfl, hb5⟩
  have hbw5 := nx hbw4 hb5
  replace hx0 := heap_keep hb5 hx0
  clear ka0 kb0 kc0
  obtain ⟨ka0, kb0, kc0⟩ := two_facts hx0
  clear hb5 hbw4
  go_wp2_with fail
  go_ret
  exact ⟨rfl, hbw5⟩
end Go.Proofs.YtdhjchibhlcchaaDoor

/-! LFnExactImageOfAddress -/
namespace Go.Proofs.YtdhjchibhlcchaaDoor.fnExactImageOfAddress
open Go.ChangeShapes Go.WideShapes Go.ChangeAt Go.RowKit
open Go.ChangeMaps (open_string shut_string)
open Go.Joins (open_agg2 shut_agg2)
set_option linter.unusedVariables false

theorem cellsPair : Tryd.prog.cellsOf 29 = 2 := by kernel_rfl
theorem own : ownKnob Tryd.prog.godebug = none := by kernel_rfl
theorem laidOut : laidOutB Tryd.prog = true := by kernel_rfl

set_option maxRecDepth 100000 in
theorem lifted (os : Os) (started : os.Started) (H : Type) (enc : TypeId × Value → H) :
    ReturnsInHanded {} Tryd.checked os 4 .any (fun w args => (Rows.fnExactImageOfAddressSpec.pre enc Tryd.prog Tryd.f4 Rows.fnExactImageOfAddressRow.domain false w args ∧ laidMetH Tryd.prog Rows.fnExactImageOfAddressRow.laid w) ∧ sizedMet enc Tryd.prog Tryd.f4 (OpenSpec.ofChange Rows.fnExactImageOfAddressSpec) false w args)
      (Rows.fnExactImageOfAddressSpec.post enc Tryd.prog Tryd.f4 false true false false) := by
  refine returnsInHanded_of_change_and (C := Tryd.checked) (X := fun w _ => laidMetH Tryd.prog Rows.fnExactImageOfAddressRow.laid w) (fun _ _ _ hh h => h.of_heap hh) own started (by kernel_rfl) Tryd.func4
    (ChangeSpec.witness_shaped (enc := enc) (C := Tryd.checked) (os := os) (X := fun w _ => laidMetH Tryd.prog Rows.fnExactImageOfAddressRow.laid w) false (World.laidAll Tryd.prog os Rows.fnExactImageOfAddressRow.laid) #[.agg #[.string ByteArray.empty, .string ByteArray.empty], .string ByteArray.empty] 8 (World.laidAll_os _ _ _)
      (World.shaped_of_ZipB (by kernel_rfl) (by kernel_rfl)) (by kernel_rfl) (by kernel_rfl) (by kernel_rfl)
      (by rw [MakeChecks.laidMetH_plain _ _ _ (by kernel_rfl)]; exact laidMet_laidAll _ (by kernel_rfl) (by kernel_rfl))) ?_
  intro W base args ds gs before hval0 hW hc _ hL _
  have hval : ∀ (j : Nat) t v, Tryd.f4.params[j]? = some t → args[j]? = some v → Value.okWide Tryd.prog W .any base t v := hval0
  have hW' := hW
  obtain ⟨p, q, hA0, hV, rfl, hfz, hnd⟩ := hW
  have hA : DataW.TrodAll enc Tryd.prog W 0 (fun _ => true) true Tryd.f4.params.toList args.toList ds p := hA0
  rw [Tryd.params4] at hA hval
  obtain ⟨v0, vs0, d0, ds0, p0, q0, hargs, rfl, rfl, h0, r0⟩ := trodAll_cons hA
  obtain ⟨v1, vs1, d1, ds1, p1, q1, rfl, rfl, rfl, h1, r1⟩ := trodAll_cons r0
  obtain ⟨rfl, rfl, rfl⟩ := trodAll_nil r1
  obtain rfl : args = #[v0, v1] := by cases args; simp_all
  obtain ⟨rfl, rfl⟩ := trodVars_none hV
  obtain ⟨c0a, c0b, y0a, y0b, m0, rfl, rfl, rfl, hy0a, hy0b⟩ := open_agg2 Tryd.underlying29 (by kernel_rfl) cellsPair (hval 0 29 v0 rfl rfl) h0
  obtain ⟨a0a, e0a, rfl, w0a⟩ := DataW.trod_string Tryd.underlying9 hy0a
  obtain ⟨a0b, e0b, rfl, w0b⟩ := DataW.trod_string Tryd.underlying9 hy0b
  simp at e0a e0b
  subst e0a e0b
  obtain ⟨a1, rfl, rfl, rfl, w1⟩ := open_string Tryd.underlying9 (hval 1 9 v1 rfl rfl) h1
  clear hA0 hval0
  simp only [List.append_nil] at hW'
  refine (fnExactImageOfAddress_walk a0a w0a a0b w0b a1 w1 W).mono fun e W' ⟨he, bel⟩ => ?_
  subst he
  exact ⟨_, rfl, _, _, _, [], _, [], hW', trodAll_mk1 (shut_bool Tryd.underlying4 _), (trodAll_cons_mk (shut_agg2 (y0 := (.lit (.string a0a.data.toList), [])) (y1 := (.lit (.string a0b.data.toList), [])) Tryd.underlying29 (by kernel_rfl) cellsPair (Go.Deep.shut_string_cell Tryd.underlying9 w0a) (Go.Deep.shut_string_cell Tryd.underlying9 w0b)) (trodAll_cons_mk (shut_string Tryd.underlying9 w1) trodAll_mk0)), rfl, bel.frame _, fun h => by cases h⟩

theorem over : Rows.fnExactImageOfAddressRow.holds Tryd.pinned (OpenSpec.ofChange Rows.fnExactImageOfAddressSpec) :=
  OpenClaim.holds_of_wide 4 Tryd.f4 rfl rfl rfl rfl rfl rfl rfl ⟨rfl, rfl, rfl, rfl, rfl⟩ rfl rfl rfl rfl rfl (by kernel_rfl) Tryd.func4 (by kernel_rfl)
    (of_decide_eq_true (by kernel_rfl)) (by unfold Func.isWrapper; first | (rw [if_pos (by decide +kernel)]; kernel_rfl) | (rw [if_neg (by decide +kernel)]; exact ⟨rfl, rfl⟩))
    (fun os started H enc _ => lifted os started H enc)

theorem plain (f : FuncId) (fn : Func) (hf : Tryd.pinned.checked.prog.funcNamed "loop.example/g01161/laws.FnExactImageOfAddress" = some f) (hfn : Tryd.pinned.checked.prog.funcs[f]? = some fn) :
    Rows.fnExactImageOfAddressCard.stood.looks = Tryd.pinned.checked.prog.looks [] ∧ ∀ (j : Nat) t, fn.params[j]? = some t → Tryd.pinned.checked.prog.wantsStandIn t = false := by
  obtain rfl : f = 4 := Option.some.inj ((show Tryd.prog.funcNamed "loop.example/g01161/laws.FnExactImageOfAddress" = some 4 by kernel_rfl).symm.trans hf) |>.symm
  obtain rfl : fn = Tryd.f4 := (Option.some.inj (Tryd.func4.symm.trans hfn)).symm
  refine ⟨by kernel_rfl, fun j t ht => ?_⟩
  rw [Tryd.params4] at ht
  have hm : t ∈ [29, 9] := by simpa using Array.mem_of_getElem? ht
  have hall : ([29, 9].all fun u => !Tryd.prog.wantsStandIn u) = true := by kernel_rfl
  exact (show Tryd.prog.wantsStandIn t = false by simpa using List.all_eq_true.1 hall t hm)

theorem proved : Rows.FnExactImageOfAddressCardSaid :=
  Claim7.holds_tied_plain_at .later [] _ _ _ _ over (fun _ h => by cases h) (by kernel_rfl) (fun _ h => by cases h) fnExactImageOfAddress_row_tie rfl ⟨rfl, rfl⟩ (by kernel_rfl) rfl plain (by kernel_rfl)
#print axioms proved
end Go.Proofs.YtdhjchibhlcchaaDoor.fnExactImageOfAddress
