/- The walk of laws.FnExactLeafOf. -/
import Derived.Test.YtbmegkphmifokaaFt4
import Derived.Test.YtbmegkphmifokaaWAddressesOf
namespace Go.Proofs.Ytbmegkphmifokaa
open Go.RowKit

def ansL (o : Option Nat) : Value := .tuple #[.int .i64 (o.getD 0 : Nat), .bool o.isSome]
/-- The leaf that has a fraction. -/
def leafO (a : ByteArray) (n d : Int) : Option Nat :=
  match treeOf a with
  | some t => if isFr n d = true then some (lastTo t.starts (stepsOf n d)) else none
  | none => none
set_option maxHeartbeats 2000000 in
theorem specLeafOf_any (a : ByteArray) (n d : Int) (w : World) (ha : a.size ≤ 9223372036854775806) (_l1 : -9223372036854775808 ≤ n) (_u1 : n ≤ 9223372036854775807) (_l2 : -9223372036854775808 ≤ d) (_u2 : d ≤ 9223372036854775807) :
    Calls Try.prog 23 #[.string a, .agg #[.int .i64 n, .int .i64 d]] w (Gives (ansL (leafO a n d)) w) := by
  have hg := fun w => mpGood_any n d w
  cases h : treeOf a with
  | none =>
    rw [show leafO a n d = none by simp [leafO, h]]
    have H := Lib.hid h
    clear h hg _l1 _u1 _l2 _u2
    go_enter Try.func23, Try.ntmps23
    go_wp2_with fail
    have hb0 : Below w.heap.size w (w.alloc (.cells #[.int .i64 n, .int .i64 d] 25 (0, 0))) := nxAlloc (Below.refl _ _) _
    have hx0 := heap_alloc_at w (.cells #[.int .i64 n, .int .i64 d] 25 (0, 0))
    generalize (w.alloc (.cells #[.int .i64 n, .int .i64 d] 25 (0, 0))) = w0 at *
    obtain ⟨hx0a, hx0b, hx0c⟩ := two_facts hx0
    obtain ⟨hx0f, hx0g⟩ := two_frozen hx0
    refine (trIs_no a _ ha H.out).mono ?_; rintro e w' ⟨rfl, rfl⟩
    go_wp2_with fail
    go_ret2
    exact ⟨rfl, hb0⟩
  | some t =>
    obtain ⟨rfl, hc⟩ := treeOf_some h
    cases k : isFr n d with
    | false =>
      rw [k] at hg
      rw [show leafO t.str n d = none by simp [leafO, h, k]]
      clear h _l1 _u1 _l2 _u2 k
      go_enter Try.func23, Try.ntmps23
      go_wp2_with fail
      have hb0 : Below w.heap.size w (w.alloc (.cells #[.int .i64 n, .int .i64 d] 25 (0, 0))) := nxAlloc (Below.refl _ _) _
      have hx0 := heap_alloc_at w (.cells #[.int .i64 n, .int .i64 d] 25 (0, 0))
      generalize (w.alloc (.cells #[.int .i64 n, .int .i64 d] 25 (0, 0))) = w0 at *
      obtain ⟨hx0a, hx0b, hx0c⟩ := two_facts hx0
      obtain ⟨hx0f, hx0g⟩ := two_frozen hx0
      refine (trIs_yes t _ hc).mono ?_; rintro e w' ⟨rfl, rfl⟩
      go_wp2_with fail
      refine (hg _).mono ?_; rintro e w1 ⟨rfl, hb1⟩
      have hbw1 := nx hb0 hb1
      replace hx0 := heap_keep hb1 hx0
      clear hx0a hx0b hx0c hx0f hx0g
      obtain ⟨hx0a, hx0b, hx0c⟩ := two_facts hx0
      obtain ⟨hx0f, hx0g⟩ := two_frozen hx0
      clear hb1 hb0
      go_wp2_with fail
      go_ret2
      exact ⟨rfl, hbw1⟩
    | true =>
      rw [k] at hg
      rw [show leafO t.str n d = some (lastTo t.starts (stepsOf n d)) by simp [leafO, h, k]]
      clear h _l1 _u1 _l2 _u2
      obtain ⟨n, d, rfl, rfl, n1, d1, d2⟩ := isFr_nats k
      have hM := fun w => mpLeaf_any t n d w hc k
      generalize lastTo t.starts (stepsOf n d) = r at *
      clear k
      go_enter Try.func23, Try.ntmps23
      go_wp2_with fail
      have hb0 : Below w.heap.size w (w.alloc (.cells #[.int .i64 n, .int .i64 d] 25 (0, 0))) := nxAlloc (Below.refl _ _) _
      have hx0 := heap_alloc_at w (.cells #[.int .i64 n, .int .i64 d] 25 (0, 0))
      generalize (w.alloc (.cells #[.int .i64 n, .int .i64 d] 25 (0, 0))) = w0 at *
      obtain ⟨hx0a, hx0b, hx0c⟩ := two_facts hx0
      obtain ⟨hx0f, hx0g⟩ := two_frozen hx0
      refine (trIs_yes t _ hc).mono ?_; rintro e w' ⟨rfl, rfl⟩
      go_wp2_with fail
      refine (hg _).mono ?_; rintro e w1 ⟨rfl, hb1⟩
      have hbw1 := nx hb0 hb1
      replace hx0 := heap_keep hb1 hx0
      clear hx0a hx0b hx0c hx0f hx0g
      obtain ⟨hx0a, hx0b, hx0c⟩ := two_facts hx0
      obtain ⟨hx0f, hx0g⟩ := two_frozen hx0
      clear hb1 hb0
      go_wp2_with fail
      refine (hM _).mono ?_; rintro e w2 ⟨rfl, hb2⟩
      have hbw2 := nx hbw1 hb2
      replace hx0 := heap_keep hb2 hx0
      clear hx0a hx0b hx0c hx0f hx0g
      obtain ⟨hx0a, hx0b, hx0c⟩ := two_facts hx0
      obtain ⟨hx0f, hx0g⟩ := two_frozen hx0
      clear hb2 hbw1
      go_wp2_with fail
      go_ret2
      exact ⟨rfl, hbw2⟩

set_option maxHeartbeats 2000000 in
theorem implLeafOf_any (a : ByteArray) (n d : Int) (w : World) (ha : a.size ≤ 9223372036854775806) (_l1 : -9223372036854775808 ≤ n) (_u1 : n ≤ 9223372036854775807) (_l2 : -9223372036854775808 ≤ d) (_u2 : d ≤ 9223372036854775807) :
    Calls Try.prog 24 #[.string a, .agg #[.int .i64 n, .int .i64 d]] w (Gives (ansL (leafO a n d)) w) := by
  have hA := fun w => implAddressesOf_any a w ha
  have hg := fun w => isFraction_any n d w
  cases h : treeOf a with
  | none =>
    rw [show leafO a n d = none by simp [leafO, h]]
    rw [show AddressesOf_o a = none by simp [AddressesOf_o, h]] at hA
    clear h hg _l1 _u1 _l2 _u2
    go_enter Try.func24, Try.ntmps24
    go_wp2_with fail
    have hb0 : Below w.heap.size w (w.alloc (.cells #[.int .i64 n, .int .i64 d] 25 (0, 0))) := nxAlloc (Below.refl _ _) _
    have hx0 := heap_alloc_at w (.cells #[.int .i64 n, .int .i64 d] 25 (0, 0))
    generalize (w.alloc (.cells #[.int .i64 n, .int .i64 d] 25 (0, 0))) = w0 at *
    obtain ⟨hx0a, hx0b, hx0c⟩ := two_facts hx0
    obtain ⟨hx0f, hx0g⟩ := two_frozen hx0
    refine (hA _).mono ?_; rintro e w1 ⟨v, own, hb1, rfl⟩
    have hbw1 := nx hb0 hb1
    go_wp2_with fail
    go_ret2
    exact ⟨rfl, hbw1⟩
  | some t =>
    obtain ⟨rfl, hc⟩ := treeOf_some h
    rw [show AddressesOf_o t.str = some (t.addrs ⟨#[]⟩) by simp [AddressesOf_o, h]] at hA
    have hA' : ∀ w, Calls Try.prog 50 #[.string t.str] w (AnsS2 (t.addrs ⟨#[]⟩) true w) := hA
    clear hA
    cases k : isFr n d with
    | false =>
      rw [k] at hg
      rw [show leafO t.str n d = none by simp [leafO, h, k]]
      clear h _l1 _u1 _l2 _u2 k
      go_enter Try.func24, Try.ntmps24
      go_wp2_with fail
      have hb0 : Below w.heap.size w (w.alloc (.cells #[.int .i64 n, .int .i64 d] 25 (0, 0))) := nxAlloc (Below.refl _ _) _
      have hx0 := heap_alloc_at w (.cells #[.int .i64 n, .int .i64 d] 25 (0, 0))
      generalize (w.alloc (.cells #[.int .i64 n, .int .i64 d] 25 (0, 0))) = w0 at *
      obtain ⟨hx0a, hx0b, hx0c⟩ := two_facts hx0
      obtain ⟨hx0f, hx0g⟩ := two_frozen hx0
      refine (hA' _).mono ?_; rintro e w1 ⟨v, own, hb1, rfl⟩
      have hbw1 := nx hb0 hb1
      replace hx0 := heap_keep hb1 hx0
      clear hx0a hx0b hx0c hx0f hx0g
      obtain ⟨hx0a, hx0b, hx0c⟩ := two_facts hx0
      obtain ⟨hx0f, hx0g⟩ := two_frozen hx0
      clear hb1 hb0
      go_wp2_with fail
      refine (hg _).mono ?_; rintro e w2 ⟨rfl, hb2⟩
      have hbw2 := nx hbw1 hb2
      replace hx0 := heap_keep hb2 hx0
      clear hx0a hx0b hx0c hx0f hx0g
      obtain ⟨hx0a, hx0b, hx0c⟩ := two_facts hx0
      obtain ⟨hx0f, hx0g⟩ := two_frozen hx0
      clear hb2 hbw1
      go_wp2_with fail
      go_ret2
      exact ⟨rfl, hbw2⟩
    | true =>
      rw [k] at hg
      rw [show leafO t.str n d = some (lastTo t.starts (stepsOf n d)) by simp [leafO, h, k]]
      clear h _l1 _u1 _l2 _u2
      obtain ⟨n, d, rfl, rfl, n1, d1, d2⟩ := isFr_nats k
      have hs := fun w => steps_any n d w k
      have hl := addrs_length t ⟨#[]⟩
      have hok := addrs_ok t hc
      unfold Tr.starts
      generalize stepsOf n d = s at *
      generalize t.addrs ⟨#[]⟩ = ss at *
      have hU := fun v b w (hc : CellsS b w v ss) => lastUpToStr_any b v ss s w hc (by omega) hok
      generalize lastTo (ss.map stA) s = r at *
      clear k hok hl
      go_enter Try.func24, Try.ntmps24
      go_wp2_with fail
      have hb0 : Below w.heap.size w (w.alloc (.cells #[.int .i64 n, .int .i64 d] 25 (0, 0))) := nxAlloc (Below.refl _ _) _
      have hx0 := heap_alloc_at w (.cells #[.int .i64 n, .int .i64 d] 25 (0, 0))
      generalize (w.alloc (.cells #[.int .i64 n, .int .i64 d] 25 (0, 0))) = w0 at *
      obtain ⟨hx0a, hx0b, hx0c⟩ := two_facts hx0
      obtain ⟨hx0f, hx0g⟩ := two_frozen hx0
      refine (hA' _).mono ?_; rintro e w1 ⟨v, own, hb1, rfl⟩
      have hbw1 := nx hb0 hb1
      replace hx0 := heap_keep hb1 hx0
      clear hx0a hx0b hx0c hx0f hx0g
      obtain ⟨hx0a, hx0b, hx0c⟩ := two_facts hx0
      obtain ⟨hx0f, hx0g⟩ := two_frozen hx0
      clear hb1 hb0
      go_wp2_with fail
      refine (hg _).mono ?_; rintro e w2 ⟨rfl, hb2⟩
      replace own := own.keep hb2
      have hbw2 := nx hbw1 hb2
      replace hx0 := heap_keep hb2 hx0
      clear hx0a hx0b hx0c hx0f hx0g
      obtain ⟨hx0a, hx0b, hx0c⟩ := two_facts hx0
      obtain ⟨hx0f, hx0g⟩ := two_frozen hx0
      clear hb2 hbw1
      go_wp2_with fail
      refine (hs _).mono ?_; rintro e w3 ⟨rfl, hb3⟩
      replace own := own.keep hb3
      have hbw3 := nx hbw2 hb3
      replace hx0 := heap_keep hb3 hx0
      clear hx0a hx0b hx0c hx0f hx0g
      obtain ⟨hx0a, hx0b, hx0c⟩ := two_facts hx0
      obtain ⟨hx0f, hx0g⟩ := two_frozen hx0
      clear hb3 hbw2
      have hU' := hU v _ _ own.cells
      go_wp2_with fail
      refine hU'.mono ?_; rintro e w4 ⟨rfl, hb4⟩
      go_wp2_with fail
      go_ret2
      exact ⟨rfl, nx hbw3 hb4⟩

set_option maxRecDepth 100000 in
set_option maxHeartbeats 1000000 in
theorem fnExactLeafOf_walk (s0 : ByteArray) (hs0 : s0.size ≤ maxLen) (n1 : Int) (hn1 : (Lit.int .i64 n1).wf = true) (d1 : Int) (hd1 : (Lit.int .i64 d1).wf = true) (w : World) :
    Calls Try.prog 6 #[.string s0, .agg #[.int .i64 n1, .int .i64 d1]] w fun e w' => e = .returned (.bool true) ∧ Below w.heap.size w w' := by
  unfold maxLen at hs0
  obtain ⟨lon1, hin1⟩ := i64_bounds hn1
  obtain ⟨lod1, hid1⟩ := i64_bounds hd1
  by_cases hbigs0 : (1048576 : Int) < s0.size
  · go_enter Try.func6, Try.ntmps6
    go_wp2_with fail
    have hb0 : Below w.heap.size w (w.alloc (.cells #[.int .i64 n1, .int .i64 d1] 23 (0, 0))) := nxAlloc (Below.refl _ _) _
    have hx0 := heap_alloc_at w (.cells #[.int .i64 n1, .int .i64 d1] 23 (0, 0))
    generalize (w.alloc (.cells #[.int .i64 n1, .int .i64 d1] 23 (0, 0))) = w0 at *
    obtain ⟨ka0, kb0, kc0⟩ := two_facts hx0
    go_ret
    exact ⟨rfl, hb0⟩
  have hS := fun w => specLeafOf_any s0 n1 d1 w (by omega) lon1 hin1 lod1 hid1
  have hI := fun w => implLeafOf_any s0 n1 d1 w (by omega) lon1 hin1 lod1 hid1
  have hS' : ∀ w, Calls Try.prog 23 #[.string s0, .agg #[.int .i64 n1, .int .i64 d1]] w (Gives (ansL (leafO s0 n1 d1)) w) := hS
  have hI' : ∀ w, Calls Try.prog 24 #[.string s0, .agg #[.int .i64 n1, .int .i64 d1]] w (Gives (ansL (leafO s0 n1 d1)) w) := hI
  clear hS hI
  generalize (leafO s0 n1 d1) = o at hS' hI'
  unfold ansL at hS' hI'
  go_enter Try.func6, Try.ntmps6
  go_wp2_with fail
  have hb0 : Below w.heap.size w (w.alloc (.cells #[.int .i64 n1, .int .i64 d1] 23 (0, 0))) := nxAlloc (Below.refl _ _) _
  have hx0 := heap_alloc_at w (.cells #[.int .i64 n1, .int .i64 d1] 23 (0, 0))
  generalize (w.alloc (.cells #[.int .i64 n1, .int .i64 d1] 23 (0, 0))) = w0 at *
  obtain ⟨ka0, kb0, kc0⟩ := two_facts hx0
  refine (toFraction_any n1 d1 _).mono ?_; rintro e w1 ⟨rfl, hb1⟩
  have hbw1 := nx hb0 hb1
  replace hx0 := heap_keep hb1 hx0
  clear ka0 kb0 kc0
  obtain ⟨ka0, kb0, kc0⟩ := two_facts hx0
  clear hb1 hb0
  go_wp2_with fail
  refine (hS' _).mono ?_; rintro e w2 ⟨rfl, hb2⟩
  have hbw2 := nx hbw1 hb2
  replace hx0 := heap_keep hb2 hx0
  clear ka0 kb0 kc0
  obtain ⟨ka0, kb0, kc0⟩ := two_facts hx0
  clear hb2 hbw1
  go_wp2_with fail
  refine (toFraction_any n1 d1 _).mono ?_; rintro e w3 ⟨rfl, hb3⟩
  have hbw3 := nx hbw2 hb3
  replace hx0 := heap_keep hb3 hx0
  clear ka0 kb0 kc0
  obtain ⟨ka0, kb0, kc0⟩ := two_facts hx0
  clear hb3 hbw2
  go_wp2_with fail
  refine (hI' _).mono ?_; rintro e w4 ⟨rfl, hb4⟩
  have hbw4 := nx hbw3 hb4
  replace hx0 := heap_keep hb4 hx0
  clear ka0 kb0 kc0
  obtain ⟨ka0, kb0, kc0⟩ := two_facts hx0
  clear hb4 hbw3
  go_wp2_with fail
  go_ret
  exact ⟨rfl, hbw4⟩
end Go.Proofs.Ytbmegkphmifokaa
