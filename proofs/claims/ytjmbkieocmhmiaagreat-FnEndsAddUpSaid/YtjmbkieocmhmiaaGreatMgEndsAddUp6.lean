/- Texts that the claim needs, part 7. -/
import Derived.Test.YtjmbkieocmhmiaaGreatMgEndsAddUp5
import Derived.Deep.Cut
/-! WSlopesBeside -/
namespace Go.Proofs.YtjmbkieocmhmiaaGreat
open Go.RowKit

/-- Is there a fraction between 0 and 1? -/
def isIn (n d : Int) : Bool := isFr n d && decide (1 < d)
set_option maxHeartbeats 2000000 in
theorem isInside_any (n d : Int) (w : World) : Calls Tryz.prog 56 #[.agg #[.int .i64 n, .int .i64 d]] w (Gives (.bool (isIn n d)) w) := by
  have hk := fun w => isFraction_any n d w
  unfold isIn
  cases k : isFr n d with
  | false =>
    rw [k] at hk
    rw [Bool.false_and]
    clear k
    go_enter Tryz.func56, Tryz.ntmps56
    go_wp2_with fail
    have hb0 : Below w.heap.size w (w.alloc (.cells #[.int .i64 n, .int .i64 d] 42 (0, 0))) := nxAlloc (Below.refl _ _) _
    have hx0 := heap_alloc_at w (.cells #[.int .i64 n, .int .i64 d] 42 (0, 0))
    generalize (w.alloc (.cells #[.int .i64 n, .int .i64 d] 42 (0, 0))) = w0 at *
    obtain ⟨hx0a, hx0b, hx0c⟩ := two_facts hx0
    obtain ⟨hx0f, hx0g⟩ := two_frozen hx0
    refine (hk _).mono ?_; rintro e w1 ⟨rfl, hb1⟩
    have hbw1 := nx hb0 hb1
    replace hx0 := heap_keep hb1 hx0
    clear hx0a hx0b hx0c hx0f hx0g
    obtain ⟨hx0a, hx0b, hx0c⟩ := two_facts hx0
    obtain ⟨hx0f, hx0g⟩ := two_frozen hx0
    clear hb1 hb0
    go_wp2_with fail
    go_ret
    exact ⟨rfl, hbw1⟩
  | true =>
    rw [k] at hk
    rw [Bool.true_and]
    clear k
    go_enter Tryz.func56, Tryz.ntmps56
    go_wp2_with fail
    have hb0 : Below w.heap.size w (w.alloc (.cells #[.int .i64 n, .int .i64 d] 42 (0, 0))) := nxAlloc (Below.refl _ _) _
    have hx0 := heap_alloc_at w (.cells #[.int .i64 n, .int .i64 d] 42 (0, 0))
    generalize (w.alloc (.cells #[.int .i64 n, .int .i64 d] 42 (0, 0))) = w0 at *
    obtain ⟨hx0a, hx0b, hx0c⟩ := two_facts hx0
    obtain ⟨hx0f, hx0g⟩ := two_frozen hx0
    refine (hk _).mono ?_; rintro e w1 ⟨rfl, hb1⟩
    have hbw1 := nx hb0 hb1
    replace hx0 := heap_keep hb1 hx0
    clear hx0a hx0b hx0c hx0f hx0g
    obtain ⟨hx0a, hx0b, hx0c⟩ := two_facts hx0
    obtain ⟨hx0f, hx0g⟩ := two_frozen hx0
    clear hb1 hb0
    go_wp2_with fail
    go_ret
    exact ⟨rfl, hbw1⟩

theorem isIn_nats {n d : Int} (h : isIn n d = true) : isFr n d = true ∧ 1 < d ∧ 1 ≤ stepsOf n d ∧ stepsOf n d ≤ 1048576 := by
  unfold isIn at h
  rw [Bool.and_eq_true, decide_eq_true_eq] at h
  obtain ⟨h1, h2⟩ := h
  refine ⟨h1, h2, ?_, (steps_le h1).1⟩
  obtain ⟨f1, f2, f3, f4⟩ := isFr_iff.1 h1
  have hd := isP2_bounds f1
  have e := (steps_le h1).2.2
  have hn : 1 ≤ n := by omega
  have hq : 1 ≤ 1048576 / d := by
    have : 1 * d ≤ 1048576 := by omega
    exact (Int.le_ediv_iff_mul_le (by omega)).2 this
  have : 1 * 1 ≤ n * (1048576 / d) := Int.mul_le_mul hn hq (by omega) (by omega)
  omega
/-- The slopes on both sides of a fraction between 0 and 1. -/
def besideP (p : Pr) (s : Nat) : Int × Int := (if p.1.starts.getD (lastTo p.1.starts s) 0 = s then (slopes p).getD (lastTo p.1.starts s - 1) 0 else (slopes p).getD (lastTo p.1.starts s) 0, (slopes p).getD (lastTo p.1.starts s) 0)
def besideO (a b : ByteArray) (n d : Int) : Option (Int × Int) := if isIn n d = true then (pairOf a b).map fun p => besideP p (stepsOf n d) else none
theorem beside_slopes (a b : ByteArray) {s : Nat} (hs : 0 < s) : slopesO a b false s true s = (pairOf a b).map fun p => besideP p s := by
  unfold slopesO
  cases h : pairOf a b with
  | none => rfl
  | some p =>
    obtain ⟨rfl, rfl, hok, hc1, hc2⟩ := pairOf_some h
    show some (slAt (pcs p) (s - 1), slAt (pcs p) s) = some (besideP p s)
    rw [slAt_slopes p hok, slAt_slopes p hok, pick_left p.1 (by omega) hs]
    unfold besideP
    split <;> rfl

set_option maxRecDepth 100000 in
set_option maxHeartbeats 4000000 in
theorem implSlopesBeside_any (a b : ByteArray) (n d : Int) (w : World) (ha : a.size ≤ 9223372036854775806) (hb : b.size ≤ 9223372036854775806) (_l1 : -9223372036854775808 ≤ n) (_u1 : n ≤ 9223372036854775807) (_l2 : -9223372036854775808 ≤ d) (_u2 : d ≤ 9223372036854775807) :
    Calls Tryz.prog 26 #[.agg #[.string a, .string b], .agg #[.int .i64 n, .int .i64 d]] w (Gives (ans3 (besideO a b n d)) w) := by
  have hk := fun w => isInside_any n d w
  unfold besideO
  cases k : isIn n d with
  | false =>
    rw [k] at hk
    show Calls _ _ _ _ (Gives (ans3 none) w)
    clear k _l1 _u1 _l2 _u2
    go_enter Tryz.func26, Tryz.ntmps26
    go_wp2_with fail
    have hb0 : Below w.heap.size w ((w.alloc (.cells #[.string a, .string b] 25 (0, 0))).alloc (.cells #[.int .i64 n, .int .i64 d] 42 (0, 0))) := nxAlloc (nxAlloc (Below.refl _ _) _) _
    have hx0 := heap_keep (nxAlloc (Below.refl _ _) (.cells #[.int .i64 n, .int .i64 d] 42 (0, 0))) (heap_alloc_at w (.cells #[.string a, .string b] 25 (0, 0)))
    have hx1 := heap_alloc_at (w.alloc (.cells #[.string a, .string b] 25 (0, 0))) (.cells #[.int .i64 n, .int .i64 d] 42 (0, 0))
    generalize ((w.alloc (.cells #[.string a, .string b] 25 (0, 0))).alloc (.cells #[.int .i64 n, .int .i64 d] 42 (0, 0))) = w0 at *
    have e1 : (w.alloc (.cells #[.string a, .string b] 25 (0, 0))).heap.size = w.heap.size + 1 := by simp
    rw [e1] at hx1
    clear e1
    obtain ⟨hx0a, hx0b, hx0c⟩ := two_facts hx0
    obtain ⟨hx0f, hx0g⟩ := two_frozen hx0
    obtain ⟨hx1a, hx1b, hx1c⟩ := two_facts hx1
    obtain ⟨hx1f, hx1g⟩ := two_frozen hx1
    refine (hk _).mono ?_; rintro e w1 ⟨rfl, hb1⟩
    have hbw1 := nx hb0 hb1
    replace hx0 := heap_keep hb1 hx0
    replace hx1 := heap_keep hb1 hx1
    clear hx0a hx0b hx0c hx0f hx0g
    obtain ⟨hx0a, hx0b, hx0c⟩ := two_facts hx0
    obtain ⟨hx0f, hx0g⟩ := two_frozen hx0
    clear hx1a hx1b hx1c hx1f hx1g
    obtain ⟨hx1a, hx1b, hx1c⟩ := two_facts hx1
    obtain ⟨hx1f, hx1g⟩ := two_frozen hx1
    clear hb1 hb0
    go_wp2_with fail
    go_ret3
    exact ⟨rfl, hbw1⟩
  | true =>
    rw [k] at hk
    obtain ⟨k1, k2, k3, k4⟩ := isIn_nats k
    obtain ⟨n, d, rfl, rfl, n1, d1, d2⟩ := isFr_nats k1
    show Calls _ _ _ _ (Gives (ans3 ((pairOf a b).map fun p => besideP p (stepsOf n d))) w)
    rw [← beside_slopes a b (by omega)]
    have hs := fun w => steps_any n d w k1
    have hS := fun w => slopesAt_any a b false (stepsOf n d) true (stepsOf n d) w ha hb (fun _ => k3) k4 (fun h => by simp at h) k4
    unfold ans3 at *
    generalize slopesO a b false (stepsOf n d) true (stepsOf n d) = A at *
    generalize (A.getD (0, 0)).1 = x at *
    generalize (A.getD (0, 0)).2 = y at *
    generalize A.isSome = ok at *
    generalize stepsOf n d = s at *
    have hS' : ∀ w, Calls Tryz.prog 52 #[.agg #[.string a, .string b], .iface 74 (.int .i64 s), .iface 73 (.int .i64 s)] w (Gives (.tuple #[.int .i64 x, .int .i64 y, .bool ok]) w) := hS
    clear hS k k1 k2 k3 k4 _l1 _u1 _l2 _u2 n1 d1 d2
    go_enter Tryz.func26, Tryz.ntmps26
    go_wp2_with fail
    have hb0 : Below w.heap.size w ((w.alloc (.cells #[.string a, .string b] 25 (0, 0))).alloc (.cells #[.int .i64 n, .int .i64 d] 42 (0, 0))) := nxAlloc (nxAlloc (Below.refl _ _) _) _
    have hx0 := heap_keep (nxAlloc (Below.refl _ _) (.cells #[.int .i64 n, .int .i64 d] 42 (0, 0))) (heap_alloc_at w (.cells #[.string a, .string b] 25 (0, 0)))
    have hx1 := heap_alloc_at (w.alloc (.cells #[.string a, .string b] 25 (0, 0))) (.cells #[.int .i64 n, .int .i64 d] 42 (0, 0))
    generalize ((w.alloc (.cells #[.string a, .string b] 25 (0, 0))).alloc (.cells #[.int .i64 n, .int .i64 d] 42 (0, 0))) = w0 at *
    have e1 : (w.alloc (.cells #[.string a, .string b] 25 (0, 0))).heap.size = w.heap.size + 1 := by simp
    rw [e1] at hx1
    clear e1
    obtain ⟨hx0a, hx0b, hx0c⟩ := two_facts hx0
    obtain ⟨hx0f, hx0g⟩ := two_frozen hx0
    obtain ⟨hx1a, hx1b, hx1c⟩ := two_facts hx1
    obtain ⟨hx1f, hx1g⟩ := two_frozen hx1
    refine (hk _).mono ?_; rintro e w1 ⟨rfl, hb1⟩
    have hbw1 := nx hb0 hb1
    replace hx0 := heap_keep hb1 hx0
    replace hx1 := heap_keep hb1 hx1
    clear hx0a hx0b hx0c hx0f hx0g
    obtain ⟨hx0a, hx0b, hx0c⟩ := two_facts hx0
    obtain ⟨hx0f, hx0g⟩ := two_frozen hx0
    clear hx1a hx1b hx1c hx1f hx1g
    obtain ⟨hx1a, hx1b, hx1c⟩ := two_facts hx1
    obtain ⟨hx1f, hx1g⟩ := two_frozen hx1
    clear hb1 hb0
    go_wp2_with fail
    have hz := Below.refl w1.heap.size w1
    go_region_held3 (fun w' => w'.cell? ⟨w.heap.size, 0, none⟩ = some (.string a) ∧ w'.cell? ⟨w.heap.size, 1, none⟩ = some (.string b) ∧ w'.cell? ⟨w.heap.size + 1, 0, none⟩ = some (.int .i64 n) ∧ w'.cell? ⟨w.heap.size + 1, 1, none⟩ = some (.int .i64 d))
      (first
        | exact ⟨hx0a, hx0b, hx1a, hx1b⟩
        | exact K1
        | exact K2
        | exact K3)
      (first
        | (go_at_call 57; refine (hs _).mono ?_; rintro e w2 ⟨rfl, hb2⟩; have hb2' := nx hz.drew hb2; have K1 := And.intro (keep_cell hb2' hx0a) (And.intro (keep_cell hb2' hx0b) (And.intro (keep_cell hb2' hx1a) (keep_cell hb2' hx1b))))
        | (go_at_call 57; refine (hs _).mono ?_; rintro e w3 ⟨rfl, hb3⟩; have hb3' := nx hb2' hb3; have K2 := And.intro (keep_cell hb3' hx0a) (And.intro (keep_cell hb3' hx0b) (And.intro (keep_cell hb3' hx1a) (keep_cell hb3' hx1b))))
        | (go_at_call 52; refine (hS' _).mono ?_; rintro e w4 ⟨rfl, hb4⟩; have hb4' := nx hb3' hb4; have K3 := And.intro (keep_cell hb4' hx0a) (And.intro (keep_cell hb4' hx0b) (And.intro (keep_cell hb4' hx1a) (keep_cell hb4' hx1b)))))
    go_wp2_with fail
    go_ret3
    exact ⟨rfl, nx hbw1 hb4'⟩

set_option maxRecDepth 100000 in
set_option maxHeartbeats 4000000 in
theorem specSlopesBeside_any (a b : ByteArray) (n d : Int) (w : World) (ha : a.size ≤ 9223372036854775806) (hb : b.size ≤ 9223372036854775806) (_l1 : -9223372036854775808 ≤ n) (_u1 : n ≤ 9223372036854775807) (_l2 : -9223372036854775808 ≤ d) (_u2 : d ≤ 9223372036854775807) :
    Calls Tryz.prog 27 #[.agg #[.string a, .string b], .agg #[.int .i64 n, .int .i64 d]] w (Gives (ans3 (besideO a b n d)) w) := by
  have hg := fun w => prGood_any a b w ha hb
  have hk := fun w => mpGood_any n d w
  unfold besideO isIn
  cases h : pairOf a b with
  | none =>
    rw [h] at hg
    have e : (if (isFr n d && decide (1 < d)) = true then (none : Option Pr).map (fun p => besideP p (stepsOf n d)) else none) = none := by split <;> rfl
    rw [e]
    clear h hk e _l1 _u1 _l2 _u2
    go_enter Tryz.func27, Tryz.ntmps27
    go_wp2_with fail
    have hb0 : Below w.heap.size w ((w.alloc (.cells #[.string a, .string b] 25 (0, 0))).alloc (.cells #[.int .i64 n, .int .i64 d] 42 (0, 0))) := nxAlloc (nxAlloc (Below.refl _ _) _) _
    have hx0 := heap_keep (nxAlloc (Below.refl _ _) (.cells #[.int .i64 n, .int .i64 d] 42 (0, 0))) (heap_alloc_at w (.cells #[.string a, .string b] 25 (0, 0)))
    have hx1 := heap_alloc_at (w.alloc (.cells #[.string a, .string b] 25 (0, 0))) (.cells #[.int .i64 n, .int .i64 d] 42 (0, 0))
    generalize ((w.alloc (.cells #[.string a, .string b] 25 (0, 0))).alloc (.cells #[.int .i64 n, .int .i64 d] 42 (0, 0))) = w0 at *
    have e1 : (w.alloc (.cells #[.string a, .string b] 25 (0, 0))).heap.size = w.heap.size + 1 := by simp
    rw [e1] at hx1
    clear e1
    obtain ⟨hx0a, hx0b, hx0c⟩ := two_facts hx0
    obtain ⟨hx0f, hx0g⟩ := two_frozen hx0
    obtain ⟨hx1a, hx1b, hx1c⟩ := two_facts hx1
    obtain ⟨hx1f, hx1g⟩ := two_frozen hx1
    refine (hg _).mono ?_; rintro e w1 ⟨rfl, hb1⟩
    have hbw1 := nx hb0 hb1
    replace hx0 := heap_keep hb1 hx0
    replace hx1 := heap_keep hb1 hx1
    clear hx0a hx0b hx0c hx0f hx0g
    obtain ⟨hx0a, hx0b, hx0c⟩ := two_facts hx0
    obtain ⟨hx0f, hx0g⟩ := two_frozen hx0
    clear hx1a hx1b hx1c hx1f hx1g
    obtain ⟨hx1a, hx1b, hx1c⟩ := two_facts hx1
    obtain ⟨hx1f, hx1g⟩ := two_frozen hx1
    clear hb1 hb0
    go_wp2_with fail
    go_ret3
    exact ⟨rfl, hbw1⟩
  | some p =>
    rw [h] at hg
    obtain ⟨rfl, rfl, hok, hc1, hc2⟩ := pairOf_some h
    clear h
    cases k : isFr n d with
    | false =>
      rw [k] at hk
      show Calls _ _ _ _ (Gives (ans3 none) w)
      clear k _l1 _u1 _l2 _u2
      go_enter Tryz.func27, Tryz.ntmps27
      go_wp2_with fail
      have hb0 : Below w.heap.size w ((w.alloc (.cells #[.string p.1.str, .string p.2.str] 25 (0, 0))).alloc (.cells #[.int .i64 n, .int .i64 d] 42 (0, 0))) := nxAlloc (nxAlloc (Below.refl _ _) _) _
      have hx0 := heap_keep (nxAlloc (Below.refl _ _) (.cells #[.int .i64 n, .int .i64 d] 42 (0, 0))) (heap_alloc_at w (.cells #[.string p.1.str, .string p.2.str] 25 (0, 0)))
      have hx1 := heap_alloc_at (w.alloc (.cells #[.string p.1.str, .string p.2.str] 25 (0, 0))) (.cells #[.int .i64 n, .int .i64 d] 42 (0, 0))
      generalize ((w.alloc (.cells #[.string p.1.str, .string p.2.str] 25 (0, 0))).alloc (.cells #[.int .i64 n, .int .i64 d] 42 (0, 0))) = w0 at *
      have e1 : (w.alloc (.cells #[.string p.1.str, .string p.2.str] 25 (0, 0))).heap.size = w.heap.size + 1 := by simp
      rw [e1] at hx1
      clear e1
      obtain ⟨hx0a, hx0b, hx0c⟩ := two_facts hx0
      obtain ⟨hx0f, hx0g⟩ := two_frozen hx0
      obtain ⟨hx1a, hx1b, hx1c⟩ := two_facts hx1
      obtain ⟨hx1f, hx1g⟩ := two_frozen hx1
      refine (hg _).mono ?_; rintro e w1 ⟨rfl, hb1⟩
      have hbw1 := nx hb0 hb1
      replace hx0 := heap_keep hb1 hx0
      replace hx1 := heap_keep hb1 hx1
      clear hx0a hx0b hx0c hx0f hx0g
      obtain ⟨hx0a, hx0b, hx0c⟩ := two_facts hx0
      obtain ⟨hx0f, hx0g⟩ := two_frozen hx0
      clear hx1a hx1b hx1c hx1f hx1g
      obtain ⟨hx1a, hx1b, hx1c⟩ := two_facts hx1
      obtain ⟨hx1f, hx1g⟩ := two_frozen hx1
      clear hb1 hb0
      go_wp2_with fail
      refine (hk _).mono ?_; rintro e w2 ⟨rfl, hb2⟩
      have hbw2 := nx hbw1 hb2
      replace hx0 := heap_keep hb2 hx0
      replace hx1 := heap_keep hb2 hx1
      clear hx0a hx0b hx0c hx0f hx0g
      obtain ⟨hx0a, hx0b, hx0c⟩ := two_facts hx0
      obtain ⟨hx0f, hx0g⟩ := two_frozen hx0
      clear hx1a hx1b hx1c hx1f hx1g
      obtain ⟨hx1a, hx1b, hx1c⟩ := two_facts hx1
      obtain ⟨hx1f, hx1g⟩ := two_frozen hx1
      clear hb2 hbw1
      go_wp2_with fail
      go_ret3
      exact ⟨rfl, hbw2⟩
    | true =>
      rw [k] at hk
      obtain ⟨n, d, rfl, rfl, n1, d1, d2⟩ := isFr_nats k
      by_cases hd : d = 1
      · subst hd
        show Calls _ _ _ _ (Gives (ans3 none) w)
        clear k _l1 _u1 _l2 _u2
        go_enter Tryz.func27, Tryz.ntmps27
        go_wp2_with fail
        have hb0 : Below w.heap.size w ((w.alloc (.cells #[.string p.1.str, .string p.2.str] 25 (0, 0))).alloc (.cells #[.int .i64 n, .int .i64 (1 : Nat)] 42 (0, 0))) := nxAlloc (nxAlloc (Below.refl _ _) _) _
        have hx0 := heap_keep (nxAlloc (Below.refl _ _) (.cells #[.int .i64 n, .int .i64 (1 : Nat)] 42 (0, 0))) (heap_alloc_at w (.cells #[.string p.1.str, .string p.2.str] 25 (0, 0)))
        have hx1 := heap_alloc_at (w.alloc (.cells #[.string p.1.str, .string p.2.str] 25 (0, 0))) (.cells #[.int .i64 n, .int .i64 (1 : Nat)] 42 (0, 0))
        generalize ((w.alloc (.cells #[.string p.1.str, .string p.2.str] 25 (0, 0))).alloc (.cells #[.int .i64 n, .int .i64 (1 : Nat)] 42 (0, 0))) = w0 at *
        have e1 : (w.alloc (.cells #[.string p.1.str, .string p.2.str] 25 (0, 0))).heap.size = w.heap.size + 1 := by simp
        rw [e1] at hx1
        clear e1
        obtain ⟨hx0a, hx0b, hx0c⟩ := two_facts hx0
        obtain ⟨hx0f, hx0g⟩ := two_frozen hx0
        obtain ⟨hx1a, hx1b, hx1c⟩ := two_facts hx1
        obtain ⟨hx1f, hx1g⟩ := two_frozen hx1
        refine (hg _).mono ?_; rintro e w1 ⟨rfl, hb1⟩
        have hbw1 := nx hb0 hb1
        replace hx0 := heap_keep hb1 hx0
        replace hx1 := heap_keep hb1 hx1
        clear hx0a hx0b hx0c hx0f hx0g
        obtain ⟨hx0a, hx0b, hx0c⟩ := two_facts hx0
        obtain ⟨hx0f, hx0g⟩ := two_frozen hx0
        clear hx1a hx1b hx1c hx1f hx1g
        obtain ⟨hx1a, hx1b, hx1c⟩ := two_facts hx1
        obtain ⟨hx1f, hx1g⟩ := two_frozen hx1
        clear hb1 hb0
        go_wp2_with fail
        refine (hk _).mono ?_; rintro e w2 ⟨rfl, hb2⟩
        have hbw2 := nx hbw1 hb2
        replace hx0 := heap_keep hb2 hx0
        replace hx1 := heap_keep hb2 hx1
        clear hx0a hx0b hx0c hx0f hx0g
        obtain ⟨hx0a, hx0b, hx0c⟩ := two_facts hx0
        obtain ⟨hx0f, hx0g⟩ := two_frozen hx0
        clear hx1a hx1b hx1c hx1f hx1g
        obtain ⟨hx1a, hx1b, hx1c⟩ := two_facts hx1
        obtain ⟨hx1f, hx1g⟩ := two_frozen hx1
        clear hb2 hbw1
        go_wp2_with fail
        go_ret3
        exact ⟨rfl, hbw2⟩
      · have e : decide ((1 : Int) < (d : Int)) = true := by simp; omega
        rw [e]
        show Calls _ _ _ _ (Gives (ans3 (some (besideP p (stepsOf n d)))) w)
        have hd1 : ¬ (d : Int) = 1 := by omega
        have hsn := frOf_steps k
        have hpos : 1 ≤ stepsOf n d := (isIn_nats (n := n) (d := d) (by unfold isIn; rw [k, e]; rfl)).2.2.1
        have hL := fun w => mpLeaf_any p.1 n d w hc1 k
        have hM := fun w => mpSlopes_any p w hc1 hc2 hok
        have hT := fun w => mpStarts_any p.1 w hc1
        have hlt := lastTo_lt p.1.starts (stepsOf n d) (by rw [starts_length]; omega)
        rw [starts_length] at hlt
        have hst := starts_at p.1 hlt
        have hfr := frs_get (p.1.addrs ⟨#[]⟩) (lastTo p.1.starts (stepsOf n d)) (by rw [addrs_length]; exact hlt)
        rw [← hst] at hfr
        have hfl : (frs (p.1.addrs ⟨#[]⟩)).length = p.1.carets + 1 := by simp [frs, addrs_length]
        have hsl : (slopes p).length = p.1.carets + 1 := by rw [← slopes_pcs, List.length_map, pcs_len p hok]
        have hr0 : p.1.starts.getD (lastTo p.1.starts (stepsOf n d)) 0 = stepsOf n d → 1 ≤ lastTo p.1.starts (stepsOf n d) := by
          intro hx
          rcases Nat.eq_zero_or_pos (lastTo p.1.starts (stepsOf n d)) with z | z
          · rw [z, starts_first] at hx; omega
          · exact z
        unfold besideP
        generalize lastTo p.1.starts (stepsOf n d) = r at *
        have hcase : (p.1.starts.getD r 0 = stepsOf n d ∧ frOf (p.1.starts.getD r 0) = (n, d)) ∨ (¬ p.1.starts.getD r 0 = stepsOf n d ∧ (((frOf (p.1.starts.getD r 0)).1 = n ∧ ¬ (frOf (p.1.starts.getD r 0)).2 = d) ∨ ¬ (frOf (p.1.starts.getD r 0)).1 = n)) := by
          by_cases hx : p.1.starts.getD r 0 = stepsOf n d
          · exact .inl ⟨hx, by rw [hx, hsn]⟩
          · refine .inr ⟨hx, ?_⟩
            by_cases h1 : (frOf (p.1.starts.getD r 0)).1 = n
            · refine .inl ⟨h1, fun h2 => hx (frOf_inj1 ?_)⟩
              rw [hsn]; exact Prod.ext h1 h2
            · exact .inr h1
        generalize frOf (p.1.starts.getD r 0) = q at *
        have hT' : ∀ w, Calls Tryz.prog 60 #[.string p.1.str] w fun e w' => ∃ g cap : Nat, w'.cell? ⟨g, r * 2, none⟩ = some (.int .i64 q.1) ∧ w'.cell? ⟨g, r * 2 + 1, none⟩ = some (.int .i64 q.2) ∧ p.1.carets + 1 ≤ cap ∧ cap ≤ maxLen ∧ Below w.heap.size w w' ∧ e = .returned (.slice (some ⟨g, 0, none⟩) (p.1.carets + 1 : Nat) cap) := by
          intro w
          refine (hT w).mono ?_
          rintro e w' ⟨v, own, hb, rfl⟩
          rcases own.cells with ⟨_, h0⟩ | ⟨g, cap, rfl, _, hg, h1, h2, h3, _⟩
          · omega
          · have fg := flatF_get (frs (p.1.addrs ⟨#[]⟩)) r (by omega)
            rw [hfr] at fg
            have c1 := h3 (r * 2) (by omega)
            have c2 := h3 (r * 2 + 1) (by omega)
            rw [fg.1] at c1
            rw [fg.2] at c2
            rw [hfl] at h1 ⊢
            exact ⟨g, cap, c1, c2, h1, h2, hb, rfl⟩
        have hM' : ∀ w, Calls Tryz.prog 54 #[.agg #[.string p.1.str, .string p.2.str]] w fun e w' => ∃ g cap : Nat, g < w'.heap.size ∧ (∀ i, i < p.1.carets + 1 → w'.cell? ⟨g, i, none⟩ = some (.int .i64 ((slopes p).getD i 0))) ∧ p.1.carets + 1 ≤ cap ∧ cap ≤ maxLen ∧ Below w.heap.size w w' ∧ e = .returned (.slice (some ⟨g, 0, none⟩) (p.1.carets + 1 : Nat) cap) := by
          intro w
          refine (hM w).mono ?_
          rintro e w' ⟨v, own, hb, rfl⟩
          rcases own.cells with ⟨_, h0⟩ | ⟨g, cap, rfl, _, hg, h1, h2, h3, _⟩
          · rw [h0] at hsl; simp at hsl
          · rw [hsl] at h1 h3 ⊢
            exact ⟨g, cap, hg, h3, h1, h2, hb, rfl⟩
        generalize slopes p = ps at *
        obtain ⟨m, hm⟩ : ∃ m, m = p.1.carets + 1 := ⟨_, rfl⟩
        rw [← hm] at hM' hT' hlt
        generalize stepsOf n d = s at *
        have hlt' : (r : Int) < (m : Int) := by omega
        have hm9 : m ≤ 9 := by omega
        clear hM hT hsl hfl hfr hst hsn k e hm hpos d1 d2 n1 _l1 _u1 _l2 _u2
        obtain ⟨q1, q2⟩ := q
        rcases hcase with ⟨hx, hq⟩ | ⟨hx, hq⟩
        · rw [if_pos hx]
          obtain ⟨rfl, rfl⟩ : n = q1 ∧ d = q2 := by simpa [eq_comm] using hq
          have hr1 := hr0 hx
          have hw : IntKind.i64.wrap ((r : Int) - 1) = ((r - 1 : Nat) : Int) := by rw [IntKind.wrap_i64] <;> omega
          have hlt2 : ((r - 1 : Nat) : Int) < (m : Int) := by omega
          clear hq hx hr0 hm9
          go_enter Tryz.func27, Tryz.ntmps27
          go_wp2_with fail
          have hb0 : Below w.heap.size w ((w.alloc (.cells #[.string p.1.str, .string p.2.str] 25 (0, 0))).alloc (.cells #[.int .i64 n, .int .i64 d] 42 (0, 0))) := nxAlloc (nxAlloc (Below.refl _ _) _) _
          have hx0 := heap_keep (nxAlloc (Below.refl _ _) (.cells #[.int .i64 n, .int .i64 d] 42 (0, 0))) (heap_alloc_at w (.cells #[.string p.1.str, .string p.2.str] 25 (0, 0)))
          have hx1 := heap_alloc_at (w.alloc (.cells #[.string p.1.str, .string p.2.str] 25 (0, 0))) (.cells #[.int .i64 n, .int .i64 d] 42 (0, 0))
          generalize ((w.alloc (.cells #[.string p.1.str, .string p.2.str] 25 (0, 0))).alloc (.cells #[.int .i64 n, .int .i64 d] 42 (0, 0))) = w0 at *
          have e1 : (w.alloc (.cells #[.string p.1.str, .string p.2.str] 25 (0, 0))).heap.size = w.heap.size + 1 := by simp
          rw [e1] at hx1
          clear e1
          obtain ⟨hx0a, hx0b, hx0c⟩ := two_facts hx0
          obtain ⟨hx0f, hx0g⟩ := two_frozen hx0
          obtain ⟨hx1a, hx1b, hx1c⟩ := two_facts hx1
          obtain ⟨hx1f, hx1g⟩ := two_frozen hx1
          refine (hg _).mono ?_; rintro e w1 ⟨rfl, hb1⟩
          have hbw1 := nx hb0 hb1
          replace hx0 := heap_keep hb1 hx0
          replace hx1 := heap_keep hb1 hx1
          clear hx0a hx0b hx0c hx0f hx0g
          obtain ⟨hx0a, hx0b, hx0c⟩ := two_facts hx0
          obtain ⟨hx0f, hx0g⟩ := two_frozen hx0
          clear hx1a hx1b hx1c hx1f hx1g
          obtain ⟨hx1a, hx1b, hx1c⟩ := two_facts hx1
          obtain ⟨hx1f, hx1g⟩ := two_frozen hx1
          clear hb1 hb0
          go_wp2_with fail
          refine (hk _).mono ?_; rintro e w2 ⟨rfl, hb2⟩
          have hbw2 := nx hbw1 hb2
          replace hx0 := heap_keep hb2 hx0
          replace hx1 := heap_keep hb2 hx1
          clear hx0a hx0b hx0c hx0f hx0g
          obtain ⟨hx0a, hx0b, hx0c⟩ := two_facts hx0
          obtain ⟨hx0f, hx0g⟩ := two_frozen hx0
          clear hx1a hx1b hx1c hx1f hx1g
          obtain ⟨hx1a, hx1b, hx1c⟩ := two_facts hx1
          obtain ⟨hx1f, hx1g⟩ := two_frozen hx1
          clear hb2 hbw1
          go_wp2_with fail
          refine (hM' _).mono ?_; rintro e w3 ⟨g, cap, hg3, hcl, m1, m2, hb3, rfl⟩
          have hbw3 := nx hbw2 hb3
          have cr := hcl r hlt
          have cs := hcl (r - 1) (by omega)
          clear hcl
          replace hx0 := heap_keep hb3 hx0
          replace hx1 := heap_keep hb3 hx1
          clear hx0a hx0b hx0c hx0f hx0g
          obtain ⟨hx0a, hx0b, hx0c⟩ := two_facts hx0
          obtain ⟨hx0f, hx0g⟩ := two_frozen hx0
          clear hx1a hx1b hx1c hx1f hx1g
          obtain ⟨hx1a, hx1b, hx1c⟩ := two_facts hx1
          obtain ⟨hx1f, hx1g⟩ := two_frozen hx1
          clear hb3 hbw2
          go_wp2_with fail
          refine (hL _).mono ?_; rintro e w4 ⟨rfl, hb4⟩
          have hbw4 := nx hbw3 hb4
          replace cr := keep_cell hb4 cr
          replace cs := keep_cell hb4 cs
          replace hx0 := heap_keep hb4 hx0
          replace hx1 := heap_keep hb4 hx1
          clear hx0a hx0b hx0c hx0f hx0g
          obtain ⟨hx0a, hx0b, hx0c⟩ := two_facts hx0
          obtain ⟨hx0f, hx0g⟩ := two_frozen hx0
          clear hx1a hx1b hx1c hx1f hx1g
          obtain ⟨hx1a, hx1b, hx1c⟩ := two_facts hx1
          obtain ⟨hx1f, hx1g⟩ := two_frozen hx1
          clear hb4 hbw3
          go_wp2_with fail
          have hz := Below.refl w4.heap.size w4
          go_region_with (first
              | (go_at_call 60; refine (hT' _).mono ?_; rintro e w5 ⟨g2, cap2, e1, e2, m3, m4, hb5, rfl⟩; have hb5' := nx hz.drew hb5; obtain ⟨ka2, ka3⟩ := And.intro (keep_cell hb5' hx1a) (keep_cell hb5' hx1b); have cr5 := keep_cell hb5' cr; have cs5 := keep_cell hb5' cs))
          all_goals go_wp2_with fail
          all_goals go_quiet (fail)
          all_goals go_wp2_with fail
          all_goals go_ret3
          all_goals exact ⟨rfl, drewB (nx hbw4 hb5') _⟩
        · rw [if_neg hx]
          clear hr0 hx hm9
          rcases hq with ⟨hq1, hq2⟩ | hq1
          · obtain rfl : n = q1 := hq1.symm
            have hq2' : ¬ (q2 : Int) = (d : Int) := by simpa using (fun h => hq2 (Int.ofNat_inj.1 h))
            clear hq2
            go_enter Tryz.func27, Tryz.ntmps27
            go_wp2_with fail
            have hb0 : Below w.heap.size w ((w.alloc (.cells #[.string p.1.str, .string p.2.str] 25 (0, 0))).alloc (.cells #[.int .i64 n, .int .i64 d] 42 (0, 0))) := nxAlloc (nxAlloc (Below.refl _ _) _) _
            have hx0 := heap_keep (nxAlloc (Below.refl _ _) (.cells #[.int .i64 n, .int .i64 d] 42 (0, 0))) (heap_alloc_at w (.cells #[.string p.1.str, .string p.2.str] 25 (0, 0)))
            have hx1 := heap_alloc_at (w.alloc (.cells #[.string p.1.str, .string p.2.str] 25 (0, 0))) (.cells #[.int .i64 n, .int .i64 d] 42 (0, 0))
            generalize ((w.alloc (.cells #[.string p.1.str, .string p.2.str] 25 (0, 0))).alloc (.cells #[.int .i64 n, .int .i64 d] 42 (0, 0))) = w0 at *
            have e1 : (w.alloc (.cells #[.string p.1.str, .string p.2.str] 25 (0, 0))).heap.size = w.heap.size + 1 := by simp
            rw [e1] at hx1
            clear e1
            obtain ⟨hx0a, hx0b, hx0c⟩ := two_facts hx0
            obtain ⟨hx0f, hx0g⟩ := two_frozen hx0
            obtain ⟨hx1a, hx1b, hx1c⟩ := two_facts hx1
            obtain ⟨hx1f, hx1g⟩ := two_frozen hx1
            refine (hg _).mono ?_; rintro e w1 ⟨rfl, hb1⟩
            have hbw1 := nx hb0 hb1
            replace hx0 := heap_keep hb1 hx0
            replace hx1 := heap_keep hb1 hx1
            clear hx0a hx0b hx0c hx0f hx0g
            obtain ⟨hx0a, hx0b, hx0c⟩ := two_facts hx0
            obtain ⟨hx0f, hx0g⟩ := two_frozen hx0
            clear hx1a hx1b hx1c hx1f hx1g
            obtain ⟨hx1a, hx1b, hx1c⟩ := two_facts hx1
            obtain ⟨hx1f, hx1g⟩ := two_frozen hx1
            clear hb1 hb0
            go_wp2_with fail
            refine (hk _).mono ?_; rintro e w2 ⟨rfl, hb2⟩
            have hbw2 := nx hbw1 hb2
            replace hx0 := heap_keep hb2 hx0
            replace hx1 := heap_keep hb2 hx1
            clear hx0a hx0b hx0c hx0f hx0g
            obtain ⟨hx0a, hx0b, hx0c⟩ := two_facts hx0
            obtain ⟨hx0f, hx0g⟩ := two_frozen hx0
            clear hx1a hx1b hx1c hx1f hx1g
            obtain ⟨hx1a, hx1b, hx1c⟩ := two_facts hx1
            obtain ⟨hx1f, hx1g⟩ := two_frozen hx1
            clear hb2 hbw1
            go_wp2_with fail
            refine (hM' _).mono ?_; rintro e w3 ⟨g, cap, hg3, hcl, m1, m2, hb3, rfl⟩
            have hbw3 := nx hbw2 hb3
            have cr := hcl r hlt
            clear hcl
            replace hx0 := heap_keep hb3 hx0
            replace hx1 := heap_keep hb3 hx1
            clear hx0a hx0b hx0c hx0f hx0g
            obtain ⟨hx0a, hx0b, hx0c⟩ := two_facts hx0
            obtain ⟨hx0f, hx0g⟩ := two_frozen hx0
            clear hx1a hx1b hx1c hx1f hx1g
            obtain ⟨hx1a, hx1b, hx1c⟩ := two_facts hx1
            obtain ⟨hx1f, hx1g⟩ := two_frozen hx1
            clear hb3 hbw2
            go_wp2_with fail
            refine (hL _).mono ?_; rintro e w4 ⟨rfl, hb4⟩
            have hbw4 := nx hbw3 hb4
            replace cr := keep_cell hb4 cr
            replace hx0 := heap_keep hb4 hx0
            replace hx1 := heap_keep hb4 hx1
            clear hx0a hx0b hx0c hx0f hx0g
            obtain ⟨hx0a, hx0b, hx0c⟩ := two_facts hx0
            obtain ⟨hx0f, hx0g⟩ := two_frozen hx0
            clear hx1a hx1b hx1c hx1f hx1g
            obtain ⟨hx1a, hx1b, hx1c⟩ := two_facts hx1
            obtain ⟨hx1f, hx1g⟩ := two_frozen hx1
            clear hb4 hbw3
            go_wp2_with fail
            have hz := Below.refl w4.heap.size w4
            go_region_with (first
                | (go_at_call 60; refine (hT' _).mono ?_; rintro e w5 ⟨g2, cap2, e1, e2, m3, m4, hb5, rfl⟩; have hb5' := nx hz.drew hb5; obtain ⟨ka2, ka3⟩ := And.intro (keep_cell hb5' hx1a) (keep_cell hb5' hx1b); have cr5 := keep_cell hb5' cr))
            all_goals go_wp2_with fail
            all_goals go_quiet (fail)
            all_goals go_wp2_with fail
            all_goals go_ret3
            all_goals exact ⟨rfl, drewB (nx hbw4 hb5') _⟩
          · have hq1' : ¬ (q1 : Int) = (n : Int) := by simpa using (fun h => hq1 (Int.ofNat_inj.1 h))
            clear hq1
            go_enter Tryz.func27, Tryz.ntmps27
            go_wp2_with fail
            have hb0 : Below w.heap.size w ((w.alloc (.cells #[.string p.1.str, .string p.2.str] 25 (0, 0))).alloc (.cells #[.int .i64 n, .int .i64 d] 42 (0, 0))) := nxAlloc (nxAlloc (Below.refl _ _) _) _
            have hx0 := heap_keep (nxAlloc (Below.refl _ _) (.cells #[.int .i64 n, .int .i64 d] 42 (0, 0))) (heap_alloc_at w (.cells #[.string p.1.str, .string p.2.str] 25 (0, 0)))
            have hx1 := heap_alloc_at (w.alloc (.cells #[.string p.1.str, .string p.2.str] 25 (0, 0))) (.cells #[.int .i64 n, .int .i64 d] 42 (0, 0))
            generalize ((w.alloc (.cells #[.string p.1.str, .string p.2.str] 25 (0, 0))).alloc (.cells #[.int .i64 n, .int .i64 d] 42 (0, 0))) = w0 at *
            have e1 : (w.alloc (.cells #[.string p.1.str, .string p.2.str] 25 (0, 0))).heap.size = w.heap.size + 1 := by simp
            rw [e1] at hx1
            clear e1
            obtain ⟨hx0a, hx0b, hx0c⟩ := two_facts hx0
            obtain ⟨hx0f, hx0g⟩ := two_frozen hx0
            obtain ⟨hx1a, hx1b, hx1c⟩ := two_facts hx1
            obtain ⟨hx1f, hx1g⟩ := two_frozen hx1
            refine (hg _).mono ?_; rintro e w1 ⟨rfl, hb1⟩
            have hbw1 := nx hb0 hb1
            replace hx0 := heap_keep hb1 hx0
            replace hx1 := heap_keep hb1 hx1
            clear hx0a hx0b hx0c hx0f hx0g
            obtain ⟨hx0a, hx0b, hx0c⟩ := two_facts hx0
            obtain ⟨hx0f, hx0g⟩ := two_frozen hx0
            clear hx1a hx1b hx1c hx1f hx1g
            obtain ⟨hx1a, hx1b, hx1c⟩ := two_facts hx1
            obtain ⟨hx1f, hx1g⟩ := two_frozen hx1
            clear hb1 hb0
            go_wp2_with fail
            refine (hk _).mono ?_; rintro e w2 ⟨rfl, hb2⟩
            have hbw2 := nx hbw1 hb2
            replace hx0 := heap_keep hb2 hx0
            replace hx1 := heap_keep hb2 hx1
            clear hx0a hx0b hx0c hx0f hx0g
            obtain ⟨hx0a, hx0b, hx0c⟩ := two_facts hx0
            obtain ⟨hx0f, hx0g⟩ := two_frozen hx0
            clear hx1a hx1b hx1c hx1f hx1g
            obtain ⟨hx1a, hx1b, hx1c⟩ := two_facts hx1
            obtain ⟨hx1f, hx1g⟩ := two_frozen hx1
            clear hb2 hbw1
            go_wp2_with fail
            refine (hM' _).mono ?_; rintro e w3 ⟨g, cap, hg3, hcl, m1, m2, hb3, rfl⟩
            have hbw3 := nx hbw2 hb3
            have cr := hcl r hlt
            clear hcl
            replace hx0 := heap_keep hb3 hx0
            replace hx1 := heap_keep hb3 hx1
            clear hx0a hx0b hx0c hx0f hx0g
            obtain ⟨hx0a, hx0b, hx0c⟩ := two_facts hx0
            obtain ⟨hx0f, hx0g⟩ := two_frozen hx0
            clear hx1a hx1b hx1c hx1f hx1g
            obtain ⟨hx1a, hx1b, hx1c⟩ := two_facts hx1
            obtain ⟨hx1f, hx1g⟩ := two_frozen hx1
            clear hb3 hbw2
            go_wp2_with fail
            refine (hL _).mono ?_; rintro e w4 ⟨rfl, hb4⟩
            have hbw4 := nx hbw3 hb4
            replace cr := keep_cell hb4 cr
            replace hx0 := heap_keep hb4 hx0
            replace hx1 := heap_keep hb4 hx1
            clear hx0a hx0b hx0c hx0f hx0g
            obtain ⟨hx0a, hx0b, hx0c⟩ := two_facts hx0
            obtain ⟨hx0f, hx0g⟩ := two_frozen hx0
            clear hx1a hx1b hx1c hx1f hx1g
            obtain ⟨hx1a, hx1b, hx1c⟩ := two_facts hx1
            obtain ⟨hx1f, hx1g⟩ := two_frozen hx1
            clear hb4 hbw3
            go_wp2_with fail
            have hz := Below.refl w4.heap.size w4
            go_region_with (first
                | (go_at_call 60; refine (hT' _).mono ?_; rintro e w5 ⟨g2, cap2, e1, e2, m3, m4, hb5, rfl⟩; have hb5' := nx hz.drew hb5; obtain ⟨ka2, ka3⟩ := And.intro (keep_cell hb5' hx1a) (keep_cell hb5' hx1b); have cr5 := keep_cell hb5' cr))
            all_goals go_wp2_with fail
            all_goals go_quiet (fail)
            all_goals go_wp2_with fail
            all_goals go_ret3
            all_goals exact ⟨rfl, drewB (nx hbw4 hb5') _⟩

end Go.Proofs.YtjmbkieocmhmiaaGreat

/-! BasB -/
namespace Go.Proofs.YtjmbkieocmhmiaaGreat
end Go.Proofs.YtjmbkieocmhmiaaGreat

/-! Dw14 -/
namespace Go.Proofs.YtjmbkieocmhmiaaGreat
open Go.RowKit

/-- A call that draws a fraction of bounded numbers. -/
def DrawF (b : Nat) (c : Bts) (k : Nat) (w : World) (e : Ending) (w' : World) : Prop := ∃ n d : Int, -1 ≤ n ∧ n ≤ 4611686018427387904 ∧ 0 ≤ d ∧ d ≤ 4611686018427387904 ∧ e = .returned (.agg #[.int .i64 n, .int .i64 d]) ∧ Turns b c k w w'
theorem pow_wrapD : ∀ x, x ≤ 7 → IntKind.i64.wrap ((2 : Int) ^ x) = ((2 ^ x : Nat) : Int) ∧ 1 ≤ 2 ^ x ∧ 2 ^ x ≤ 128 := by decide
theorem short_leD (n d : Nat) : (shortN n d).1 ≤ n ∧ (shortN n d).2 ≤ d := ⟨Nat.div_le_self _ _, Nat.div_le_self _ _⟩
theorem list_rangeF (N : Nat) (l : List Value) (h : l.length = N) : l = (List.range N).map fun n => (Array.mk l).getD n undef := by
  apply List.ext_getElem
  · simp [h]
  · intro i h1 h2
    simp [h1]
set_option maxRecDepth 100000 in
theorem frameF0 (a : Act) (hs : a.tmps.size = 34) (hd : a.defers = []) {x0 : Value} (k0 : a.tmps.getD 0 undef = x0) {x4 : Value} (k4 : a.tmps.getD 4 undef = x4) : ∃ f : Nat → Value, a = { tmps := (x0 :: f 1 :: f 2 :: f 3 :: x4 :: f 5 :: f 6 :: f 7 :: f 8 :: f 9 :: f 10 :: f 11 :: f 12 :: f 13 :: f 14 :: f 15 :: f 16 :: f 17 :: f 18 :: f 19 :: f 20 :: f 21 :: f 22 :: f 23 :: f 24 :: f 25 :: f 26 :: f 27 :: f 28 :: f 29 :: f 30 :: f 31 :: f 32 :: f 33 :: []).toArray, defers := [] } := by
  obtain ⟨⟨l⟩, d⟩ := a
  subst hd
  subst k0
  subst k4
  refine ⟨fun n => (Array.mk l).getD n undef, ?_⟩
  have e := list_rangeF 34 l hs
  have e2 : ((List.range 34).map fun n => (Array.mk l).getD n undef).toArray = ((Array.mk l).getD 0 undef :: (Array.mk l).getD 1 undef :: (Array.mk l).getD 2 undef :: (Array.mk l).getD 3 undef :: (Array.mk l).getD 4 undef :: (Array.mk l).getD 5 undef :: (Array.mk l).getD 6 undef :: (Array.mk l).getD 7 undef :: (Array.mk l).getD 8 undef :: (Array.mk l).getD 9 undef :: (Array.mk l).getD 10 undef :: (Array.mk l).getD 11 undef :: (Array.mk l).getD 12 undef :: (Array.mk l).getD 13 undef :: (Array.mk l).getD 14 undef :: (Array.mk l).getD 15 undef :: (Array.mk l).getD 16 undef :: (Array.mk l).getD 17 undef :: (Array.mk l).getD 18 undef :: (Array.mk l).getD 19 undef :: (Array.mk l).getD 20 undef :: (Array.mk l).getD 21 undef :: (Array.mk l).getD 22 undef :: (Array.mk l).getD 23 undef :: (Array.mk l).getD 24 undef :: (Array.mk l).getD 25 undef :: (Array.mk l).getD 26 undef :: (Array.mk l).getD 27 undef :: (Array.mk l).getD 28 undef :: (Array.mk l).getD 29 undef :: (Array.mk l).getD 30 undef :: (Array.mk l).getD 31 undef :: (Array.mk l).getD 32 undef :: (Array.mk l).getD 33 undef :: []).toArray := by kernel_rfl
  show ({ tmps := l.toArray, defers := [] } : Act) = _
  refine congrArg (fun t : Array Value => ({ tmps := t, defers := [] } : Act)) ?_
  exact (congrArg List.toArray e).trans e2

set_option maxRecDepth 100000 in
set_option maxHeartbeats 4000000 in
theorem drawFraction_any (m b : Nat) (c : Bts) (k : Nat) (w : World) (h : Cur w b c k) (hk : k ≤ 600000000) (hm : m ≤ 7) :
    Calls Tryz.prog 61 #[.pointer (some ⟨b, 0, none⟩), .int .i64 m] w (DrawF b c (k + 20) w) := by
  have hb0 := h.lt
  have H := Lib.hid (h.keep (allocB w (.cells #[.int .i64 0, .int .i64 0] 42 (0, 0))))
  have hr0 := Lib.hid (heap_alloc_at w (.cells #[.int .i64 0, .int .i64 0] 42 (0, 0)))
  have HG0 := Lib.hid (grown_alloc w (.cells #[.int .i64 0, .int .i64 0] 42 (0, 0)) (some b))
  clear h
  go_enter Tryz.func61, Tryz.ntmps61
  go_wp2_with fail
  refine (drawPick_any (m + 1) b c k _ H.out (by omega) (by omega) (by omega)).mono ?_; rintro e w1 ⟨x, hx, rfl, hT, hg⟩
  have HT1 : Hid (Cur w1.drew b c (k + 2)) := Lib.hid hT
  have HG1 : Hid (w.grownBy w1.drew (some b)) := Lib.hid (grown_drew (n := 1) (grown_trans HG0.out hg))
  have HR1 : Hid (w1.drew.heap[w.heap.size]? = some (.cells #[.int .i64 0, .int .i64 0] 42 (0, 0))) := Lib.hid (show w1.heap[w.heap.size]? = some (.cells #[.int .i64 0, .int .i64 0] 42 (0, 0)) from grown_block hg hr0.out (by omega))
  have hsz : (w.alloc (.cells #[.int .i64 0, .int .i64 0] 42 (0, 0))).heap.size ≤ w1.heap.size := hg.size
  rw [show (w.alloc (.cells #[.int .i64 0, .int .i64 0] 42 (0, 0))).heap.size = w.heap.size + 1 by simp] at hsz
  have hz1 : w.heap.size < w1.drew.heap.size := hsz
  clear hsz
  clear hT hg
  obtain ⟨hP1, hP2, hP3⟩ := pow_wrapD x (by omega)
  obtain ⟨P, hP⟩ : ∃ P, P = 2 ^ x := ⟨_, rfl⟩
  rw [← hP] at hP1 hP2 hP3
  clear hP
  have hP4 : IntKind.i64.wrap ((P : Int) + 1) = ((P + 1 : Nat) : Int) := by rw [IntKind.wrap_i64] <;> omega
  go_upto_region 2 with fail
  refine wp_cut (fun (a : Act) (wx : World) => a.tmps.size = 34 ∧ a.defers = [] ∧ a.tmps.getD 0 undef = .pointer (some ⟨b, 0, none⟩) ∧ a.tmps.getD 4 undef = .pointer (some ⟨w.heap.size, 0, none⟩) ∧ (∃ (g : Nat) (n d : Int), a.tmps.getD 6 undef = .pointer (some ⟨g, 0, none⟩) ∧ w.heap.size < g ∧ 0 ≤ n ∧ n ≤ 200 ∧ 0 ≤ d ∧ d ≤ 200 ∧ Hid (Cur wx b c (k + 4)) ∧ Hid (w.grownBy wx (some b)) ∧ Hid (wx.heap[w.heap.size]? = some (.cells #[.int .i64 0, .int .i64 0] 42 (0, 0))) ∧ Hid (wx.heap[g]? = some (.cells #[.int .i64 n, .int .i64 d] 42 (0, 0))))) ?rest1 ?first1
  case first1 =>
    intro JJ KK hJJ hKK
    refine wp_region_held_drew (S := (fun (w' : World) => w'.heap[w.heap.size]? = some (.cells #[.int .i64 0, .int .i64 0] 42 (0, 0)))) (by kernel_rfl) HR1.out (fun hH0 => ?_)
    refine wpAnyH_take (i := 0) (oi := ?oi201) (v := ?vv201) ?hi201 ?hn201 ?hf201 ?hr201 ?hq201 (Or.inl ⟨?hg201, ?hy201⟩) hH0 ?rest201
    case hi201 => (simp only [List.getElem?_toArray, List.getElem?_cons_zero]; rfl)
    case hn201 => kernel_rfl
    case hf201 => kernel_rfl
    case hr201 => kernel_rfl
    case hg201 => rfl
    case hy201 => (intro w hSw; (try dsimp only at hSw); go_simp; first | done | with_reducible rfl)
    case hq201 => exact fun _ _ _ h => h
    try simp only [Act.put, List.setIfInBounds_toArray, List.set_cons_zero, List.set_cons_succ]
    refine wpAnyH_take (i := 1) (oi := ?oi202) (v := ?vv202) ?hi202 ?hn202 ?hf202 ?hr202 ?hq202 (Or.inl ⟨?hg202, ?hy202⟩) hH0 ?rest202
    case hi202 => (simp only [List.getElem?_toArray, List.getElem?_cons_succ, List.getElem?_cons_zero]; rfl)
    case hn202 => kernel_rfl
    case hf202 => kernel_rfl
    case hr202 => kernel_rfl
    case hg202 => rfl
    case hy202 => (intro w hSw; (try dsimp only at hSw); go_simp; first | done | with_reducible rfl)
    case hq202 => exact fun _ _ _ h => h
    try simp only [Act.put, List.setIfInBounds_toArray, List.set_cons_zero, List.set_cons_succ]
    refine wpAnyH_take (i := 2) (oi := ?oi203) (v := ?vv203) ?hi203 ?hn203 ?hf203 ?hr203 ?hq203 (Or.inl ⟨?hg203, ?hy203⟩) hH0 ?rest203
    case hi203 => (simp only [List.getElem?_toArray, List.getElem?_cons_succ, List.getElem?_cons_zero]; rfl)
    case hn203 => kernel_rfl
    case hf203 => kernel_rfl
    case hr203 => kernel_rfl
    case hg203 => rfl
    case hy203 => (intro w hSw; (try dsimp only at hSw); go_simp; first | done | with_reducible rfl)
    case hq203 => exact fun _ _ _ h => h
    try simp only [Act.put, List.setIfInBounds_toArray, List.set_cons_zero, List.set_cons_succ]
    refine wpAnyH_take (i := 3) (oi := ?oi204) (v := ?vv204) ?hi204 ?hn204 ?hf204 ?hr204 ?hq204 (Or.inl ⟨?hg204, ?hy204⟩) hH0 ?rest204
    case hi204 => (simp only [List.getElem?_toArray, List.getElem?_cons_succ, List.getElem?_cons_zero]; rfl)
    case hn204 => kernel_rfl
    case hf204 => kernel_rfl
    case hr204 => kernel_rfl
    case hg204 => rfl
    case hy204 => (intro w hSw; (try dsimp only at hSw); go_simp; first | done | with_reducible rfl)
    case hq204 => exact fun _ _ _ h => h
    try simp only [Act.put, List.setIfInBounds_toArray, List.set_cons_zero, List.set_cons_succ]
    refine wpAnyH_take (i := 5) (oi := ?oi205) (v := ?vv205) ?hi205 ?hn205 ?hf205 ?hr205 ?hq205 (Or.inl ⟨?hg205, ?hy205⟩) hH0 ?rest205
    case hi205 => (simp only [List.getElem?_toArray, List.getElem?_cons_succ, List.getElem?_cons_zero]; rfl)
    case hn205 => kernel_rfl
    case hf205 => kernel_rfl
    case hr205 => kernel_rfl
    case hg205 => rfl
    case hy205 => (intro w hSw; (try dsimp only at hSw); go_simp; first | done | with_reducible rfl)
    case hq205 => exact fun _ _ _ h => h
    try simp only [Act.put, List.setIfInBounds_toArray, List.set_cons_zero, List.set_cons_succ]
    refine wpAnyH_take (i := 6) (oi := ?oi206) (v := ?vv206) ?hi206 ?hn206 ?hf206 ?hr206 ?hq206 (Or.inl ⟨?hg206, ?hy206⟩) hH0 ?rest206
    case hi206 => (simp only [List.getElem?_toArray, List.getElem?_cons_succ, List.getElem?_cons_zero]; rfl)
    case hn206 => kernel_rfl
    case hf206 => kernel_rfl
    case hr206 => kernel_rfl
    case hg206 => rfl
    case hy206 => (intro w hSw; (try dsimp only at hSw); go_simp; first | done | with_reducible rfl)
    case hq206 => exact fun _ _ _ h => h
    try simp only [Act.put, List.setIfInBounds_toArray, List.set_cons_zero, List.set_cons_succ]
    generalize w1.drew = v1 at *
    refine held_two 4 8 rfl rfl (by kernel_rfl) (fun K hK => ?_) (fun K hK => ?_)
    · go_simp
      try rw [hP4]
      refine (drawPick_any (P + 1) b c _ v1 HT1.out (by omega) (by omega) (by omega)).mono ?_; rintro e v2 ⟨y, hy, rfl, hT, hg⟩
      have HT2 := Lib.hid hT
      have HG2 := Lib.hid (grown_trans HG1.out hg)
      have HR2 := Lib.hid (grown_block hg HR1.out (by omega))
      have hz2 : w.heap.size < v2.heap.size := by have := hg.size; omega
      clear hT hg
      go_wp2_with fail
      refine hK.out (fun (w' : World) => w'.heap[w.heap.size]? = some (.cells #[.int .i64 0, .int .i64 0] 42 (0, 0))) _ _ (fun _ h => h) HR2.out ?_
      clear hK K
      try simp only [Act.put, List.setIfInBounds_toArray, List.set_cons_zero, List.set_cons_succ]
      refine held_two 7 8 rfl rfl (by kernel_rfl) (fun K hK => ?_) (fun K hK => ?_)
      · go_simp
        refine (mpShort_any y P v2 (by omega) (by omega) (by omega)).mono ?_; rintro e v3 ⟨rfl, hb⟩
        have HT3 := Lib.hid (HT2.out.keep hb)
        have HG3 := Lib.hid (grown_below HG2.out hb)
        have HR3 := Lib.hid (heap_keep hb HR2.out)
        have hz3 : w.heap.size < v3.heap.size := by have := hb.size; omega
        obtain ⟨hs1, hs2⟩ := short_leD y P
        generalize (shortN y P).1 = n1 at *
        generalize (shortN y P).2 = d1 at *
        clear hb
        go_wp2_with fail
        refine hK.out (fun (w' : World) => w'.heap[w.heap.size]? = some (.cells #[.int .i64 0, .int .i64 0] 42 (0, 0))) _ _ (fun _ h => h) HR3.out ?_
        clear hK K
        try simp only [Act.put, List.setIfInBounds_toArray, List.set_cons_zero, List.set_cons_succ]
        refine held_one 8 rfl (by kernel_rfl) (fun K hK => ?_)
        go_simp
        refine hK.out (fun (w' : World) => w'.heap[w.heap.size]? = some (.cells #[.int .i64 0, .int .i64 0] 42 (0, 0))) _ _ (fun _ h => h) (heap_keep (allocB v3 (.cells #[.int .i64 0, .int .i64 0] 42 (0, 0))) HR3.out) ?_
        clear hK K
        try simp only [Act.put, List.setIfInBounds_toArray, List.set_cons_zero, List.set_cons_succ]
        obtain ⟨g4, hg4⟩ : ∃ g, g = v3.heap.size := ⟨_, rfl⟩
        have HT4 := Lib.hid (HT3.out.keep (allocB v3 (.cells #[.int .i64 0, .int .i64 0] 42 (0, 0))))
        have HG4 := Lib.hid (grown_below HG3.out (allocB v3 (.cells #[.int .i64 0, .int .i64 0] 42 (0, 0))))
        have HR4 := Lib.hid (heap_keep (allocB v3 (.cells #[.int .i64 0, .int .i64 0] 42 (0, 0))) HR3.out)
        have HX4 := Lib.hid (heap_alloc_at v3 (.cells #[.int .i64 0, .int .i64 0] 42 (0, 0)))
        have hz4 : w.heap.size < (v3.alloc (.cells #[.int .i64 0, .int .i64 0] 42 (0, 0))).heap.size := by simp; omega
        have hgz4 : w.heap.size < v3.heap.size ∧ v3.heap.size < (v3.alloc (.cells #[.int .i64 0, .int .i64 0] 42 (0, 0))).heap.size := by simp; omega
        rw [← hg4] at HX4 hgz4 ⊢
        clear hg4
        generalize v3.alloc (.cells #[.int .i64 0, .int .i64 0] 42 (0, 0)) = v4 at *
        obtain ⟨fx1, fx2, fx3⟩ := two_facts HX4.out
        obtain ⟨fx4, fx5⟩ := two_frozen HX4.out
        refine held_one 9 rfl (by kernel_rfl) (fun K hK => ?_)
        go_simp
        refine hK.out (fun (w' : World) => w'.heap[w.heap.size]? = some (.cells #[.int .i64 0, .int .i64 0] 42 (0, 0))) _ _ (fun _ h => h) ((heap_setCell_other _ ⟨g4, 1, none⟩ w.heap.size (.int .i64 d1) (by show w.heap.size ≠ g4; omega)).trans ((heap_setCell_other _ ⟨g4, 0, none⟩ w.heap.size (.int .i64 n1) (by show w.heap.size ≠ g4; omega)).trans HR4.out)) ?_
        clear hK K
        try simp only [Act.put, List.setIfInBounds_toArray, List.set_cons_zero, List.set_cons_succ]
        refine wpAnyH_done (by kernel_rfl) ?_ _
        go_wp2_with fail
        exact Met.intro (hJJ _ _ ⟨rfl, rfl, rfl, rfl, ⟨g4, n1, d1, rfl, by omega, by omega, by omega, by omega, by omega, Lib.hid ((HT4.out.set (by omega)).set (by omega)), Lib.hid (grown_setN (grown_setN HG4.out (by omega)) (by omega)), Lib.hid ((heap_setCell_other _ ⟨g4, 1, none⟩ w.heap.size (.int .i64 d1) (by show w.heap.size ≠ g4; omega)).trans ((heap_setCell_other _ ⟨g4, 0, none⟩ w.heap.size (.int .i64 n1) (by show w.heap.size ≠ g4; omega)).trans HR4.out)), Lib.hid (set_two (.int .i64 n1) (.int .i64 d1) HX4.out)⟩⟩)
      · go_simp
        refine hK.out (fun (w' : World) => w'.heap[w.heap.size]? = some (.cells #[.int .i64 0, .int .i64 0] 42 (0, 0))) _ _ (fun _ h => h) (heap_keep (allocB v2 (.cells #[.int .i64 0, .int .i64 0] 42 (0, 0))) HR2.out) ?_
        clear hK K
        try simp only [Act.put, List.setIfInBounds_toArray, List.set_cons_zero, List.set_cons_succ]
        obtain ⟨g5, hg5⟩ : ∃ g, g = v2.heap.size := ⟨_, rfl⟩
        have HT5 := Lib.hid (HT2.out.keep (allocB v2 (.cells #[.int .i64 0, .int .i64 0] 42 (0, 0))))
        have HG5 := Lib.hid (grown_below HG2.out (allocB v2 (.cells #[.int .i64 0, .int .i64 0] 42 (0, 0))))
        have HR5 := Lib.hid (heap_keep (allocB v2 (.cells #[.int .i64 0, .int .i64 0] 42 (0, 0))) HR2.out)
        have HX5 := Lib.hid (heap_alloc_at v2 (.cells #[.int .i64 0, .int .i64 0] 42 (0, 0)))
        have hz5 : w.heap.size < (v2.alloc (.cells #[.int .i64 0, .int .i64 0] 42 (0, 0))).heap.size := by simp; omega
        have hgz5 : w.heap.size < v2.heap.size ∧ v2.heap.size < (v2.alloc (.cells #[.int .i64 0, .int .i64 0] 42 (0, 0))).heap.size := by simp; omega
        rw [← hg5] at HX5 hgz5 ⊢
        clear hg5
        generalize v2.alloc (.cells #[.int .i64 0, .int .i64 0] 42 (0, 0)) = v5 at *
        refine held_one 7 rfl (by kernel_rfl) (fun K hK => ?_)
        go_simp
        refine (mpShort_any y P v5 (by omega) (by omega) (by omega)).mono ?_; rintro e v6 ⟨rfl, hb⟩
        have HT6 := Lib.hid (HT5.out.keep hb)
        have HG6 := Lib.hid (grown_below HG5.out hb)
        have HR6 := Lib.hid (heap_keep hb HR5.out)
        have hz6 : w.heap.size < v6.heap.size := by have := hb.size; omega
        obtain ⟨hs1, hs2⟩ := short_leD y P
        generalize (shortN y P).1 = n1 at *
        generalize (shortN y P).2 = d1 at *
        have HX6 := Lib.hid (heap_keep hb HX5.out)
        clear hb
        go_wp2_with fail
        refine hK.out (fun (w' : World) => w'.heap[w.heap.size]? = some (.cells #[.int .i64 0, .int .i64 0] 42 (0, 0))) _ _ (fun _ h => h) HR6.out ?_
        clear hK K
        try simp only [Act.put, List.setIfInBounds_toArray, List.set_cons_zero, List.set_cons_succ]
        obtain ⟨fx1, fx2, fx3⟩ := two_facts HX6.out
        obtain ⟨fx4, fx5⟩ := two_frozen HX6.out
        refine held_one 9 rfl (by kernel_rfl) (fun K hK => ?_)
        go_simp
        refine hK.out (fun (w' : World) => w'.heap[w.heap.size]? = some (.cells #[.int .i64 0, .int .i64 0] 42 (0, 0))) _ _ (fun _ h => h) ((heap_setCell_other _ ⟨g5, 1, none⟩ w.heap.size (.int .i64 d1) (by show w.heap.size ≠ g5; omega)).trans ((heap_setCell_other _ ⟨g5, 0, none⟩ w.heap.size (.int .i64 n1) (by show w.heap.size ≠ g5; omega)).trans HR6.out)) ?_
        clear hK K
        try simp only [Act.put, List.setIfInBounds_toArray, List.set_cons_zero, List.set_cons_succ]
        refine wpAnyH_done (by kernel_rfl) ?_ _
        go_wp2_with fail
        exact Met.intro (hJJ _ _ ⟨rfl, rfl, rfl, rfl, ⟨g5, n1, d1, rfl, by omega, by omega, by omega, by omega, by omega, Lib.hid ((HT6.out.set (by omega)).set (by omega)), Lib.hid (grown_setN (grown_setN HG6.out (by omega)) (by omega)), Lib.hid ((heap_setCell_other _ ⟨g5, 1, none⟩ w.heap.size (.int .i64 d1) (by show w.heap.size ≠ g5; omega)).trans ((heap_setCell_other _ ⟨g5, 0, none⟩ w.heap.size (.int .i64 n1) (by show w.heap.size ≠ g5; omega)).trans HR6.out)), Lib.hid (set_two (.int .i64 n1) (.int .i64 d1) HX6.out)⟩⟩)
    · go_simp
      refine hK.out (fun (w' : World) => w'.heap[w.heap.size]? = some (.cells #[.int .i64 0, .int .i64 0] 42 (0, 0))) _ _ (fun _ h => h) (heap_keep (allocB v1 (.cells #[.int .i64 0, .int .i64 0] 42 (0, 0))) HR1.out) ?_
      clear hK K
      try simp only [Act.put, List.setIfInBounds_toArray, List.set_cons_zero, List.set_cons_succ]
      obtain ⟨g7, hg7⟩ : ∃ g, g = v1.heap.size := ⟨_, rfl⟩
      have HT7 := Lib.hid (HT1.out.keep (allocB v1 (.cells #[.int .i64 0, .int .i64 0] 42 (0, 0))))
      have HG7 := Lib.hid (grown_below HG1.out (allocB v1 (.cells #[.int .i64 0, .int .i64 0] 42 (0, 0))))
      have HR7 := Lib.hid (heap_keep (allocB v1 (.cells #[.int .i64 0, .int .i64 0] 42 (0, 0))) HR1.out)
      have HX7 := Lib.hid (heap_alloc_at v1 (.cells #[.int .i64 0, .int .i64 0] 42 (0, 0)))
      have hz7 : w.heap.size < (v1.alloc (.cells #[.int .i64 0, .int .i64 0] 42 (0, 0))).heap.size := by simp; omega
      have hgz7 : w.heap.size < v1.heap.size ∧ v1.heap.size < (v1.alloc (.cells #[.int .i64 0, .int .i64 0] 42 (0, 0))).heap.size := by simp; omega
      rw [← hg7] at HX7 hgz7 ⊢
      clear hg7
      generalize v1.alloc (.cells #[.int .i64 0, .int .i64 0] 42 (0, 0)) = v7 at *
      refine held_one 4 rfl (by kernel_rfl) (fun K hK => ?_)
      go_simp
      try rw [hP4]
      refine (drawPick_any (P + 1) b c _ v7 HT7.out (by omega) (by omega) (by omega)).mono ?_; rintro e v8 ⟨y, hy, rfl, hT, hg⟩
      have HT8 := Lib.hid hT
      have HG8 := Lib.hid (grown_trans HG7.out hg)
      have HR8 := Lib.hid (grown_block hg HR7.out (by omega))
      have hz8 : w.heap.size < v8.heap.size := by have := hg.size; omega
      have HX8 := Lib.hid (grown_block hg HX7.out (by omega))
      clear hT hg
      go_wp2_with fail
      refine hK.out (fun (w' : World) => w'.heap[w.heap.size]? = some (.cells #[.int .i64 0, .int .i64 0] 42 (0, 0))) _ _ (fun _ h => h) HR8.out ?_
      clear hK K
      try simp only [Act.put, List.setIfInBounds_toArray, List.set_cons_zero, List.set_cons_succ]
      refine held_one 7 rfl (by kernel_rfl) (fun K hK => ?_)
      go_simp
      refine (mpShort_any y P v8 (by omega) (by omega) (by omega)).mono ?_; rintro e v9 ⟨rfl, hb⟩
      have HT9 := Lib.hid (HT8.out.keep hb)
      have HG9 := Lib.hid (grown_below HG8.out hb)
      have HR9 := Lib.hid (heap_keep hb HR8.out)
      have hz9 : w.heap.size < v9.heap.size := by have := hb.size; omega
      obtain ⟨hs1, hs2⟩ := short_leD y P
      generalize (shortN y P).1 = n1 at *
      generalize (shortN y P).2 = d1 at *
      have HX9 := Lib.hid (heap_keep hb HX8.out)
      clear hb
      go_wp2_with fail
      refine hK.out (fun (w' : World) => w'.heap[w.heap.size]? = some (.cells #[.int .i64 0, .int .i64 0] 42 (0, 0))) _ _ (fun _ h => h) HR9.out ?_
      clear hK K
      try simp only [Act.put, List.setIfInBounds_toArray, List.set_cons_zero, List.set_cons_succ]
      obtain ⟨fx1, fx2, fx3⟩ := two_facts HX9.out
      obtain ⟨fx4, fx5⟩ := two_frozen HX9.out
      refine held_one 9 rfl (by kernel_rfl) (fun K hK => ?_)
      go_simp
      refine hK.out (fun (w' : World) => w'.heap[w.heap.size]? = some (.cells #[.int .i64 0, .int .i64 0] 42 (0, 0))) _ _ (fun _ h => h) ((heap_setCell_other _ ⟨g7, 1, none⟩ w.heap.size (.int .i64 d1) (by show w.heap.size ≠ g7; omega)).trans ((heap_setCell_other _ ⟨g7, 0, none⟩ w.heap.size (.int .i64 n1) (by show w.heap.size ≠ g7; omega)).trans HR9.out)) ?_
      clear hK K
      try simp only [Act.put, List.setIfInBounds_toArray, List.set_cons_zero, List.set_cons_succ]
      refine wpAnyH_done (by kernel_rfl) ?_ _
      go_wp2_with fail
      exact Met.intro (hJJ _ _ ⟨rfl, rfl, rfl, rfl, ⟨g7, n1, d1, rfl, by omega, by omega, by omega, by omega, by omega, Lib.hid ((HT9.out.set (by omega)).set (by omega)), Lib.hid (grown_setN (grown_setN HG9.out (by omega)) (by omega)), Lib.hid ((heap_setCell_other _ ⟨g7, 1, none⟩ w.heap.size (.int .i64 d1) (by show w.heap.size ≠ g7; omega)).trans ((heap_setCell_other _ ⟨g7, 0, none⟩ w.heap.size (.int .i64 n1) (by show w.heap.size ≠ g7; omega)).trans HR9.out)), Lib.hid (set_two (.int .i64 n1) (.int .i64 d1) HX9.out)⟩⟩)
  case rest1 =>
    intro a wc hcut
    obtain ⟨ks, kd, k0, k4, HC0⟩ := hcut
    obtain ⟨f, rfl⟩ := frameF0 a ks kd k0 k4
    clear H hr0 HG0 HT1 HG1 HR1 hz1 hP1 hP2 hP3 hP4
    obtain ⟨g, n, d, h6, hgg, b1, b2, b3, b4, HT20, HG20, HR20, HX20⟩ := HC0
    have h6' : f 6 = .pointer (some ⟨g, 0, none⟩) := h6
    rw [h6']
    clear h6 h6'
    go_wp2_with fail
    refine (drawPick_any 14 b c _ _ HT20.out (by omega) (by omega) (by omega)).mono ?_; rintro e w21 ⟨z, hz, rfl, hT, hg⟩
    have HT21 := Lib.hid hT
    have HG21 := Lib.hid (grown_trans HG20.out hg)
    have HR21 := Lib.hid (grown_block hg HR20.out (by omega))
    have HX21 := Lib.hid (grown_block hg HX20.out (by omega))
    clear hT hg
    rcases (show z = 0 ∨ z = 1 ∨ 2 ≤ z by omega) with rfl | rfl | hz2
    · go_wp2_with fail
      refine (drawAmong_any [-1, 0, 1, 2, 4611686018427387904] 5 _ 5 b c _ _ (HT21.out.keep (allocB _ _)) (rowI_alloc _ [-1, 0, 1, 2, 4611686018427387904] _) rfl (by have := HT21.out.lt; omega) (by omega) (by omega) (by omega)).mono ?_; rintro e w22 ⟨n2, hn2, rfl, hT, hg⟩
      have hn3 : -1 ≤ n2 ∧ n2 ≤ 4611686018427387904 := by
        simp only [List.mem_cons, List.not_mem_nil, or_false] at hn2
        omega
      have HT22 := Lib.hid hT
      have HG22 := Lib.hid (grown_trans (grown_below HG21.out (allocB _ _)) hg)
      have HR22 := Lib.hid (grown_block hg (heap_keep (allocB _ _) HR21.out) (by omega))
      have HX22 := Lib.hid (grown_block hg (heap_keep (allocB _ _) HX21.out) (by omega))
      clear hT hg hn2
      go_wp2_with fail
      refine (drawAmong_any [0, 1, 2, 3, 4, 1024, 2048, 4611686018427387904] 8 _ 8 b c _ _ (HT22.out.keep (allocB _ _)) (rowI_alloc _ [0, 1, 2, 3, 4, 1024, 2048, 4611686018427387904] _) rfl (by have := HT22.out.lt; omega) (by omega) (by omega) (by omega)).mono ?_; rintro e w23 ⟨d2, hd2, rfl, hT, hg⟩
      have hd3 : 0 ≤ d2 ∧ d2 ≤ 4611686018427387904 := by
        simp only [List.mem_cons, List.not_mem_nil, or_false] at hd2
        omega
      have HT23 := Lib.hid hT
      have HG23 := Lib.hid (grown_trans (grown_below HG22.out (allocB _ _)) hg)
      have HR23 := Lib.hid (grown_block hg (heap_keep (allocB _ _) HR22.out) (by omega))
      have HX23 := Lib.hid (grown_block hg (heap_keep (allocB _ _) HX22.out) (by omega))
      clear hT hg hd2
      obtain ⟨fx1, fx2, fx3⟩ := two_facts HX23.out
      obtain ⟨fx4, fx5⟩ := two_frozen HX23.out
      go_upto_region 8 with fail
      clear fx1 fx2 fx3 fx4 fx5
      have HT24 := Lib.hid ((HT23.out.set (i := 0) (v := .int .i64 n2) (show b < g by omega)).set (i := 1) (v := .int .i64 d2) (show b < g by omega))
      have HG24 := Lib.hid (grown_setN (i := 1) (v := .int .i64 d2) (grown_setN (i := 0) (v := .int .i64 n2) HG23.out (show w.heap.size ≤ g by omega)) (show w.heap.size ≤ g by omega))
      have HR24 := Lib.hid ((heap_setCell_other _ ⟨g, 1, none⟩ w.heap.size (.int .i64 d2) (by show w.heap.size ≠ g; omega)).trans ((heap_setCell_other _ ⟨g, 0, none⟩ w.heap.size (.int .i64 n2) (by show w.heap.size ≠ g; omega)).trans HR23.out))
      have HX24 := Lib.hid (set_two (.int .i64 n2) (.int .i64 d2) HX23.out)
      generalize ((w23.setCell ⟨g, 0, none⟩ (.int .i64 n2)).setCell ⟨g, 1, none⟩ (.int .i64 d2)) = wz at *
      obtain ⟨fx1, fx2, fx3⟩ := two_facts HX24.out
      obtain ⟨hra, hrb, hrc⟩ := two_facts HR24.out
      obtain ⟨hrf, hrg⟩ := two_frozen HR24.out
      go_wp2_with fail
      obtain ⟨q1, q2⟩ := two_cells (set_two (.int .i64 n2) (.int .i64 d2) HR24.out)
      refine bodyPost_ret (v := .agg #[.int .i64 n2, .int .i64 d2]) (by simp [q1, q2, results, Tryz.results61, go_sem]) rfl ⟨n2, d2, by omega, by omega, by omega, by omega, rfl, ?_⟩
      exact ⟨((HT24.out.mono (by omega)).set (by omega)).set (by omega), grown_setN (grown_setN HG24.out (Nat.le_refl _)) (Nat.le_refl _)⟩
    · obtain ⟨fx1, fx2, fx3⟩ := two_facts HX21.out
      obtain ⟨fx4, fx5⟩ := two_frozen HX21.out
      go_upto_region 8 with fail
      clear fx1 fx2 fx3 fx4 fx5
      have HT24 := Lib.hid ((HT21.out.set (i := 0) (v := .int .i64 1) (show b < g by omega)).set (i := 1) (v := .int .i64 1024) (show b < g by omega))
      have HG24 := Lib.hid (grown_setN (i := 1) (v := .int .i64 1024) (grown_setN (i := 0) (v := .int .i64 1) HG21.out (show w.heap.size ≤ g by omega)) (show w.heap.size ≤ g by omega))
      have HR24 := Lib.hid ((heap_setCell_other _ ⟨g, 1, none⟩ w.heap.size (.int .i64 1024) (by show w.heap.size ≠ g; omega)).trans ((heap_setCell_other _ ⟨g, 0, none⟩ w.heap.size (.int .i64 1) (by show w.heap.size ≠ g; omega)).trans HR21.out))
      have HX24 := Lib.hid (set_two (.int .i64 1) (.int .i64 1024) HX21.out)
      generalize ((w21.setCell ⟨g, 0, none⟩ (.int .i64 1)).setCell ⟨g, 1, none⟩ (.int .i64 1024)) = wz at *
      obtain ⟨fx1, fx2, fx3⟩ := two_facts HX24.out
      obtain ⟨hra, hrb, hrc⟩ := two_facts HR24.out
      obtain ⟨hrf, hrg⟩ := two_frozen HR24.out
      go_wp2_with fail
      obtain ⟨q1, q2⟩ := two_cells (set_two (.int .i64 1) (.int .i64 1024) HR24.out)
      refine bodyPost_ret (v := .agg #[.int .i64 1, .int .i64 1024]) (by simp [q1, q2, results, Tryz.results61, go_sem]) rfl ⟨1, 1024, by omega, by omega, by omega, by omega, rfl, ?_⟩
      exact ⟨((HT24.out.mono (by omega)).set (by omega)).set (by omega), grown_setN (grown_setN HG24.out (Nat.le_refl _)) (Nat.le_refl _)⟩
    · have hz3 : ((z : Int) == 0) = false := by rw [beq_eq_false_iff_ne]; omega
      have hz4 : ((z : Int) == 1) = false := by rw [beq_eq_false_iff_ne]; omega
      obtain ⟨fx1, fx2, fx3⟩ := two_facts HX21.out
      obtain ⟨hra, hrb, hrc⟩ := two_facts HR21.out
      obtain ⟨hrf, hrg⟩ := two_frozen HR21.out
      go_wp2_with fail
      obtain ⟨q1, q2⟩ := two_cells (set_two (.int .i64 n) (.int .i64 d) HR21.out)
      refine bodyPost_ret (v := .agg #[.int .i64 n, .int .i64 d]) (by simp [q1, q2, results, Tryz.results61, go_sem]) rfl ⟨n, d, by omega, by omega, by omega, by omega, rfl, ?_⟩
      exact ⟨((HT21.out.mono (by omega)).set (by omega)).set (by omega), grown_setN (grown_setN HG21.out (Nat.le_refl _)) (Nat.le_refl _)⟩
end Go.Proofs.YtjmbkieocmhmiaaGreat

/-! Dw15 -/
namespace Go.Proofs.YtjmbkieocmhmiaaGreat
open Go.RowKit

/-- A call that draws a pair of texts and a fraction; besides a number. -/
def GivesQF (w : World) (e : Ending) (w' : World) : Prop := ∃ (s t : ByteArray) (n d : Int), s.size ≤ 100 ∧ t.size ≤ 100 ∧ -1 ≤ n ∧ n ≤ 4611686018427387904 ∧ 0 ≤ d ∧ d ≤ 4611686018427387904 ∧ e = .returned (.tuple #[.agg #[.string s, .string t], .agg #[.int .i64 n, .int .i64 d]]) ∧ Below w.heap.size w w'
def GivesQFI (w : World) (e : Ending) (w' : World) : Prop := ∃ (s t : ByteArray) (n d i : Int), s.size ≤ 100 ∧ t.size ≤ 100 ∧ -1 ≤ n ∧ n ≤ 4611686018427387904 ∧ 0 ≤ d ∧ d ≤ 4611686018427387904 ∧ -1 ≤ i ∧ i ≤ 100 ∧ e = .returned (.tuple #[.agg #[.string s, .string t], .agg #[.int .i64 n, .int .i64 d], .int .i64 i]) ∧ Below w.heap.size w w'
theorem startF {w : World} {c : Bts} {o1 o2 : Obj} (h : InB w c) : Cur (((w.alloc o1).alloc o2).alloc (.cells #[.slice c.a c.n c.cap, .int .i64 0, .int .u64 0] 58 (0, 0))) (w.heap.size + 2) c 0 := by
  have := cur_new ((h.keep (allocB w o1)).keep (allocB (w.alloc o1) o2))
  rwa [show ((w.alloc o1).alloc o2).heap.size = w.heap.size + 2 by simp] at this

set_option maxRecDepth 100000 in
set_option maxHeartbeats 2000000 in
theorem drawEndSlopes_any (c : Bts) (w : World) (h : InB w c) : Calls Tryz.prog 22 #[.slice c.a c.n c.cap] w (GivesQ 100 w) := by
  have hr0 := Lib.hid (heap_alloc_at w (.cells #[.string ⟨#[]⟩, .string ⟨#[]⟩] 25 (0, 0)))
  have hc := h.keep (allocB w (.cells #[.string ⟨#[]⟩, .string ⟨#[]⟩] 25 (0, 0)))
  have hb0 := allocB w (.cells #[.string ⟨#[]⟩, .string ⟨#[]⟩] 25 (0, 0))
  clear h
  go_enter Tryz.func22, Tryz.ntmps22
  go_wp2_with fail
  refine (drawIsReduced_any c _ hc).mono ?_; rintro e w1 ⟨s, t, hs, ht, rfl, hb⟩
  have hr := heap_keep hb hr0.out
  have hbw := nx hb0 hb
  clear hb hb0 hc
  obtain ⟨ra1, ra2, ra3⟩ := two_facts hr
  obtain ⟨ra4, ra5⟩ := two_frozen hr
  go_wp2_with fail
  obtain ⟨q1, q2⟩ := two_cells (set_two (.string s) (.string t) hr)
  refine bodyPost_ret (v := .agg #[.string s, .string t]) (by simp [q1, q2, results, Tryz.results22, go_sem]) rfl ⟨s, t, by omega, by omega, rfl, ?_⟩
  exact (hbw.setCell (Nat.le_refl _) _).setCell (Nat.le_refl _) _

set_option maxRecDepth 100000 in
set_option maxHeartbeats 2000000 in
theorem drawValueOf_any (c : Bts) (w : World) (h : InB w c) : Calls Tryz.prog 55 #[.slice c.a c.n c.cap] w (GivesQF w) := by
  have H := Lib.hid (startF (o1 := (.cells #[.string ⟨#[]⟩, .string ⟨#[]⟩] 25 (0, 0))) (o2 := (.cells #[.int .i64 0, .int .i64 0] 42 (0, 0))) h)
  have hra0 := Lib.hid (heap_keep (allocB ((w.alloc (.cells #[.string ⟨#[]⟩, .string ⟨#[]⟩] 25 (0, 0))).alloc (.cells #[.int .i64 0, .int .i64 0] 42 (0, 0))) (.cells #[.slice c.a c.n c.cap, .int .i64 0, .int .u64 0] 58 (0, 0))) (heap_keep (allocB (w.alloc (.cells #[.string ⟨#[]⟩, .string ⟨#[]⟩] 25 (0, 0))) (.cells #[.int .i64 0, .int .i64 0] 42 (0, 0))) (heap_alloc_at w (.cells #[.string ⟨#[]⟩, .string ⟨#[]⟩] 25 (0, 0)))))
  have hrb0 := Lib.hid (show (((w.alloc (.cells #[.string ⟨#[]⟩, .string ⟨#[]⟩] 25 (0, 0))).alloc (.cells #[.int .i64 0, .int .i64 0] 42 (0, 0))).alloc (.cells #[.slice c.a c.n c.cap, .int .i64 0, .int .u64 0] 58 (0, 0))).heap[w.heap.size + 1]? = some (.cells #[.int .i64 0, .int .i64 0] 42 (0, 0)) from by have := heap_keep (allocB ((w.alloc (.cells #[.string ⟨#[]⟩, .string ⟨#[]⟩] 25 (0, 0))).alloc (.cells #[.int .i64 0, .int .i64 0] 42 (0, 0))) (.cells #[.slice c.a c.n c.cap, .int .i64 0, .int .u64 0] 58 (0, 0))) (heap_alloc_at (w.alloc (.cells #[.string ⟨#[]⟩, .string ⟨#[]⟩] 25 (0, 0))) (.cells #[.int .i64 0, .int .i64 0] 42 (0, 0))); rwa [show (w.alloc (.cells #[.string ⟨#[]⟩, .string ⟨#[]⟩] 25 (0, 0))).heap.size = w.heap.size + 1 by simp] at this)
  have HG0 := Lib.hid (grown_refl (((w.alloc (.cells #[.string ⟨#[]⟩, .string ⟨#[]⟩] 25 (0, 0))).alloc (.cells #[.int .i64 0, .int .i64 0] 42 (0, 0))).alloc (.cells #[.slice c.a c.n c.cap, .int .i64 0, .int .u64 0] 58 (0, 0))) (some (w.heap.size + 2)))
  clear h
  go_enter Tryz.func55, Tryz.ntmps55
  go_wp2_with fail
  have HT0 := H
  clear H
  have HG0 := HG0
  have HA0 := hra0
  have HB0 := hrb0
  clear hra0 hrb0
  refine (pairD 6 _ c _ _ HT0.out (by omega) (by omega)).mono ?_; rintro e w1 ⟨s, t, hs, ht, rfl, hT, hg⟩
  have HT1 := Lib.hid hT
  have HG1 := Lib.hid (grown_trans HG0.out hg)
  have HA1 := Lib.hid (grown_block hg HA0.out (by omega))
  have HB1 := Lib.hid (grown_block hg HB0.out (by omega))
  clear hT hg
  go_wp2_with fail
  refine (drawFraction_any 5 _ c _ _ HT1.out (by omega) (by omega)).mono ?_; rintro e w2 ⟨n, d, n1, n2, d1, d2, rfl, hT, hg⟩
  have HT2 := Lib.hid hT
  have HG2 := Lib.hid (grown_trans HG1.out hg)
  have HA2 := Lib.hid (grown_block hg HA1.out (by omega))
  have HB2 := Lib.hid (grown_block hg HB1.out (by omega))
  clear hT hg
  obtain ⟨ra1, ra2, ra3⟩ := two_facts HA2.out
  obtain ⟨ra4, ra5⟩ := two_frozen HA2.out
  obtain ⟨rb1, rb2, rb3⟩ := two_facts HB2.out
  obtain ⟨rb4, rb5⟩ := two_frozen HB2.out
  go_wp2_with fail
  have hsa := set_two (.string s) (.string t) HA2.out
  have hsa2 : ((((w2.setCell ⟨w.heap.size, 0, none⟩ (.string s)).setCell ⟨w.heap.size, 1, none⟩ (.string t)).setCell ⟨w.heap.size + 1, 0, none⟩ (.int .i64 n)).setCell ⟨w.heap.size + 1, 1, none⟩ (.int .i64 d)).heap[w.heap.size]? = _ := (heap_setCell_other _ ⟨w.heap.size + 1, 1, none⟩ w.heap.size (.int .i64 d) (show w.heap.size ≠ w.heap.size + 1 by omega)).trans ((heap_setCell_other _ ⟨w.heap.size + 1, 0, none⟩ w.heap.size (.int .i64 n) (show w.heap.size ≠ w.heap.size + 1 by omega)).trans hsa)
  have hsb0 : ((w2.setCell ⟨w.heap.size, 0, none⟩ (.string s)).setCell ⟨w.heap.size, 1, none⟩ (.string t)).heap[w.heap.size + 1]? = _ := (heap_setCell_other _ ⟨w.heap.size, 1, none⟩ (w.heap.size + 1) (.string t) (show w.heap.size + 1 ≠ w.heap.size by omega)).trans ((heap_setCell_other _ ⟨w.heap.size, 0, none⟩ (w.heap.size + 1) (.string s) (show w.heap.size + 1 ≠ w.heap.size by omega)).trans HB2.out)
  have hsb := set_two (.int .i64 n) (.int .i64 d) hsb0
  obtain ⟨q1, q2⟩ := two_cells hsa2
  obtain ⟨q3, q4⟩ := two_cells hsb
  refine bodyPost_ret (v := .tuple #[.agg #[.string s, .string t], .agg #[.int .i64 n, .int .i64 d]]) (by simp [q1, q2, q3, q4, results, Tryz.results55, go_sem]) rfl ⟨s, t, n, d, by omega, by omega, by omega, by omega, by omega, by omega, rfl, ?_⟩
  exact ((((below3 HG2.out).setCell (Nat.le_refl _) _).setCell (Nat.le_refl _) _).setCell (show w.heap.size ≤ w.heap.size + 1 by omega) _).setCell (show w.heap.size ≤ w.heap.size + 1 by omega) _

set_option maxRecDepth 100000 in
set_option maxHeartbeats 2000000 in
theorem drawSlopesBeside_any (c : Bts) (w : World) (h : InB w c) : Calls Tryz.prog 25 #[.slice c.a c.n c.cap] w (GivesQF w) := by
  have HA0 := Lib.hid (heap_keep (allocB (w.alloc (.cells #[.string ⟨#[]⟩, .string ⟨#[]⟩] 25 (0, 0))) (.cells #[.int .i64 0, .int .i64 0] 42 (0, 0))) (heap_alloc_at w (.cells #[.string ⟨#[]⟩, .string ⟨#[]⟩] 25 (0, 0))))
  have HB0 := Lib.hid (show ((w.alloc (.cells #[.string ⟨#[]⟩, .string ⟨#[]⟩] 25 (0, 0))).alloc (.cells #[.int .i64 0, .int .i64 0] 42 (0, 0))).heap[w.heap.size + 1]? = some (.cells #[.int .i64 0, .int .i64 0] 42 (0, 0)) from by have := heap_alloc_at (w.alloc (.cells #[.string ⟨#[]⟩, .string ⟨#[]⟩] 25 (0, 0))) (.cells #[.int .i64 0, .int .i64 0] 42 (0, 0)); rwa [show (w.alloc (.cells #[.string ⟨#[]⟩, .string ⟨#[]⟩] 25 (0, 0))).heap.size = w.heap.size + 1 by simp] at this)
  have hc := (h.keep (allocB w (.cells #[.string ⟨#[]⟩, .string ⟨#[]⟩] 25 (0, 0)))).keep (allocB (w.alloc (.cells #[.string ⟨#[]⟩, .string ⟨#[]⟩] 25 (0, 0))) (.cells #[.int .i64 0, .int .i64 0] 42 (0, 0)))
  have hb0 : Below w.heap.size w ((w.alloc (.cells #[.string ⟨#[]⟩, .string ⟨#[]⟩] 25 (0, 0))).alloc (.cells #[.int .i64 0, .int .i64 0] 42 (0, 0))) := (allocB w (.cells #[.string ⟨#[]⟩, .string ⟨#[]⟩] 25 (0, 0))).alloc (by simp) (.cells #[.int .i64 0, .int .i64 0] 42 (0, 0))
  clear h
  go_enter Tryz.func25, Tryz.ntmps25
  go_wp2_with fail
  refine (drawValueOf_any c _ hc).mono ?_; rintro e w2 ⟨s, t, n, d, hs, ht, n1, n2, d1, d2, rfl, hb⟩
  have HA2 := Lib.hid (heap_keep hb HA0.out)
  have HB2 := Lib.hid (heap_keep hb HB0.out)
  have hbw := nx hb0 hb
  clear hb hb0 hc
  obtain ⟨ra1, ra2, ra3⟩ := two_facts HA2.out
  obtain ⟨ra4, ra5⟩ := two_frozen HA2.out
  obtain ⟨rb1, rb2, rb3⟩ := two_facts HB2.out
  obtain ⟨rb4, rb5⟩ := two_frozen HB2.out
  go_wp2_with fail
  have hsa := set_two (.string s) (.string t) HA2.out
  have hsa2 : ((((w2.setCell ⟨w.heap.size, 0, none⟩ (.string s)).setCell ⟨w.heap.size, 1, none⟩ (.string t)).setCell ⟨w.heap.size + 1, 0, none⟩ (.int .i64 n)).setCell ⟨w.heap.size + 1, 1, none⟩ (.int .i64 d)).heap[w.heap.size]? = _ := (heap_setCell_other _ ⟨w.heap.size + 1, 1, none⟩ w.heap.size (.int .i64 d) (show w.heap.size ≠ w.heap.size + 1 by omega)).trans ((heap_setCell_other _ ⟨w.heap.size + 1, 0, none⟩ w.heap.size (.int .i64 n) (show w.heap.size ≠ w.heap.size + 1 by omega)).trans hsa)
  have hsb0 : ((w2.setCell ⟨w.heap.size, 0, none⟩ (.string s)).setCell ⟨w.heap.size, 1, none⟩ (.string t)).heap[w.heap.size + 1]? = _ := (heap_setCell_other _ ⟨w.heap.size, 1, none⟩ (w.heap.size + 1) (.string t) (show w.heap.size + 1 ≠ w.heap.size by omega)).trans ((heap_setCell_other _ ⟨w.heap.size, 0, none⟩ (w.heap.size + 1) (.string s) (show w.heap.size + 1 ≠ w.heap.size by omega)).trans HB2.out)
  have hsb := set_two (.int .i64 n) (.int .i64 d) hsb0
  obtain ⟨q1, q2⟩ := two_cells hsa2
  obtain ⟨q3, q4⟩ := two_cells hsb
  refine bodyPost_ret (v := .tuple #[.agg #[.string s, .string t], .agg #[.int .i64 n, .int .i64 d]]) (by simp [q1, q2, q3, q4, results, Tryz.results25, go_sem]) rfl ⟨s, t, n, d, by omega, by omega, by omega, by omega, by omega, by omega, rfl, ?_⟩
  exact ((((hbw).setCell (Nat.le_refl _) _).setCell (Nat.le_refl _) _).setCell (show w.heap.size ≤ w.heap.size + 1 by omega) _).setCell (show w.heap.size ≤ w.heap.size + 1 by omega) _

set_option maxRecDepth 100000 in
set_option maxHeartbeats 2000000 in
theorem drawOrbitOf_any (c : Bts) (w : World) (h : InB w c) : Calls Tryz.prog 28 #[.slice c.a c.n c.cap] w (GivesQFI w) := by
  have H := Lib.hid (startF (o1 := (.cells #[.string ⟨#[]⟩, .string ⟨#[]⟩] 25 (0, 0))) (o2 := (.cells #[.int .i64 0, .int .i64 0] 42 (0, 0))) h)
  have hra0 := Lib.hid (heap_keep (allocB ((w.alloc (.cells #[.string ⟨#[]⟩, .string ⟨#[]⟩] 25 (0, 0))).alloc (.cells #[.int .i64 0, .int .i64 0] 42 (0, 0))) (.cells #[.slice c.a c.n c.cap, .int .i64 0, .int .u64 0] 58 (0, 0))) (heap_keep (allocB (w.alloc (.cells #[.string ⟨#[]⟩, .string ⟨#[]⟩] 25 (0, 0))) (.cells #[.int .i64 0, .int .i64 0] 42 (0, 0))) (heap_alloc_at w (.cells #[.string ⟨#[]⟩, .string ⟨#[]⟩] 25 (0, 0)))))
  have hrb0 := Lib.hid (show (((w.alloc (.cells #[.string ⟨#[]⟩, .string ⟨#[]⟩] 25 (0, 0))).alloc (.cells #[.int .i64 0, .int .i64 0] 42 (0, 0))).alloc (.cells #[.slice c.a c.n c.cap, .int .i64 0, .int .u64 0] 58 (0, 0))).heap[w.heap.size + 1]? = some (.cells #[.int .i64 0, .int .i64 0] 42 (0, 0)) from by have := heap_keep (allocB ((w.alloc (.cells #[.string ⟨#[]⟩, .string ⟨#[]⟩] 25 (0, 0))).alloc (.cells #[.int .i64 0, .int .i64 0] 42 (0, 0))) (.cells #[.slice c.a c.n c.cap, .int .i64 0, .int .u64 0] 58 (0, 0))) (heap_alloc_at (w.alloc (.cells #[.string ⟨#[]⟩, .string ⟨#[]⟩] 25 (0, 0))) (.cells #[.int .i64 0, .int .i64 0] 42 (0, 0))); rwa [show (w.alloc (.cells #[.string ⟨#[]⟩, .string ⟨#[]⟩] 25 (0, 0))).heap.size = w.heap.size + 1 by simp] at this)
  have HG0 := Lib.hid (grown_refl (((w.alloc (.cells #[.string ⟨#[]⟩, .string ⟨#[]⟩] 25 (0, 0))).alloc (.cells #[.int .i64 0, .int .i64 0] 42 (0, 0))).alloc (.cells #[.slice c.a c.n c.cap, .int .i64 0, .int .u64 0] 58 (0, 0))) (some (w.heap.size + 2)))
  clear h
  go_enter Tryz.func28, Tryz.ntmps28
  go_wp2_with fail
  have HT0 := H
  clear H
  have HG0 := HG0
  have HA0 := hra0
  have HB0 := hrb0
  clear hra0 hrb0
  refine (drawOne_any 10 _ c 0 _ HT0.out (by omega) (by omega) (by omega)).mono ?_; rintro e w1 ⟨x, rfl, hT, hg⟩
  have HT1 := Lib.hid hT
  have HG1 := Lib.hid (grown_trans HG0.out hg)
  have HA1 := Lib.hid (grown_block hg HA0.out (by omega))
  have HB1 := Lib.hid (grown_block hg HB0.out (by omega))
  clear hT hg
  cases x with
  | true =>
    go_wp2_with fail
    refine (pairD 4 _ c _ _ HT1.out (by omega) (by omega)).mono ?_; rintro e w2 ⟨s, t, hs, ht, rfl, hT, hg⟩
    have HT2 := Lib.hid hT
    have HG2 := Lib.hid (grown_trans HG1.out hg)
    have HA2 := Lib.hid (grown_block hg HA1.out (by omega))
    have HB2 := Lib.hid (grown_block hg HB1.out (by omega))
    clear hT hg
    go_wp2_with fail
    refine (drawFraction_any 3 _ c _ _ HT2.out (by omega) (by omega)).mono ?_; rintro e w3 ⟨n, d, n1, n2, d1, d2, rfl, hT, hg⟩
    have HT3 := Lib.hid hT
    have HG3 := Lib.hid (grown_trans HG2.out hg)
    have HA3 := Lib.hid (grown_block hg HA2.out (by omega))
    have HB3 := Lib.hid (grown_block hg HB2.out (by omega))
    clear hT hg
    go_wp2_with fail
    refine (drawAmong_any [-1, 0, 20, 21] 4 _ 4 _ c _ _ (HT3.out.keep (allocB _ _)) (rowI_alloc _ [-1, 0, 20, 21] _) rfl (by have := HT3.out.lt; omega) (by omega) (by omega) (by omega)).mono ?_; rintro e w4 ⟨i, hi, rfl, hT, hg⟩
    have hi2 : -1 ≤ i ∧ i ≤ 21 := by
      simp only [List.mem_cons, List.not_mem_nil, or_false] at hi
      omega
    have HG4 := Lib.hid (grown_trans (grown_below HG3.out (allocB _ _)) hg)
    have HA4 := Lib.hid (grown_block hg (heap_keep (allocB _ _) HA3.out) (by omega))
    have HB4 := Lib.hid (grown_block hg (heap_keep (allocB _ _) HB3.out) (by omega))
    clear hT hg hi
    obtain ⟨ra1, ra2, ra3⟩ := two_facts HA4.out
    obtain ⟨ra4, ra5⟩ := two_frozen HA4.out
    obtain ⟨rb1, rb2, rb3⟩ := two_facts HB4.out
    obtain ⟨rb4, rb5⟩ := two_frozen HB4.out
    go_wp2_with fail
    have hsa := set_two (.string s) (.string t) HA4.out
    have hsa2 : ((((w4.setCell ⟨w.heap.size, 0, none⟩ (.string s)).setCell ⟨w.heap.size, 1, none⟩ (.string t)).setCell ⟨w.heap.size + 1, 0, none⟩ (.int .i64 n)).setCell ⟨w.heap.size + 1, 1, none⟩ (.int .i64 d)).heap[w.heap.size]? = _ := (heap_setCell_other _ ⟨w.heap.size + 1, 1, none⟩ w.heap.size (.int .i64 d) (show w.heap.size ≠ w.heap.size + 1 by omega)).trans ((heap_setCell_other _ ⟨w.heap.size + 1, 0, none⟩ w.heap.size (.int .i64 n) (show w.heap.size ≠ w.heap.size + 1 by omega)).trans hsa)
    have hsb0 : ((w4.setCell ⟨w.heap.size, 0, none⟩ (.string s)).setCell ⟨w.heap.size, 1, none⟩ (.string t)).heap[w.heap.size + 1]? = _ := (heap_setCell_other _ ⟨w.heap.size, 1, none⟩ (w.heap.size + 1) (.string t) (show w.heap.size + 1 ≠ w.heap.size by omega)).trans ((heap_setCell_other _ ⟨w.heap.size, 0, none⟩ (w.heap.size + 1) (.string s) (show w.heap.size + 1 ≠ w.heap.size by omega)).trans HB4.out)
    have hsb := set_two (.int .i64 n) (.int .i64 d) hsb0
    obtain ⟨q1, q2⟩ := two_cells hsa2
    obtain ⟨q3, q4⟩ := two_cells hsb
    refine bodyPost_ret (v := .tuple #[.agg #[.string s, .string t], .agg #[.int .i64 n, .int .i64 d], .int .i64 i]) (by simp [q1, q2, q3, q4, results, Tryz.results28, go_sem]) rfl ⟨s, t, n, d, i, by omega, by omega, by omega, by omega, by omega, by omega, by omega, by omega, rfl, ?_⟩
    exact ((((below3 HG4.out).setCell (Nat.le_refl _) _).setCell (Nat.le_refl _) _).setCell (show w.heap.size ≤ w.heap.size + 1 by omega) _).setCell (show w.heap.size ≤ w.heap.size + 1 by omega) _
  | false =>
    go_wp2_with fail
    refine (pairD 4 _ c _ _ HT1.out (by omega) (by omega)).mono ?_; rintro e w2 ⟨s, t, hs, ht, rfl, hT, hg⟩
    have HT2 := Lib.hid hT
    have HG2 := Lib.hid (grown_trans HG1.out hg)
    have HA2 := Lib.hid (grown_block hg HA1.out (by omega))
    have HB2 := Lib.hid (grown_block hg HB1.out (by omega))
    clear hT hg
    go_wp2_with fail
    refine (drawFraction_any 4 _ c _ _ HT2.out (by omega) (by omega)).mono ?_; rintro e w3 ⟨n, d, n1, n2, d1, d2, rfl, hT, hg⟩
    have HT3 := Lib.hid hT
    have HG3 := Lib.hid (grown_trans HG2.out hg)
    have HA3 := Lib.hid (grown_block hg HA2.out (by omega))
    have HB3 := Lib.hid (grown_block hg HB2.out (by omega))
    clear hT hg
    go_wp2_with fail
    refine (drawPick_any 6 _ c _ _ HT3.out (by omega) (by omega) (by omega)).mono ?_; rintro e w4 ⟨i, hi, rfl, hT, hg⟩
    have HT4 := Lib.hid hT
    have HG4 := Lib.hid (grown_trans HG3.out hg)
    have HA4 := Lib.hid (grown_block hg HA3.out (by omega))
    have HB4 := Lib.hid (grown_block hg HB3.out (by omega))
    clear hT hg
    obtain ⟨ra1, ra2, ra3⟩ := two_facts HA4.out
    obtain ⟨ra4, ra5⟩ := two_frozen HA4.out
    obtain ⟨rb1, rb2, rb3⟩ := two_facts HB4.out
    obtain ⟨rb4, rb5⟩ := two_frozen HB4.out
    go_wp2_with fail
    have hsa := set_two (.string s) (.string t) HA4.out
    have hsa2 : ((((w4.setCell ⟨w.heap.size, 0, none⟩ (.string s)).setCell ⟨w.heap.size, 1, none⟩ (.string t)).setCell ⟨w.heap.size + 1, 0, none⟩ (.int .i64 n)).setCell ⟨w.heap.size + 1, 1, none⟩ (.int .i64 d)).heap[w.heap.size]? = _ := (heap_setCell_other _ ⟨w.heap.size + 1, 1, none⟩ w.heap.size (.int .i64 d) (show w.heap.size ≠ w.heap.size + 1 by omega)).trans ((heap_setCell_other _ ⟨w.heap.size + 1, 0, none⟩ w.heap.size (.int .i64 n) (show w.heap.size ≠ w.heap.size + 1 by omega)).trans hsa)
    have hsb0 : ((w4.setCell ⟨w.heap.size, 0, none⟩ (.string s)).setCell ⟨w.heap.size, 1, none⟩ (.string t)).heap[w.heap.size + 1]? = _ := (heap_setCell_other _ ⟨w.heap.size, 1, none⟩ (w.heap.size + 1) (.string t) (show w.heap.size + 1 ≠ w.heap.size by omega)).trans ((heap_setCell_other _ ⟨w.heap.size, 0, none⟩ (w.heap.size + 1) (.string s) (show w.heap.size + 1 ≠ w.heap.size by omega)).trans HB4.out)
    have hsb := set_two (.int .i64 n) (.int .i64 d) hsb0
    obtain ⟨q1, q2⟩ := two_cells hsa2
    obtain ⟨q3, q4⟩ := two_cells hsb
    refine bodyPost_ret (v := .tuple #[.agg #[.string s, .string t], .agg #[.int .i64 n, .int .i64 d], .int .i64 (i : Int)]) (by simp [q1, q2, q3, q4, results, Tryz.results28, go_sem]) rfl ⟨s, t, n, d, (i : Int), by omega, by omega, by omega, by omega, by omega, by omega, by omega, by omega, rfl, ?_⟩
    exact ((((below3 HG4.out).setCell (Nat.le_refl _) _).setCell (Nat.le_refl _) _).setCell (show w.heap.size ≤ w.heap.size + 1 by omega) _).setCell (show w.heap.size ≤ w.heap.size + 1 by omega) _
end Go.Proofs.YtjmbkieocmhmiaaGreat

/-! Vm -/
namespace Go.Proofs.YtjmbkieocmhmiaaGreat

theorem valP_leaf {p : Pr} (hp : okP p) (h1 : p.1.carets ≤ 8) {s : Nat} (hs : s % 1024 = 0) : ∃ i A B, i = lastTo p.1.starts s ∧ i < p.1.carets + 1 ∧ A ≤ 8 ∧ B ≤ 8 ∧ p.1.starts.getD i 0 ≤ s ∧
    valP p s * 2 ^ B = p.2.starts.getD i 0 * 2 ^ B + (s - p.1.starts.getD i 0) * 2 ^ A ∧ (i < p.1.carets → p.1.starts.getD i 0 + 2 ^ (20 - A) = p.1.starts.getD (i + 1) 0 ∧ p.2.starts.getD i 0 + 2 ^ (20 - B) = p.2.starts.getD (i + 1) 0) ∧
    A = ((p.1.addrs ⟨#[]⟩).getD i ⟨#[]⟩).size ∧ B = ((p.2.addrs ⟨#[]⟩).getD i ⟨#[]⟩).size := by
  have hp' : p.1.carets = p.2.carets := hp
  obtain ⟨a, b, ha, hb, hi, ha8, hb8, _, _, hle, hv, _⟩ := val_facts p h1 (by omega) hp' s
  refine ⟨lastTo p.1.starts s, a.size, b.size, rfl, hi, ha8, hb8, ?_, ?_, ?_, by rw [ha], by rw [hb]⟩
  · rw [starts_at p.1 hi, ← ha]; exact hle
  · rw [starts_at p.1 hi, starts_at p.2 (by omega), ← ha, ← hb, hv]
    exact valN_exact hs (stA_thousand (by omega)) (by omega)
  · intro hlt
    have e1 := starts_next p.1 (by omega) hlt
    have e2 := starts_next p.2 (by omega) (show lastTo p.1.starts s < p.2.carets by omega)
    rw [← ha] at e1
    rw [← hb] at e2
    exact ⟨by omega, by omega⟩
theorem valP_lt {p : Pr} (hp : okP p) (h1 : p.1.carets ≤ 8) {s t : Nat} (hs : s % 1024 = 0) (ht : t % 1024 = 0) (hst : s < t) : valP p s < valP p t := by
  have hp' : p.1.carets = p.2.carets := hp
  obtain ⟨i, A, B, hi, hic, hA, hB, his, hiv, hin, eA, eB⟩ := valP_leaf hp h1 hs
  obtain ⟨j, C, D, hj, hjc, hC, hD, hjs, hjv, hjn, eC, eD⟩ := valP_leaf hp h1 ht
  have hps := (starts_place p.1 (by omega) s).2.2
  have hpt := (starts_place p.1 (by omega) t).2.2
  rw [← hi] at hps
  rw [← hj] at hpt
  clear hi hj
  have pB : 0 < 2 ^ B := Nat.pow_pos (by omega)
  have pD : 0 < 2 ^ D := Nat.pow_pos (by omega)
  have pA : 0 < 2 ^ A := Nat.pow_pos (by omega)
  rcases Nat.lt_trichotomy i j with h | h | h
  · have hlt := hps (by omega)
    obtain ⟨n1, n2⟩ := hin (by omega)
    have hW : (2 : Nat) ^ (20 - A) * 2 ^ A = 2 ^ (20 - B) * 2 ^ B := by rw [← Nat.pow_add, ← Nat.pow_add]; congr 1; omega
    have h2 : (s - p.1.starts.getD i 0) * 2 ^ A < 2 ^ (20 - B) * 2 ^ B := by rw [← hW]; exact (Nat.mul_lt_mul_right pA).2 (by omega)
    have h3 : valP p s * 2 ^ B < p.2.starts.getD (i + 1) 0 * 2 ^ B := by rw [hiv, ← n2, Nat.add_mul]; omega
    have h4 : valP p s < p.2.starts.getD (i + 1) 0 := Nat.lt_of_mul_lt_mul_right h3
    have h5 : p.2.starts.getD (i + 1) 0 ≤ p.2.starts.getD j 0 := by
      by_cases e : i + 1 = j
      · rw [e]; exact Nat.le_refl _
      · exact Nat.le_of_lt (starts_mono p.2 (by omega) (by omega) (by omega))
    have h6 : p.2.starts.getD j 0 * 2 ^ D ≤ valP p t * 2 ^ D := by rw [hjv]; exact Nat.le_add_right _ _
    have h7 := Nat.le_of_mul_le_mul_right h6 pD
    omega
  · subst h
    obtain rfl : A = C := by rw [eA, eC]
    obtain rfl : B = D := by rw [eB, eD]
    have h2 : (s - p.1.starts.getD i 0) * 2 ^ A < (t - p.1.starts.getD i 0) * 2 ^ A := (Nat.mul_lt_mul_right pA).2 (by omega)
    have h3 : valP p s * 2 ^ B < valP p t * 2 ^ B := by rw [hiv, hjv]; omega
    exact Nat.lt_of_mul_lt_mul_right h3
  · exfalso
    have h5 : p.1.starts.getD (j + 1) 0 ≤ p.1.starts.getD i 0 := by
      by_cases e : j + 1 = i
      · rw [e]; exact Nat.le_refl _
      · exact Nat.le_of_lt (starts_mono p.1 (by omega) (by omega) (by omega))
    have := hpt (by omega)
    omega
theorem steps_thousand {n d : Int} (h : isFr n d = true) : stepsOf n d % 1024 = 0 := by
  obtain ⟨h1, _, _, _⟩ := isFr_iff.1 h
  obtain ⟨k, hk, rfl⟩ := isP2_pow h1
  unfold stepsOf
  rw [Int.toNat_natCast]
  have e : (1048576 : Nat) / 2 ^ k = 2 ^ (10 - k) * 1024 := by
    have : ∀ k, k ≤ 10 → (1048576 : Nat) / 2 ^ k = 2 ^ (10 - k) * 1024 := by decide
    exact this k hk
  rw [e, ← Nat.mul_assoc, Nat.mul_mod_left]
theorem steps_frOfV {v : Nat} (h : isFr (frOf v).1 (frOf v).2 = true) : stepsOf (frOf v).1 (frOf v).2 = v :=
  frOf_inj1 (frOf_steps h)
/-- Less, by cross products, is less in steps. -/
theorem less_stepsV {n d m e : Nat} (h : isFr n d = true) (k : isFr m e = true) (hd : 0 < d) (he : 0 < e) : n * e < m * d ↔ stepsOf n d < stepsOf m e := by
  have c1 := steps_cross h
  have c2 := steps_cross k
  have e1 : (n * e) * 1048576 = stepsOf n d * (d * e) := by rw [Nat.mul_right_comm, c1, Nat.mul_assoc]
  have e2 : (m * d) * 1048576 = stepsOf m e * (d * e) := by rw [Nat.mul_right_comm, c2, Nat.mul_assoc, Nat.mul_comm e d]
  have pos : 0 < d * e := Nat.mul_pos hd he
  constructor
  · intro hlt
    refine Nat.lt_of_mul_lt_mul_right (a := d * e) ?_
    rw [← e1, ← e2]
    exact (Nat.mul_lt_mul_right (by omega)).2 hlt
  · intro hlt
    refine Nat.lt_of_mul_lt_mul_right (a := 1048576) ?_
    rw [e1, e2]
    exact (Nat.mul_lt_mul_right pos).2 hlt
/-- Each fraction of an orbit but the first is the value of the one ahead. -/
theorem orbN_get {p : Pr} {x : Nat × Nat} : ∀ {k : Nat} {l : List (Nat × Nat)}, orbN p x k = some l → l.getD 0 (0, 0) = x ∧ ∀ i, i < k → frA (valP p (stepsOf (l.getD i (0, 0)).1 (l.getD i (0, 0)).2)) = some (l.getD (i + 1) (0, 0)) := by
  intro k
  induction k with
  | zero => intro l h; injection h with h; subst h; exact ⟨rfl, fun i hi => by omega⟩
  | succ k ih =>
    intro l h
    rw [orbN] at h
    cases h1 : orbN p x k with
    | none => rw [h1] at h; simp at h
    | some m =>
      rw [h1] at h
      simp only [Option.bind_some, Option.map_eq_some_iff] at h
      obtain ⟨y, hy, rfl⟩ := h
      have hl := orbN_len h1
      obtain ⟨g0, g1⟩ := ih h1
      have getm : ∀ i, i < k + 1 → (m ++ [y]).getD i (0, 0) = m.getD i (0, 0) := by
        intro i hi
        rw [List.getD_eq_getElem?_getD, List.getD_eq_getElem?_getD, List.getElem?_append_left (by omega)]
      have gety : (m ++ [y]).getD (k + 1) (0, 0) = y := last_snoc m y hl
      refine ⟨by rw [getm 0 (by omega)]; exact g0, fun i hi => ?_⟩
      by_cases e : i = k
      · subst e
        rw [getm i (by omega), gety]
        exact hy
      · rw [getm i (by omega), getm (i + 1) (by omega)]
        exact g1 i (by omega)
theorem frA_some {v : Nat} {y : Nat × Nat} (h : frA v = some y) : isFr y.1 y.2 = true ∧ stepsOf y.1 y.2 = v ∧ y = frOf v := by
  rcases frA_cases v with ⟨h1, h2⟩ | ⟨h1, h2⟩
  · rw [h2] at h
    injection h with h
    subst h
    exact ⟨h1, steps_frOfV h1, rfl⟩
  · rw [h2] at h; cases h
/-- An orbit rises, falls or stays. -/
theorem orb_rises {p : Pr} (hp : okP p) (h1 : p.1.carets ≤ 8) {x : Nat × Nat} (hx : isFr x.1 x.2 = true) {k : Nat} {l : List (Nat × Nat)} (h : orbN p x k = some l) :
    (∀ i, i < k + 1 → isFr (l.getD i (0, 0)).1 (l.getD i (0, 0)).2 = true) ∧ ∀ i, i + 1 < k →
      (stepsOf (l.getD i (0, 0)).1 (l.getD i (0, 0)).2 < stepsOf (l.getD (i + 1) (0, 0)).1 (l.getD (i + 1) (0, 0)).2 ↔ stepsOf (l.getD (i + 1) (0, 0)).1 (l.getD (i + 1) (0, 0)).2 < stepsOf (l.getD (i + 2) (0, 0)).1 (l.getD (i + 2) (0, 0)).2) := by
  obtain ⟨g0, g1⟩ := orbN_get h
  have hall : ∀ i, i < k + 1 → isFr (l.getD i (0, 0)).1 (l.getD i (0, 0)).2 = true := by
    intro i hi
    cases i with
    | zero => rw [g0]; exact hx
    | succ i => exact (frA_some (g1 i (by omega))).1
  refine ⟨hall, fun i hi => ?_⟩
  obtain ⟨_, s1, _⟩ := frA_some (g1 i (by omega))
  obtain ⟨_, s2, _⟩ := frA_some (g1 (i + 1) (by omega))
  rw [s2]
  have m0 := steps_thousand (hall i (by omega))
  have m1 := steps_thousand (hall (i + 1) (by omega))
  generalize stepsOf (l.getD i (0, 0)).1 (l.getD i (0, 0)).2 = u0 at *
  generalize stepsOf (l.getD (i + 1) (0, 0)).1 (l.getD (i + 1) (0, 0)).2 = u1 at *
  constructor
  · intro hlt
    have := valP_lt hp h1 m0 m1 hlt
    omega
  · intro hlt
    rcases Nat.lt_trichotomy u0 u1 with e | e | e
    · exact e
    · rw [← e, ← s1, e] at hlt; omega
    · have := valP_lt hp h1 m1 m0 e
      omega
end Go.Proofs.YtjmbkieocmhmiaaGreat

/-! LwF -/
namespace Go.Proofs.YtjmbkieocmhmiaaGreat
open Go.RowKit

set_option maxRecDepth 100000 in
set_option maxHeartbeats 1000000 in
theorem fFractions_any (b1 b2 : Nat) (v1 v2 : Value) (n : Nat) (L : List Int) (w : World) (h1 : CellsW 2 b1 w v1 n L) (h2 : CellsW 2 b2 w v2 n L) (hn9 : n ≤ 1000000000) :
    Calls Tryz.prog 31 #[v1, v2] w (Quietly (.bool true) w) := by
  rcases h1 with ⟨rfl, rfl⟩ | ⟨g, cap, rfl, hb1, hg1, hc1, hm1, hx1, hf1⟩
  · rcases h2 with ⟨rfl, _⟩ | ⟨g, cap, rfl, hb1, hg1, hc1, hm1, hx1, _⟩
    all_goals
      go_enter Tryz.func31, Tryz.ntmps31
      go_wp2_with fail
      go_loopw [13] (fun i wr => i = .int .i64 0 ∧ wr = w) (fun _ _ => 0)
      case atStart => exact ⟨rfl, rfl⟩
      case round =>
        obtain ⟨rfl, rfl⟩ := hrel
        go_wp2_with fail
        go_ret
        exact ⟨rfl, 0, rfl⟩
  · rcases h2 with ⟨rfl, rfl⟩ | ⟨g2, cap2, rfl, hb2, hg2, hc2, hm2, hx2, hf2⟩
    · go_enter Tryz.func31, Tryz.ntmps31
      go_wp2_with fail
      go_loopw [13] (fun i wr => i = .int .i64 0 ∧ wr = w) (fun _ _ => 0)
      case atStart => exact ⟨rfl, rfl⟩
      case round =>
        obtain ⟨rfl, rfl⟩ := hrel
        go_wp2_with fail
        go_ret
        exact ⟨rfl, 0, rfl⟩
    · have HX1 := Lib.hid hx1
      have HX2 := Lib.hid hx2
      clear hx1 hx2 hf1 hf2
      go_enter Tryz.func31, Tryz.ntmps31
      go_wp2_with fail
      go_loopw [13] (fun i wr => ∃ k d : Nat, k ≤ n ∧ i = .int .i64 k ∧ wr = w.drewN d) (fun i _ => n - (intOf i).toNat)
      case atStart => exact ⟨0, 0, Nat.zero_le _, rfl, rfl⟩
      case round =>
        obtain ⟨k, d, hk, rfl, rfl⟩ := hrel
        by_cases hlt : k < n
        · have hlt' : (k : Int) < (n : Int) := by omega
          have c1 := HX1.out (k * 2) (by omega)
          have c2 := HX1.out (k * 2 + 1) (by omega)
          have c3 := HX2.out (k * 2) (by omega)
          have c4 := HX2.out (k * 2 + 1) (by omega)
          generalize L.getD (k * 2) 0 = x at *
          generalize L.getD (k * 2 + 1) 0 = y at *
          go_wp2_with fail
          go_quiet (fail)
          go_wp2_with fail
          go_roundw
          case rel => exact ⟨k + 1, _, by omega, by go_num, rfl⟩
          case measure => simp [intOf]; omega
        · obtain rfl : k = n := by omega
          go_wp2_with fail
          go_ret
          exact ⟨rfl, _, rfl⟩

set_option maxRecDepth 100000 in
set_option maxHeartbeats 1000000 in
theorem fLess_any (n d m e : Nat) (w : World) (hn : n ≤ 1048576) (hd : d ≤ 1048576) (hm : m ≤ 1048576) (he : e ≤ 1048576) :
    Calls Tryz.prog 33 #[.agg #[.int .i64 n, .int .i64 d], .agg #[.int .i64 m, .int .i64 e]] w (Gives (.bool (decide (n * e < m * d))) w) := by
  have p1 : n * e ≤ 1048576 * 1048576 := Nat.mul_le_mul hn he
  have p2 : m * d ≤ 1048576 * 1048576 := Nat.mul_le_mul hm hd
  have q1 : (n : Int) * (e : Int) = ((n * e : Nat) : Int) := (Int.natCast_mul n e).symm
  have q2 : (m : Int) * (d : Int) = ((m * d : Nat) : Int) := (Int.natCast_mul m d).symm
  have l1 : 0 ≤ (n : Int) * (e : Int) := by omega
  have l2 : (n : Int) * (e : Int) ≤ 1099511627776 := by omega
  have l3 : 0 ≤ (m : Int) * (d : Int) := by omega
  have l4 : (m : Int) * (d : Int) ≤ 1099511627776 := by omega
  have HQ := Lib.hid (And.intro q1 q2)
  clear q1 q2 p1 p2
  have hx := heap_keep (allocB (w.alloc (.cells #[.int .i64 n, .int .i64 d] 42 (0, 0))) (.cells #[.int .i64 m, .int .i64 e] 42 (0, 0))) (heap_alloc_at w (.cells #[.int .i64 n, .int .i64 d] 42 (0, 0)))
  have hy := heap_alloc_at (w.alloc (.cells #[.int .i64 n, .int .i64 d] 42 (0, 0))) (.cells #[.int .i64 m, .int .i64 e] 42 (0, 0))
  rw [show (w.alloc (.cells #[.int .i64 n, .int .i64 d] 42 (0, 0))).heap.size = w.heap.size + 1 by simp] at hy
  have hb := nxAlloc (nxAlloc (Below.refl w.heap.size w) (.cells #[.int .i64 n, .int .i64 d] 42 (0, 0))) (.cells #[.int .i64 m, .int .i64 e] 42 (0, 0))
  obtain ⟨f1, f2, f3⟩ := two_facts hx
  obtain ⟨g1, g2, g3⟩ := two_facts hy
  clear hx hy
  go_enter Tryz.func33, Tryz.ntmps33
  go_wp2_with fail
  refine bodyPost_ret (v := .bool (decide (n * e < m * d))) ?_ rfl ⟨rfl, hb⟩
  obtain ⟨q1, q2⟩ := HQ.out
  have : decide ((n : Int) * (e : Int) < (m : Int) * (d : Int)) = decide (n * e < m * d) := by rw [q1, q2]; congr 1; exact propext Int.ofNat_lt
  simp [results, Tryz.results33, go_sem, this]
end Go.Proofs.YtjmbkieocmhmiaaGreat
