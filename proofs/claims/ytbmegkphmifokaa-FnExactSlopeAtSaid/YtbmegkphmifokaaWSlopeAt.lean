/- The walk of laws.FnExactSlopeAt. -/
import Derived.Test.YtbmegkphmifokaaWSlopesOf
import Derived.Test.YtbmegkphmifokaaSl2
import Derived.Test.YtbmegkphmifokaaRegF
namespace Go.Proofs.Ytbmegkphmifokaa
open Go.RowKit

def ansZ (o : Option Int) : Value := .tuple #[.int .i64 (o.getD 0), .bool o.isSome]
/-- The slope at a fraction. -/
def slopeAtO (a b : ByteArray) (n d : Int) : Option Int := (pairOf a b).bind fun p => if isFr n d = true then some ((slopes p).getD (lastTo p.1.starts (stepsOf n d)) 0) else none
theorem pcs_starts (p : Pr) (he : p.1.carets = p.2.carets) : (pcs p).map (fun x => x.1) = p.1.starts := by
  have : ∀ (l m : List ByteArray), l.length = m.length → (pcsL l m).map (fun x => x.1) = l.map stA := by
    intro l
    induction l with
    | nil => intro m h; cases m <;> rfl
    | cons a l ih => intro m h; match m, h with
      | b :: m, h => simp [pcsL, ih m (by simpa using h)]
  have l1 := addrs_length p.1 ⟨#[]⟩
  have l2 := addrs_length p.2 ⟨#[]⟩
  exact this _ _ (by omega)
theorem pcs_len (p : Pr) (he : p.1.carets = p.2.carets) : (pcs p).length = p.1.carets + 1 := by
  have l1 := addrs_length p.1 ⟨#[]⟩
  have l2 := addrs_length p.2 ⟨#[]⟩
  have := pcsL_length (p.1.addrs ⟨#[]⟩) (p.2.addrs ⟨#[]⟩) (by omega)
  show (pcsL (p.1.addrs ⟨#[]⟩) (p.2.addrs ⟨#[]⟩)).length = _
  omega
theorem slopes_get (p : Pr) {k : Nat} (h : k < (pcs p).length) : (slopes p).getD k 0 = ((pcs p).getD k (0, 0, 0)).2.2 := by
  rw [← slopes_pcs]; simp [h]

set_option maxRecDepth 100000 in
set_option maxHeartbeats 4000000 in
theorem specSlopeAt_any (a b : ByteArray) (n d : Int) (w : World) (ha : a.size ≤ 9223372036854775806) (hb : b.size ≤ 9223372036854775806) (_l1 : -9223372036854775808 ≤ n) (_u1 : n ≤ 9223372036854775807) (_l2 : -9223372036854775808 ≤ d) (_u2 : d ≤ 9223372036854775807) :
    Calls Try.prog 39 #[.agg #[.string a, .string b], .agg #[.int .i64 n, .int .i64 d]] w (Gives (ansZ (slopeAtO a b n d)) w) := by
  unfold slopeAtO
  have hg := fun w => prGood_any a b w ha hb
  have hk := fun w => mpGood_any n d w
  cases h : pairOf a b with
  | none =>
    rw [h] at hg
    show Calls _ _ _ _ (Gives (ansZ none) w)
    clear h hk _l1 _u1 _l2 _u2
    go_enter Try.func39, Try.ntmps39
    go_wp2_with fail
    have hb0 : Below w.heap.size w ((w.alloc (.cells #[.string a, .string b] 45 (0, 0))).alloc (.cells #[.int .i64 n, .int .i64 d] 25 (0, 0))) := nxAlloc (nxAlloc (Below.refl _ _) _) _
    have hx0 := heap_keep (nxAlloc (Below.refl _ _) (.cells #[.int .i64 n, .int .i64 d] 25 (0, 0))) (heap_alloc_at w (.cells #[.string a, .string b] 45 (0, 0)))
    have hx1 := heap_alloc_at (w.alloc (.cells #[.string a, .string b] 45 (0, 0))) (.cells #[.int .i64 n, .int .i64 d] 25 (0, 0))
    generalize ((w.alloc (.cells #[.string a, .string b] 45 (0, 0))).alloc (.cells #[.int .i64 n, .int .i64 d] 25 (0, 0))) = w0 at *
    have e1 : (w.alloc (.cells #[.string a, .string b] 45 (0, 0))).heap.size = w.heap.size + 1 := by simp
    rw [e1] at hx1
    clear e1
    obtain ⟨hx0a, hx0b, hx0c⟩ := two_facts hx0
    obtain ⟨hx0f, hx0g⟩ := two_frozen hx0
    obtain ⟨hx1a, hx1b, hx1c⟩ := two_facts hx1
    obtain ⟨hx1f, hx1g⟩ := two_frozen hx1
    refine (hg _).mono ?_; rintro e w1 ⟨rfl, hb1⟩
    have hbw1 := nx hb0 hb1
    replace hx0 := heap_keep hb1 hx0
    replace hx1 := heap_keep hb1 hx1
    clear hx0a hx0b hx0c hx0f hx0g
    obtain ⟨hx0a, hx0b, hx0c⟩ := two_facts hx0
    obtain ⟨hx0f, hx0g⟩ := two_frozen hx0
    clear hx1a hx1b hx1c hx1f hx1g
    obtain ⟨hx1a, hx1b, hx1c⟩ := two_facts hx1
    obtain ⟨hx1f, hx1g⟩ := two_frozen hx1
    clear hb1 hb0
    go_wp2_with fail
    go_ret2
    exact ⟨rfl, hbw1⟩
  | some p =>
    rw [h] at hg
    obtain ⟨rfl, rfl, hok, hc1, hc2⟩ := pairOf_some h
    clear h
    cases k : isFr n d with
    | false =>
      rw [k] at hk
      show Calls _ _ _ _ (Gives (ansZ none) w)
      clear _l1 _u1 _l2 _u2 k
      go_enter Try.func39, Try.ntmps39
      go_wp2_with fail
      have hb0 : Below w.heap.size w ((w.alloc (.cells #[.string p.1.str, .string p.2.str] 45 (0, 0))).alloc (.cells #[.int .i64 n, .int .i64 d] 25 (0, 0))) := nxAlloc (nxAlloc (Below.refl _ _) _) _
      have hx0 := heap_keep (nxAlloc (Below.refl _ _) (.cells #[.int .i64 n, .int .i64 d] 25 (0, 0))) (heap_alloc_at w (.cells #[.string p.1.str, .string p.2.str] 45 (0, 0)))
      have hx1 := heap_alloc_at (w.alloc (.cells #[.string p.1.str, .string p.2.str] 45 (0, 0))) (.cells #[.int .i64 n, .int .i64 d] 25 (0, 0))
      generalize ((w.alloc (.cells #[.string p.1.str, .string p.2.str] 45 (0, 0))).alloc (.cells #[.int .i64 n, .int .i64 d] 25 (0, 0))) = w0 at *
      have e1 : (w.alloc (.cells #[.string p.1.str, .string p.2.str] 45 (0, 0))).heap.size = w.heap.size + 1 := by simp
      rw [e1] at hx1
      clear e1
      obtain ⟨hx0a, hx0b, hx0c⟩ := two_facts hx0
      obtain ⟨hx0f, hx0g⟩ := two_frozen hx0
      obtain ⟨hx1a, hx1b, hx1c⟩ := two_facts hx1
      obtain ⟨hx1f, hx1g⟩ := two_frozen hx1
      refine (hg _).mono ?_; rintro e w1 ⟨rfl, hb1⟩
      have hbw1 := nx hb0 hb1
      replace hx0 := heap_keep hb1 hx0
      replace hx1 := heap_keep hb1 hx1
      clear hx0a hx0b hx0c hx0f hx0g
      obtain ⟨hx0a, hx0b, hx0c⟩ := two_facts hx0
      obtain ⟨hx0f, hx0g⟩ := two_frozen hx0
      clear hx1a hx1b hx1c hx1f hx1g
      obtain ⟨hx1a, hx1b, hx1c⟩ := two_facts hx1
      obtain ⟨hx1f, hx1g⟩ := two_frozen hx1
      clear hb1 hb0
      go_wp2_with fail
      refine (hk _).mono ?_; rintro e w2 ⟨rfl, hb2⟩
      have hbw2 := nx hbw1 hb2
      replace hx0 := heap_keep hb2 hx0
      replace hx1 := heap_keep hb2 hx1
      clear hx0a hx0b hx0c hx0f hx0g
      obtain ⟨hx0a, hx0b, hx0c⟩ := two_facts hx0
      obtain ⟨hx0f, hx0g⟩ := two_frozen hx0
      clear hx1a hx1b hx1c hx1f hx1g
      obtain ⟨hx1a, hx1b, hx1c⟩ := two_facts hx1
      obtain ⟨hx1f, hx1g⟩ := two_frozen hx1
      clear hb2 hbw1
      go_wp2_with fail
      go_ret2
      exact ⟨rfl, hbw2⟩
    | true =>
      rw [k] at hk
      show Calls _ _ _ _ (Gives (ansZ (some ((slopes p).getD (lastTo p.1.starts (stepsOf n d)) 0))) w)
      clear _l1 _u1 _l2 _u2
      obtain ⟨n, d, rfl, rfl, n1, d1, d2⟩ := isFr_nats k
      have hpl := pcs_len p hok
      have hps := pcs_starts p hok
      have hlt := lastTo_lt p.1.starts (stepsOf n d) (by rw [← hps, List.length_map]; omega)
      rw [← hps, List.length_map] at hlt
      have hM := fun w => mpSlopes_any p w hc1 hc2 hok
      have hL := fun w => mpLeaf_any p.1 n d w hc1 k
      have hsl : (slopes p).length = (pcs p).length := by rw [← slopes_pcs, List.length_map]
      rw [← hsl, hps] at hlt
      have hpl0 : 0 < (slopes p).length := by omega
      have hpl9 : (slopes p).length ≤ 9 := by omega
      generalize lastTo p.1.starts (stepsOf n d) = r at *
      generalize slopes p = ps at *
      obtain ⟨m, hm⟩ : ∃ m, ps.length = m := ⟨_, rfl⟩
      have hM' : ∀ w, Calls Try.prog 63 #[.agg #[.string p.1.str, .string p.2.str]] w fun e w' => ∃ g cap : Nat, w'.cell? ⟨g, r, none⟩ = some (.int .i64 (ps.getD r 0)) ∧ m ≤ cap ∧ cap ≤ maxLen ∧ Below w.heap.size w w' ∧ e = .returned (.slice (some ⟨g, 0, none⟩) m cap) := by
        intro w
        refine (hM w).mono ?_
        rintro e w' ⟨v, own, hb, rfl⟩
        rcases own.cells with ⟨_, h0⟩ | ⟨g, cap, rfl, _, hg, h1, h2, h3, _⟩
        · rw [h0] at hpl0; simp at hpl0
        · rw [hm] at h1 ⊢
          exact ⟨g, cap, h3 r hlt, h1, h2, hb, rfl⟩
      generalize ps.getD r 0 = q at *
      rw [hm] at hlt
      have hlt' : (r : Int) < (m : Int) := by omega
      clear hM hps hpl hsl k hm hpl9 hpl0
      go_enter Try.func39, Try.ntmps39
      go_wp2_with fail
      have hb0 : Below w.heap.size w ((w.alloc (.cells #[.string p.1.str, .string p.2.str] 45 (0, 0))).alloc (.cells #[.int .i64 n, .int .i64 d] 25 (0, 0))) := nxAlloc (nxAlloc (Below.refl _ _) _) _
      have hx0 := heap_keep (nxAlloc (Below.refl _ _) (.cells #[.int .i64 n, .int .i64 d] 25 (0, 0))) (heap_alloc_at w (.cells #[.string p.1.str, .string p.2.str] 45 (0, 0)))
      have hx1 := heap_alloc_at (w.alloc (.cells #[.string p.1.str, .string p.2.str] 45 (0, 0))) (.cells #[.int .i64 n, .int .i64 d] 25 (0, 0))
      generalize ((w.alloc (.cells #[.string p.1.str, .string p.2.str] 45 (0, 0))).alloc (.cells #[.int .i64 n, .int .i64 d] 25 (0, 0))) = w0 at *
      have e1 : (w.alloc (.cells #[.string p.1.str, .string p.2.str] 45 (0, 0))).heap.size = w.heap.size + 1 := by simp
      rw [e1] at hx1
      clear e1
      obtain ⟨hx0a, hx0b, hx0c⟩ := two_facts hx0
      obtain ⟨hx0f, hx0g⟩ := two_frozen hx0
      obtain ⟨hx1a, hx1b, hx1c⟩ := two_facts hx1
      obtain ⟨hx1f, hx1g⟩ := two_frozen hx1
      refine (hg _).mono ?_; rintro e w1 ⟨rfl, hb1⟩
      have hbw1 := nx hb0 hb1
      replace hx0 := heap_keep hb1 hx0
      replace hx1 := heap_keep hb1 hx1
      clear hx0a hx0b hx0c hx0f hx0g
      obtain ⟨hx0a, hx0b, hx0c⟩ := two_facts hx0
      obtain ⟨hx0f, hx0g⟩ := two_frozen hx0
      clear hx1a hx1b hx1c hx1f hx1g
      obtain ⟨hx1a, hx1b, hx1c⟩ := two_facts hx1
      obtain ⟨hx1f, hx1g⟩ := two_frozen hx1
      clear hb1 hb0
      go_wp2_with fail
      refine (hk _).mono ?_; rintro e w2 ⟨rfl, hb2⟩
      have hbw2 := nx hbw1 hb2
      replace hx0 := heap_keep hb2 hx0
      replace hx1 := heap_keep hb2 hx1
      clear hx0a hx0b hx0c hx0f hx0g
      obtain ⟨hx0a, hx0b, hx0c⟩ := two_facts hx0
      obtain ⟨hx0f, hx0g⟩ := two_frozen hx0
      clear hx1a hx1b hx1c hx1f hx1g
      obtain ⟨hx1a, hx1b, hx1c⟩ := two_facts hx1
      obtain ⟨hx1f, hx1g⟩ := two_frozen hx1
      clear hb2 hbw1
      go_wp2_with fail
      have hz := Below.refl w2.heap.size w2
      go_region_with (first
          | (go_at_call 63; refine (hM' _).mono ?_; rintro e w3 ⟨g, cap, hcl, m1, m2, hb3, rfl⟩; have hb3' := nx hz.drew hb3; obtain ⟨ka0, ka1, ka2, ka3⟩ := And.intro (keep_cell hb3' hx0a) (And.intro (keep_cell hb3' hx0b) (And.intro (keep_cell hb3' hx1a) (keep_cell hb3' hx1b))))
          | (go_at_call 53; refine (hL _).mono ?_; rintro e w4 ⟨rfl, hb4⟩; have hb4' := nx hb3' hb4; have hcl4 := keep_cell hb4 hcl))
      all_goals go_wp2_with fail
      all_goals go_ret2
      all_goals exact ⟨rfl, nx hbw2 hb4'⟩

set_option maxRecDepth 100000 in
set_option maxHeartbeats 4000000 in
theorem implSlopeAt_any (a b : ByteArray) (n d : Int) (w : World) (ha : a.size ≤ 9223372036854775806) (hb : b.size ≤ 9223372036854775806) (_l1 : -9223372036854775808 ≤ n) (_u1 : n ≤ 9223372036854775807) (_l2 : -9223372036854775808 ≤ d) (_u2 : d ≤ 9223372036854775807) :
    Calls Try.prog 40 #[.agg #[.string a, .string b], .agg #[.int .i64 n, .int .i64 d]] w (Gives (ansZ (slopeAtO a b n d)) w) := by
  unfold slopeAtO
  have hg := fun w => isPair_any a b w ha hb
  have hk := fun w => isFraction_any n d w
  cases h : pairOf a b with
  | none =>
    rw [h] at hg
    show Calls _ _ _ _ (Gives (ansZ none) w)
    clear h hk _l1 _u1 _l2 _u2
    go_enter Try.func40, Try.ntmps40
    go_wp2_with fail
    have hb0 : Below w.heap.size w ((w.alloc (.cells #[.string a, .string b] 45 (0, 0))).alloc (.cells #[.int .i64 n, .int .i64 d] 25 (0, 0))) := nxAlloc (nxAlloc (Below.refl _ _) _) _
    have hx0 := heap_keep (nxAlloc (Below.refl _ _) (.cells #[.int .i64 n, .int .i64 d] 25 (0, 0))) (heap_alloc_at w (.cells #[.string a, .string b] 45 (0, 0)))
    have hx1 := heap_alloc_at (w.alloc (.cells #[.string a, .string b] 45 (0, 0))) (.cells #[.int .i64 n, .int .i64 d] 25 (0, 0))
    generalize ((w.alloc (.cells #[.string a, .string b] 45 (0, 0))).alloc (.cells #[.int .i64 n, .int .i64 d] 25 (0, 0))) = w0 at *
    have e1 : (w.alloc (.cells #[.string a, .string b] 45 (0, 0))).heap.size = w.heap.size + 1 := by simp
    rw [e1] at hx1
    clear e1
    obtain ⟨hx0a, hx0b, hx0c⟩ := two_facts hx0
    obtain ⟨hx0f, hx0g⟩ := two_frozen hx0
    obtain ⟨hx1a, hx1b, hx1c⟩ := two_facts hx1
    obtain ⟨hx1f, hx1g⟩ := two_frozen hx1
    refine (hg _).mono ?_; rintro e w1 ⟨rfl, hb1⟩
    have hbw1 := nx hb0 hb1
    replace hx0 := heap_keep hb1 hx0
    replace hx1 := heap_keep hb1 hx1
    clear hx0a hx0b hx0c hx0f hx0g
    obtain ⟨hx0a, hx0b, hx0c⟩ := two_facts hx0
    obtain ⟨hx0f, hx0g⟩ := two_frozen hx0
    clear hx1a hx1b hx1c hx1f hx1g
    obtain ⟨hx1a, hx1b, hx1c⟩ := two_facts hx1
    obtain ⟨hx1f, hx1g⟩ := two_frozen hx1
    clear hb1 hb0
    go_wp2_with fail
    go_ret2
    exact ⟨rfl, hbw1⟩
  | some p =>
    rw [h] at hg
    obtain ⟨rfl, rfl, hok, hc1, hc2⟩ := pairOf_some h
    clear h
    cases k : isFr n d with
    | false =>
      rw [k] at hk
      show Calls _ _ _ _ (Gives (ansZ none) w)
      clear _l1 _u1 _l2 _u2 k
      go_enter Try.func40, Try.ntmps40
      go_wp2_with fail
      have hb0 : Below w.heap.size w ((w.alloc (.cells #[.string p.1.str, .string p.2.str] 45 (0, 0))).alloc (.cells #[.int .i64 n, .int .i64 d] 25 (0, 0))) := nxAlloc (nxAlloc (Below.refl _ _) _) _
      have hx0 := heap_keep (nxAlloc (Below.refl _ _) (.cells #[.int .i64 n, .int .i64 d] 25 (0, 0))) (heap_alloc_at w (.cells #[.string p.1.str, .string p.2.str] 45 (0, 0)))
      have hx1 := heap_alloc_at (w.alloc (.cells #[.string p.1.str, .string p.2.str] 45 (0, 0))) (.cells #[.int .i64 n, .int .i64 d] 25 (0, 0))
      generalize ((w.alloc (.cells #[.string p.1.str, .string p.2.str] 45 (0, 0))).alloc (.cells #[.int .i64 n, .int .i64 d] 25 (0, 0))) = w0 at *
      have e1 : (w.alloc (.cells #[.string p.1.str, .string p.2.str] 45 (0, 0))).heap.size = w.heap.size + 1 := by simp
      rw [e1] at hx1
      clear e1
      obtain ⟨hx0a, hx0b, hx0c⟩ := two_facts hx0
      obtain ⟨hx0f, hx0g⟩ := two_frozen hx0
      obtain ⟨hx1a, hx1b, hx1c⟩ := two_facts hx1
      obtain ⟨hx1f, hx1g⟩ := two_frozen hx1
      refine (hg _).mono ?_; rintro e w1 ⟨rfl, hb1⟩
      have hbw1 := nx hb0 hb1
      replace hx0 := heap_keep hb1 hx0
      replace hx1 := heap_keep hb1 hx1
      clear hx0a hx0b hx0c hx0f hx0g
      obtain ⟨hx0a, hx0b, hx0c⟩ := two_facts hx0
      obtain ⟨hx0f, hx0g⟩ := two_frozen hx0
      clear hx1a hx1b hx1c hx1f hx1g
      obtain ⟨hx1a, hx1b, hx1c⟩ := two_facts hx1
      obtain ⟨hx1f, hx1g⟩ := two_frozen hx1
      clear hb1 hb0
      go_wp2_with fail
      refine (hk _).mono ?_; rintro e w2 ⟨rfl, hb2⟩
      have hbw2 := nx hbw1 hb2
      replace hx0 := heap_keep hb2 hx0
      replace hx1 := heap_keep hb2 hx1
      clear hx0a hx0b hx0c hx0f hx0g
      obtain ⟨hx0a, hx0b, hx0c⟩ := two_facts hx0
      obtain ⟨hx0f, hx0g⟩ := two_frozen hx0
      clear hx1a hx1b hx1c hx1f hx1g
      obtain ⟨hx1a, hx1b, hx1c⟩ := two_facts hx1
      obtain ⟨hx1f, hx1g⟩ := two_frozen hx1
      clear hb2 hbw1
      go_wp2_with fail
      go_ret2
      exact ⟨rfl, hbw2⟩
    | true =>
      rw [k] at hk
      show Calls _ _ _ _ (Gives (ansZ (some ((slopes p).getD (lastTo p.1.starts (stepsOf n d)) 0))) w)
      clear _l1 _u1 _l2 _u2
      obtain ⟨n, d, rfl, rfl, n1, d1, d2⟩ := isFr_nats k
      have hpl := pcs_len p hok
      have hps := pcs_starts p hok
      have hlt := lastTo_lt p.1.starts (stepsOf n d) (by rw [← hps, List.length_map]; omega)
      rw [← hps, List.length_map] at hlt
      rw [slopes_get p (by rw [← hps]; exact hlt)]
      have hs := fun w => steps_any n d w k
      have hM := fun w => leafPieces_any p w hc1 hc2 hok
      have hpl9 : (pcs p).length ≤ 9 := by omega
      have hpl0 : 0 < (pcs p).length := by omega
      rw [← hps]
      generalize stepsOf n d = s at *
      generalize pcs p = ps at *
      obtain ⟨m, hm⟩ : ∃ m, ps.length = m := ⟨_, rfl⟩
      have hM' : ∀ w, Calls Try.prog 61 #[.agg #[.string p.1.str, .string p.2.str]] w fun e w' => ∃ g cap : Nat, g < w'.heap.size ∧ m ≤ cap ∧ cap ≤ maxLen ∧ (∀ i, i < m * 3 → w'.cell? ⟨g, i, none⟩ = some (.int .i64 ((flatP ps).getD i 0))) ∧ Below w.heap.size w w' ∧ e = .returned (.slice (some ⟨g, 0, none⟩) m cap) := by
        intro w
        refine (hM w).mono ?_
        rintro e w' ⟨v, own, hb, rfl⟩
        rcases own.cells with ⟨_, h0⟩ | ⟨g, cap, rfl, _, hg, h1, h2, h3, _⟩
        · omega
        · rw [hm] at h1 h3 ⊢
          exact ⟨g, cap, hg, h1, h2, h3, hb, rfl⟩
      have hP := fun g cap w hg h1 h2 h3 => pieceAt_any g cap ps m s w hm (by omega) (by omega) hg h1 h2 h3
      generalize ps.getD (lastTo (ps.map fun x => x.1) s) (0, 0, 0) = q at *
      generalize q.1 = x at *
      generalize q.2.1 = y at *
      generalize q.2.2 = z at *
      have hfld : ∀ w, (Instr.field 78 (.agg #[.int .i64 (x : Int), .int .i64 (y : Int), .int .i64 z]) 2).run Try.prog w = .ok (.int .i64 z) w := fun _ => by kernel_rfl
      clear hM hps hpl hlt k hm hpl9 hpl0
      go_enter Try.func40, Try.ntmps40
      go_wp2_with fail
      have hb0 : Below w.heap.size w ((w.alloc (.cells #[.string p.1.str, .string p.2.str] 45 (0, 0))).alloc (.cells #[.int .i64 n, .int .i64 d] 25 (0, 0))) := nxAlloc (nxAlloc (Below.refl _ _) _) _
      have hx0 := heap_keep (nxAlloc (Below.refl _ _) (.cells #[.int .i64 n, .int .i64 d] 25 (0, 0))) (heap_alloc_at w (.cells #[.string p.1.str, .string p.2.str] 45 (0, 0)))
      have hx1 := heap_alloc_at (w.alloc (.cells #[.string p.1.str, .string p.2.str] 45 (0, 0))) (.cells #[.int .i64 n, .int .i64 d] 25 (0, 0))
      generalize ((w.alloc (.cells #[.string p.1.str, .string p.2.str] 45 (0, 0))).alloc (.cells #[.int .i64 n, .int .i64 d] 25 (0, 0))) = w0 at *
      have e1 : (w.alloc (.cells #[.string p.1.str, .string p.2.str] 45 (0, 0))).heap.size = w.heap.size + 1 := by simp
      rw [e1] at hx1
      clear e1
      obtain ⟨hx0a, hx0b, hx0c⟩ := two_facts hx0
      obtain ⟨hx0f, hx0g⟩ := two_frozen hx0
      obtain ⟨hx1a, hx1b, hx1c⟩ := two_facts hx1
      obtain ⟨hx1f, hx1g⟩ := two_frozen hx1
      refine (hg _).mono ?_; rintro e w1 ⟨rfl, hb1⟩
      have hbw1 := nx hb0 hb1
      replace hx0 := heap_keep hb1 hx0
      replace hx1 := heap_keep hb1 hx1
      clear hx0a hx0b hx0c hx0f hx0g
      obtain ⟨hx0a, hx0b, hx0c⟩ := two_facts hx0
      obtain ⟨hx0f, hx0g⟩ := two_frozen hx0
      clear hx1a hx1b hx1c hx1f hx1g
      obtain ⟨hx1a, hx1b, hx1c⟩ := two_facts hx1
      obtain ⟨hx1f, hx1g⟩ := two_frozen hx1
      clear hb1 hb0
      go_wp2_with fail
      refine (hk _).mono ?_; rintro e w2 ⟨rfl, hb2⟩
      have hbw2 := nx hbw1 hb2
      replace hx0 := heap_keep hb2 hx0
      replace hx1 := heap_keep hb2 hx1
      clear hx0a hx0b hx0c hx0f hx0g
      obtain ⟨hx0a, hx0b, hx0c⟩ := two_facts hx0
      obtain ⟨hx0f, hx0g⟩ := two_frozen hx0
      clear hx1a hx1b hx1c hx1f hx1g
      obtain ⟨hx1a, hx1b, hx1c⟩ := two_facts hx1
      obtain ⟨hx1f, hx1g⟩ := two_frozen hx1
      clear hb2 hbw1
      go_wp2_with fail
      have hz := Below.refl w2.heap.size w2
      go_region_held3 (fun w' => w'.cell? ⟨w.heap.size, 0, none⟩ = some (.string p.1.str) ∧ w'.cell? ⟨w.heap.size, 1, none⟩ = some (.string p.2.str) ∧ w'.cell? ⟨w.heap.size + 1, 0, none⟩ = some (.int .i64 n) ∧ w'.cell? ⟨w.heap.size + 1, 1, none⟩ = some (.int .i64 d))
        (first
          | exact ⟨hx0a, hx0b, hx1a, hx1b⟩
          | exact K1
          | exact K2
          | exact K3)
        (first
          | (go_at_call 61; refine (hM' _).mono ?_; rintro e w3 ⟨g, cap, hg3, m1, m2, hcl, hb3, rfl⟩; have hb3' := nx hz.drew hb3; have K1 := And.intro (keep_cell hb3' hx0a) (And.intro (keep_cell hb3' hx0b) (And.intro (keep_cell hb3' hx1a) (keep_cell hb3' hx1b))))
          | (go_at_call 47; refine (hs _).mono ?_; rintro e w4 ⟨rfl, hb4⟩; have hb4' := nx hb3' hb4; have K2 := And.intro (keep_cell hb4' hx0a) (And.intro (keep_cell hb4' hx0b) (And.intro (keep_cell hb4' hx1a) (keep_cell hb4' hx1b))); have hcl4 := fun i (hi : i < m * 3) => keep_cell hb4 (hcl i hi); have hg4 := Nat.lt_of_lt_of_le hg3 hb4.size; have hP' := hP g cap w4 hg4 m1 m2 hcl4)
          | (go_at_call 60; refine hP'.mono ?_; rintro e w5 ⟨rfl, hb5⟩; have hb5' := nx hb4' hb5; have K3 := And.intro (keep_cell hb5' hx0a) (And.intro (keep_cell hb5' hx0b) (And.intro (keep_cell hb5' hx1a) (keep_cell hb5' hx1b)))))
      go_wp2_with fail
      go_ret2
      exact ⟨rfl, nx hbw2 hb5'⟩

set_option maxRecDepth 100000 in
set_option maxHeartbeats 1000000 in
theorem fnExactSlopeAt_walk (a0 : ByteArray) (ha0 : a0.size ≤ maxLen) (b0 : ByteArray) (hb0 : b0.size ≤ maxLen) (n1 : Int) (hn1 : (Lit.int .i64 n1).wf = true) (d1 : Int) (hd1 : (Lit.int .i64 d1).wf = true) (w : World) :
    Calls Try.prog 11 #[.agg #[.string a0, .string b0], .agg #[.int .i64 n1, .int .i64 d1]] w fun e w' => e = .returned (.bool true) ∧ Below w.heap.size w w' := by
  unfold maxLen at ha0 hb0
  obtain ⟨lon1, hin1⟩ := i64_bounds hn1
  obtain ⟨lod1, hid1⟩ := i64_bounds hd1
  have hsz0 := fun w => szPair_any a0 b0 w (by omega) (by omega) 1048576 (by omega) (by omega)
  by_cases hz0 : (a0.size : Int) + b0.size ≤ 1048576
  rotate_left
  · simp only [if_neg hz0] at hsz0
    go_enter Try.func11, Try.ntmps11
    go_wp2_with fail
    have hb0 : Below w.heap.size w ((w.alloc (.cells #[.string a0, .string b0] 41 (0, 0))).alloc (.cells #[.int .i64 n1, .int .i64 d1] 23 (0, 0))) := nxAlloc (nxAlloc (Below.refl _ _) _) _
    have hx0 := heap_keep (nxAlloc (Below.refl _ _) (.cells #[.int .i64 n1, .int .i64 d1] 23 (0, 0))) (heap_alloc_at w (.cells #[.string a0, .string b0] 41 (0, 0)))
    have hx1 := heap_alloc_at (w.alloc (.cells #[.string a0, .string b0] 41 (0, 0))) (.cells #[.int .i64 n1, .int .i64 d1] 23 (0, 0))
    generalize ((w.alloc (.cells #[.string a0, .string b0] 41 (0, 0))).alloc (.cells #[.int .i64 n1, .int .i64 d1] 23 (0, 0))) = w0 at *
    have e1 : (w.alloc (.cells #[.string a0, .string b0] 41 (0, 0))).heap.size = w.heap.size + 1 := by simp
    rw [e1] at hx1
    clear e1
    obtain ⟨ka0, kb0, kc0⟩ := two_facts hx0
    obtain ⟨ka1, kb1, kc1⟩ := two_facts hx1
    refine (hsz0 _).mono ?_; rintro e w1 ⟨rfl, hb1⟩
    have hbw1 := nx hb0 hb1
    replace hx0 := heap_keep hb1 hx0
    clear ka0 kb0 kc0
    obtain ⟨ka0, kb0, kc0⟩ := two_facts hx0
    replace hx1 := heap_keep hb1 hx1
    clear ka1 kb1 kc1
    obtain ⟨ka1, kb1, kc1⟩ := two_facts hx1
    clear hb1 hb0
    go_wp2_with fail
    go_ret
    exact ⟨rfl, hbw1⟩
  simp only [if_pos hz0] at hsz0
  have hS := fun w => specSlopeAt_any a0 b0 n1 d1 w (by omega) (by omega) lon1 hin1 lod1 hid1
  have hI := fun w => implSlopeAt_any a0 b0 n1 d1 w (by omega) (by omega) lon1 hin1 lod1 hid1
  have hS' : ∀ w, Calls Try.prog 39 #[.agg #[.string a0, .string b0], .agg #[.int .i64 n1, .int .i64 d1]] w (Gives (ansZ (slopeAtO a0 b0 n1 d1)) w) := hS
  have hI' : ∀ w, Calls Try.prog 40 #[.agg #[.string a0, .string b0], .agg #[.int .i64 n1, .int .i64 d1]] w (Gives (ansZ (slopeAtO a0 b0 n1 d1)) w) := hI
  clear hS hI
  generalize (slopeAtO a0 b0 n1 d1) = o at hS' hI'
  unfold ansZ at hS' hI'
  go_enter Try.func11, Try.ntmps11
  go_wp2_with fail
  have hb0 : Below w.heap.size w ((w.alloc (.cells #[.string a0, .string b0] 41 (0, 0))).alloc (.cells #[.int .i64 n1, .int .i64 d1] 23 (0, 0))) := nxAlloc (nxAlloc (Below.refl _ _) _) _
  have hx0 := heap_keep (nxAlloc (Below.refl _ _) (.cells #[.int .i64 n1, .int .i64 d1] 23 (0, 0))) (heap_alloc_at w (.cells #[.string a0, .string b0] 41 (0, 0)))
  have hx1 := heap_alloc_at (w.alloc (.cells #[.string a0, .string b0] 41 (0, 0))) (.cells #[.int .i64 n1, .int .i64 d1] 23 (0, 0))
  generalize ((w.alloc (.cells #[.string a0, .string b0] 41 (0, 0))).alloc (.cells #[.int .i64 n1, .int .i64 d1] 23 (0, 0))) = w0 at *
  have e1 : (w.alloc (.cells #[.string a0, .string b0] 41 (0, 0))).heap.size = w.heap.size + 1 := by simp
  rw [e1] at hx1
  clear e1
  obtain ⟨ka0, kb0, kc0⟩ := two_facts hx0
  obtain ⟨ka1, kb1, kc1⟩ := two_facts hx1
  refine (hsz0 _).mono ?_; rintro e w1 ⟨rfl, hb1⟩
  have hbw1 := nx hb0 hb1
  replace hx0 := heap_keep hb1 hx0
  clear ka0 kb0 kc0
  obtain ⟨ka0, kb0, kc0⟩ := two_facts hx0
  replace hx1 := heap_keep hb1 hx1
  clear ka1 kb1 kc1
  obtain ⟨ka1, kb1, kc1⟩ := two_facts hx1
  clear hb1 hb0
  go_wp2_with fail
  refine wp_region_cls (by kernel_rfl) (by kernel_rfl) ?_
  repeat (
    refine wpQuiet_step (fun K hK => ?_)
    go_simp
    first
      | (refine hK _ ?_; clear hK K)
      | (refine ⟨_, fun _ _ => rfl, hK _ ?_⟩; clear hK K)
      | (apply Exists.intro
         refine ⟨fun w' hw' => ?_, hK _ ?_⟩
         · first
             | (go_at_call 27; exact hw'.call (toPair_any a0 b0 _))
             | (go_at_call 14; exact hw'.call (toFraction_any n1 d1 _))
             | (go_at_call 39; exact hw'.call (hS' _))
             | (rw [hw'.cell kc0 ka0]; dsimp only [Result.andThen]; rw [hw'.cell kc0 kb0]; exact ⟨rfl, rfl⟩)
             | (rw [hw'.cell kc1 ka1]; dsimp only [Result.andThen]; rw [hw'.cell kc1 kb1]; exact ⟨rfl, rfl⟩)
         clear hK K))
  refine wpQuiet_nil ?_
  intro w' hw'
  have hbw2 := nx hbw1 hw'
  replace hx0 := heap_keep hw' hx0
  clear ka0 kb0 kc0
  obtain ⟨ka0, kb0, kc0⟩ := two_facts hx0
  replace hx1 := heap_keep hw' hx1
  clear ka1 kb1 kc1
  obtain ⟨ka1, kb1, kc1⟩ := two_facts hx1
  clear hw' hbw1
  generalize w' = w2 at *
  go_wp2_with fail
  refine wp_region_cls (by kernel_rfl) (by kernel_rfl) ?_
  repeat (
    refine wpQuiet_step (fun K hK => ?_)
    go_simp
    first
      | (refine hK _ ?_; clear hK K)
      | (refine ⟨_, fun _ _ => rfl, hK _ ?_⟩; clear hK K)
      | (apply Exists.intro
         refine ⟨fun w' hw' => ?_, hK _ ?_⟩
         · first
             | (go_at_call 27; exact hw'.call (toPair_any a0 b0 _))
             | (go_at_call 14; exact hw'.call (toFraction_any n1 d1 _))
             | (go_at_call 40; exact hw'.call (hI' _))
             | (rw [hw'.cell kc0 ka0]; dsimp only [Result.andThen]; rw [hw'.cell kc0 kb0]; exact ⟨rfl, rfl⟩)
             | (rw [hw'.cell kc1 ka1]; dsimp only [Result.andThen]; rw [hw'.cell kc1 kb1]; exact ⟨rfl, rfl⟩)
         clear hK K))
  refine wpQuiet_nil ?_
  intro w' hw'
  have hbw3 := nx hbw2 hw'
  replace hx0 := heap_keep hw' hx0
  clear ka0 kb0 kc0
  obtain ⟨ka0, kb0, kc0⟩ := two_facts hx0
  replace hx1 := heap_keep hw' hx1
  clear ka1 kb1 kc1
  obtain ⟨ka1, kb1, kc1⟩ := two_facts hx1
  clear hw' hbw2
  generalize w' = w3 at *
  go_wp2_with fail
  go_ret
  exact ⟨rfl, hbw3⟩
end Go.Proofs.Ytbmegkphmifokaa
