/- Texts that the claim needs, part 4. -/
import Derived.Test.YteflpaebckichabMgReducedAreUnique2
/-! WAreSamePairs -/
namespace Go.Proofs.Yteflpaebckichab
open Go.RowKit

/-- Do both pairs have the same reduced one? -/
noncomputable def sameB (p q : Pr) : Bool := @decide (red p = red q) (Classical.propDecidable _)

set_option maxRecDepth 100000 in
set_option maxHeartbeats 2000000 in
theorem specAreSamePairs_any (a b c d : ByteArray) (w : World) (ha : a.size ≤ 9223372036854775806) (hb : b.size ≤ 9223372036854775806) (hc : c.size ≤ 9223372036854775806) (hd : d.size ≤ 9223372036854775806) :
    Calls Try.prog 71 #[.agg #[.string a, .string b], .agg #[.string c, .string d]] w (Gives (ansB ((pairOf a b).bind fun p => (pairOf c d).bind fun q => some (sameB p q))) w) := by
  have hg := fun w => prGood_any a b w ha hb
  have hk := fun w => prGood_any c d w hc hd
  cases h : pairOf a b with
  | none =>
    rw [h] at hg
    clear h hk
    go_enter Try.func71, Try.ntmps71
    go_wp2_with fail
    have hb0 : Below w.heap.size w ((w.alloc (.cells #[.string a, .string b] 59 (0, 0))).alloc (.cells #[.string c, .string d] 59 (0, 0))) := nxAlloc (nxAlloc (Below.refl _ _) _) _
    have hx0 := heap_keep (nxAlloc (Below.refl _ _) (.cells #[.string c, .string d] 59 (0, 0))) (heap_alloc_at w (.cells #[.string a, .string b] 59 (0, 0)))
    have hx1 := heap_alloc_at (w.alloc (.cells #[.string a, .string b] 59 (0, 0))) (.cells #[.string c, .string d] 59 (0, 0))
    generalize ((w.alloc (.cells #[.string a, .string b] 59 (0, 0))).alloc (.cells #[.string c, .string d] 59 (0, 0))) = w0 at *
    have e1 : (w.alloc (.cells #[.string a, .string b] 59 (0, 0))).heap.size = w.heap.size + 1 := by simp
    rw [e1] at hx1
    clear e1
    obtain ⟨hx0a, hx0b, hx0c⟩ := two_facts hx0
    obtain ⟨hx0f, hx0g⟩ := two_frozen hx0
    obtain ⟨hx1a, hx1b, hx1c⟩ := two_facts hx1
    obtain ⟨hx1f, hx1g⟩ := two_frozen hx1
    refine (hg _).mono ?_; rintro e w1 ⟨rfl, hb1⟩
    have hbw1 := nx hb0 hb1
    replace hx0 := heap_keep hb1 hx0
    replace hx1 := heap_keep hb1 hx1
    clear hx0a hx0b hx0c hx0f hx0g
    obtain ⟨hx0a, hx0b, hx0c⟩ := two_facts hx0
    obtain ⟨hx0f, hx0g⟩ := two_frozen hx0
    clear hx1a hx1b hx1c hx1f hx1g
    obtain ⟨hx1a, hx1b, hx1c⟩ := two_facts hx1
    obtain ⟨hx1f, hx1g⟩ := two_frozen hx1
    clear hb1 hb0
    go_wp2_with fail
    go_ret2
    exact ⟨rfl, hbw1⟩
  | some p =>
    rw [h] at hg
    obtain ⟨rfl, rfl, hok1, hp1, hp2⟩ := pairOf_some h
    clear h
    cases k : pairOf c d with
    | none =>
      rw [k] at hk
      clear k
      go_enter Try.func71, Try.ntmps71
      go_wp2_with fail
      have hb0 : Below w.heap.size w ((w.alloc (.cells #[.string p.1.str, .string p.2.str] 59 (0, 0))).alloc (.cells #[.string c, .string d] 59 (0, 0))) := nxAlloc (nxAlloc (Below.refl _ _) _) _
      have hx0 := heap_keep (nxAlloc (Below.refl _ _) (.cells #[.string c, .string d] 59 (0, 0))) (heap_alloc_at w (.cells #[.string p.1.str, .string p.2.str] 59 (0, 0)))
      have hx1 := heap_alloc_at (w.alloc (.cells #[.string p.1.str, .string p.2.str] 59 (0, 0))) (.cells #[.string c, .string d] 59 (0, 0))
      generalize ((w.alloc (.cells #[.string p.1.str, .string p.2.str] 59 (0, 0))).alloc (.cells #[.string c, .string d] 59 (0, 0))) = w0 at *
      have e1 : (w.alloc (.cells #[.string p.1.str, .string p.2.str] 59 (0, 0))).heap.size = w.heap.size + 1 := by simp
      rw [e1] at hx1
      clear e1
      obtain ⟨hx0a, hx0b, hx0c⟩ := two_facts hx0
      obtain ⟨hx0f, hx0g⟩ := two_frozen hx0
      obtain ⟨hx1a, hx1b, hx1c⟩ := two_facts hx1
      obtain ⟨hx1f, hx1g⟩ := two_frozen hx1
      refine (hg _).mono ?_; rintro e w1 ⟨rfl, hb1⟩
      have hbw1 := nx hb0 hb1
      replace hx0 := heap_keep hb1 hx0
      replace hx1 := heap_keep hb1 hx1
      clear hx0a hx0b hx0c hx0f hx0g
      obtain ⟨hx0a, hx0b, hx0c⟩ := two_facts hx0
      obtain ⟨hx0f, hx0g⟩ := two_frozen hx0
      clear hx1a hx1b hx1c hx1f hx1g
      obtain ⟨hx1a, hx1b, hx1c⟩ := two_facts hx1
      obtain ⟨hx1f, hx1g⟩ := two_frozen hx1
      clear hb1 hb0
      go_wp2_with fail
      refine (hk _).mono ?_; rintro e w2 ⟨rfl, hb2⟩
      have hbw2 := nx hbw1 hb2
      replace hx0 := heap_keep hb2 hx0
      replace hx1 := heap_keep hb2 hx1
      clear hx0a hx0b hx0c hx0f hx0g
      obtain ⟨hx0a, hx0b, hx0c⟩ := two_facts hx0
      obtain ⟨hx0f, hx0g⟩ := two_frozen hx0
      clear hx1a hx1b hx1c hx1f hx1g
      obtain ⟨hx1a, hx1b, hx1c⟩ := two_facts hx1
      obtain ⟨hx1f, hx1g⟩ := two_frozen hx1
      clear hb2 hbw1
      go_wp2_with fail
      go_ret2
      exact ⟨rfl, hbw2⟩
    | some q =>
      rw [k] at hk
      obtain ⟨rfl, rfl, hok2, hq1, hq2⟩ := pairOf_some k
      clear k
      show Calls _ _ _ _ (Gives (ansB (some (sameB p q))) w)
      have hcase : (red p = red q) ∨ ((red p).1 = (red q).1 ∧ ¬ (red p).2.str.toList = (red q).2.str.toList ∧ ¬ red p = red q) ∨ (¬ (red p).1.str.toList = (red q).1.str.toList ∧ ¬ red p = red q) := by
        by_cases h1 : (red p).1 = (red q).1
        · by_cases h2 : (red p).2 = (red q).2
          · exact .inl (Prod.ext h1 h2)
          · exact .inr (.inl ⟨h1, fun e => h2 (str_inj e), fun e => h2 (by rw [e])⟩)
        · exact .inr (.inr ⟨fun e => h1 (str_inj e), fun e => h1 (by rw [e])⟩)
      have P0 := fun w => prReduce_nil p w (by omega) (by omega)
      have Q0 := fun w => prReduce_nil q w (by omega) (by omega)
      rcases hcase with h1 | ⟨h1, h2, h3⟩ | ⟨h1, h3⟩
      · have P := P0; have Q := Q0; rw [h1] at P
        rw [show sameB p q = true by simp [sameB, h1]]
        clear P0 Q0 h1
        go_enter Try.func71, Try.ntmps71
        go_wp2_with fail
        have hb0 : Below w.heap.size w ((w.alloc (.cells #[.string p.1.str, .string p.2.str] 59 (0, 0))).alloc (.cells #[.string q.1.str, .string q.2.str] 59 (0, 0))) := nxAlloc (nxAlloc (Below.refl _ _) _) _
        have hx0 := heap_keep (nxAlloc (Below.refl _ _) (.cells #[.string q.1.str, .string q.2.str] 59 (0, 0))) (heap_alloc_at w (.cells #[.string p.1.str, .string p.2.str] 59 (0, 0)))
        have hx1 := heap_alloc_at (w.alloc (.cells #[.string p.1.str, .string p.2.str] 59 (0, 0))) (.cells #[.string q.1.str, .string q.2.str] 59 (0, 0))
        generalize ((w.alloc (.cells #[.string p.1.str, .string p.2.str] 59 (0, 0))).alloc (.cells #[.string q.1.str, .string q.2.str] 59 (0, 0))) = w0 at *
        have e1 : (w.alloc (.cells #[.string p.1.str, .string p.2.str] 59 (0, 0))).heap.size = w.heap.size + 1 := by simp
        rw [e1] at hx1
        clear e1
        obtain ⟨hx0a, hx0b, hx0c⟩ := two_facts hx0
        obtain ⟨hx0f, hx0g⟩ := two_frozen hx0
        obtain ⟨hx1a, hx1b, hx1c⟩ := two_facts hx1
        obtain ⟨hx1f, hx1g⟩ := two_frozen hx1
        refine (hg _).mono ?_; rintro e w1 ⟨rfl, hb1⟩
        have hbw1 := nx hb0 hb1
        replace hx0 := heap_keep hb1 hx0
        replace hx1 := heap_keep hb1 hx1
        clear hx0a hx0b hx0c hx0f hx0g
        obtain ⟨hx0a, hx0b, hx0c⟩ := two_facts hx0
        obtain ⟨hx0f, hx0g⟩ := two_frozen hx0
        clear hx1a hx1b hx1c hx1f hx1g
        obtain ⟨hx1a, hx1b, hx1c⟩ := two_facts hx1
        obtain ⟨hx1f, hx1g⟩ := two_frozen hx1
        clear hb1 hb0
        go_wp2_with fail
        refine (hk _).mono ?_; rintro e w2 ⟨rfl, hb2⟩
        have hbw2 := nx hbw1 hb2
        replace hx0 := heap_keep hb2 hx0
        replace hx1 := heap_keep hb2 hx1
        clear hx0a hx0b hx0c hx0f hx0g
        obtain ⟨hx0a, hx0b, hx0c⟩ := two_facts hx0
        obtain ⟨hx0f, hx0g⟩ := two_frozen hx0
        clear hx1a hx1b hx1c hx1f hx1g
        obtain ⟨hx1a, hx1b, hx1c⟩ := two_facts hx1
        obtain ⟨hx1f, hx1g⟩ := two_frozen hx1
        clear hb2 hbw1
        go_wp2_with fail
        refine wp_region_cls (by kernel_rfl) (by kernel_rfl) ?_
        repeat (
          refine wpQuiet_step (fun K hK => ?_)
          go_simp
          first
            | (refine hK _ ?_; clear hK K)
            | (refine ⟨_, fun _ _ => rfl, hK _ ?_⟩; clear hK K)
            | (apply Exists.intro
               refine ⟨fun w' hw' => ?_, hK _ ?_⟩
               · first
                   | (go_at_call 136; first | (with_reducible exact hw'.call (P _)) | (with_reducible exact hw'.call (Q _)))
                   | (rw [hw'.cell hx0c hx0a]; dsimp only [Result.andThen]; rw [hw'.cell hx0c hx0b]; exact ⟨rfl, rfl⟩)
                   | (rw [hw'.cell hx1c hx1a]; dsimp only [Result.andThen]; rw [hw'.cell hx1c hx1b]; exact ⟨rfl, rfl⟩)
               clear hK K))
        refine wpQuiet_nil ?_
        intro w' hw'
        go_wp2_with fail
        go_ret2
        exact ⟨rfl, nx hbw2 hw'⟩
      · have P := P0; have Q := Q0; rw [h1] at P
        rw [show sameB p q = false by simp [sameB, h3]]
        clear P0 Q0 h1 h3
        go_enter Try.func71, Try.ntmps71
        go_wp2_with fail
        have hb0 : Below w.heap.size w ((w.alloc (.cells #[.string p.1.str, .string p.2.str] 59 (0, 0))).alloc (.cells #[.string q.1.str, .string q.2.str] 59 (0, 0))) := nxAlloc (nxAlloc (Below.refl _ _) _) _
        have hx0 := heap_keep (nxAlloc (Below.refl _ _) (.cells #[.string q.1.str, .string q.2.str] 59 (0, 0))) (heap_alloc_at w (.cells #[.string p.1.str, .string p.2.str] 59 (0, 0)))
        have hx1 := heap_alloc_at (w.alloc (.cells #[.string p.1.str, .string p.2.str] 59 (0, 0))) (.cells #[.string q.1.str, .string q.2.str] 59 (0, 0))
        generalize ((w.alloc (.cells #[.string p.1.str, .string p.2.str] 59 (0, 0))).alloc (.cells #[.string q.1.str, .string q.2.str] 59 (0, 0))) = w0 at *
        have e1 : (w.alloc (.cells #[.string p.1.str, .string p.2.str] 59 (0, 0))).heap.size = w.heap.size + 1 := by simp
        rw [e1] at hx1
        clear e1
        obtain ⟨hx0a, hx0b, hx0c⟩ := two_facts hx0
        obtain ⟨hx0f, hx0g⟩ := two_frozen hx0
        obtain ⟨hx1a, hx1b, hx1c⟩ := two_facts hx1
        obtain ⟨hx1f, hx1g⟩ := two_frozen hx1
        refine (hg _).mono ?_; rintro e w1 ⟨rfl, hb1⟩
        have hbw1 := nx hb0 hb1
        replace hx0 := heap_keep hb1 hx0
        replace hx1 := heap_keep hb1 hx1
        clear hx0a hx0b hx0c hx0f hx0g
        obtain ⟨hx0a, hx0b, hx0c⟩ := two_facts hx0
        obtain ⟨hx0f, hx0g⟩ := two_frozen hx0
        clear hx1a hx1b hx1c hx1f hx1g
        obtain ⟨hx1a, hx1b, hx1c⟩ := two_facts hx1
        obtain ⟨hx1f, hx1g⟩ := two_frozen hx1
        clear hb1 hb0
        go_wp2_with fail
        refine (hk _).mono ?_; rintro e w2 ⟨rfl, hb2⟩
        have hbw2 := nx hbw1 hb2
        replace hx0 := heap_keep hb2 hx0
        replace hx1 := heap_keep hb2 hx1
        clear hx0a hx0b hx0c hx0f hx0g
        obtain ⟨hx0a, hx0b, hx0c⟩ := two_facts hx0
        obtain ⟨hx0f, hx0g⟩ := two_frozen hx0
        clear hx1a hx1b hx1c hx1f hx1g
        obtain ⟨hx1a, hx1b, hx1c⟩ := two_facts hx1
        obtain ⟨hx1f, hx1g⟩ := two_frozen hx1
        clear hb2 hbw1
        go_wp2_with fail
        refine wp_region_cls (by kernel_rfl) (by kernel_rfl) ?_
        repeat (
          refine wpQuiet_step (fun K hK => ?_)
          go_simp
          first
            | (refine hK _ ?_; clear hK K)
            | (refine ⟨_, fun _ _ => rfl, hK _ ?_⟩; clear hK K)
            | (apply Exists.intro
               refine ⟨fun w' hw' => ?_, hK _ ?_⟩
               · first
                   | (go_at_call 136; first | (with_reducible exact hw'.call (P _)) | (with_reducible exact hw'.call (Q _)))
                   | (rw [hw'.cell hx0c hx0a]; dsimp only [Result.andThen]; rw [hw'.cell hx0c hx0b]; exact ⟨rfl, rfl⟩)
                   | (rw [hw'.cell hx1c hx1a]; dsimp only [Result.andThen]; rw [hw'.cell hx1c hx1b]; exact ⟨rfl, rfl⟩)
               clear hK K))
        refine wpQuiet_nil ?_
        intro w' hw'
        go_wp2_with fail
        go_ret2
        exact ⟨rfl, nx hbw2 hw'⟩
      · have P := P0; have Q := Q0
        rw [show sameB p q = false by simp [sameB, h3]]
        clear P0 Q0 h3
        go_enter Try.func71, Try.ntmps71
        go_wp2_with fail
        have hb0 : Below w.heap.size w ((w.alloc (.cells #[.string p.1.str, .string p.2.str] 59 (0, 0))).alloc (.cells #[.string q.1.str, .string q.2.str] 59 (0, 0))) := nxAlloc (nxAlloc (Below.refl _ _) _) _
        have hx0 := heap_keep (nxAlloc (Below.refl _ _) (.cells #[.string q.1.str, .string q.2.str] 59 (0, 0))) (heap_alloc_at w (.cells #[.string p.1.str, .string p.2.str] 59 (0, 0)))
        have hx1 := heap_alloc_at (w.alloc (.cells #[.string p.1.str, .string p.2.str] 59 (0, 0))) (.cells #[.string q.1.str, .string q.2.str] 59 (0, 0))
        generalize ((w.alloc (.cells #[.string p.1.str, .string p.2.str] 59 (0, 0))).alloc (.cells #[.string q.1.str, .string q.2.str] 59 (0, 0))) = w0 at *
        have e1 : (w.alloc (.cells #[.string p.1.str, .string p.2.str] 59 (0, 0))).heap.size = w.heap.size + 1 := by simp
        rw [e1] at hx1
        clear e1
        obtain ⟨hx0a, hx0b, hx0c⟩ := two_facts hx0
        obtain ⟨hx0f, hx0g⟩ := two_frozen hx0
        obtain ⟨hx1a, hx1b, hx1c⟩ := two_facts hx1
        obtain ⟨hx1f, hx1g⟩ := two_frozen hx1
        refine (hg _).mono ?_; rintro e w1 ⟨rfl, hb1⟩
        have hbw1 := nx hb0 hb1
        replace hx0 := heap_keep hb1 hx0
        replace hx1 := heap_keep hb1 hx1
        clear hx0a hx0b hx0c hx0f hx0g
        obtain ⟨hx0a, hx0b, hx0c⟩ := two_facts hx0
        obtain ⟨hx0f, hx0g⟩ := two_frozen hx0
        clear hx1a hx1b hx1c hx1f hx1g
        obtain ⟨hx1a, hx1b, hx1c⟩ := two_facts hx1
        obtain ⟨hx1f, hx1g⟩ := two_frozen hx1
        clear hb1 hb0
        go_wp2_with fail
        refine (hk _).mono ?_; rintro e w2 ⟨rfl, hb2⟩
        have hbw2 := nx hbw1 hb2
        replace hx0 := heap_keep hb2 hx0
        replace hx1 := heap_keep hb2 hx1
        clear hx0a hx0b hx0c hx0f hx0g
        obtain ⟨hx0a, hx0b, hx0c⟩ := two_facts hx0
        obtain ⟨hx0f, hx0g⟩ := two_frozen hx0
        clear hx1a hx1b hx1c hx1f hx1g
        obtain ⟨hx1a, hx1b, hx1c⟩ := two_facts hx1
        obtain ⟨hx1f, hx1g⟩ := two_frozen hx1
        clear hb2 hbw1
        go_wp2_with fail
        refine wp_region_cls (by kernel_rfl) (by kernel_rfl) ?_
        repeat (
          refine wpQuiet_step (fun K hK => ?_)
          go_simp
          first
            | (refine hK _ ?_; clear hK K)
            | (refine ⟨_, fun _ _ => rfl, hK _ ?_⟩; clear hK K)
            | (apply Exists.intro
               refine ⟨fun w' hw' => ?_, hK _ ?_⟩
               · first
                   | (go_at_call 136; first | (with_reducible exact hw'.call (P _)) | (with_reducible exact hw'.call (Q _)))
                   | (rw [hw'.cell hx0c hx0a]; dsimp only [Result.andThen]; rw [hw'.cell hx0c hx0b]; exact ⟨rfl, rfl⟩)
                   | (rw [hw'.cell hx1c hx1a]; dsimp only [Result.andThen]; rw [hw'.cell hx1c hx1b]; exact ⟨rfl, rfl⟩)
               clear hK K))
        refine wpQuiet_nil ?_
        intro w' hw'
        go_wp2_with fail
        go_ret2
        exact ⟨rfl, nx hbw2 hw'⟩

set_option maxRecDepth 100000 in
set_option maxHeartbeats 2000000 in
theorem implAreSamePairs_any (a b c d : ByteArray) (w : World) (ha : a.size ≤ 9223372036854775806) (hb : b.size ≤ 9223372036854775806) (hc : c.size ≤ 9223372036854775806) (hd : d.size ≤ 9223372036854775806) :
    Calls Try.prog 70 #[.agg #[.string a, .string b], .agg #[.string c, .string d]] w (Gives (ansB ((pairOf a b).bind fun p => (pairOf c d).bind fun q => some (sameB p q))) w) := by
  have hg := fun w => implReducePair_any a b w ha hb
  have hk := fun w => implReducePair_any c d w hc hd
  cases h : pairOf a b with
  | none =>
    rw [h] at hg
    unfold ansPr at hg
    clear h hk
    go_enter Try.func70, Try.ntmps70
    go_wp2_with fail
    have hb0 : Below w.heap.size w ((w.alloc (.cells #[.string a, .string b] 59 (0, 0))).alloc (.cells #[.string c, .string d] 59 (0, 0))) := nxAlloc (nxAlloc (Below.refl _ _) _) _
    have hx0 := heap_keep (nxAlloc (Below.refl _ _) (.cells #[.string c, .string d] 59 (0, 0))) (heap_alloc_at w (.cells #[.string a, .string b] 59 (0, 0)))
    have hx1 := heap_alloc_at (w.alloc (.cells #[.string a, .string b] 59 (0, 0))) (.cells #[.string c, .string d] 59 (0, 0))
    generalize ((w.alloc (.cells #[.string a, .string b] 59 (0, 0))).alloc (.cells #[.string c, .string d] 59 (0, 0))) = w0 at *
    have e1 : (w.alloc (.cells #[.string a, .string b] 59 (0, 0))).heap.size = w.heap.size + 1 := by simp
    rw [e1] at hx1
    clear e1
    obtain ⟨hx0a, hx0b, hx0c⟩ := two_facts hx0
    obtain ⟨hx0f, hx0g⟩ := two_frozen hx0
    obtain ⟨hx1a, hx1b, hx1c⟩ := two_facts hx1
    obtain ⟨hx1f, hx1g⟩ := two_frozen hx1
    refine (hg _).mono ?_; rintro e w1 ⟨rfl, hb1⟩
    have hbw1 := nx hb0 hb1
    replace hx0 := heap_keep hb1 hx0
    replace hx1 := heap_keep hb1 hx1
    clear hx0a hx0b hx0c hx0f hx0g
    obtain ⟨hx0a, hx0b, hx0c⟩ := two_facts hx0
    obtain ⟨hx0f, hx0g⟩ := two_frozen hx0
    clear hx1a hx1b hx1c hx1f hx1g
    obtain ⟨hx1a, hx1b, hx1c⟩ := two_facts hx1
    obtain ⟨hx1f, hx1g⟩ := two_frozen hx1
    clear hb1 hb0
    go_wp2_with fail
    go_ret2
    exact ⟨rfl, nxAlloc hbw1 _⟩
  | some p =>
    rw [h] at hg
    obtain ⟨rfl, rfl, hok1, hp1, hp2⟩ := pairOf_some h
    clear h
    have P0 : ∀ w, Calls Try.prog 61 #[.agg #[.string p.1.str, .string p.2.str]] w (Gives (.tuple #[.agg #[.string (red p).1.str, .string (red p).2.str], .bool true]) w) := hg
    clear hg
    cases k : pairOf c d with
    | none =>
      rw [k] at hk
      unfold ansPr at hk
      clear k
      go_enter Try.func70, Try.ntmps70
      go_wp2_with fail
      have hb0 : Below w.heap.size w ((w.alloc (.cells #[.string p.1.str, .string p.2.str] 59 (0, 0))).alloc (.cells #[.string c, .string d] 59 (0, 0))) := nxAlloc (nxAlloc (Below.refl _ _) _) _
      have hx0 := heap_keep (nxAlloc (Below.refl _ _) (.cells #[.string c, .string d] 59 (0, 0))) (heap_alloc_at w (.cells #[.string p.1.str, .string p.2.str] 59 (0, 0)))
      have hx1 := heap_alloc_at (w.alloc (.cells #[.string p.1.str, .string p.2.str] 59 (0, 0))) (.cells #[.string c, .string d] 59 (0, 0))
      generalize ((w.alloc (.cells #[.string p.1.str, .string p.2.str] 59 (0, 0))).alloc (.cells #[.string c, .string d] 59 (0, 0))) = w0 at *
      have e1 : (w.alloc (.cells #[.string p.1.str, .string p.2.str] 59 (0, 0))).heap.size = w.heap.size + 1 := by simp
      rw [e1] at hx1
      clear e1
      obtain ⟨hx0a, hx0b, hx0c⟩ := two_facts hx0
      obtain ⟨hx0f, hx0g⟩ := two_frozen hx0
      obtain ⟨hx1a, hx1b, hx1c⟩ := two_facts hx1
      obtain ⟨hx1f, hx1g⟩ := two_frozen hx1
      refine (P0 _).mono ?_; rintro e w1 ⟨rfl, hb1⟩
      have hbw1 := nx hb0 hb1
      replace hx0 := heap_keep hb1 hx0
      replace hx1 := heap_keep hb1 hx1
      clear hx0a hx0b hx0c hx0f hx0g
      obtain ⟨hx0a, hx0b, hx0c⟩ := two_facts hx0
      obtain ⟨hx0f, hx0g⟩ := two_frozen hx0
      clear hx1a hx1b hx1c hx1f hx1g
      obtain ⟨hx1a, hx1b, hx1c⟩ := two_facts hx1
      obtain ⟨hx1f, hx1g⟩ := two_frozen hx1
      clear hb1 hb0
      go_wp2_with fail
      have hbw2 := nxAlloc hbw1 (.cells #[.string (red p).1.str, .string (red p).2.str] 59 (0, 0))
      replace hx0 := heap_keep (nxAlloc (Below.refl _ _) (.cells #[.string (red p).1.str, .string (red p).2.str] 59 (0, 0))) hx0
      replace hx1 := heap_keep (nxAlloc (Below.refl _ _) (.cells #[.string (red p).1.str, .string (red p).2.str] 59 (0, 0))) hx1
      have hy2 := heap_alloc_at w1 (.cells #[.string (red p).1.str, .string (red p).2.str] 59 (0, 0))
      generalize w1.alloc (.cells #[.string (red p).1.str, .string (red p).2.str] 59 (0, 0)) = w2 at *
      clear hbw1
      clear hx0a hx0b hx0c hx0f hx0g
      obtain ⟨hx0a, hx0b, hx0c⟩ := two_facts hx0
      obtain ⟨hx0f, hx0g⟩ := two_frozen hx0
      clear hx1a hx1b hx1c hx1f hx1g
      obtain ⟨hx1a, hx1b, hx1c⟩ := two_facts hx1
      obtain ⟨hx1f, hx1g⟩ := two_frozen hx1
      obtain ⟨hy2a, hy2b, hy2c⟩ := two_facts hy2
      obtain ⟨hy2f, hy2g⟩ := two_frozen hy2
      go_wp2_with fail
      refine (hk _).mono ?_; rintro e w3 ⟨rfl, hb3⟩
      have hbw3 := nx hbw2 hb3
      replace hx0 := heap_keep hb3 hx0
      replace hx1 := heap_keep hb3 hx1
      replace hy2 := heap_keep hb3 hy2
      clear hx0a hx0b hx0c hx0f hx0g
      obtain ⟨hx0a, hx0b, hx0c⟩ := two_facts hx0
      obtain ⟨hx0f, hx0g⟩ := two_frozen hx0
      clear hx1a hx1b hx1c hx1f hx1g
      obtain ⟨hx1a, hx1b, hx1c⟩ := two_facts hx1
      obtain ⟨hx1f, hx1g⟩ := two_frozen hx1
      clear hy2a hy2b hy2c hy2f hy2g
      obtain ⟨hy2a, hy2b, hy2c⟩ := two_facts hy2
      obtain ⟨hy2f, hy2g⟩ := two_frozen hy2
      clear hb3 hbw2
      go_wp2_with fail
      go_ret2
      exact ⟨rfl, nxAlloc hbw3 _⟩
    | some q =>
      rw [k] at hk
      obtain ⟨rfl, rfl, hok2, hq1, hq2⟩ := pairOf_some k
      clear k
      show Calls _ _ _ _ (Gives (ansB (some (sameB p q))) w)
      have Q0 : ∀ w, Calls Try.prog 61 #[.agg #[.string q.1.str, .string q.2.str]] w (Gives (.tuple #[.agg #[.string (red q).1.str, .string (red q).2.str], .bool true]) w) := hk
      clear hk
      have hcase : (red p = red q) ∨ ((red p).1 = (red q).1 ∧ ¬ (red p).2.str.toList = (red q).2.str.toList ∧ ¬ red p = red q) ∨ (¬ (red p).1.str.toList = (red q).1.str.toList ∧ ¬ red p = red q) := by
        by_cases h1 : (red p).1 = (red q).1
        · by_cases h2 : (red p).2 = (red q).2
          · exact .inl (Prod.ext h1 h2)
          · exact .inr (.inl ⟨h1, fun e => h2 (str_inj e), fun e => h2 (by rw [e])⟩)
        · exact .inr (.inr ⟨fun e => h1 (str_inj e), fun e => h1 (by rw [e])⟩)
      rcases hcase with h1 | ⟨h1, h2, h3⟩ | ⟨h1, h3⟩
      · have P := P0; have Q := Q0; rw [h1] at P
        rw [show sameB p q = true by simp [sameB, h1]]
        clear P0 Q0 h1
        go_enter Try.func70, Try.ntmps70
        go_wp2_with fail
        have hb0 : Below w.heap.size w ((w.alloc (.cells #[.string p.1.str, .string p.2.str] 59 (0, 0))).alloc (.cells #[.string q.1.str, .string q.2.str] 59 (0, 0))) := nxAlloc (nxAlloc (Below.refl _ _) _) _
        have hx0 := heap_keep (nxAlloc (Below.refl _ _) (.cells #[.string q.1.str, .string q.2.str] 59 (0, 0))) (heap_alloc_at w (.cells #[.string p.1.str, .string p.2.str] 59 (0, 0)))
        have hx1 := heap_alloc_at (w.alloc (.cells #[.string p.1.str, .string p.2.str] 59 (0, 0))) (.cells #[.string q.1.str, .string q.2.str] 59 (0, 0))
        generalize ((w.alloc (.cells #[.string p.1.str, .string p.2.str] 59 (0, 0))).alloc (.cells #[.string q.1.str, .string q.2.str] 59 (0, 0))) = w0 at *
        have e1 : (w.alloc (.cells #[.string p.1.str, .string p.2.str] 59 (0, 0))).heap.size = w.heap.size + 1 := by simp
        rw [e1] at hx1
        clear e1
        obtain ⟨hx0a, hx0b, hx0c⟩ := two_facts hx0
        obtain ⟨hx0f, hx0g⟩ := two_frozen hx0
        obtain ⟨hx1a, hx1b, hx1c⟩ := two_facts hx1
        obtain ⟨hx1f, hx1g⟩ := two_frozen hx1
        refine (P _).mono ?_; rintro e w1 ⟨rfl, hb1⟩
        have hbw1 := nx hb0 hb1
        replace hx0 := heap_keep hb1 hx0
        replace hx1 := heap_keep hb1 hx1
        clear hx0a hx0b hx0c hx0f hx0g
        obtain ⟨hx0a, hx0b, hx0c⟩ := two_facts hx0
        obtain ⟨hx0f, hx0g⟩ := two_frozen hx0
        clear hx1a hx1b hx1c hx1f hx1g
        obtain ⟨hx1a, hx1b, hx1c⟩ := two_facts hx1
        obtain ⟨hx1f, hx1g⟩ := two_frozen hx1
        clear hb1 hb0
        go_wp2_with fail
        have hbw2 := nxAlloc hbw1 (.cells #[.string (red q).1.str, .string (red q).2.str] 59 (0, 0))
        replace hx0 := heap_keep (nxAlloc (Below.refl _ _) (.cells #[.string (red q).1.str, .string (red q).2.str] 59 (0, 0))) hx0
        replace hx1 := heap_keep (nxAlloc (Below.refl _ _) (.cells #[.string (red q).1.str, .string (red q).2.str] 59 (0, 0))) hx1
        have hy2 := heap_alloc_at w1 (.cells #[.string (red q).1.str, .string (red q).2.str] 59 (0, 0))
        generalize w1.alloc (.cells #[.string (red q).1.str, .string (red q).2.str] 59 (0, 0)) = w2 at *
        clear hbw1
        clear hx0a hx0b hx0c hx0f hx0g
        obtain ⟨hx0a, hx0b, hx0c⟩ := two_facts hx0
        obtain ⟨hx0f, hx0g⟩ := two_frozen hx0
        clear hx1a hx1b hx1c hx1f hx1g
        obtain ⟨hx1a, hx1b, hx1c⟩ := two_facts hx1
        obtain ⟨hx1f, hx1g⟩ := two_frozen hx1
        obtain ⟨hy2a, hy2b, hy2c⟩ := two_facts hy2
        obtain ⟨hy2f, hy2g⟩ := two_frozen hy2
        go_wp2_with fail
        refine (Q _).mono ?_; rintro e w3 ⟨rfl, hb3⟩
        have hbw3 := nx hbw2 hb3
        replace hx0 := heap_keep hb3 hx0
        replace hx1 := heap_keep hb3 hx1
        replace hy2 := heap_keep hb3 hy2
        clear hx0a hx0b hx0c hx0f hx0g
        obtain ⟨hx0a, hx0b, hx0c⟩ := two_facts hx0
        obtain ⟨hx0f, hx0g⟩ := two_frozen hx0
        clear hx1a hx1b hx1c hx1f hx1g
        obtain ⟨hx1a, hx1b, hx1c⟩ := two_facts hx1
        obtain ⟨hx1f, hx1g⟩ := two_frozen hx1
        clear hy2a hy2b hy2c hy2f hy2g
        obtain ⟨hy2a, hy2b, hy2c⟩ := two_facts hy2
        obtain ⟨hy2f, hy2g⟩ := two_frozen hy2
        clear hb3 hbw2
        go_wp2_with fail
        have hbw4 := nxAlloc hbw3 (.cells #[.string (red q).1.str, .string (red q).2.str] 59 (0, 0))
        replace hx0 := heap_keep (nxAlloc (Below.refl _ _) (.cells #[.string (red q).1.str, .string (red q).2.str] 59 (0, 0))) hx0
        replace hx1 := heap_keep (nxAlloc (Below.refl _ _) (.cells #[.string (red q).1.str, .string (red q).2.str] 59 (0, 0))) hx1
        replace hy2 := heap_keep (nxAlloc (Below.refl _ _) (.cells #[.string (red q).1.str, .string (red q).2.str] 59 (0, 0))) hy2
        have hy4 := heap_alloc_at w3 (.cells #[.string (red q).1.str, .string (red q).2.str] 59 (0, 0))
        generalize w3.alloc (.cells #[.string (red q).1.str, .string (red q).2.str] 59 (0, 0)) = w4 at *
        clear hbw3
        clear hx0a hx0b hx0c hx0f hx0g
        obtain ⟨hx0a, hx0b, hx0c⟩ := two_facts hx0
        obtain ⟨hx0f, hx0g⟩ := two_frozen hx0
        clear hx1a hx1b hx1c hx1f hx1g
        obtain ⟨hx1a, hx1b, hx1c⟩ := two_facts hx1
        obtain ⟨hx1f, hx1g⟩ := two_frozen hx1
        clear hy2a hy2b hy2c hy2f hy2g
        obtain ⟨hy2a, hy2b, hy2c⟩ := two_facts hy2
        obtain ⟨hy2f, hy2g⟩ := two_frozen hy2
        obtain ⟨hy4a, hy4b, hy4c⟩ := two_facts hy4
        obtain ⟨hy4f, hy4g⟩ := two_frozen hy4
        go_wp2_with fail
        go_ret2
        exact ⟨rfl, hbw4⟩
      · have P := P0; have Q := Q0; rw [h1] at P
        rw [show sameB p q = false by simp [sameB, h3]]
        clear P0 Q0 h1 h3
        go_enter Try.func70, Try.ntmps70
        go_wp2_with fail
        have hb0 : Below w.heap.size w ((w.alloc (.cells #[.string p.1.str, .string p.2.str] 59 (0, 0))).alloc (.cells #[.string q.1.str, .string q.2.str] 59 (0, 0))) := nxAlloc (nxAlloc (Below.refl _ _) _) _
        have hx0 := heap_keep (nxAlloc (Below.refl _ _) (.cells #[.string q.1.str, .string q.2.str] 59 (0, 0))) (heap_alloc_at w (.cells #[.string p.1.str, .string p.2.str] 59 (0, 0)))
        have hx1 := heap_alloc_at (w.alloc (.cells #[.string p.1.str, .string p.2.str] 59 (0, 0))) (.cells #[.string q.1.str, .string q.2.str] 59 (0, 0))
        generalize ((w.alloc (.cells #[.string p.1.str, .string p.2.str] 59 (0, 0))).alloc (.cells #[.string q.1.str, .string q.2.str] 59 (0, 0))) = w0 at *
        have e1 : (w.alloc (.cells #[.string p.1.str, .string p.2.str] 59 (0, 0))).heap.size = w.heap.size + 1 := by simp
        rw [e1] at hx1
        clear e1
        obtain ⟨hx0a, hx0b, hx0c⟩ := two_facts hx0
        obtain ⟨hx0f, hx0g⟩ := two_frozen hx0
        obtain ⟨hx1a, hx1b, hx1c⟩ := two_facts hx1
        obtain ⟨hx1f, hx1g⟩ := two_frozen hx1
        refine (P _).mono ?_; rintro e w1 ⟨rfl, hb1⟩
        have hbw1 := nx hb0 hb1
        replace hx0 := heap_keep hb1 hx0
        replace hx1 := heap_keep hb1 hx1
        clear hx0a hx0b hx0c hx0f hx0g
        obtain ⟨hx0a, hx0b, hx0c⟩ := two_facts hx0
        obtain ⟨hx0f, hx0g⟩ := two_frozen hx0
        clear hx1a hx1b hx1c hx1f hx1g
        obtain ⟨hx1a, hx1b, hx1c⟩ := two_facts hx1
        obtain ⟨hx1f, hx1g⟩ := two_frozen hx1
        clear hb1 hb0
        go_wp2_with fail
        have hbw2 := nxAlloc hbw1 (.cells #[.string (red q).1.str, .string (red p).2.str] 59 (0, 0))
        replace hx0 := heap_keep (nxAlloc (Below.refl _ _) (.cells #[.string (red q).1.str, .string (red p).2.str] 59 (0, 0))) hx0
        replace hx1 := heap_keep (nxAlloc (Below.refl _ _) (.cells #[.string (red q).1.str, .string (red p).2.str] 59 (0, 0))) hx1
        have hy2 := heap_alloc_at w1 (.cells #[.string (red q).1.str, .string (red p).2.str] 59 (0, 0))
        generalize w1.alloc (.cells #[.string (red q).1.str, .string (red p).2.str] 59 (0, 0)) = w2 at *
        clear hbw1
        clear hx0a hx0b hx0c hx0f hx0g
        obtain ⟨hx0a, hx0b, hx0c⟩ := two_facts hx0
        obtain ⟨hx0f, hx0g⟩ := two_frozen hx0
        clear hx1a hx1b hx1c hx1f hx1g
        obtain ⟨hx1a, hx1b, hx1c⟩ := two_facts hx1
        obtain ⟨hx1f, hx1g⟩ := two_frozen hx1
        obtain ⟨hy2a, hy2b, hy2c⟩ := two_facts hy2
        obtain ⟨hy2f, hy2g⟩ := two_frozen hy2
        go_wp2_with fail
        refine (Q _).mono ?_; rintro e w3 ⟨rfl, hb3⟩
        have hbw3 := nx hbw2 hb3
        replace hx0 := heap_keep hb3 hx0
        replace hx1 := heap_keep hb3 hx1
        replace hy2 := heap_keep hb3 hy2
        clear hx0a hx0b hx0c hx0f hx0g
        obtain ⟨hx0a, hx0b, hx0c⟩ := two_facts hx0
        obtain ⟨hx0f, hx0g⟩ := two_frozen hx0
        clear hx1a hx1b hx1c hx1f hx1g
        obtain ⟨hx1a, hx1b, hx1c⟩ := two_facts hx1
        obtain ⟨hx1f, hx1g⟩ := two_frozen hx1
        clear hy2a hy2b hy2c hy2f hy2g
        obtain ⟨hy2a, hy2b, hy2c⟩ := two_facts hy2
        obtain ⟨hy2f, hy2g⟩ := two_frozen hy2
        clear hb3 hbw2
        go_wp2_with fail
        have hbw4 := nxAlloc hbw3 (.cells #[.string (red q).1.str, .string (red q).2.str] 59 (0, 0))
        replace hx0 := heap_keep (nxAlloc (Below.refl _ _) (.cells #[.string (red q).1.str, .string (red q).2.str] 59 (0, 0))) hx0
        replace hx1 := heap_keep (nxAlloc (Below.refl _ _) (.cells #[.string (red q).1.str, .string (red q).2.str] 59 (0, 0))) hx1
        replace hy2 := heap_keep (nxAlloc (Below.refl _ _) (.cells #[.string (red q).1.str, .string (red q).2.str] 59 (0, 0))) hy2
        have hy4 := heap_alloc_at w3 (.cells #[.string (red q).1.str, .string (red q).2.str] 59 (0, 0))
        generalize w3.alloc (.cells #[.string (red q).1.str, .string (red q).2.str] 59 (0, 0)) = w4 at *
        clear hbw3
        clear hx0a hx0b hx0c hx0f hx0g
        obtain ⟨hx0a, hx0b, hx0c⟩ := two_facts hx0
        obtain ⟨hx0f, hx0g⟩ := two_frozen hx0
        clear hx1a hx1b hx1c hx1f hx1g
        obtain ⟨hx1a, hx1b, hx1c⟩ := two_facts hx1
        obtain ⟨hx1f, hx1g⟩ := two_frozen hx1
        clear hy2a hy2b hy2c hy2f hy2g
        obtain ⟨hy2a, hy2b, hy2c⟩ := two_facts hy2
        obtain ⟨hy2f, hy2g⟩ := two_frozen hy2
        obtain ⟨hy4a, hy4b, hy4c⟩ := two_facts hy4
        obtain ⟨hy4f, hy4g⟩ := two_frozen hy4
        go_wp2_with fail
        go_ret2
        exact ⟨rfl, hbw4⟩
      · have P := P0; have Q := Q0
        rw [show sameB p q = false by simp [sameB, h3]]
        clear P0 Q0 h3
        go_enter Try.func70, Try.ntmps70
        go_wp2_with fail
        have hb0 : Below w.heap.size w ((w.alloc (.cells #[.string p.1.str, .string p.2.str] 59 (0, 0))).alloc (.cells #[.string q.1.str, .string q.2.str] 59 (0, 0))) := nxAlloc (nxAlloc (Below.refl _ _) _) _
        have hx0 := heap_keep (nxAlloc (Below.refl _ _) (.cells #[.string q.1.str, .string q.2.str] 59 (0, 0))) (heap_alloc_at w (.cells #[.string p.1.str, .string p.2.str] 59 (0, 0)))
        have hx1 := heap_alloc_at (w.alloc (.cells #[.string p.1.str, .string p.2.str] 59 (0, 0))) (.cells #[.string q.1.str, .string q.2.str] 59 (0, 0))
        generalize ((w.alloc (.cells #[.string p.1.str, .string p.2.str] 59 (0, 0))).alloc (.cells #[.string q.1.str, .string q.2.str] 59 (0, 0))) = w0 at *
        have e1 : (w.alloc (.cells #[.string p.1.str, .string p.2.str] 59 (0, 0))).heap.size = w.heap.size + 1 := by simp
        rw [e1] at hx1
        clear e1
        obtain ⟨hx0a, hx0b, hx0c⟩ := two_facts hx0
        obtain ⟨hx0f, hx0g⟩ := two_frozen hx0
        obtain ⟨hx1a, hx1b, hx1c⟩ := two_facts hx1
        obtain ⟨hx1f, hx1g⟩ := two_frozen hx1
        refine (P _).mono ?_; rintro e w1 ⟨rfl, hb1⟩
        have hbw1 := nx hb0 hb1
        replace hx0 := heap_keep hb1 hx0
        replace hx1 := heap_keep hb1 hx1
        clear hx0a hx0b hx0c hx0f hx0g
        obtain ⟨hx0a, hx0b, hx0c⟩ := two_facts hx0
        obtain ⟨hx0f, hx0g⟩ := two_frozen hx0
        clear hx1a hx1b hx1c hx1f hx1g
        obtain ⟨hx1a, hx1b, hx1c⟩ := two_facts hx1
        obtain ⟨hx1f, hx1g⟩ := two_frozen hx1
        clear hb1 hb0
        go_wp2_with fail
        have hbw2 := nxAlloc hbw1 (.cells #[.string (red p).1.str, .string (red p).2.str] 59 (0, 0))
        replace hx0 := heap_keep (nxAlloc (Below.refl _ _) (.cells #[.string (red p).1.str, .string (red p).2.str] 59 (0, 0))) hx0
        replace hx1 := heap_keep (nxAlloc (Below.refl _ _) (.cells #[.string (red p).1.str, .string (red p).2.str] 59 (0, 0))) hx1
        have hy2 := heap_alloc_at w1 (.cells #[.string (red p).1.str, .string (red p).2.str] 59 (0, 0))
        generalize w1.alloc (.cells #[.string (red p).1.str, .string (red p).2.str] 59 (0, 0)) = w2 at *
        clear hbw1
        clear hx0a hx0b hx0c hx0f hx0g
        obtain ⟨hx0a, hx0b, hx0c⟩ := two_facts hx0
        obtain ⟨hx0f, hx0g⟩ := two_frozen hx0
        clear hx1a hx1b hx1c hx1f hx1g
        obtain ⟨hx1a, hx1b, hx1c⟩ := two_facts hx1
        obtain ⟨hx1f, hx1g⟩ := two_frozen hx1
        obtain ⟨hy2a, hy2b, hy2c⟩ := two_facts hy2
        obtain ⟨hy2f, hy2g⟩ := two_frozen hy2
        go_wp2_with fail
        refine (Q _).mono ?_; rintro e w3 ⟨rfl, hb3⟩
        have hbw3 := nx hbw2 hb3
        replace hx0 := heap_keep hb3 hx0
        replace hx1 := heap_keep hb3 hx1
        replace hy2 := heap_keep hb3 hy2
        clear hx0a hx0b hx0c hx0f hx0g
        obtain ⟨hx0a, hx0b, hx0c⟩ := two_facts hx0
        obtain ⟨hx0f, hx0g⟩ := two_frozen hx0
        clear hx1a hx1b hx1c hx1f hx1g
        obtain ⟨hx1a, hx1b, hx1c⟩ := two_facts hx1
        obtain ⟨hx1f, hx1g⟩ := two_frozen hx1
        clear hy2a hy2b hy2c hy2f hy2g
        obtain ⟨hy2a, hy2b, hy2c⟩ := two_facts hy2
        obtain ⟨hy2f, hy2g⟩ := two_frozen hy2
        clear hb3 hbw2
        go_wp2_with fail
        have hbw4 := nxAlloc hbw3 (.cells #[.string (red q).1.str, .string (red q).2.str] 59 (0, 0))
        replace hx0 := heap_keep (nxAlloc (Below.refl _ _) (.cells #[.string (red q).1.str, .string (red q).2.str] 59 (0, 0))) hx0
        replace hx1 := heap_keep (nxAlloc (Below.refl _ _) (.cells #[.string (red q).1.str, .string (red q).2.str] 59 (0, 0))) hx1
        replace hy2 := heap_keep (nxAlloc (Below.refl _ _) (.cells #[.string (red q).1.str, .string (red q).2.str] 59 (0, 0))) hy2
        have hy4 := heap_alloc_at w3 (.cells #[.string (red q).1.str, .string (red q).2.str] 59 (0, 0))
        generalize w3.alloc (.cells #[.string (red q).1.str, .string (red q).2.str] 59 (0, 0)) = w4 at *
        clear hbw3
        clear hx0a hx0b hx0c hx0f hx0g
        obtain ⟨hx0a, hx0b, hx0c⟩ := two_facts hx0
        obtain ⟨hx0f, hx0g⟩ := two_frozen hx0
        clear hx1a hx1b hx1c hx1f hx1g
        obtain ⟨hx1a, hx1b, hx1c⟩ := two_facts hx1
        obtain ⟨hx1f, hx1g⟩ := two_frozen hx1
        clear hy2a hy2b hy2c hy2f hy2g
        obtain ⟨hy2a, hy2b, hy2c⟩ := two_facts hy2
        obtain ⟨hy2f, hy2g⟩ := two_frozen hy2
        obtain ⟨hy4a, hy4b, hy4c⟩ := two_facts hy4
        obtain ⟨hy4f, hy4g⟩ := two_frozen hy4
        go_wp2_with fail
        go_ret2
        exact ⟨rfl, hbw4⟩

end Go.Proofs.Yteflpaebckichab

/-! EqP -/
namespace Go.Proofs.Yteflpaebckichab

theorem red_first0 {p : Pr} (hl : 0 < (both p).length) : red p = red (dropP p ((both p).getD 0 0)) := by
  cases h : both p with
  | nil => rw [h] at hl; simp at hl
  | cons n ns =>
    have := redBy_step h []
    exact this
theorem mem_nd {x y : Tr} {n : Int} (h : ¬ (x = .lf ∧ y = .lf)) : n ∈ (Tr.nd x y).exps 0 ↔ n ∈ x.exps 0 ∨ n - x.leaves ∈ y.exps 0 := by
  have hb : (x.isLf && y.isLf) = false := by
    rw [Bool.eq_false_iff]
    exact fun e => h (both_lf e)
  rw [Tr.exps, hb]
  simp only [Bool.false_eq_true, if_false, List.nil_append, List.mem_append, Int.zero_add]
  rw [exps_shift_mem y]
theorem exps_ne {x : Tr} {n : Int} (h : n ∈ x.exps 0) : x ≠ .lf := by
  intro e
  rw [e] at h
  simp [Tr.exps] at h
theorem mem_left {x y : Tr} {n : Int} (h : n ∈ x.exps 0) : n ∈ (Tr.nd x y).exps 0 := (mem_nd (fun e => exps_ne h e.1)).2 (.inl h)
theorem mem_right {x y : Tr} {n : Int} (h : n - x.leaves ∈ y.exps 0) : n ∈ (Tr.nd x y).exps 0 := (mem_nd (fun e => exps_ne h e.2)).2 (.inr h)
theorem drop_left {x y : Tr} {n : Int} (h : n ∈ x.exps 0) : (Tr.nd x y).dropAt n = .nd (x.dropAt n) y := by
  have hb : (x.isLf && y.isLf) = false := by
    rw [Bool.eq_false_iff]
    exact fun e => exps_ne h (both_lf e).1
  have := exps_range x 0 n h
  rw [Tr.dropAt, hb, if_neg (by simp), if_pos (by omega)]
theorem drop_right {x y : Tr} {n : Int} (h : n - x.leaves ∈ y.exps 0) : (Tr.nd x y).dropAt n = .nd x (y.dropAt (n - x.leaves)) := by
  have hb : (x.isLf && y.isLf) = false := by
    rw [Bool.eq_false_iff]
    exact fun e => exps_ne h (both_lf e).2
  have := exps_range y 0 _ h
  rw [Tr.dropAt, hb, if_neg (by simp), if_neg (by omega)]
theorem mem_cases {x y : Tr} {n : Int} (h : n ∈ (Tr.nd x y).exps 0) : (x = .lf ∧ y = .lf ∧ n = 0) ∨ n ∈ x.exps 0 ∨ n - x.leaves ∈ y.exps 0 := by
  by_cases e : x = .lf ∧ y = .lf
  · obtain ⟨rfl, rfl⟩ := e
    simp [Tr.exps, Tr.isLf] at h
    exact .inl ⟨rfl, rfl, h⟩
  · exact .inr ((mem_nd e).1 h)
theorem drop_leaves {t : Tr} {n : Int} (h : n ∈ t.exps 0) : ((t.dropAt n).leaves : Int) = t.leaves - 1 := by
  have := dropAt_carets t n h
  unfold Tr.leaves
  omega

/-- Two exposed carets are dropped in either order. -/
theorem drop_two (t : Tr) : ∀ n m : Int, n ∈ t.exps 0 → m ∈ t.exps 0 → n < m →
    n ∈ (t.dropAt m).exps 0 ∧ m - 1 ∈ (t.dropAt n).exps 0 ∧ (t.dropAt m).dropAt n = (t.dropAt n).dropAt (m - 1) := by
  induction t with
  | lf => intro n m h; simp [Tr.exps] at h
  | nd x y ihx ihy =>
    intro n m hn hm hlt
    rcases mem_cases hn with ⟨rfl, rfl, rfl⟩ | hn | hn
    · rcases mem_cases hm with ⟨_, _, rfl⟩ | hm | hm
      · omega
      · simp [Tr.exps] at hm
      · simp [Tr.exps] at hm
    · rcases mem_cases hm with ⟨rfl, _, _⟩ | hm | hm
      · exact absurd rfl (exps_ne hn)
      · obtain ⟨h1, h2, h3⟩ := ihx n m hn hm hlt
        rw [drop_left hm, drop_left hn, drop_left h1, drop_left h2, h3]
        exact ⟨mem_left h1, mem_left h2, rfl⟩
      · have hl := drop_leaves hn
        have hr : m - 1 - ((x.dropAt n).leaves : Int) = m - x.leaves := by omega
        rw [drop_right hm, drop_left hn, drop_left hn, drop_right (by rw [hr]; exact hm), hr]
        exact ⟨mem_left hn, mem_right (by rw [hr]; exact hm), rfl⟩
    · rcases mem_cases hm with ⟨_, rfl, _⟩ | hm | hm
      · exact absurd rfl (exps_ne hn)
      · have h1 := exps_range x 0 m hm
        have h2 := exps_range y 0 _ hn
        omega
      · obtain ⟨h1, h2, h3⟩ := ihy _ _ hn hm (by omega)
        have e : m - 1 - (x.leaves : Int) = m - x.leaves - 1 := by omega
        rw [drop_right hm, drop_right hn, drop_right h1, drop_right (by rw [e]; exact h2), e, h3]
        exact ⟨mem_right h1, mem_right (by rw [e]; exact h2), rfl⟩

theorem both_two {p : Pr} {n m : Int} (hn : n ∈ both p) (hm : m ∈ both p) (h : n < m) :
    n ∈ both (dropP p m) ∧ m - 1 ∈ both (dropP p n) ∧ dropP (dropP p m) n = dropP (dropP p n) (m - 1) := by
  rw [mem_both] at hn hm
  obtain ⟨a1, a2, a3⟩ := drop_two p.1 n m hn.1 hm.1 h
  obtain ⟨b1, b2, b3⟩ := drop_two p.2 n m hn.2 hm.2 h
  exact ⟨mem_both.2 ⟨a1, b1⟩, mem_both.2 ⟨a2, b2⟩, by unfold dropP; dsimp only; rw [a3, b3]⟩

/-- Whatever is dropped first, the same reduced pair is left. -/
theorem red_drop : ∀ (k : Nat) (p : Pr), p.1.carets = k → ∀ n, n ∈ both p → red (dropP p n) = red p := by
  intro k
  induction k using Nat.strongRecOn with
  | _ k ih =>
    intro p hk n hn
    have hl : 0 < (both p).length := List.length_pos_of_mem hn
    have h0 := red_first0 hl
    have hm : (both p).getD 0 0 ∈ both p := by
      cases hb : both p with
      | nil => rw [hb] at hl; simp at hl
      | cons a l => simp
    generalize (both p).getD 0 0 = m at h0 hm
    rw [h0]
    have c1 := dropP_carets hn
    have c2 := dropP_carets hm
    rcases Int.lt_trichotomy n m with h | h | h
    · obtain ⟨h1, h2, h3⟩ := both_two hn hm h
      rw [← ih (dropP p m).1.carets (by omega) _ rfl n h1, ← ih (dropP p n).1.carets (by omega) _ rfl (m - 1) h2, h3]
    · rw [h]
    · obtain ⟨h1, h2, h3⟩ := both_two hm hn h
      rw [← ih (dropP p n).1.carets (by omega) _ rfl m h1, ← ih (dropP p m).1.carets (by omega) _ rfl (n - 1) h2, h3]

theorem fillR_app (t : Tr) : ∀ us vs : List Tr, us.length = t.leaves → t.fillR (us ++ vs) = (t.fill us, vs) := by
  induction t with
  | lf =>
    intro us vs h
    match us, h with
    | [u], _ => rfl
    | [], h => simp [Tr.leaves] at h
    | _ :: _ :: _, h => simp [Tr.leaves, Tr.carets] at h
  | nd l r ihl ihr =>
    intro us vs h
    rw [leaves_nd] at h
    have hA : (us.take l.leaves).length = l.leaves := by rw [List.length_take]; omega
    have hB : (us.drop l.leaves).length = r.leaves := by rw [List.length_drop]; omega
    have e := List.take_append_drop l.leaves us
    generalize us.take l.leaves = A at *
    generalize us.drop l.leaves = B at *
    subst e
    have h1 := ihl A (B ++ vs) hA
    have h2 := ihr B vs hB
    have h3 := ihl A B hA
    have h4 := ihr B [] hB
    rw [List.append_nil] at h4
    have e : Tr.fill (.nd l r) (A ++ B) = .nd (l.fill A) (r.fill B) := by
      show Tr.nd (l.fillR (A ++ B)).1 (r.fillR (l.fillR (A ++ B)).2).1 = _
      rw [h3, h4]
    rw [e, Tr.fillR, List.append_assoc, h1, h2]
theorem fill_nd {l r : Tr} {A B : List Tr} (hA : A.length = l.leaves) (hB : B.length = r.leaves) : Tr.fill (.nd l r) (A ++ B) = .nd (l.fill A) (r.fill B) := by
  have h3 := fillR_app l A B hA
  have h4 := fillR_app r B [] hB
  rw [List.append_nil] at h4
  show Tr.nd (l.fillR (A ++ B)).1 (r.fillR (l.fillR (A ++ B)).2).1 = _
  rw [h3, h4]
theorem fill_lf (u : Tr) : Tr.fill .lf [u] = u := rfl
/-- Leaves of a list of trees. -/
def sumL (us : List Tr) : Nat := (us.map Tr.leaves).sum
theorem sumL_cons (u : Tr) (us : List Tr) : sumL (u :: us) = u.leaves + sumL us := by simp [sumL]
theorem sumL_append (us vs : List Tr) : sumL (us ++ vs) = sumL us + sumL vs := by simp [sumL]
theorem sumL_eq (us : List Tr) : sumL us = sumC us + us.length := by
  induction us with
  | nil => rfl
  | cons u us ih => rw [sumL_cons, sumC_cons, ih, List.length_cons]; unfold Tr.leaves; omega
theorem fill_leaves {t : Tr} {us : List Tr} (h : us.length = t.leaves) : (t.fill us).leaves = sumL us := by
  rw [sumL_eq, h]
  unfold Tr.leaves
  rw [fill_carets t us h]
  omega
/-- The list of a caret's leaves, parted. -/
theorem partsT {l r : Tr} {us : List Tr} (h : us.length = (Tr.nd l r).leaves) : ∃ A B, us = A ++ B ∧ A.length = l.leaves ∧ B.length = r.leaves := by
  rw [leaves_nd] at h
  exact ⟨us.take l.leaves, us.drop l.leaves, (List.take_append_drop _ _).symm, by rw [List.length_take]; omega, by rw [List.length_drop]; omega⟩

/-- An exposed caret that was filled in. -/
theorem fill_drop (t : Tr) : ∀ (ps : List Tr) (u : Tr) (bs : List Tr) (m : Int), (ps ++ u :: bs).length = t.leaves → m ∈ u.exps 0 →
    ((sumL ps : Int) + m) ∈ (t.fill (ps ++ u :: bs)).exps 0 ∧ (t.fill (ps ++ u :: bs)).dropAt ((sumL ps : Int) + m) = t.fill (ps ++ u.dropAt m :: bs) := by
  induction t with
  | lf =>
    intro ps u bs m h hm
    match ps, bs, h with
    | [], [], _ =>
      have e : ((sumL [] : Nat) : Int) + m = m := by simp [sumL]
      rw [e]
      exact ⟨hm, rfl⟩
    | [], _ :: _, h => simp [Tr.leaves, Tr.carets] at h
    | _ :: _, _, h => simp [Tr.leaves, Tr.carets] at h
  | nd l r ihl ihr =>
    intro ps u bs m h hm
    rw [leaves_nd, List.length_append, List.length_cons] at h
    by_cases hlt : ps.length < l.leaves
    · have hb1 : (bs.take (l.leaves - ps.length - 1)).length = l.leaves - ps.length - 1 := by rw [List.length_take]; omega
      have hb2 : (bs.drop (l.leaves - ps.length - 1)).length = r.leaves := by rw [List.length_drop]; omega
      have e := List.take_append_drop (l.leaves - ps.length - 1) bs
      generalize bs.take (l.leaves - ps.length - 1) = b1 at *
      generalize bs.drop (l.leaves - ps.length - 1) = b2 at *
      subst e
      have hA : ∀ v : Tr, (ps ++ v :: b1).length = l.leaves := by intro v; rw [List.length_append, List.length_cons]; omega
      have ee : ∀ v : Tr, ps ++ v :: (b1 ++ b2) = (ps ++ v :: b1) ++ b2 := by intro v; simp
      obtain ⟨h1, h2⟩ := ihl ps u b1 m (hA u) hm
      rw [ee, ee, fill_nd (hA _) hb2, fill_nd (hA _) hb2, drop_left h1, h2]
      exact ⟨mem_left h1, rfl⟩
    · have ha1 : (ps.take l.leaves).length = l.leaves := by rw [List.length_take]; omega
      have ha2 : (ps.drop l.leaves).length + l.leaves = ps.length := by rw [List.length_drop]; omega
      have e := List.take_append_drop l.leaves ps
      generalize ps.take l.leaves = a1 at *
      generalize ps.drop l.leaves = a2 at *
      subst e
      have hB : ∀ v : Tr, (a2 ++ v :: bs).length = r.leaves := by intro v; rw [List.length_append, List.length_cons]; omega
      have ee : ∀ v : Tr, a1 ++ a2 ++ v :: bs = a1 ++ (a2 ++ v :: bs) := by intro v; simp
      obtain ⟨h1, h2⟩ := ihr a2 u bs m (hB u) hm
      have hl := fill_leaves ha1
      have es : ((sumL (a1 ++ a2) : Nat) : Int) + m - ((l.fill a1).leaves : Int) = (sumL a2 : Int) + m := by rw [sumL_append, hl]; omega
      rw [ee, ee, fill_nd ha1 (hB _), fill_nd ha1 (hB _), drop_right (by rw [es]; exact h1), es, h2]
      exact ⟨mem_right (by rw [es]; exact h1), rfl⟩

theorem ex_exps (t : Tr) : 0 < t.carets → ∃ m, m ∈ t.exps 0 := by
  induction t with
  | lf => intro h; simp [Tr.carets] at h
  | nd x y ihx ihy =>
    intro _
    by_cases hx : 0 < x.carets
    · obtain ⟨m, hm⟩ := ihx hx
      exact ⟨m, mem_left hm⟩
    · by_cases hy : 0 < y.carets
      · obtain ⟨m, hm⟩ := ihy hy
        exact ⟨m + x.leaves, mem_right (by rw [show m + (x.leaves : Int) - x.leaves = m by omega]; exact hm)⟩
      · have e1 : x = .lf := by cases x with
          | lf => rfl
          | nd _ _ => simp [Tr.carets] at hx
        have e2 : y = .lf := by cases y with
          | lf => rfl
          | nd _ _ => simp [Tr.carets] at hy
        subst e1; subst e2
        exact ⟨0, by simp [Tr.exps, Tr.isLf]⟩
theorem fill_lfs (t : Tr) : t.fill (List.replicate t.leaves .lf) = t := by
  induction t with
  | lf => rfl
  | nd l r ihl ihr => rw [leaves_nd, ← List.replicate_append_replicate, fill_nd (by simp) (by simp), ihl, ihr]
theorem all_lf (us : List Tr) (h : sumC us = 0) : us = List.replicate us.length .lf := by
  induction us with
  | nil => rfl
  | cons u us ih =>
    rw [sumC_cons] at h
    rw [List.length_cons, List.replicate_succ, ← ih (by omega)]
    cases u with
    | lf => rfl
    | nd _ _ => simp [Tr.carets] at h
theorem ex_caret (us : List Tr) : 0 < sumC us → ∃ ps u bs, us = ps ++ u :: bs ∧ 0 < u.carets := by
  induction us with
  | nil => intro h; simp [sumC] at h
  | cons u us ih =>
    intro h
    by_cases hu : 0 < u.carets
    · exact ⟨[], u, us, rfl, hu⟩
    · rw [sumC_cons] at h
      obtain ⟨ps, v, bs, rfl, hv⟩ := ih (by omega)
      exact ⟨u :: ps, v, bs, rfl, hv⟩
/-- A pair with trees at its leaves. -/
def expE (p : Pr) (us : List Tr) : Pr := (p.1.fill us, p.2.fill us)
theorem red_expE {p : Pr} (hp : okP p) : ∀ (k : Nat) (us : List Tr), sumC us = k → us.length = p.1.leaves → red (expE p us) = red p := by
  have hq : p.1.leaves = p.2.leaves := by unfold okP at hp; unfold Tr.leaves; omega
  intro k
  induction k with
  | zero =>
    intro us h hl
    have e := all_lf us h
    rw [hl] at e
    have : expE p us = p := by
      unfold expE
      rw [e, fill_lfs, hq, fill_lfs]
    rw [this]
  | succ k ih =>
    intro us h hl
    obtain ⟨ps, u, bs, rfl, hu⟩ := ex_caret us (by omega)
    obtain ⟨m, hm⟩ := ex_exps u hu
    obtain ⟨a1, a2⟩ := fill_drop p.1 ps u bs m hl hm
    obtain ⟨b1, b2⟩ := fill_drop p.2 ps u bs m (by omega) hm
    have hb : ((sumL ps : Int) + m) ∈ both (expE p (ps ++ u :: bs)) := mem_both.2 ⟨a1, b1⟩
    have hd : dropP (expE p (ps ++ u :: bs)) ((sumL ps : Int) + m) = expE p (ps ++ u.dropAt m :: bs) := by
      unfold dropP expE
      dsimp only
      rw [a2, b2]
    have hc := dropAt_carets u m hm
    rw [← red_drop _ _ rfl _ hb, hd]
    refine ih _ ?_ ?_
    · rw [sumC_append, sumC_cons] at h ⊢; omega
    · rw [← hl]; simp

/-- Trees with trees at their leaves. -/
def compT : List Tr → List Tr → List Tr
  | [], _ => []
  | u :: us, vs => u.fill (vs.take u.leaves) :: compT us (vs.drop u.leaves)
theorem compT_length (us : List Tr) : ∀ vs, (compT us vs).length = us.length := by
  induction us with
  | nil => intro vs; rfl
  | cons u us ih => intro vs; simp [compT, ih]
theorem compT_append (A : List Tr) : ∀ (B V W : List Tr), V.length = sumL A → compT (A ++ B) (V ++ W) = compT A V ++ compT B W := by
  induction A with
  | nil => intro B V W h; obtain rfl : V = [] := List.length_eq_zero_iff.1 (by simpa [sumL] using h); rfl
  | cons u A ih =>
    intro B V W h
    rw [sumL_cons] at h
    rw [List.cons_append, compT, compT, List.take_append_of_le_length (by omega), List.drop_append_of_le_length (by omega), ih _ _ _ (by rw [List.length_drop]; omega)]
    rfl
theorem fill_comp (t : Tr) : ∀ us vs : List Tr, us.length = t.leaves → vs.length = sumL us → t.fill (compT us vs) = (t.fill us).fill vs := by
  induction t with
  | lf =>
    intro us vs h hv
    match us, h with
    | [u], _ =>
      simp [sumL] at hv
      show Tr.fill .lf [u.fill (vs.take u.leaves)] = u.fill vs
      rw [fill_lf, List.take_of_length_le (by omega)]
    | [], h => simp [Tr.leaves] at h
    | _ :: _ :: _, h => simp [Tr.leaves, Tr.carets] at h
  | nd l r ihl ihr =>
    intro us vs h hv
    obtain ⟨A, B, rfl, hA, hB⟩ := partsT h
    rw [sumL_append] at hv
    have hV : (vs.take (sumL A)).length = sumL A := by rw [List.length_take]; omega
    have hW : (vs.drop (sumL A)).length = sumL B := by rw [List.length_drop]; omega
    have e := List.take_append_drop (sumL A) vs
    generalize vs.take (sumL A) = V at *
    generalize vs.drop (sumL A) = W at *
    subst e
    rw [compT_append _ _ _ _ hV, fill_nd (by rw [compT_length, hA]) (by rw [compT_length, hB]), fill_nd hA hB, fill_nd (by rw [hV, fill_leaves hA]) (by rw [hW, fill_leaves hB]), ihl A V hA hV, ihr B W hB hW]
theorem fill_subs (a : Tr) : ∀ g : Tr, a.part g = true → a.fill (a.subs g) = g := by
  induction a with
  | lf => intro g h; rfl
  | nd l r ihl ihr =>
    intro g h
    cases g with
    | lf => simp [Tr.part] at h
    | nd p q =>
      simp [Tr.part] at h
      rw [Tr.subs, fill_nd (below_carets l p h.1).2 (below_carets r q h.2).2, ihl p h.1, ihr q h.2]
theorem subs_fill (a : Tr) : ∀ us : List Tr, us.length = a.leaves → a.part (a.fill us) = true ∧ a.subs (a.fill us) = us := by
  induction a with
  | lf =>
    intro us h
    match us, h with
    | [u], _ => exact ⟨rfl, rfl⟩
    | [], h => simp [Tr.leaves] at h
    | _ :: _ :: _, h => simp [Tr.leaves, Tr.carets] at h
  | nd l r ihl ihr =>
    intro us h
    obtain ⟨A, B, rfl, hA, hB⟩ := partsT h
    rw [fill_nd hA hB]
    have h1 := ihl A hA
    have h2 := ihr B hB
    exact ⟨by simp [Tr.part, h1.1, h2.1], by rw [Tr.subs, h1.2, h2.2]⟩
theorem join_least (a : Tr) : ∀ b g : Tr, a.part g = true → b.part g = true → (a.join b).part g = true := by
  induction a with
  | lf => intro b g h k; exact k
  | nd l r ihl ihr =>
    intro b g h k
    cases b with
    | lf => exact h
    | nd p q =>
      cases g with
      | lf => simp [Tr.part] at h
      | nd x y =>
        simp [Tr.part] at h k
        simp [Tr.join, Tr.part, ihl p x h.1 k.1, ihr q y h.2 k.2]
theorem okP_leaves {p : Pr} (hp : okP p) : p.1.leaves = p.2.leaves := by unfold okP at hp; unfold Tr.leaves; omega
/-- The product by any tree in the middle. -/
theorem mulP_any {p q : Pr} (hp : okP p) (hq : okP q) {S T : List Tr} (hS : S.length = p.2.leaves) (hT : T.length = q.1.leaves) (h : p.2.fill S = q.1.fill T) :
    red (p.1.fill S, q.2.fill T) = mulP p q := by
  have hJ : (p.2.join q.1).part (p.2.fill S) = true := join_least _ _ _ (subs_fill p.2 S hS).1 (by rw [h]; exact (subs_fill q.1 T hT).1)
  have hU := below_carets _ _ hJ
  have hg := fill_subs _ _ hJ
  generalize (p.2.join q.1).subs (p.2.fill S) = U at hU hg
  have s1 := below_carets p.2 _ (part_join p.2 q.1)
  have s2 := below_carets q.1 _ (part_join' p.2 q.1)
  have f1 := fill_subs p.2 _ (part_join p.2 q.1)
  have f2 := fill_subs q.1 _ (part_join' p.2 q.1)
  have o1 := okP_leaves hp
  have o2 := okP_leaves hq
  have l1 : sumL (p.2.subs (p.2.join q.1)) = (p.2.join q.1).leaves := by rw [← fill_leaves s1.2, f1]
  have l2 : sumL (q.1.subs (p.2.join q.1)) = (p.2.join q.1).leaves := by rw [← fill_leaves s2.2, f2]
  unfold mulP
  have hr : rawP p q = (p.1.fill (p.2.subs (p.2.join q.1)), q.2.fill (q.1.subs (p.2.join q.1))) := rfl
  have c1 : compT (p.2.subs (p.2.join q.1)) U = S := by
    rw [← (subs_fill p.2 S hS).2, ← hg, ← (subs_fill p.2 (compT (p.2.subs (p.2.join q.1)) U) (by rw [compT_length, s1.2])).2, fill_comp _ _ _ s1.2 (by rw [hU.2, l1]), f1]
  have c2 : compT (q.1.subs (p.2.join q.1)) U = T := by
    rw [← (subs_fill q.1 T hT).2, ← h, ← hg, ← (subs_fill q.1 (compT (q.1.subs (p.2.join q.1)) U) (by rw [compT_length, s2.2])).2, fill_comp _ _ _ s2.2 (by rw [hU.2, l2]), f2]
  have e : (p.1.fill S, q.2.fill T) = expE (rawP p q) U := by
    rw [hr, ← c1, ← c2]
    unfold expE
    dsimp only
    rw [fill_comp _ _ _ (by rw [s1.2, o1]) (by rw [hU.2, l1]), fill_comp _ _ _ (by rw [s2.2, o2]) (by rw [hU.2, l2])]
  have hok : okP (rawP p q) := by
    have k1 := fill_leaves (t := p.1) (us := p.2.subs (p.2.join q.1)) (by rw [s1.2, o1])
    have k2 := fill_leaves (t := q.2) (us := q.1.subs (p.2.join q.1)) (by rw [s2.2, o2])
    rw [hr]
    unfold okP
    dsimp only
    rw [l1] at k1
    rw [l2] at k2
    unfold Tr.leaves at k1 k2
    omega
  rw [e]
  refine red_expE hok _ U rfl ?_
  rw [hU.2, hr]
  dsimp only
  rw [fill_leaves (by rw [s1.2, o1]), l1]

theorem expE_ok {p : Pr} (hp : okP p) {V : List Tr} (hV : V.length = p.1.leaves) : okP (expE p V) := by
  have o1 := okP_leaves hp
  have k1 := fill_leaves (t := p.1) (us := V) hV
  have k2 := fill_leaves (t := p.2) (us := V) (by omega)
  unfold okP expE
  dsimp only
  unfold Tr.leaves at k1 k2
  omega
theorem mulP_expL {p q : Pr} (hp : okP p) (hq : okP q) {V : List Tr} (hV : V.length = p.1.leaves) : mulP (expE p V) q = mulP p q := by
  have o1 := okP_leaves hp
  have s1 := below_carets (expE p V).2 _ (part_join (expE p V).2 q.1)
  have s2 := below_carets q.1 _ (part_join' (expE p V).2 q.1)
  have f1 := fill_subs (expE p V).2 _ (part_join (expE p V).2 q.1)
  have f2 := fill_subs q.1 _ (part_join' (expE p V).2 q.1)
  have hl : (expE p V).2.leaves = sumL V := fill_leaves (by omega)
  unfold mulP
  have hr : rawP (expE p V) q = ((expE p V).1.fill ((expE p V).2.subs ((expE p V).2.join q.1)), q.2.fill (q.1.subs ((expE p V).2.join q.1))) := rfl
  generalize (expE p V).2.subs ((expE p V).2.join q.1) = S at *
  generalize q.1.subs ((expE p V).2.join q.1) = T at *
  have e1 : (expE p V).1.fill S = p.1.fill (compT V S) := (fill_comp _ _ _ hV (by rw [s1.2, hl])).symm
  have e2 : (expE p V).2.fill S = p.2.fill (compT V S) := (fill_comp _ _ _ (by omega) (by rw [s1.2, hl])).symm
  rw [hr, e1]
  exact mulP_any hp hq (by rw [compT_length]; omega) s2.2 (by rw [← e2, f1, f2])
theorem mulP_expR {p q : Pr} (hp : okP p) (hq : okP q) {V : List Tr} (hV : V.length = q.1.leaves) : mulP p (expE q V) = mulP p q := by
  have o1 := okP_leaves hq
  have s1 := below_carets p.2 _ (part_join p.2 (expE q V).1)
  have s2 := below_carets (expE q V).1 _ (part_join' p.2 (expE q V).1)
  have f1 := fill_subs p.2 _ (part_join p.2 (expE q V).1)
  have f2 := fill_subs (expE q V).1 _ (part_join' p.2 (expE q V).1)
  have hl : (expE q V).1.leaves = sumL V := fill_leaves hV
  unfold mulP
  have hr : rawP p (expE q V) = (p.1.fill (p.2.subs (p.2.join (expE q V).1)), (expE q V).2.fill ((expE q V).1.subs (p.2.join (expE q V).1))) := rfl
  generalize p.2.subs (p.2.join (expE q V).1) = S at *
  generalize (expE q V).1.subs (p.2.join (expE q V).1) = T at *
  have e1 : (expE q V).1.fill T = q.1.fill (compT V T) := (fill_comp _ _ _ hV (by rw [s2.2, hl])).symm
  have e2 : (expE q V).2.fill T = q.2.fill (compT V T) := (fill_comp _ _ _ (by omega) (by rw [s2.2, hl])).symm
  rw [hr, e2]
  exact mulP_any hp hq s1.2 (by rw [compT_length]; omega) (by rw [← e1, f1, f2])

/-- So many leaves, but for a caret at one of them. -/
def bump (k n : Nat) : List Tr := List.replicate n .lf ++ .nd .lf .lf :: List.replicate (k - n - 1) .lf
theorem bump_length {k n : Nat} (h : n < k) : (bump k n).length = k := by simp [bump]; omega
theorem drop_fill (t : Tr) : ∀ n : Int, n ∈ t.exps 0 → (t.dropAt n).fill (bump (t.dropAt n).leaves n.toNat) = t := by
  induction t with
  | lf => intro n h; simp [Tr.exps] at h
  | nd x y ihx ihy =>
    intro n hn
    have hrg := exps_range _ 0 n hn
    rcases mem_cases hn with ⟨rfl, rfl, rfl⟩ | hn | hn
    · rfl
    · have h1 := exps_range x 0 n hn
      have hl := drop_leaves hn
      rw [drop_left hn]
      have e : bump (Tr.nd (x.dropAt n) y).leaves n.toNat = bump (x.dropAt n).leaves n.toNat ++ List.replicate y.leaves .lf := by
        rw [leaves_nd]
        unfold bump
        rw [List.append_assoc, List.cons_append, List.replicate_append_replicate]
        congr 3
        omega
      rw [e, fill_nd (bump_length (by omega)) (by simp), ihx n hn, fill_lfs]
    · have h1 := exps_range y 0 _ hn
      have hl := drop_leaves hn
      rw [drop_right hn]
      have e : bump (Tr.nd x (y.dropAt (n - x.leaves))).leaves n.toNat = List.replicate x.leaves .lf ++ bump (y.dropAt (n - x.leaves)).leaves (n - x.leaves).toNat := by
        rw [leaves_nd]
        unfold bump
        rw [← List.append_assoc, List.replicate_append_replicate]
        congr 3 <;> omega
      rw [e, fill_nd (by simp) (bump_length (by omega)), ihy _ hn, fill_lfs]
theorem drop_exp {p : Pr} (hp : okP p) {n : Int} (h : n ∈ both p) : okP (dropP p n) ∧ ∃ V, V.length = (dropP p n).1.leaves ∧ expE (dropP p n) V = p := by
  have hc := dropP_carets h
  have ho : okP (dropP p n) := by unfold okP at *; omega
  obtain ⟨h1, h2⟩ := mem_both.1 h
  have r1 := exps_range p.1 0 n h1
  have l1 := drop_leaves h1
  refine ⟨ho, bump (dropP p n).1.leaves n.toNat, bump_length (by show n.toNat < (p.1.dropAt n).leaves; omega), ?_⟩
  unfold expE
  rw [show (dropP p n).1.fill (bump (dropP p n).1.leaves n.toNat) = p.1 from drop_fill p.1 n h1, okP_leaves ho, show (dropP p n).2.fill (bump (dropP p n).2.leaves n.toNat) = p.2 from drop_fill p.2 n h2]
/-- A pair is made by the reduced one with trees at its leaves. -/
theorem red_exp : ∀ (k : Nat) (p : Pr), p.1.carets = k → okP p → okP (red p) ∧ ∃ V, V.length = (red p).1.leaves ∧ expE (red p) V = p := by
  intro k
  induction k using Nat.strongRecOn with
  | _ k ih =>
    intro p hk hp
    by_cases hl : 0 < (both p).length
    · have h0 := red_first0 hl
      have hm : (both p).getD 0 0 ∈ both p := by
        cases hb : both p with
        | nil => rw [hb] at hl; simp at hl
        | cons a l => simp
      generalize (both p).getD 0 0 = m at h0 hm
      have c2 := dropP_carets hm
      obtain ⟨ho, V, hV, hE⟩ := drop_exp hp hm
      obtain ⟨hr, U, hU, hF⟩ := ih (dropP p m).1.carets (by omega) _ rfl ho
      rw [h0]
      have hUl : sumL U = (dropP p m).1.leaves := by rw [← fill_leaves hU]; exact congrArg (fun x : Pr => x.1.leaves) hF
      refine ⟨hr, compT U V, by rw [compT_length, hU], ?_⟩
      have o1 := okP_leaves hr
      have g1 := fill_comp (red (dropP p m)).1 U V hU (by rw [hV, hUl])
      have g2 := fill_comp (red (dropP p m)).2 U V (by omega) (by rw [hV, hUl])
      unfold expE
      rw [g1, g2]
      rw [show (red (dropP p m)).1.fill U = (dropP p m).1 from congrArg Prod.fst hF, show (red (dropP p m)).2.fill U = (dropP p m).2 from congrArg Prod.snd hF]
      exact hE
    · have hb : both p = [] := List.length_eq_zero_iff.1 (by omega)
      have hr := (red_self p).2 hb
      rw [hr]
      have o1 := okP_leaves hp
      refine ⟨hp, List.replicate p.1.leaves .lf, by simp, ?_⟩
      unfold expE
      rw [fill_lfs, o1, fill_lfs]
theorem mulP_redL {p q : Pr} (hp : okP p) (hq : okP q) : mulP (red p) q = mulP p q := by
  obtain ⟨hr, V, hV, hE⟩ := red_exp _ p rfl hp
  have := mulP_expL hr hq hV
  rw [hE] at this
  exact this.symm
theorem mulP_redR {p q : Pr} (hp : okP p) (hq : okP q) : mulP p (red q) = mulP p q := by
  obtain ⟨hr, V, hV, hE⟩ := red_exp _ q rfl hq
  have := mulP_expR hp hr hV
  rw [hE] at this
  exact this.symm
end Go.Proofs.Yteflpaebckichab

/-! RuP -/
namespace Go.Proofs.Yteflpaebckichab

theorem redBy_uniq : ∀ (k : Nat) (p : Pr) (cs : List Int), p.1.carets = k → redBy p cs = red p := by
  intro k
  induction k with
  | zero =>
    intro p cs h
    have hb := both_empty h
    rw [redBy_end hb, red, redBy_end hb]
  | succ k ih =>
    intro p cs h
    cases hb : both p with
    | nil => rw [redBy_end hb, red, redBy_end hb]
    | cons n ns =>
      have hm := pick_mem hb cs
      have hc := dropP_carets hm
      rw [redBy_step hb cs, ih _ _ (by omega)]
      exact red_drop _ p rfl _ hm
theorem red_red (p : Pr) : red (red p) = red p := (red_self (red p)).2 (red_both p [])
theorem graft_exp (t : Tr) : ∀ n : Int, 0 ≤ n → n < t.leaves → n ∈ (t.graft n (.nd .lf .lf)).exps 0 ∧ (t.graft n (.nd .lf .lf)).dropAt n = t := by
  induction t with
  | lf =>
    intro n h1 h2
    have : n = 0 := by unfold Tr.leaves Tr.carets at h2; omega
    subst this
    simp [Tr.graft, Tr.exps, Tr.dropAt, Tr.isLf]
  | nd l r ihl ihr =>
    intro n h1 h2
    rw [leaves_nd] at h2
    rw [Tr.graft]
    by_cases hn : n < l.leaves
    · rw [if_pos hn]
      obtain ⟨e1, e2⟩ := ihl n h1 hn
      refine ⟨mem_left e1, ?_⟩
      rw [drop_left e1, e2]
    · rw [if_neg hn]
      obtain ⟨e1, e2⟩ := ihr (n - l.leaves) (by omega) (by omega)
      refine ⟨mem_right e1, ?_⟩
      rw [drop_right e1, e2]
theorem exp_both {p : Pr} (hp : okP p) {n : Int} (h1 : 0 ≤ n) (h2 : n ≤ p.1.carets) : n ∈ both (p.1.graft n (.nd .lf .lf), p.2.graft n (.nd .lf .lf)) ∧ red (p.1.graft n (.nd .lf .lf), p.2.graft n (.nd .lf .lf)) = red p := by
  have hp' : p.1.carets = p.2.carets := hp
  obtain ⟨a1, a2⟩ := graft_exp p.1 n h1 (by unfold Tr.leaves; omega)
  obtain ⟨b1, b2⟩ := graft_exp p.2 n h1 (by unfold Tr.leaves; omega)
  have hm : n ∈ both (p.1.graft n (.nd .lf .lf), p.2.graft n (.nd .lf .lf)) := mem_both.2 ⟨a1, b1⟩
  refine ⟨hm, ?_⟩
  have h3 := red_drop _ (p.1.graft n (.nd .lf .lf), p.2.graft n (.nd .lf .lf)) rfl n hm
  rw [← h3, dropP]
  show red ((p.1.graft n (.nd .lf .lf)).dropAt n, (p.2.graft n (.nd .lf .lf)).dropAt n) = red p
  rw [a2, b2]
theorem red_less {p : Pr} (h : both p ≠ []) : (red p).1.carets < p.1.carets := by
  cases hb : both p with
  | nil => exact absurd hb h
  | cons n ns =>
    have hm : n ∈ both p := by rw [hb]; simp
    have hc := dropP_carets hm
    have h3 := red_drop _ p rfl n hm
    have h4 := (redBy_carets (dropP p n) []).1
    rw [← h3]
    show (redBy (dropP p n) []).1.carets < _
    omega
end Go.Proofs.Yteflpaebckichab

/-! WIsPartOf -/
namespace Go.Proofs.Yteflpaebckichab
open Go.RowKit

def partO (a b : ByteArray) : Option Bool :=
  match treeOf a, treeOf b with
  | some t, some u => some (t.part u)
  | _, _ => none

theorem specIsPartOf_any (a b : ByteArray) (w : World) (ha : a.size ≤ 9223372036854775806) (hb : b.size ≤ 9223372036854775806) :
    Calls Try.prog 36 #[.string a, .string b] w (Gives (ansB (partO a b)) w) := by
  cases h : treeOf a with
  | none =>
    rw [show partO a b = none by simp [partO, h]]
    exact specIsPartOf_no1 a b w ha h
  | some t =>
    obtain ⟨rfl, hc⟩ := treeOf_some h
    cases k : treeOf b with
    | none =>
      rw [show partO t.str b = none by simp [partO, k]]
      exact specIsPartOf_no2 t b w hc hb k
    | some u =>
      obtain ⟨rfl, hd⟩ := treeOf_some k
      rw [show partO t.str u.str = some (t.part u) by simp [partO, h, k]]
      exact specIsPartOf_yes t u w hc hd

theorem implIsPartOf_any (a b : ByteArray) (w : World) (ha : a.size ≤ 9223372036854775806) (hb : b.size ≤ 9223372036854775806) :
    Calls Try.prog 34 #[.string a, .string b] w (Gives (ansB (partO a b)) w) := by
  cases h : treeOf a with
  | none =>
    rw [show partO a b = none by simp [partO, h]]
    exact implIsPartOf_no1 a b w ha h
  | some t =>
    obtain ⟨rfl, hc⟩ := treeOf_some h
    cases k : treeOf b with
    | none =>
      rw [show partO t.str b = none by simp [partO, k]]
      exact implIsPartOf_no2 t b w hc hb k
    | some u =>
      obtain ⟨rfl, hd⟩ := treeOf_some k
      rw [show partO t.str u.str = some (t.part u) by simp [partO, h, k]]
      exact implIsPartOf_yes t u w hc hd

end Go.Proofs.Yteflpaebckichab

/-! Same -/
namespace Go.Proofs.Yteflpaebckichab
open Go.RowKit

theorem sameB_yes {p q : Pr} (h : red p = red q) : sameB p q = true := by unfold sameB; exact @decide_eq_true _ (Classical.propDecidable _) h
theorem ansB_some (b : Bool) : ansB (some b) = .tuple #[.bool b, .bool true] := by cases b <;> rfl
theorem ansB_tt : ansB (some true) = .tuple #[.bool true, .bool true] := rfl
set_option maxRecDepth 100000 in
theorem sameMap_any (a b c d : ByteArray) (w : World) (p q : Pr) (hp : pairOf a b = some p) (hq : pairOf c d = some q) (h : red p = red q) (z1 : a.size ≤ 1000) (z2 : b.size ≤ 1000) (z3 : c.size ≤ 1000) (z4 : d.size ≤ 1000) :
    Calls Try.prog 65 #[.agg #[.string a, .string b], .agg #[.string c, .string d]] w (Gives (.bool true) w) := by
  have hS := fun w => implAreSamePairs_any a b c d w (by omega) (by omega) (by omega) (by omega)
  rw [hp, hq] at hS
  simp only [Option.bind_some] at hS
  rw [sameB_yes h, ansB_tt] at hS
  have hx0 := heap_keep (allocB (w.alloc (.cells #[.string a, .string b] 59 (0, 0))) (.cells #[.string c, .string d] 59 (0, 0))) (heap_alloc_at w (.cells #[.string a, .string b] 59 (0, 0)))
  have hx1 := heap_alloc_at (w.alloc (.cells #[.string a, .string b] 59 (0, 0))) (.cells #[.string c, .string d] 59 (0, 0))
  rw [show (w.alloc (.cells #[.string a, .string b] 59 (0, 0))).heap.size = w.heap.size + 1 by simp] at hx1
  have hb := nxAlloc (nxAlloc (Below.refl w.heap.size w) (.cells #[.string a, .string b] 59 (0, 0))) (.cells #[.string c, .string d] 59 (0, 0))
  obtain ⟨f1, f2, f3⟩ := two_facts hx0
  obtain ⟨g1, g2, g3⟩ := two_facts hx1
  clear hx0 hx1 hp hq h
  go_enter Try.func65, Try.ntmps65
  go_wp2_with fail
  refine (hS _).mono ?_; rintro e w1 ⟨rfl, hb1⟩
  go_wp2_with fail
  go_ret
  exact ⟨rfl, nx hb hb1⟩
end Go.Proofs.Yteflpaebckichab

/-! WithP -/
namespace Go.Proofs.Yteflpaebckichab

/-- The spec's reading of addresses: the tree behind an address and how many addresses it takes (k: how many levels are left). -/
def withS : Nat → List ByteArray → ByteArray → Option (Tr × Nat)
  | 0, _, _ => none
  | _ + 1, [], _ => none
  | k + 1, a :: L, here =>
    if a = here then some (.lf, 1)
    else match withS k (a :: L) (here ++ ⟨#[48]⟩) with
      | none => none
      | some (l, n) =>
        match withS k ((a :: L).drop n) (here ++ ⟨#[49]⟩) with
        | none => none
        | some (r, m) => some (.nd l r, n + m)

def prefixB (a here : ByteArray) : Bool := a.data.toList.take here.size == here.data.toList

/-- The program's reading: the tree and what is left of the addresses. -/
def withI : Nat → List ByteArray → ByteArray → Option (Tr × List ByteArray)
  | 0, _, _ => none
  | _ + 1, [], _ => none
  | k + 1, a :: L, here =>
    if prefixB a here = false then none
    else if a = here then some (.lf, L)
    else match withI k (a :: L) (here ++ ⟨#[48]⟩) with
      | none => none
      | some (l, L1) =>
        match withI k L1 (here ++ ⟨#[49]⟩) with
        | none => none
        | some (r, L2) => some (.nd l r, L2)

theorem withS_sound (k : Nat) : ∀ (L : List ByteArray) (here : ByteArray) (t : Tr) (n : Nat), withS k L here = some (t, n) → n = t.carets + 1 ∧ n ≤ L.length ∧ L.take n = t.addrs here := by
  induction k with
  | zero => intro L here t n h; simp [withS] at h
  | succ k ih =>
    intro L here t n h
    match L with
    | [] => simp [withS] at h
    | a :: L =>
      rw [withS] at h
      split at h
      · next ha => simp at h; obtain ⟨rfl, rfl⟩ := h; exact ⟨rfl, by simp, by simp [Tr.addrs, ha]⟩
      · split at h
        · simp at h
        · next l n1 h1 =>
          split at h
          · simp at h
          · next r m h2 =>
            simp at h
            obtain ⟨rfl, rfl⟩ := h
            obtain ⟨e1, l1, f1⟩ := ih _ _ _ _ h1
            obtain ⟨e2, l2, f2⟩ := ih _ _ _ _ h2
            rw [List.length_drop] at l2
            refine ⟨by simp [Tr.carets]; omega, by omega, ?_⟩
            rw [List.take_add, f1, f2, Tr.addrs]

theorem addrs_cons (t : Tr) : ∀ here, ∃ a L, t.addrs here = a :: L ∧ prefixB a here = true ∧ here.size ≤ a.size := by
  induction t with
  | lf => intro here; exact ⟨here, [], rfl, by unfold prefixB; rw [Lib.size_eq, List.take_length]; simp, Nat.le_refl _⟩
  | nd l r ihl _ =>
    intro here
    obtain ⟨a, L, h1, h2, h3⟩ := ihl (here ++ ⟨#[48]⟩)
    refine ⟨a, L ++ r.addrs (here ++ ⟨#[49]⟩), by rw [Tr.addrs, h1]; rfl, ?_, ?_⟩
    · unfold prefixB at *
      have e : (here ++ (⟨#[48]⟩ : ByteArray)).size = here.size + 1 := ByteArray.size_append
      rw [e] at h2
      simp only [beq_iff_eq] at h2 ⊢
      have h4 := congrArg (List.take here.size) h2
      rw [List.take_take, Nat.min_eq_left (by omega)] at h4
      rw [h4, ByteArray.data_append, Array.toList_append, List.take_append_of_le_length (by rw [← Lib.size_eq]; exact Nat.le_refl _), Lib.size_eq, List.take_length]
    · have e : (here ++ (⟨#[48]⟩ : ByteArray)).size = here.size + 1 := ByteArray.size_append
      omega

theorem addrs_ne (l r : Tr) (here : ByteArray) {a : ByteArray} {L : List ByteArray} (h : (Tr.nd l r).addrs here = a :: L) : a ≠ here := by
  obtain ⟨b, M, h1, _, h3⟩ := addrs_cons l (here ++ ⟨#[48]⟩)
  rw [Tr.addrs, h1] at h
  injection h with h _
  have e : (here ++ (⟨#[48]⟩ : ByteArray)).size = here.size + 1 := ByteArray.size_append
  intro heq
  rw [← h] at heq
  rw [heq] at h3
  omega

theorem withS_complete (t : Tr) : ∀ (k : Nat) (here : ByteArray) (r : List ByteArray), t.carets < k → withS k (t.addrs here ++ r) here = some (t, t.carets + 1) := by
  induction t with
  | lf => intro k here r h; cases k with | zero => omega | succ k => simp [Tr.addrs, withS, Tr.carets]
  | nd a b iha ihb =>
    intro k here r h
    cases k with
    | zero => omega
    | succ k =>
      have h' : a.carets < k ∧ b.carets < k := by simp [Tr.carets] at h; omega
      obtain ⟨x, L, hx, _, _⟩ := addrs_cons (.nd a b) here
      have hne := addrs_ne a b here hx
      rw [hx, List.cons_append, withS, if_neg hne]
      have e : x :: (L ++ r) = a.addrs (here ++ ⟨#[48]⟩) ++ (b.addrs (here ++ ⟨#[49]⟩) ++ r) := by
        rw [← List.cons_append, ← hx, Tr.addrs, List.append_assoc]
      rw [e, iha k _ _ h'.1]
      show (match withS k ((a.addrs (here ++ ⟨#[48]⟩) ++ (b.addrs (here ++ ⟨#[49]⟩) ++ r)).drop (a.carets + 1)) (here ++ ⟨#[49]⟩) with | none => none | some (q, m) => _) = _
      rw [List.drop_left' (addrs_length a _), ihb k _ _ h'.2]
      simp [Tr.carets]; omega

theorem withI_sound (k : Nat) : ∀ (L : List ByteArray) (here : ByteArray) (t : Tr) (R : List ByteArray), withI k L here = some (t, R) → L = t.addrs here ++ R := by
  induction k with
  | zero => intro L here t n h; simp [withI] at h
  | succ k ih =>
    intro L here t R h
    match L with
    | [] => simp [withI] at h
    | a :: L =>
      rw [withI] at h
      split at h
      · simp at h
      · split at h
        · next ha => simp at h; obtain ⟨rfl, rfl⟩ := h; simp [Tr.addrs, ha]
        · split at h
          · simp at h
          · next l L1 h1 =>
            split at h
            · simp at h
            · next r L2 h2 =>
              simp at h
              obtain ⟨rfl, rfl⟩ := h
              rw [ih _ _ _ _ h1, ih _ _ _ _ h2, Tr.addrs, List.append_assoc]

theorem withI_complete (t : Tr) : ∀ (k : Nat) (here : ByteArray) (r : List ByteArray), t.carets < k → withI k (t.addrs here ++ r) here = some (t, r) := by
  induction t with
  | lf =>
    intro k here r h
    cases k with
    | zero => omega
    | succ k =>
      obtain ⟨x, L, hx, hp, _⟩ := addrs_cons .lf here
      simp [Tr.addrs] at hx
      obtain ⟨rfl, rfl⟩ := hx
      simp [Tr.addrs, withI, hp]
  | nd a b iha ihb =>
    intro k here r h
    cases k with
    | zero => omega
    | succ k =>
      have h' : a.carets < k ∧ b.carets < k := by simp [Tr.carets] at h; omega
      obtain ⟨x, L, hx, hp, _⟩ := addrs_cons (.nd a b) here
      have hne := addrs_ne a b here hx
      rw [hx, List.cons_append, withI, if_neg (by rw [hp]; decide), if_neg hne]
      have e : x :: (L ++ r) = a.addrs (here ++ ⟨#[48]⟩) ++ (b.addrs (here ++ ⟨#[49]⟩) ++ r) := by
        rw [← List.cons_append, ← hx, Tr.addrs, List.append_assoc]
      rw [e, iha k _ _ h'.1]
      show (match withI k (b.addrs (here ++ ⟨#[49]⟩) ++ r) (here ++ ⟨#[49]⟩) with | none => none | some (q, m) => _) = _
      rw [ihb k _ _ h'.2]

/-- The tree with such addresses, if there is one: at most nine of them. -/
def withO (L : List ByteArray) : Option Tr :=
  if L.length ≤ 9 then
    match withS 9 L ⟨#[]⟩ with
    | some (t, n) => if n = L.length then some t else none
    | none => none
  else none

theorem withO_of {L : List ByteArray} {t : Tr} {n : Nat} (hl : L.length ≤ 9) (h : withS 9 L ⟨#[]⟩ = some (t, n)) : withO L = if n = L.length then some t else none := by
  unfold withO; rw [if_pos hl, h]
theorem withO_no {L : List ByteArray} (h : withS 9 L ⟨#[]⟩ = none) : withO L = none := by
  unfold withO; rw [h]; simp

theorem withO_some {L : List ByteArray} {t : Tr} (h : withO L = some t) : L = t.addrs ⟨#[]⟩ ∧ t.carets ≤ 8 := by
  unfold withO at h
  split at h
  · next hl =>
    split at h
    · next t' n hw =>
      split at h
      · next hn =>
        injection h with h
        subst h
        obtain ⟨e1, e2, e3⟩ := withS_sound _ _ _ _ _ hw
        exact ⟨by rw [← e3, hn, List.take_length], by omega⟩
      · simp at h
    · simp at h
  · simp at h

theorem withO_addrs (t : Tr) (h : t.carets ≤ 8) : withO (t.addrs ⟨#[]⟩) = some t := by
  have hl := addrs_length t ⟨#[]⟩
  have hc := withS_complete t 9 ⟨#[]⟩ [] (by omega)
  rw [List.append_nil] at hc
  unfold withO
  rw [if_pos (by omega), hc]
  simp [hl]

theorem withO_eq {L : List ByteArray} (hl : L.length ≤ 9) : withO L = match withI 10 L ⟨#[]⟩ with | some (t, []) => some t | _ => none := by
  cases h : withO L with
  | some t =>
    obtain ⟨rfl, hc⟩ := withO_some h
    have := withI_complete t 10 ⟨#[]⟩ [] (by omega)
    rw [List.append_nil] at this
    rw [this]
  | none =>
    cases hi : withI 10 L ⟨#[]⟩ with
    | none => rfl
    | some p =>
      obtain ⟨t, R⟩ := p
      cases R with
      | cons a R => rfl
      | nil =>
        have e := withI_sound _ _ _ _ _ hi
        rw [List.append_nil] at e
        subst e
        have hc := addrs_length t ⟨#[]⟩
        rw [withO_addrs t (by omega)] at h
        simp at h
end Go.Proofs.Yteflpaebckichab

/-! DepthP -/
namespace Go.Proofs.Yteflpaebckichab
def Tr.depths : Tr → Int → List Int
  | .lf, d => [d]
  | .nd l r, d => l.depths (d + 1) ++ r.depths (d + 1)

/-- The depths that are told along a text. -/
def depL : List UInt8 → Int → List Int
  | [], _ => []
  | c :: r, d => if c = 40 then depL r (d + 1) else if c = 41 then depL r (d - 1) else d :: depL r d

theorem depL_text (t : Tr) : ∀ (r : List UInt8) (d : Int), depL (t.text ++ r) d = t.depths d ++ depL r d := by
  induction t with
  | lf => intro r d; simp [Tr.text, Tr.depths, depL]
  | nd a b iha ihb =>
    intro r d
    have e : (Tr.nd a b).text ++ r = 40 :: (a.text ++ (b.text ++ (41 :: r))) := by simp [Tr.text]
    rw [e, depL, if_pos rfl, iha, ihb, depL, if_neg (by decide), if_pos rfl, Int.add_sub_cancel, Tr.depths, List.append_assoc]

theorem depths_length (t : Tr) : ∀ d, (t.depths d).length = t.carets + 1 := by
  induction t with
  | lf => intro d; rfl
  | nd a b iha ihb => intro d; simp [Tr.depths, Tr.carets, iha, ihb]; omega

theorem depths_addrs (t : Tr) : ∀ here : ByteArray, (t.addrs here).map (fun s => (s.size : Int)) = t.depths here.size := by
  induction t with
  | lf => intro here; rfl
  | nd a b iha ihb =>
    intro here
    have e0 : ∀ c : UInt8, (((here ++ (⟨#[c]⟩ : ByteArray)).size : Nat) : Int) = (here.size : Int) + 1 := fun c => by
      rw [ByteArray.size_append]; rfl
    rw [Tr.addrs, List.map_append, iha, ihb, e0, e0]; rfl
end Go.Proofs.Yteflpaebckichab

/-! TaP -/
namespace Go.Proofs.Yteflpaebckichab

theorem list_lt_at (h a b : List UInt8) (x y : UInt8) (hxy : x < y) : h ++ x :: a < h ++ y :: b := by
  induction h with
  | nil => exact List.Lex.rel hxy
  | cons c h ih => exact List.Lex.cons ih
theorem addrs_here (t : Tr) : ∀ (here : ByteArray), ∀ s ∈ t.addrs here, ∃ q, s.data.toList = here.data.toList ++ q := by
  induction t with
  | lf => intro here s hs; simp [Tr.addrs] at hs; subst hs; exact ⟨[], by simp⟩
  | nd l r ihl ihr =>
    intro here s hs
    rw [Tr.addrs, List.mem_append] at hs
    rcases hs with hs | hs
    · obtain ⟨q, hq⟩ := ihl _ s hs
      exact ⟨48 :: q, by rw [hq]; simp⟩
    · obtain ⟨q, hq⟩ := ihr _ s hs
      exact ⟨49 :: q, by rw [hq]; simp⟩
theorem addrs_inc (t : Tr) : ∀ here : ByteArray, (t.addrs here).Pairwise (fun a b => a.data.toList < b.data.toList) := by
  induction t with
  | lf => intro here; simp [Tr.addrs]
  | nd l r ihl ihr =>
    intro here
    rw [Tr.addrs, List.pairwise_append]
    refine ⟨ihl _, ihr _, fun a ha b hb => ?_⟩
    obtain ⟨q, hq⟩ := addrs_here l _ a ha
    obtain ⟨q', hq'⟩ := addrs_here r _ b hb
    rw [hq, hq']
    have e : ∀ (c : UInt8) (x : List UInt8), (here ++ (⟨#[c]⟩ : ByteArray)).data.toList ++ x = here.data.toList ++ c :: x := by intro c x; simp
    rw [e, e]
    exact list_lt_at _ _ _ _ _ (by decide)
/-- What the addresses share of 2 ^ 8. -/
def shareL (L : List ByteArray) : Nat := (L.map fun s => 2 ^ (8 - s.size)).sum
theorem shareL_cons (s : ByteArray) (L : List ByteArray) : shareL (s :: L) = 2 ^ (8 - s.size) + shareL L := by simp [shareL]
theorem shareL_append (L M : List ByteArray) : shareL (L ++ M) = shareL L + shareL M := by simp [shareL]
theorem share_addrs (t : Tr) : ∀ here : ByteArray, here.size + t.carets ≤ 8 → shareL (t.addrs here) = 2 ^ (8 - here.size) := by
  induction t with
  | lf => intro here h; simp [Tr.addrs, shareL]
  | nd l r ihl ihr =>
    intro here h
    rw [Tr.carets] at h
    have e0 : ∀ c : UInt8, (here ++ (⟨#[c]⟩ : ByteArray)).size = here.size + 1 := fun c => ByteArray.size_append
    rw [Tr.addrs, shareL_append, ihl _ (by rw [e0]; omega), ihr _ (by rw [e0]; omega), e0, e0]
    have e : 8 - here.size = (8 - (here.size + 1)) + 1 := by omega
    rw [e, Nat.pow_succ]; omega
theorem share_le (L : List ByteArray) : shareL L ≤ 256 * L.length := by
  induction L with
  | nil => simp [shareL]
  | cons s L ih =>
    rw [shareL_cons, List.length_cons]
    have : 2 ^ (8 - s.size) ≤ 2 ^ 8 := Nat.pow_le_pow_right (by decide) (by omega)
    omega
theorem exps_any (t : Tr) (h : 0 < t.carets) : ∀ n : Int, t.exps n ≠ [] := by
  induction t with
  | lf => simp [Tr.carets] at h
  | nd l r ihl ihr =>
    intro n e
    rw [Tr.exps, List.append_eq_nil_iff, List.append_eq_nil_iff] at e
    obtain ⟨e1, e2, e3⟩ := e
    by_cases hl : 0 < l.carets
    · exact ihl hl n e2
    by_cases hr : 0 < r.carets
    · exact ihr hr _ e3
    have a : l = .lf := by cases l with | lf => rfl | nd a b => simp [Tr.carets] at hl
    have b : r = .lf := by cases r with | lf => rfl | nd a b => simp [Tr.carets] at hr
    subst a; subst b
    simp [Tr.isLf] at e1
theorem put_back (t : Tr) : ∀ n : Int, n ∈ t.exps 0 → (t.dropAt n).graft n (.nd .lf .lf) = t := by
  induction t with
  | lf => intro n h; simp [Tr.exps] at h
  | nd l r ihl ihr =>
    intro n h
    have hr := exps_range _ 0 n h
    rw [Tr.exps, List.mem_append, List.mem_append] at h
    by_cases hb : (l.isLf && r.isLf) = true
    · obtain ⟨rfl, rfl⟩ := both_lf hb
      simp [Tr.exps, Tr.isLf] at h
      subst h
      simp [Tr.dropAt, Tr.isLf, Tr.graft]
    · have h2 : n ∈ l.exps 0 ∨ n ∈ r.exps (0 + l.leaves) := by
        rcases h with h | h
        · rw [if_neg hb] at h; simp at h
        · exact h
      clear h
      rw [Tr.dropAt, if_neg hb]
      rcases h2 with h | h
      · have h1 := exps_range l 0 n h
        have hc := dropAt_carets l n h
        rw [if_pos (by omega), Tr.graft, if_pos (by unfold Tr.leaves at *; omega), ihl n h]
      · have h3 : n - l.leaves ∈ r.exps 0 := by
          have := (exps_shift_mem r (0 + l.leaves) n).1 h
          simpa using this
        have h1 := exps_range r 0 _ h3
        rw [if_neg (by omega), Tr.graft, if_neg (by omega), ihr _ h3]
theorem mir_mir (t : Tr) : t.mir.mir = t := by
  induction t with
  | lf => rfl
  | nd l r ihl ihr => simp [Tr.mir, ihl, ihr]
end Go.Proofs.Yteflpaebckichab

/-! AtP -/
namespace Go.Proofs.Yteflpaebckichab
def Tr.sub : Tr → List UInt8 → Option Tr
  | t, [] => some t
  | .lf, _ :: _ => none
  | .nd l r, c :: cs => if c = 48 then l.sub cs else if c = 49 then r.sub cs else none

theorem sub_carets : ∀ (l : List UInt8) (t u : Tr), t.sub l = some u → u.carets + l.length ≤ t.carets := by
  intro l
  induction l with
  | nil => intro t u h; simp [Tr.sub] at h; subst h; simp
  | cons c cs ih =>
    intro t u h
    cases t with
    | lf => simp [Tr.sub] at h
    | nd a b =>
      rw [Tr.sub] at h
      split at h
      · have := ih _ _ h; simp [Tr.carets]; omega
      · split at h
        · have := ih _ _ h; simp [Tr.carets]; omega
        · simp at h
end Go.Proofs.Yteflpaebckichab

/-! TaQ -/
namespace Go.Proofs.Yteflpaebckichab

theorem com_part1 (a : Tr) : ∀ b : Tr, (a.com b).part a = true := by
  induction a with
  | lf => intro b; simp [Tr.com, Tr.part]
  | nd l r ihl ihr =>
    intro b
    cases b with
    | lf => simp [Tr.com, Tr.part]
    | nd p q => simp [Tr.com, Tr.part, ihl, ihr]
theorem com_part2 (a : Tr) : ∀ b : Tr, (a.com b).part b = true := by
  induction a with
  | lf => intro b; simp [Tr.com, Tr.part]
  | nd l r ihl ihr =>
    intro b
    cases b with
    | lf => simp [Tr.com, Tr.part]
    | nd p q => simp [Tr.com, Tr.part, ihl, ihr]
theorem join_com_carets (a : Tr) : ∀ b : Tr, (a.join b).carets + (a.com b).carets = a.carets + b.carets := by
  induction a with
  | lf => intro b; simp [Tr.join, Tr.com, Tr.carets]
  | nd l r ihl ihr =>
    intro b
    cases b with
    | lf => simp [Tr.join, Tr.com, Tr.carets]
    | nd p q =>
      have h1 := ihl p
      have h2 := ihr q
      simp only [Tr.join, Tr.com, Tr.carets]
      omega
theorem join_eq_part (a : Tr) : ∀ b : Tr, a.join b = b ↔ a.part b = true := by
  induction a with
  | lf => intro b; simp [Tr.join, Tr.part]
  | nd l r ihl ihr =>
    intro b
    cases b with
    | lf => simp [Tr.join, Tr.part]
    | nd p q => simp [Tr.join, Tr.part, ihl, ihr]
theorem join_str (t u : Tr) : ((t.join u).str.toList == u.str.toList) = t.part u := by
  rw [Bool.eq_iff_iff, ← join_eq_part]
  constructor
  · intro h; exact str_inj (by simpa using h)
  · intro h; rw [h]; simp
theorem sub_graft (t u : Tr) : ∀ (n : Nat) (here : ByteArray), n < t.leaves → ∃ q, ((t.addrs here).getD n ⟨#[]⟩).data.toList = here.data.toList ++ q ∧ (t.graft n u).sub q = some u := by
  induction t with
  | lf =>
    intro n here h
    have : n = 0 := by unfold Tr.leaves Tr.carets at h; omega
    subst this
    exact ⟨[], by simp [Tr.addrs], by simp [Tr.graft, Tr.sub]⟩
  | nd l r ihl ihr =>
    intro n here h
    rw [leaves_nd] at h
    have hl := addrs_length l (here ++ ⟨#[48]⟩)
    have e : ∀ (c : UInt8) (x : List UInt8), (here ++ (⟨#[c]⟩ : ByteArray)).data.toList ++ x = here.data.toList ++ c :: x := by intro c x; simp
    have hlv : l.leaves = l.carets + 1 := rfl
    rw [Tr.addrs, Tr.graft]
    by_cases hn : n < l.leaves
    · obtain ⟨q, h1, h2⟩ := ihl n (here ++ ⟨#[48]⟩) hn
      refine ⟨48 :: q, ?_, ?_⟩
      · rw [List.getD_eq_getElem?_getD, List.getElem?_append_left (by omega), ← List.getD_eq_getElem?_getD, h1, e]
      · rw [if_pos (by omega), Tr.sub, if_pos rfl, h2]
    · obtain ⟨q, h1, h2⟩ := ihr (n - l.leaves) (here ++ ⟨#[49]⟩) (by omega)
      refine ⟨49 :: q, ?_, ?_⟩
      · rw [List.getD_eq_getElem?_getD, List.getElem?_append_right (by omega), ← List.getD_eq_getElem?_getD, hl, ← hlv, h1, e]
      · rw [if_neg (by omega), Tr.sub, if_neg (by decide), if_pos rfl, show ((n : Int) - (l.leaves : Int)) = ((n - l.leaves : Nat) : Int) by omega, h2]
end Go.Proofs.Yteflpaebckichab

/-! WExpandPair -/
namespace Go.Proofs.Yteflpaebckichab
open Go.RowKit

/-- A caret of two leaves. -/
def ex1 : Tr := .nd .lf .lf
theorem ex1_str : ex1.str = ⟨#[40, 46, 46, 41]⟩ := by apply ba_ext; rfl
/-- The pair with an exposed caret in place of a leaf in both trees. -/
def expP (p : Pr) (n : Int) : Option Pr := if 0 ≤ n ∧ n ≤ p.1.carets ∧ p.1.carets < 8 then some (p.1.graft n ex1, p.2.graft n ex1) else none

set_option maxRecDepth 100000 in
set_option maxHeartbeats 1000000 in
theorem prLeaf_any (a b : ByteArray) (n : Int) (w : World) (ha : a.size ≤ 9223372036854775806) (hb : b.size ≤ 9223372036854775806) (lo : -9223372036854775808 ≤ n) (hi : n ≤ 9223372036854775807) :
    Calls Try.prog 137 #[.agg #[.string a, .string b], .int .i64 n] w (Gives (.bool (match pairOf a b with | some p => decide (0 ≤ n ∧ n ≤ p.1.carets) | none => false)) w) := by
  have hg := fun w => prGood_any a b w ha hb
  cases h : pairOf a b with
  | none =>
    rw [h] at hg
    clear h
    go_enter Try.func137, Try.ntmps137
    go_wp2_with fail
    have hb0 : Below w.heap.size w (w.alloc (.cells #[.string a, .string b] 59 (0, 0))) := nxAlloc (Below.refl _ _) _
    have hx0 := heap_alloc_at w (.cells #[.string a, .string b] 59 (0, 0))
    generalize (w.alloc (.cells #[.string a, .string b] 59 (0, 0))) = w0 at *
    obtain ⟨hx0a, hx0b, hx0c⟩ := two_facts hx0
    obtain ⟨hx0f, hx0g⟩ := two_frozen hx0
    refine (hg _).mono ?_; rintro e w1 ⟨rfl, hb1⟩
    have hbw1 := nx hb0 hb1
    replace hx0 := heap_keep hb1 hx0
    clear hx0a hx0b hx0c hx0f hx0g
    obtain ⟨hx0a, hx0b, hx0c⟩ := two_facts hx0
    obtain ⟨hx0f, hx0g⟩ := two_frozen hx0
    clear hb1 hb0
    go_wp2_with fail
    go_ret
    exact ⟨rfl, hbw1⟩
  | some p =>
    rw [h] at hg
    obtain ⟨rfl, rfl, hok, hc1, hc2⟩ := pairOf_some h
    clear h
    have C := fun w => carets_str p.1 w (by omega)
    by_cases hn : 0 ≤ n ∧ n ≤ p.1.carets
    · have I := fun w => l1In_yes n 0 p.1.carets w hn.1 hn.2
      simp only [hn, and_self, decide_true]
      clear hn
      go_enter Try.func137, Try.ntmps137
      go_wp2_with fail
      have hb0 : Below w.heap.size w (w.alloc (.cells #[.string p.1.str, .string p.2.str] 59 (0, 0))) := nxAlloc (Below.refl _ _) _
      have hx0 := heap_alloc_at w (.cells #[.string p.1.str, .string p.2.str] 59 (0, 0))
      generalize (w.alloc (.cells #[.string p.1.str, .string p.2.str] 59 (0, 0))) = w0 at *
      obtain ⟨hx0a, hx0b, hx0c⟩ := two_facts hx0
      obtain ⟨hx0f, hx0g⟩ := two_frozen hx0
      refine (hg _).mono ?_; rintro e w1 ⟨rfl, hb1⟩
      have hbw1 := nx hb0 hb1
      replace hx0 := heap_keep hb1 hx0
      clear hx0a hx0b hx0c hx0f hx0g
      obtain ⟨hx0a, hx0b, hx0c⟩ := two_facts hx0
      obtain ⟨hx0f, hx0g⟩ := two_frozen hx0
      clear hb1 hb0
      go_wp2_with fail
      refine (C _).mono ?_; rintro e wc ⟨rfl, rfl⟩
      go_wp2_with fail
      refine (I _).mono ?_; rintro e wc ⟨rfl, rfl⟩
      go_wp2_with fail
      go_ret
      exact ⟨rfl, hbw1⟩
    · have I := fun w => l1In_no n 0 p.1.carets w (by omega)
      simp only [hn, decide_false]
      clear hn
      go_enter Try.func137, Try.ntmps137
      go_wp2_with fail
      have hb0 : Below w.heap.size w (w.alloc (.cells #[.string p.1.str, .string p.2.str] 59 (0, 0))) := nxAlloc (Below.refl _ _) _
      have hx0 := heap_alloc_at w (.cells #[.string p.1.str, .string p.2.str] 59 (0, 0))
      generalize (w.alloc (.cells #[.string p.1.str, .string p.2.str] 59 (0, 0))) = w0 at *
      obtain ⟨hx0a, hx0b, hx0c⟩ := two_facts hx0
      obtain ⟨hx0f, hx0g⟩ := two_frozen hx0
      refine (hg _).mono ?_; rintro e w1 ⟨rfl, hb1⟩
      have hbw1 := nx hb0 hb1
      replace hx0 := heap_keep hb1 hx0
      clear hx0a hx0b hx0c hx0f hx0g
      obtain ⟨hx0a, hx0b, hx0c⟩ := two_facts hx0
      obtain ⟨hx0f, hx0g⟩ := two_frozen hx0
      clear hb1 hb0
      go_wp2_with fail
      refine (C _).mono ?_; rintro e wc ⟨rfl, rfl⟩
      go_wp2_with fail
      refine (I _).mono ?_; rintro e wc ⟨rfl, rfl⟩
      go_wp2_with fail
      go_ret
      exact ⟨rfl, hbw1⟩

set_option maxRecDepth 100000 in
set_option maxHeartbeats 2000000 in
theorem specExpandPair_any (a b : ByteArray) (n : Int) (w : World) (ha : a.size ≤ 9223372036854775806) (hb : b.size ≤ 9223372036854775806) (lo : -9223372036854775808 ≤ n) (hi : n ≤ 9223372036854775807) :
    Calls Try.prog 68 #[.agg #[.string a, .string b], .int .i64 n] w (Gives (ansPr ((pairOf a b).bind fun p => expP p n)) w) := by
  have hg := fun w => prLeaf_any a b n w ha hb lo hi
  cases h : pairOf a b with
  | none =>
    simp only [h] at hg
    clear h
    go_enter Try.func68, Try.ntmps68
    go_wp2_with fail
    have hb0 : Below w.heap.size w ((w.alloc (.cells #[.string a, .string b] 59 (0, 0))).alloc (.cells #[.string ⟨#[]⟩, .string ⟨#[]⟩] 59 (0, 0))) := nxAlloc (nxAlloc (Below.refl _ _) _) _
    have hx0 := heap_keep (nxAlloc (Below.refl _ _) (.cells #[.string ⟨#[]⟩, .string ⟨#[]⟩] 59 (0, 0))) (heap_alloc_at w (.cells #[.string a, .string b] 59 (0, 0)))
    have hx1 := heap_alloc_at (w.alloc (.cells #[.string a, .string b] 59 (0, 0))) (.cells #[.string ⟨#[]⟩, .string ⟨#[]⟩] 59 (0, 0))
    generalize ((w.alloc (.cells #[.string a, .string b] 59 (0, 0))).alloc (.cells #[.string ⟨#[]⟩, .string ⟨#[]⟩] 59 (0, 0))) = w0 at *
    have e1 : (w.alloc (.cells #[.string a, .string b] 59 (0, 0))).heap.size = w.heap.size + 1 := by simp
    rw [e1] at hx1
    clear e1
    obtain ⟨hx0a, hx0b, hx0c⟩ := two_facts hx0
    obtain ⟨hx0f, hx0g⟩ := two_frozen hx0
    obtain ⟨hx1a, hx1b, hx1c⟩ := two_facts hx1
    obtain ⟨hx1f, hx1g⟩ := two_frozen hx1
    refine (hg _).mono ?_; rintro e w1 ⟨rfl, hb1⟩
    have hbw1 := nx hb0 hb1
    replace hx0 := heap_keep hb1 hx0
    replace hx1 := heap_keep hb1 hx1
    clear hx0a hx0b hx0c hx0f hx0g
    obtain ⟨hx0a, hx0b, hx0c⟩ := two_facts hx0
    obtain ⟨hx0f, hx0g⟩ := two_frozen hx0
    clear hx1a hx1b hx1c hx1f hx1g
    obtain ⟨hx1a, hx1b, hx1c⟩ := two_facts hx1
    obtain ⟨hx1f, hx1g⟩ := two_frozen hx1
    clear hb1 hb0
    go_wp2_with fail
    obtain ⟨q1, q2⟩ := two_cells (set_two (.string ⟨#[]⟩) (.string ⟨#[]⟩) hx1)
    refine bodyPost_ret (v := .tuple #[.agg #[.string ⟨#[]⟩, .string ⟨#[]⟩], .bool false]) (by simp [q1, q2, results, Try.results68, go_sem]) rfl ⟨rfl, ?_⟩
    exact (hbw1.setCell (by show w.heap.size ≤ w.heap.size + 1; omega) _).setCell (by show w.heap.size ≤ w.heap.size + 1; omega) _
  | some p =>
    simp only [h] at hg
    obtain ⟨rfl, rfl, hok, hc1, hc2⟩ := pairOf_some h
    clear h
    have hok' : p.1.carets = p.2.carets := hok
    show Calls _ _ _ _ (Gives (ansPr (expP p n)) w)
    unfold expP
    by_cases hn : 0 ≤ n ∧ n ≤ p.1.carets
    · simp only [hn, and_self, decide_true] at hg
      have C := fun w => carets_str p.1 w (by omega)
      by_cases h8 : p.1.carets < 8
      · rw [if_pos (by omega)]
        have T1 := fun w => trGraft_tr p.1 ex1 n w hn.1 hn.2 (by omega) (by decide)
        have T2 := fun w => trGraft_tr p.2 ex1 n w hn.1 (by omega) (by omega) (by decide)
        rw [ex1_str] at T1 T2
        generalize p.1.graft n ex1 = X at *
        generalize p.2.graft n ex1 = Y at *
        have h8' : ((p.1.carets : Int) == 8) = false := by rw [beq_eq_false_iff_ne]; omega
        clear hn
        go_enter Try.func68, Try.ntmps68
        go_wp2_with fail
        have hb0 : Below w.heap.size w ((w.alloc (.cells #[.string p.1.str, .string p.2.str] 59 (0, 0))).alloc (.cells #[.string ⟨#[]⟩, .string ⟨#[]⟩] 59 (0, 0))) := nxAlloc (nxAlloc (Below.refl _ _) _) _
        have hx0 := heap_keep (nxAlloc (Below.refl _ _) (.cells #[.string ⟨#[]⟩, .string ⟨#[]⟩] 59 (0, 0))) (heap_alloc_at w (.cells #[.string p.1.str, .string p.2.str] 59 (0, 0)))
        have hx1 := heap_alloc_at (w.alloc (.cells #[.string p.1.str, .string p.2.str] 59 (0, 0))) (.cells #[.string ⟨#[]⟩, .string ⟨#[]⟩] 59 (0, 0))
        generalize ((w.alloc (.cells #[.string p.1.str, .string p.2.str] 59 (0, 0))).alloc (.cells #[.string ⟨#[]⟩, .string ⟨#[]⟩] 59 (0, 0))) = w0 at *
        have e1 : (w.alloc (.cells #[.string p.1.str, .string p.2.str] 59 (0, 0))).heap.size = w.heap.size + 1 := by simp
        rw [e1] at hx1
        clear e1
        obtain ⟨hx0a, hx0b, hx0c⟩ := two_facts hx0
        obtain ⟨hx0f, hx0g⟩ := two_frozen hx0
        obtain ⟨hx1a, hx1b, hx1c⟩ := two_facts hx1
        obtain ⟨hx1f, hx1g⟩ := two_frozen hx1
        refine (hg _).mono ?_; rintro e w1 ⟨rfl, hb1⟩
        have hbw1 := nx hb0 hb1
        replace hx0 := heap_keep hb1 hx0
        replace hx1 := heap_keep hb1 hx1
        clear hx0a hx0b hx0c hx0f hx0g
        obtain ⟨hx0a, hx0b, hx0c⟩ := two_facts hx0
        obtain ⟨hx0f, hx0g⟩ := two_frozen hx0
        clear hx1a hx1b hx1c hx1f hx1g
        obtain ⟨hx1a, hx1b, hx1c⟩ := two_facts hx1
        obtain ⟨hx1f, hx1g⟩ := two_frozen hx1
        clear hb1 hb0
        go_wp2_with fail
        refine (C _).mono ?_; rintro e wc ⟨rfl, rfl⟩
        go_wp2_with fail
        refine wp_region_clsT 9 (by kernel_rfl) (by kernel_rfl) ?_
        simp only [List.take_succ_cons, List.take_zero, List.drop_succ_cons, List.drop_zero]
        repeat (
          refine wpQuiet_step (fun K hK => ?_)
          go_simp
          first
            | (refine hK _ ?_; clear hK K)
            | (refine ⟨_, fun _ _ => rfl, hK _ ?_⟩; clear hK K)
            | (apply Exists.intro
               refine ⟨fun w' hw' => ?_, hK _ ?_⟩
               · first
                   | (rw [hw'.cell hx0c hx0a]; exact ⟨rfl, rfl⟩)
                   | (rw [hw'.cell hx0c hx0b]; exact ⟨rfl, rfl⟩)
                   | (go_at_call 109; first | (with_reducible exact hw'.call (T1 _)) | (with_reducible exact hw'.call (T2 _)))
               clear hK K))
        refine wpQuiet_nil ?_
        intro w' hw'
        have hbwf := nx hbw1 hw'
        replace hx0 := heap_keep hw' hx0
        replace hx1 := heap_keep hw' hx1
        clear hw' hbw1
        clear hx0a hx0b hx0c hx0f hx0g
        obtain ⟨hx0a, hx0b, hx0c⟩ := two_facts hx0
        obtain ⟨hx0f, hx0g⟩ := two_frozen hx0
        clear hx1a hx1b hx1c hx1f hx1g
        obtain ⟨hx1a, hx1b, hx1c⟩ := two_facts hx1
        obtain ⟨hx1f, hx1g⟩ := two_frozen hx1
        go_wp2_with fail
        obtain ⟨q1, q2⟩ := two_cells (set_two (.string X.str) (.string Y.str) hx1)
        refine bodyPost_ret (v := .tuple #[.agg #[.string X.str, .string Y.str], .bool true]) (by simp [q1, q2, results, Try.results68, go_sem]) rfl ⟨rfl, ?_⟩
        exact (hbwf.setCell (by show w.heap.size ≤ w.heap.size + 1; omega) _).setCell (by show w.heap.size ≤ w.heap.size + 1; omega) _
      · rw [if_neg (by omega)]
        have h8' : ((p.1.carets : Int) == 8) = true := by rw [beq_iff_eq]; omega
        clear hn
        go_enter Try.func68, Try.ntmps68
        go_wp2_with fail
        have hb0 : Below w.heap.size w ((w.alloc (.cells #[.string p.1.str, .string p.2.str] 59 (0, 0))).alloc (.cells #[.string ⟨#[]⟩, .string ⟨#[]⟩] 59 (0, 0))) := nxAlloc (nxAlloc (Below.refl _ _) _) _
        have hx0 := heap_keep (nxAlloc (Below.refl _ _) (.cells #[.string ⟨#[]⟩, .string ⟨#[]⟩] 59 (0, 0))) (heap_alloc_at w (.cells #[.string p.1.str, .string p.2.str] 59 (0, 0)))
        have hx1 := heap_alloc_at (w.alloc (.cells #[.string p.1.str, .string p.2.str] 59 (0, 0))) (.cells #[.string ⟨#[]⟩, .string ⟨#[]⟩] 59 (0, 0))
        generalize ((w.alloc (.cells #[.string p.1.str, .string p.2.str] 59 (0, 0))).alloc (.cells #[.string ⟨#[]⟩, .string ⟨#[]⟩] 59 (0, 0))) = w0 at *
        have e1 : (w.alloc (.cells #[.string p.1.str, .string p.2.str] 59 (0, 0))).heap.size = w.heap.size + 1 := by simp
        rw [e1] at hx1
        clear e1
        obtain ⟨hx0a, hx0b, hx0c⟩ := two_facts hx0
        obtain ⟨hx0f, hx0g⟩ := two_frozen hx0
        obtain ⟨hx1a, hx1b, hx1c⟩ := two_facts hx1
        obtain ⟨hx1f, hx1g⟩ := two_frozen hx1
        refine (hg _).mono ?_; rintro e w1 ⟨rfl, hb1⟩
        have hbw1 := nx hb0 hb1
        replace hx0 := heap_keep hb1 hx0
        replace hx1 := heap_keep hb1 hx1
        clear hx0a hx0b hx0c hx0f hx0g
        obtain ⟨hx0a, hx0b, hx0c⟩ := two_facts hx0
        obtain ⟨hx0f, hx0g⟩ := two_frozen hx0
        clear hx1a hx1b hx1c hx1f hx1g
        obtain ⟨hx1a, hx1b, hx1c⟩ := two_facts hx1
        obtain ⟨hx1f, hx1g⟩ := two_frozen hx1
        clear hb1 hb0
        go_wp2_with fail
        refine (C _).mono ?_; rintro e wc ⟨rfl, rfl⟩
        go_wp2_with fail
        obtain ⟨q1, q2⟩ := two_cells (set_two (.string ⟨#[]⟩) (.string ⟨#[]⟩) hx1)
        refine bodyPost_ret (v := .tuple #[.agg #[.string ⟨#[]⟩, .string ⟨#[]⟩], .bool false]) (by simp [q1, q2, results, Try.results68, go_sem]) rfl ⟨rfl, ?_⟩
        exact (hbw1.setCell (by show w.heap.size ≤ w.heap.size + 1; omega) _).setCell (by show w.heap.size ≤ w.heap.size + 1; omega) _
    · simp only [hn, decide_false] at hg
      rw [if_neg (by omega)]
      clear hn
      go_enter Try.func68, Try.ntmps68
      go_wp2_with fail
      have hb0 : Below w.heap.size w ((w.alloc (.cells #[.string p.1.str, .string p.2.str] 59 (0, 0))).alloc (.cells #[.string ⟨#[]⟩, .string ⟨#[]⟩] 59 (0, 0))) := nxAlloc (nxAlloc (Below.refl _ _) _) _
      have hx0 := heap_keep (nxAlloc (Below.refl _ _) (.cells #[.string ⟨#[]⟩, .string ⟨#[]⟩] 59 (0, 0))) (heap_alloc_at w (.cells #[.string p.1.str, .string p.2.str] 59 (0, 0)))
      have hx1 := heap_alloc_at (w.alloc (.cells #[.string p.1.str, .string p.2.str] 59 (0, 0))) (.cells #[.string ⟨#[]⟩, .string ⟨#[]⟩] 59 (0, 0))
      generalize ((w.alloc (.cells #[.string p.1.str, .string p.2.str] 59 (0, 0))).alloc (.cells #[.string ⟨#[]⟩, .string ⟨#[]⟩] 59 (0, 0))) = w0 at *
      have e1 : (w.alloc (.cells #[.string p.1.str, .string p.2.str] 59 (0, 0))).heap.size = w.heap.size + 1 := by simp
      rw [e1] at hx1
      clear e1
      obtain ⟨hx0a, hx0b, hx0c⟩ := two_facts hx0
      obtain ⟨hx0f, hx0g⟩ := two_frozen hx0
      obtain ⟨hx1a, hx1b, hx1c⟩ := two_facts hx1
      obtain ⟨hx1f, hx1g⟩ := two_frozen hx1
      refine (hg _).mono ?_; rintro e w1 ⟨rfl, hb1⟩
      have hbw1 := nx hb0 hb1
      replace hx0 := heap_keep hb1 hx0
      replace hx1 := heap_keep hb1 hx1
      clear hx0a hx0b hx0c hx0f hx0g
      obtain ⟨hx0a, hx0b, hx0c⟩ := two_facts hx0
      obtain ⟨hx0f, hx0g⟩ := two_frozen hx0
      clear hx1a hx1b hx1c hx1f hx1g
      obtain ⟨hx1a, hx1b, hx1c⟩ := two_facts hx1
      obtain ⟨hx1f, hx1g⟩ := two_frozen hx1
      clear hb1 hb0
      go_wp2_with fail
      obtain ⟨q1, q2⟩ := two_cells (set_two (.string ⟨#[]⟩) (.string ⟨#[]⟩) hx1)
      refine bodyPost_ret (v := .tuple #[.agg #[.string ⟨#[]⟩, .string ⟨#[]⟩], .bool false]) (by simp [q1, q2, results, Try.results68, go_sem]) rfl ⟨rfl, ?_⟩
      exact (hbw1.setCell (by show w.heap.size ≤ w.heap.size + 1; omega) _).setCell (by show w.heap.size ≤ w.heap.size + 1; omega) _

set_option maxRecDepth 100000 in
set_option maxHeartbeats 2000000 in
theorem implExpandPair_any (a b : ByteArray) (n : Int) (w : World) (ha : a.size ≤ 9223372036854775806) (hb : b.size ≤ 9223372036854775806) (lo : -9223372036854775808 ≤ n) (hi : n ≤ 9223372036854775807) :
    Calls Try.prog 67 #[.agg #[.string a, .string b], .int .i64 n] w (Gives (ansPr ((pairOf a b).bind fun p => expP p n)) w) := by
  have hg := fun w => isPair_any a b w ha hb
  cases h : pairOf a b with
  | none =>
    rw [h] at hg
    clear h
    go_enter Try.func67, Try.ntmps67
    go_wp2_with fail
    have hb0 : Below w.heap.size w ((w.alloc (.cells #[.string a, .string b] 59 (0, 0))).alloc (.cells #[.string ⟨#[]⟩, .string ⟨#[]⟩] 59 (0, 0))) := nxAlloc (nxAlloc (Below.refl _ _) _) _
    have hx0 := heap_keep (nxAlloc (Below.refl _ _) (.cells #[.string ⟨#[]⟩, .string ⟨#[]⟩] 59 (0, 0))) (heap_alloc_at w (.cells #[.string a, .string b] 59 (0, 0)))
    have hx1 := heap_alloc_at (w.alloc (.cells #[.string a, .string b] 59 (0, 0))) (.cells #[.string ⟨#[]⟩, .string ⟨#[]⟩] 59 (0, 0))
    generalize ((w.alloc (.cells #[.string a, .string b] 59 (0, 0))).alloc (.cells #[.string ⟨#[]⟩, .string ⟨#[]⟩] 59 (0, 0))) = w0 at *
    have e1 : (w.alloc (.cells #[.string a, .string b] 59 (0, 0))).heap.size = w.heap.size + 1 := by simp
    rw [e1] at hx1
    clear e1
    obtain ⟨hx0a, hx0b, hx0c⟩ := two_facts hx0
    obtain ⟨hx0f, hx0g⟩ := two_frozen hx0
    obtain ⟨hx1a, hx1b, hx1c⟩ := two_facts hx1
    obtain ⟨hx1f, hx1g⟩ := two_frozen hx1
    refine (hg _).mono ?_; rintro e w1 ⟨rfl, hb1⟩
    have hbw1 := nx hb0 hb1
    replace hx0 := heap_keep hb1 hx0
    replace hx1 := heap_keep hb1 hx1
    clear hx0a hx0b hx0c hx0f hx0g
    obtain ⟨hx0a, hx0b, hx0c⟩ := two_facts hx0
    obtain ⟨hx0f, hx0g⟩ := two_frozen hx0
    clear hx1a hx1b hx1c hx1f hx1g
    obtain ⟨hx1a, hx1b, hx1c⟩ := two_facts hx1
    obtain ⟨hx1f, hx1g⟩ := two_frozen hx1
    clear hb1 hb0
    go_wp2_with fail
    obtain ⟨q1, q2⟩ := two_cells (set_two (.string ⟨#[]⟩) (.string ⟨#[]⟩) hx1)
    refine bodyPost_ret (v := .tuple #[.agg #[.string ⟨#[]⟩, .string ⟨#[]⟩], .bool false]) (by simp [q1, q2, results, Try.results67, go_sem]) rfl ⟨rfl, ?_⟩
    exact (hbw1.setCell (by show w.heap.size ≤ w.heap.size + 1; omega) _).setCell (by show w.heap.size ≤ w.heap.size + 1; omega) _
  | some p =>
    rw [h] at hg
    obtain ⟨rfl, rfl, hok, hc1, hc2⟩ := pairOf_some h
    clear h
    have hok' : p.1.carets = p.2.carets := hok
    show Calls _ _ _ _ (Gives (ansPr (expP p n)) w)
    have s1 := p.1.str_size
    have s2 := p.2.str_size
    have se : ex1.str.size = 4 := rfl
    have T1 := fun w => implGraftAt_any p.1.str n ex1.str w (by omega) (by omega) lo hi
    have T2 := fun w => implGraftAt_any p.2.str n ex1.str w (by omega) (by omega) lo hi
    have e1 : ex1.carets = 1 := rfl
    rw [graftO_tr p.1 ex1 n hc1 (by omega), e1] at T1
    rw [graftO_tr p.2 ex1 n hc2 (by omega), e1] at T2
    rw [ex1_str] at T1 T2
    clear s1 s2 se
    unfold expP
    by_cases hn : 0 ≤ n ∧ n ≤ p.1.carets ∧ p.1.carets < 8
    · rw [if_pos hn]
      rw [if_pos (by omega)] at T1 T2
      generalize p.1.graft n ex1 = X at *
      generalize p.2.graft n ex1 = Y at *
      unfold ans2 at T1 T2
      simp only [Option.getD_some, Option.isSome_some] at T1 T2
      clear hn
      go_enter Try.func67, Try.ntmps67
      go_wp2_with fail
      have hb0 : Below w.heap.size w ((w.alloc (.cells #[.string p.1.str, .string p.2.str] 59 (0, 0))).alloc (.cells #[.string ⟨#[]⟩, .string ⟨#[]⟩] 59 (0, 0))) := nxAlloc (nxAlloc (Below.refl _ _) _) _
      have hx0 := heap_keep (nxAlloc (Below.refl _ _) (.cells #[.string ⟨#[]⟩, .string ⟨#[]⟩] 59 (0, 0))) (heap_alloc_at w (.cells #[.string p.1.str, .string p.2.str] 59 (0, 0)))
      have hx1 := heap_alloc_at (w.alloc (.cells #[.string p.1.str, .string p.2.str] 59 (0, 0))) (.cells #[.string ⟨#[]⟩, .string ⟨#[]⟩] 59 (0, 0))
      generalize ((w.alloc (.cells #[.string p.1.str, .string p.2.str] 59 (0, 0))).alloc (.cells #[.string ⟨#[]⟩, .string ⟨#[]⟩] 59 (0, 0))) = w0 at *
      have e1 : (w.alloc (.cells #[.string p.1.str, .string p.2.str] 59 (0, 0))).heap.size = w.heap.size + 1 := by simp
      rw [e1] at hx1
      clear e1
      obtain ⟨hx0a, hx0b, hx0c⟩ := two_facts hx0
      obtain ⟨hx0f, hx0g⟩ := two_frozen hx0
      obtain ⟨hx1a, hx1b, hx1c⟩ := two_facts hx1
      obtain ⟨hx1f, hx1g⟩ := two_frozen hx1
      refine (hg _).mono ?_; rintro e w1 ⟨rfl, hb1⟩
      have hbw1 := nx hb0 hb1
      replace hx0 := heap_keep hb1 hx0
      replace hx1 := heap_keep hb1 hx1
      clear hx0a hx0b hx0c hx0f hx0g
      obtain ⟨hx0a, hx0b, hx0c⟩ := two_facts hx0
      obtain ⟨hx0f, hx0g⟩ := two_frozen hx0
      clear hx1a hx1b hx1c hx1f hx1g
      obtain ⟨hx1a, hx1b, hx1c⟩ := two_facts hx1
      obtain ⟨hx1f, hx1g⟩ := two_frozen hx1
      clear hb1 hb0
      go_wp2_with fail
      refine (T1 _).mono ?_; rintro e w2 ⟨rfl, hb2⟩
      have hbw2 := nx hbw1 hb2
      replace hx0 := heap_keep hb2 hx0
      replace hx1 := heap_keep hb2 hx1
      clear hx0a hx0b hx0c hx0f hx0g
      obtain ⟨hx0a, hx0b, hx0c⟩ := two_facts hx0
      obtain ⟨hx0f, hx0g⟩ := two_frozen hx0
      clear hx1a hx1b hx1c hx1f hx1g
      obtain ⟨hx1a, hx1b, hx1c⟩ := two_facts hx1
      obtain ⟨hx1f, hx1g⟩ := two_frozen hx1
      clear hb2 hbw1
      go_wp2_with fail
      refine (T2 _).mono ?_; rintro e w3 ⟨rfl, hb3⟩
      have hbw3 := nx hbw2 hb3
      replace hx0 := heap_keep hb3 hx0
      replace hx1 := heap_keep hb3 hx1
      clear hx0a hx0b hx0c hx0f hx0g
      obtain ⟨hx0a, hx0b, hx0c⟩ := two_facts hx0
      obtain ⟨hx0f, hx0g⟩ := two_frozen hx0
      clear hx1a hx1b hx1c hx1f hx1g
      obtain ⟨hx1a, hx1b, hx1c⟩ := two_facts hx1
      obtain ⟨hx1f, hx1g⟩ := two_frozen hx1
      clear hb3 hbw2
      go_wp2_with fail
      obtain ⟨q1, q2⟩ := two_cells (set_two (.string X.str) (.string Y.str) hx1)
      refine bodyPost_ret (v := .tuple #[.agg #[.string X.str, .string Y.str], .bool true]) (by simp [q1, q2, results, Try.results67, go_sem]) rfl ⟨rfl, ?_⟩
      exact (hbw3.setCell (by show w.heap.size ≤ w.heap.size + 1; omega) _).setCell (by show w.heap.size ≤ w.heap.size + 1; omega) _
    · rw [if_neg hn]
      rw [if_neg (by omega)] at T1
      unfold ans2 at T1
      simp only [Option.getD_none, Option.isSome_none] at T1
      clear hn T2
      go_enter Try.func67, Try.ntmps67
      go_wp2_with fail
      have hb0 : Below w.heap.size w ((w.alloc (.cells #[.string p.1.str, .string p.2.str] 59 (0, 0))).alloc (.cells #[.string ⟨#[]⟩, .string ⟨#[]⟩] 59 (0, 0))) := nxAlloc (nxAlloc (Below.refl _ _) _) _
      have hx0 := heap_keep (nxAlloc (Below.refl _ _) (.cells #[.string ⟨#[]⟩, .string ⟨#[]⟩] 59 (0, 0))) (heap_alloc_at w (.cells #[.string p.1.str, .string p.2.str] 59 (0, 0)))
      have hx1 := heap_alloc_at (w.alloc (.cells #[.string p.1.str, .string p.2.str] 59 (0, 0))) (.cells #[.string ⟨#[]⟩, .string ⟨#[]⟩] 59 (0, 0))
      generalize ((w.alloc (.cells #[.string p.1.str, .string p.2.str] 59 (0, 0))).alloc (.cells #[.string ⟨#[]⟩, .string ⟨#[]⟩] 59 (0, 0))) = w0 at *
      have e1 : (w.alloc (.cells #[.string p.1.str, .string p.2.str] 59 (0, 0))).heap.size = w.heap.size + 1 := by simp
      rw [e1] at hx1
      clear e1
      obtain ⟨hx0a, hx0b, hx0c⟩ := two_facts hx0
      obtain ⟨hx0f, hx0g⟩ := two_frozen hx0
      obtain ⟨hx1a, hx1b, hx1c⟩ := two_facts hx1
      obtain ⟨hx1f, hx1g⟩ := two_frozen hx1
      refine (hg _).mono ?_; rintro e w1 ⟨rfl, hb1⟩
      have hbw1 := nx hb0 hb1
      replace hx0 := heap_keep hb1 hx0
      replace hx1 := heap_keep hb1 hx1
      clear hx0a hx0b hx0c hx0f hx0g
      obtain ⟨hx0a, hx0b, hx0c⟩ := two_facts hx0
      obtain ⟨hx0f, hx0g⟩ := two_frozen hx0
      clear hx1a hx1b hx1c hx1f hx1g
      obtain ⟨hx1a, hx1b, hx1c⟩ := two_facts hx1
      obtain ⟨hx1f, hx1g⟩ := two_frozen hx1
      clear hb1 hb0
      go_wp2_with fail
      refine (T1 _).mono ?_; rintro e w2 ⟨rfl, hb2⟩
      have hbw2 := nx hbw1 hb2
      replace hx0 := heap_keep hb2 hx0
      replace hx1 := heap_keep hb2 hx1
      clear hx0a hx0b hx0c hx0f hx0g
      obtain ⟨hx0a, hx0b, hx0c⟩ := two_facts hx0
      obtain ⟨hx0f, hx0g⟩ := two_frozen hx0
      clear hx1a hx1b hx1c hx1f hx1g
      obtain ⟨hx1a, hx1b, hx1c⟩ := two_facts hx1
      obtain ⟨hx1f, hx1g⟩ := two_frozen hx1
      clear hb2 hbw1
      go_wp2_with fail
      obtain ⟨q1, q2⟩ := two_cells (set_two (.string ⟨#[]⟩) (.string ⟨#[]⟩) hx1)
      refine bodyPost_ret (v := .tuple #[.agg #[.string ⟨#[]⟩, .string ⟨#[]⟩], .bool false]) (by simp [q1, q2, results, Try.results67, go_sem]) rfl ⟨rfl, ?_⟩
      exact (hbw2.setCell (by show w.heap.size ≤ w.heap.size + 1; omega) _).setCell (by show w.heap.size ≤ w.heap.size + 1; omega) _

end Go.Proofs.Yteflpaebckichab

/-! RedBy2 -/
namespace Go.Proofs.Yteflpaebckichab
open Go.RowKit

/-- A block of one cell. -/
theorem one_cell {w : World} {g : Nat} {u : Value} {t : TypeId} (h : w.heap[g]? = some (.cells #[u] t (0, 0))) : w.cell? ⟨g, 0, none⟩ = some u ∧ w.frozen? ⟨g, 0, none⟩ = false := by
  simp [World.cell?, World.frozen?, h]
theorem set_one {w : World} {g : Nat} {u : Value} (u' : Value) {t : TypeId} (h : w.heap[g]? = some (.cells #[u] t (0, 0))) : (w.setCell ⟨g, 0, none⟩ u').heap[g]? = some (.cells #[u'] t (0, 0)) := Joins.block_setCell h u'


set_option maxRecDepth 100000 in
set_option maxHeartbeats 1000000 in
theorem choose_any (bs bc : Nat) (oa : Option Addr) (cap : Nat) (cs : List Int) (j L : Nat) (w : World)
    (hs : w.heap[bs]? = some (.cells #[.int .i64 j] 3 (0, 0))) (hc : w.heap[bc]? = some (.cells #[.slice oa cs.length cap] 28 (0, 0))) (hne : bs ≠ bc)
    (hcc : ∀ i, i < cs.length → ∃ g, oa = some ⟨g, 0, none⟩ ∧ g ≠ bs ∧ w.cell? ⟨g, i, none⟩ = some (.int .i64 (cs.getD i 0))) (hcs : ∀ c ∈ cs, 0 ≤ c ∧ c ≤ 9223372036854775807) (hj : j ≤ cs.length) (hl : cs.length ≤ 1000) (hL : 0 < L) (hL9 : L ≤ 1000) :
    Calls Try.prog 131 #[.int .i64 L, .pointer (some ⟨bs, 0, none⟩), .pointer (some ⟨bc, 0, none⟩)] w fun e w' => e = .returned (.int .i64 (pickI (cs.drop j) L : Nat)) ∧ w' = (if j < cs.length then w.setCell ⟨bs, 0, none⟩ (.int .i64 (j + 1 : Nat)) else w) := by
  obtain ⟨s1, s2⟩ := one_cell hs
  obtain ⟨c1, c2⟩ := one_cell hc
  rw [pick_drop]
  by_cases hjc : j < cs.length
  · rw [if_pos hjc, if_pos hjc]
    obtain ⟨g, rfl, hg, e1⟩ := hcc j hjc
    obtain ⟨k1, k2⟩ := hcs (cs.getD j 0) (by rw [List.getD_eq_getElem?_getD, List.getElem?_eq_getElem hjc]; exact List.getElem_mem _)
    generalize cs.getD j 0 = c at *
    have hrem : Hid (c % (L : Int) = ((c % (L : Int)).toNat : Nat)) := by
      show _ = _
      have := Int.emod_nonneg c (show (L : Int) ≠ 0 by omega)
      omega
    have hjn : ((j : Int) == (cs.length : Int)) = false := by rw [beq_eq_false_iff_ne]; omega
    have hw2 : (w.setCell ⟨bs, 0, none⟩ (.int .i64 (j + 1 : Nat))).cell? ⟨bs, 0, none⟩ = some (.int .i64 (j + 1 : Nat)) := (one_cell (set_one _ hs)).1
    have hw3 : (w.setCell ⟨bs, 0, none⟩ (.int .i64 (j + 1 : Nat))).cell? ⟨bc, 0, none⟩ = some (.slice (some ⟨g, 0, none⟩) cs.length cap) := by
      rw [World.cell?_of_block (w := w) (Below.heap_setCell w ⟨bs, 0, none⟩ _ bc (Ne.symm hne))]; exact c1
    have hw4 : (w.setCell ⟨bs, 0, none⟩ (.int .i64 (j + 1 : Nat))).cell? ⟨g, j, none⟩ = some (.int .i64 c) := by
      rw [World.cell?_of_block (w := w) (Below.heap_setCell w ⟨bs, 0, none⟩ _ g hg)]; exact e1
    have ej : ((j + 1 : Nat) : Int) = (j : Int) + 1 := by omega
    rw [ej] at hw2 hw3 hw4 ⊢
    have hjl : (j : Int) < (cs.length : Int) := by omega
    clear hcc ej hs hc
    go_enter Try.func131, Try.ntmps131
    go_wp2_with fail
    go_ret
    exact ⟨ret_int hrem.out, rfl⟩
  · rw [if_neg hjc, if_neg hjc]
    obtain rfl : j = cs.length := by omega
    have hjn : ((cs.length : Int) == (cs.length : Int)) = true := by simp
    clear hcc
    go_enter Try.func131, Try.ntmps131
    go_wp2_with fail
    refine (firstOf_any _ _).mono ?_; rintro e w2 ⟨rfl, rfl⟩
    go_wp2_with fail
    go_ret
    exact ⟨rfl, rfl⟩

/-- Every block that was there, but for one, stands as it stood. -/
def Mild (b : Nat) (w w' : World) : Prop := ∀ k, k < w.heap.size → k ≠ b → w'.heap[k]? = w.heap[k]?
theorem Mild.below {b : Nat} {w w1 w2 : World} (h : Mild b w w1) (hs : w.heap.size ≤ w1.heap.size) (hb : Below w1.heap.size w1 w2) : Mild b w w2 :=
  fun k hk hn => (hb.block k (Nat.lt_of_lt_of_le hk hs)).trans (h k hk hn)
theorem Mild.setCell {b : Nat} {w w1 : World} (h : Mild b w w1) {a : Addr} (ha : a.block = b ∨ w.heap.size ≤ a.block) (u : Value) : Mild b w (w1.setCell a u) :=
  fun k hk hn => (Below.heap_setCell w1 a u k (by rcases ha with ha | ha <;> omega)).trans (h k hk hn)

set_option maxRecDepth 100000 in
set_option maxHeartbeats 4000000 in
theorem reducedBy_choice (p0 : Pr) (cs : List Int) (B0 bs bc : Nat) (oa : Option Addr) (cap : Nat) (w : World) (h1 : p0.1.carets ≤ 200) (h2 : p0.2.carets ≤ 200)
    (hs : w.heap[bs]? = some (.cells #[.int .i64 0] 3 (0, 0))) (hc : w.heap[bc]? = some (.cells #[.slice oa cs.length cap] 28 (0, 0))) (hne : bs ≠ bc) (hB : B0 ≤ bs) (hBw : B0 ≤ w.heap.size)
    (hcc : ∀ i, i < cs.length → ∃ g, oa = some ⟨g, 0, none⟩ ∧ g < B0 ∧ w.cell? ⟨g, i, none⟩ = some (.int .i64 (cs.getD i 0))) (hcs : ∀ c ∈ cs, 0 ≤ c ∧ c ≤ 9223372036854775807) (hl : cs.length ≤ 1000) :
    Calls Try.prog 133 #[.agg #[.string p0.1.str, .string p0.2.str], .func (Fn.func 131) #[] #[.pointer (some ⟨bs, 0, none⟩), .pointer (some ⟨bc, 0, none⟩)]] w fun e w' => e = .returned (.agg #[.string (redBy p0 cs).1.str, .string (redBy p0 cs).2.str]) ∧ Below B0 w w' ∧ Mild bs w w' := by
  have hlts := lt_of_block hs
  have hltc := lt_of_block hc
  go_enter Try.func133, Try.ntmps133
  go_wp2_with fail
  have hb0 : Below w.heap.size w ((w.alloc (.cells #[.string p0.1.str, .string p0.2.str] 59 (0, 0))).alloc (.cells #[.string ⟨#[]⟩, .string ⟨#[]⟩] 59 (0, 0))) := nxAlloc (nxAlloc (Below.refl _ _) _) _
  have hx1 := heap_keep (nxAlloc (Below.refl _ _) (.cells #[.string ⟨#[]⟩, .string ⟨#[]⟩] 59 (0, 0))) (heap_alloc_at w (.cells #[.string p0.1.str, .string p0.2.str] 59 (0, 0)))
  have hx2 := heap_alloc_at (w.alloc (.cells #[.string p0.1.str, .string p0.2.str] 59 (0, 0))) (.cells #[.string ⟨#[]⟩, .string ⟨#[]⟩] 59 (0, 0))
  generalize (w.alloc (.cells #[.string p0.1.str, .string p0.2.str] 59 (0, 0))).alloc (.cells #[.string ⟨#[]⟩, .string ⟨#[]⟩] 59 (0, 0)) = w0 at *
  have e2 : (w.alloc (.cells #[.string p0.1.str, .string p0.2.str] 59 (0, 0))).heap.size = w.heap.size + 1 := by simp
  rw [e2] at hx2
  clear e2
  have hs0 : w.heap.size + 1 < w0.heap.size := lt_of_block hx2
  have hS0 := heap_keep hb0 hs
  have hC0 := heap_keep hb0 hc
  have hb00 : Below B0 w w0 := hb0.mono hBw
  have hM0 : Mild bs w w0 := fun k hk _ => hb0.block k hk
  clear hb0 hs hc
  go_loopw [5] (fun _ wr => ∃ (p : Pr) (j : Nat), wr.heap[w.heap.size]? = some (.cells #[.string p.1.str, .string p.2.str] 59 (0, 0)) ∧ wr.heap[w.heap.size + 1]? = some (.cells #[.string ⟨#[]⟩, .string ⟨#[]⟩] 59 (0, 0)) ∧ wr.heap[bs]? = some (.cells #[.int .i64 (j : Int)] 3 (0, 0)) ∧ wr.heap[bc]? = some (.cells #[.slice oa cs.length cap] 28 (0, 0)) ∧ Below B0 w wr ∧ Mild bs w wr ∧ w.heap.size + 2 ≤ wr.heap.size ∧ j ≤ cs.length ∧ p.1.carets ≤ 200 ∧ p.2.carets ≤ 200 ∧ Hid (redBy p0 cs = redBy p (cs.drop j))) (fun _ wr => sizeAt wr w.heap.size)
  case atStart => exact ⟨p0, 0, hx1, hx2, hS0, hC0, hb00, hM0, hs0, Nat.zero_le _, h1, h2, rfl⟩
  case round =>
    obtain ⟨p, j, hy1, hy2, hS, hC, hbw, hM, hsz, hj, hp1, hp2, he⟩ := hrel
    have HS1 := Lib.hid (sizeAt_of hy1)
    obtain ⟨k1, k2⟩ := two_cells hy1
    go_wp2_with fail
    refine (sharedExposed_tr p _ hp1 hp2).mono ?_; rintro e w1 ⟨v5, own, hb1, rfl⟩
    have hz1 := heap_keep hb1 hy1
    have hz2 := heap_keep hb1 hy2
    replace hS := heap_keep hb1 hS
    replace hC := heap_keep hb1 hC
    have hbw1 : Below B0 w w1 := hbw.trans (hb1.mono (Nat.le_trans hBw (Nat.le_trans (Nat.le_add_right _ 2) hsz)))
    replace hM := hM.below (by omega) hb1
    have hsz1 := Nat.le_trans hsz hb1.size
    have hown : OwnI (w.heap.size + 2) w1 v5 (both p) := own.mono hsz
    have hf := hown.cells.form
    clear own hb1 hbw hsz k1 k2 hy1 hy2 hown
    obtain ⟨k1, k2⟩ := two_cells hz1
    obtain ⟨ob, bcap, rfl, hbc, hbm, hbcell⟩ := hf
    unfold maxLen at hbm
    by_cases hl : (both p).length = 0
    · have hnil : both p = [] := List.length_eq_zero_iff.1 hl
      have he' := he.out
      rw [redBy_end hnil] at he'
      have HE := Lib.hid he'
      rw [hl]
      obtain ⟨n1, n2⟩ := two_cells hz2
      obtain ⟨f1, f2⟩ := two_frozen hz2
      clear hl hnil he he' hbcell
      go_wp2_with fail
      obtain ⟨r1, r2⟩ := two_cells (set_two (.string p.1.str) (.string p.2.str) hz2)
      refine bodyPost_ret (v := .agg #[.string p.1.str, .string p.2.str]) (by simp [r1, r2, results, Try.results133, go_sem]) rfl ⟨by rw [HE.out], ?_⟩
      exact ⟨(hbw1.setCell (by show B0 ≤ w.heap.size + 1; omega) _).setCell (by show B0 ≤ w.heap.size + 1; omega) _, (hM.setCell (.inr (by show w.heap.size ≤ w.heap.size + 1; omega)) _).setCell (.inr (by show w.heap.size ≤ w.heap.size + 1; omega)) _⟩
    · -- a step
      have hlp : 0 < (both p).length := by omega
      have hlp' : (((both p).length : Int) == 0) = false := by rw [beq_eq_false_iff_ne]; omega
      have hpi := pickI_lt (cs.drop j) (both p).length hlp
      have hl9 : (both p).length ≤ 1000 := Nat.le_trans (both_length p) (by omega)
      have hCH := choose_any bs bc oa cap cs j (both p).length w1 hS hC hne (fun i hi => by
        obtain ⟨g, e1, e2, e3⟩ := hcc i hi
        exact ⟨g, e1, by omega, (hbw1.cell (p := ⟨g, i, none⟩) e2).trans e3⟩) hcs hj (by omega) hlp hl9
      obtain ⟨i, hi⟩ : ∃ i, i = pickI (cs.drop j) (both p).length := ⟨_, rfl⟩
      rw [← hi] at hpi hCH
      have hst := redBy_pick (cs.drop j) i hlp hi
      obtain ⟨m1, m2, hx0, hx9⟩ := both_in p hp1 i hpi
      obtain ⟨g, rfl, hg0, hg1, c1⟩ := hbcell i hpi
      obtain ⟨x, hx⟩ : ∃ x, x = (both p).getD i 0 := ⟨_, rfl⟩
      rw [← hx] at hst m1 m2 c1 hx0 hx9
      have hstep := Lib.hid hst
      have T1 := fun w => withoutExposed_tr p.1 x w (by omega) m1
      have T2 := fun w => withoutExposed_tr p.2 x w (by omega) m2
      obtain ⟨hd1, hd2⟩ := dropP_carets (p := p) (n := x) (mem_both.2 ⟨m1, m2⟩)
      generalize hL : (both p).length = L at *
      have HL := Lib.hid hL
      have hlq : (0 : Int) < (L : Int) := by omega
      clear hL hx hst m1 m2 hbcell hl hi
      go_wp2_with fail
      refine hCH.mono ?_; rintro e w2 ⟨rfl, hw2⟩
      -- what the choice has left
      obtain ⟨j', hj', hjd, hS2, hz1b, hz2b, hC2, hbw2, hM2, hsz2, c2⟩ : ∃ j' : Nat, j' ≤ cs.length ∧ cs.drop j' = (cs.drop j).tail ∧ w2.heap[bs]? = some (.cells #[.int .i64 (j' : Int)] 3 (0, 0)) ∧ w2.heap[w.heap.size]? = some (.cells #[.string p.1.str, .string p.2.str] 59 (0, 0)) ∧ w2.heap[w.heap.size + 1]? = some (.cells #[.string ⟨#[]⟩, .string ⟨#[]⟩] 59 (0, 0)) ∧ w2.heap[bc]? = some (.cells #[.slice oa cs.length cap] 28 (0, 0)) ∧ Below B0 w w2 ∧ Mild bs w w2 ∧ w.heap.size + 2 ≤ w2.heap.size ∧ w2.cell? ⟨g, i, none⟩ = some (.int .i64 x) := by
        by_cases hjc : j < cs.length
        · rw [if_pos hjc] at hw2
          subst hw2
          refine ⟨j + 1, hjc, (List.tail_drop).symm, set_one _ hS, ?_, ?_, ?_, hbw1.setCell (p := ⟨bs, 0, none⟩) hB _, hM.setCell (.inl rfl) _, by simpa using hsz1, ?_⟩
          · rw [Below.heap_setCell _ _ _ _ (by show ¬ w.heap.size = bs; omega)]; exact hz1
          · rw [Below.heap_setCell _ _ _ _ (by show ¬ w.heap.size + 1 = bs; omega)]; exact hz2
          · rw [Below.heap_setCell _ _ _ _ (by show ¬ bc = bs; omega)]; exact hC
          · rw [World.cell?_of_block (w := w1) (Below.heap_setCell w1 ⟨bs, 0, none⟩ _ g (by show ¬ g = bs; omega))]; exact c1
        · rw [if_neg hjc] at hw2
          subst hw2
          refine ⟨j, hj, ?_, hS, hz1, hz2, hC, hbw1, hM, hsz1, c1⟩
          rw [List.drop_of_length_le (by omega)]; rfl
      have HJ := Lib.hid hjd
      clear hw2 hCH hS hC hz1 hz2 hbw1 hM hsz1 c1 k1 k2 hjd
      obtain ⟨k1, k2⟩ := two_cells hz1b
      obtain ⟨f1, f2⟩ := two_frozen hz1b
      go_wp2_with fail
      refine (T1 _).mono ?_; rintro e w3 ⟨rfl, hb3⟩
      have hz1 := heap_keep hb3 hz1b
      have hz2 := heap_keep hb3 hz2b
      replace hS2 := heap_keep hb3 hS2
      replace hC2 := heap_keep hb3 hC2
      have hbw3 : Below B0 w w3 := hbw2.trans (hb3.mono (Nat.le_trans hBw (Nat.le_trans (Nat.le_add_right _ 2) hsz2)))
      have hM3 := hM2.below (by omega) hb3
      have hsz3 := Nat.le_trans hsz2 hb3.size
      clear c2 k1 k2 f1 f2 hb3 hz1b hz2b hbw2 hsz2
      obtain ⟨n1, n2⟩ := two_cells hz1
      obtain ⟨f1, f2⟩ := two_frozen hz1
      go_wp2_with fail
      have hr1 := set_first (u' := .string (p.1.dropAt x).str) hz1
      have hr2 : (w3.setCell ⟨w.heap.size, 0, none⟩ (.string (p.1.dropAt x).str)).heap[w.heap.size + 1]? = some (.cells #[.string ⟨#[]⟩, .string ⟨#[]⟩] 59 (0, 0)) := by
        rw [Below.heap_setCell _ _ _ _ (by show ¬ w.heap.size + 1 = w.heap.size; omega)]; exact hz2
      have hr3 : (w3.setCell ⟨w.heap.size, 0, none⟩ (.string (p.1.dropAt x).str)).heap[bs]? = some (.cells #[.int .i64 (j' : Int)] 3 (0, 0)) := by
        rw [Below.heap_setCell _ _ _ _ (by show ¬ bs = w.heap.size; omega)]; exact hS2
      have hr4 : (w3.setCell ⟨w.heap.size, 0, none⟩ (.string (p.1.dropAt x).str)).heap[bc]? = some (.cells #[.slice oa cs.length cap] 28 (0, 0)) := by
        rw [Below.heap_setCell _ _ _ _ (by show ¬ bc = w.heap.size; omega)]; exact hC2
      have hbw4 : Below B0 w (w3.setCell ⟨w.heap.size, 0, none⟩ (.string (p.1.dropAt x).str)) := hbw3.setCell hBw _
      have hM4 : Mild bs w (w3.setCell ⟨w.heap.size, 0, none⟩ (.string (p.1.dropAt x).str)) := hM3.setCell (.inr (Nat.le_refl _)) _
      have hsz4 : w.heap.size + 2 ≤ (w3.setCell ⟨w.heap.size, 0, none⟩ (.string (p.1.dropAt x).str)).heap.size := by simpa using hsz3
      generalize w3.setCell ⟨w.heap.size, 0, none⟩ (.string (p.1.dropAt x).str) = w4 at *
      clear hz1 hz2 n1 n2 f1 f2 hbw3 hM2 hM3 hsz3 hS2 hC2
      refine (T2 _).mono ?_; rintro e w5 ⟨rfl, hb5⟩
      have hz1 := heap_keep hb5 hr1
      have hz2 := heap_keep hb5 hr2
      have hz3 := heap_keep hb5 hr3
      have hz4 := heap_keep hb5 hr4
      have hbw5 : Below B0 w w5 := hbw4.trans (hb5.mono (Nat.le_trans hBw (Nat.le_trans (Nat.le_add_right _ 2) hsz4)))
      have hM5 := hM4.below (by omega) hb5
      have hsz5 := Nat.le_trans hsz4 hb5.size
      obtain ⟨n1, n2⟩ := two_cells hz1
      obtain ⟨f1, f2⟩ := two_frozen hz1
      clear hr1 hr2 hr3 hr4 hbw4 hsz4 hb5
      go_wp2_with fail
      have hu1 := set_second (v' := .string (p.2.dropAt x).str) hz1
      have hu2 : (w5.setCell ⟨w.heap.size, 1, none⟩ (.string (p.2.dropAt x).str)).heap[w.heap.size + 1]? = some (.cells #[.string ⟨#[]⟩, .string ⟨#[]⟩] 59 (0, 0)) := by
        rw [Below.heap_setCell _ _ _ _ (by show ¬ w.heap.size + 1 = w.heap.size; omega)]; exact hz2
      have hu3 : (w5.setCell ⟨w.heap.size, 1, none⟩ (.string (p.2.dropAt x).str)).heap[bs]? = some (.cells #[.int .i64 (j' : Int)] 3 (0, 0)) := by
        rw [Below.heap_setCell _ _ _ _ (by show ¬ bs = w.heap.size; omega)]; exact hz3
      have hu4 : (w5.setCell ⟨w.heap.size, 1, none⟩ (.string (p.2.dropAt x).str)).heap[bc]? = some (.cells #[.slice oa cs.length cap] 28 (0, 0)) := by
        rw [Below.heap_setCell _ _ _ _ (by show ¬ bc = w.heap.size; omega)]; exact hz4
      have hbw6 : Below B0 w (w5.setCell ⟨w.heap.size, 1, none⟩ (.string (p.2.dropAt x).str)) := hbw5.setCell hBw _
      have hM6 : Mild bs w (w5.setCell ⟨w.heap.size, 1, none⟩ (.string (p.2.dropAt x).str)) := hM5.setCell (.inr (Nat.le_refl _)) _
      have hsz6 : w.heap.size + 2 ≤ (w5.setCell ⟨w.heap.size, 1, none⟩ (.string (p.2.dropAt x).str)).heap.size := by simpa using hsz5
      go_roundw
      case rel => exact ⟨dropP p x, j', hu1, hu2, hu3, hu4, hbw6, hM6, hsz6, hj', by omega, by omega, by show _ = _; rw [he.out, hstep.out, HJ.out]⟩
      case measure =>
        rw [sizeAt_of hu1, HS1.out, Tr.str_size, Tr.str_size]
        have hd1' : (p.1.dropAt x).carets + 1 = p.1.carets := hd1
        omega
end Go.Proofs.Yteflpaebckichab

/-! RedByS -/
namespace Go.Proofs.Yteflpaebckichab
open Go.RowKit

/-- Are these choices? -/
def choB (cs : List Int) : Bool := decide (cs.length ≤ 20) && cs.all fun c => decide (0 ≤ c)
theorem choB_all {cs : List Int} (h : choB cs = true) : cs.length ≤ 20 ∧ ∀ c ∈ cs, 0 ≤ c := by
  unfold choB at h
  simp only [Bool.and_eq_true, decide_eq_true_eq, List.all_eq_true] at h
  exact h
theorem all_drop {cs : List Int} {k : Nat} (h : k < cs.length) : (cs.drop k).all (fun c => decide (0 ≤ c)) = (decide (0 ≤ cs.getD k 0) && (cs.drop (k + 1)).all fun c => decide (0 ≤ c)) := by
  rw [List.drop_eq_getElem_cons h, List.all_cons]
  simp [h]

set_option maxRecDepth 100000 in
set_option maxHeartbeats 1000000 in
theorem prChoices_any (v : Value) (cs : List Int) (b1 : Nat) (w : World) (hv : CellsI b1 w v cs) :
    Calls Try.prog 135 #[v] w fun e w' => e = .returned (.bool (choB cs)) ∧ w = w' := by
  obtain ⟨oa, cap, rfl, h1, h2, hc⟩ := hv.form
  unfold maxLen at h2
  clear hv
  by_cases hl : cs.length ≤ 20
  · have hl' : ¬ (20 : Int) < (cs.length : Int) := by omega
    have hC : Hid (choB cs = cs.all fun c => decide (0 ≤ c)) := by show _ = _; unfold choB; rw [decide_eq_true hl, Bool.true_and]
    clear hl
    go_enter Try.func135, Try.ntmps135
    go_wp2_with fail
    go_loop [10] (fun i => ∃ k : Nat, k ≤ cs.length ∧ i = .int .i64 k ∧ Hid (choB cs = (cs.drop k).all fun c => decide (0 ≤ c))) (fun i => cs.length - (intOf i).toNat)
    case atStart => exact ⟨0, Nat.zero_le _, rfl, hC⟩
    case round =>
      obtain ⟨k, hk, rfl, he⟩ := hrel
      by_cases hlt : k < cs.length
      · obtain ⟨g, rfl, _, hg, c1⟩ := hc k hlt
        have had := all_drop hlt
        have hlt' : (k : Int) < (cs.length : Int) := by omega
        generalize cs.getD k 0 = c at *
        by_cases hneg : c < 0
        · have hf : Hid (choB cs = false) := by show _ = _; rw [he.out, had, decide_eq_false (by omega), Bool.false_and]
          clear had
          go_wp2_with fail
          go_ret
          exact ⟨ret_bool (by rw [hf.out]), rfl⟩
        · have hf : Hid (choB cs = (cs.drop (k + 1)).all fun c => decide (0 ≤ c)) := by show _ = _; rw [he.out, had, decide_eq_true (by omega), Bool.true_and]
          clear had
          go_wp2_with fail
          go_round
          case rel => exact ⟨k + 1, by omega, by go_num, hf⟩
          case measure => simp [intOf]; omega
      · obtain rfl : k = cs.length := by omega
        have hf : Hid (choB cs = true) := by show _ = _; rw [he.out, List.drop_of_length_le (Nat.le_refl _)]; rfl
        go_wp2_with fail
        go_ret
        exact ⟨ret_bool (by rw [hf.out]), rfl⟩
  · have hl' : (20 : Int) < (cs.length : Int) := by omega
    have hf : Hid (choB cs = false) := by show _ = _; unfold choB; rw [decide_eq_false hl, Bool.false_and]
    clear hl hc
    go_enter Try.func135, Try.ntmps135
    go_wp2_with fail
    go_ret
    exact ⟨ret_bool (by rw [hf.out]), rfl⟩

/-- Of texts, the answer of ReduceBy. -/
def redO (a b : ByteArray) (cs : List Int) : Option Pr := (pairOf a b).bind fun p => if choB cs = true then some (redBy p cs) else none

theorem CellsI.keep {b1 : Nat} {w w' : World} {v : Value} {xs : List Int} (h : CellsI b1 w v xs) (hb : Below w.heap.size w w') : CellsI b1 w' v xs := by
  rcases h with h | ⟨g, cap, h1, h2, h3, h4, h5, h6, h7⟩
  · exact .inl h
  · exact .inr ⟨g, cap, h1, h2, Nat.lt_of_lt_of_le h3 hb.size, h4, h5, fun i hi => (hb.cell (p := ⟨g, i, none⟩) h3).trans (h6 i hi), fun i => (hb.frozen (p := ⟨g, i, none⟩) h3).trans (h7 i)⟩

set_option maxRecDepth 100000 in
set_option maxHeartbeats 2000000 in
theorem specReduceBy_any (a b : ByteArray) (v : Value) (cs : List Int) (b1 : Nat) (w : World) (ha : a.size ≤ 9223372036854775806) (hb : b.size ≤ 9223372036854775806) (hv : CellsI b1 w v cs) (h9 : ∀ c ∈ cs, -9223372036854775808 ≤ c ∧ c ≤ 9223372036854775807) :
    Calls Try.prog 60 #[.agg #[.string a, .string b], v] w (Gives (ansPr (redO a b cs)) w) := by
  have hg := fun w => prGood_any a b w ha hb
  have hK := fun w h => prChoices_any v cs b1 w h
  have HV := Lib.hid hv
  obtain ⟨oa, cap, rfl⟩ : ∃ oa cap, v = .slice oa cs.length cap := by
    obtain ⟨oa, cap, h, _⟩ := hv.form
    exact ⟨oa, cap, h⟩
  clear hv
  unfold redO
  cases h : pairOf a b with
  | none =>
    rw [h] at hg
    clear h hK HV
    show Calls _ _ _ _ (Gives (ansPr none) w)
    go_enter Try.func60, Try.ntmps60
    go_wp2_with fail
    have hb0 : Below w.heap.size w ((w.alloc (.cells #[.string a, .string b] 59 (0, 0))).alloc (.cells #[.string ⟨#[]⟩, .string ⟨#[]⟩] 59 (0, 0))) := nxAlloc (nxAlloc (Below.refl _ _) _) _
    have hx0 := heap_keep (nxAlloc (Below.refl _ _) (.cells #[.string ⟨#[]⟩, .string ⟨#[]⟩] 59 (0, 0))) (heap_alloc_at w (.cells #[.string a, .string b] 59 (0, 0)))
    have hx1 := heap_alloc_at (w.alloc (.cells #[.string a, .string b] 59 (0, 0))) (.cells #[.string ⟨#[]⟩, .string ⟨#[]⟩] 59 (0, 0))
    generalize ((w.alloc (.cells #[.string a, .string b] 59 (0, 0))).alloc (.cells #[.string ⟨#[]⟩, .string ⟨#[]⟩] 59 (0, 0))) = w0 at *
    have e1 : (w.alloc (.cells #[.string a, .string b] 59 (0, 0))).heap.size = w.heap.size + 1 := by simp
    rw [e1] at hx1
    clear e1
    obtain ⟨hx0a, hx0b, hx0c⟩ := two_facts hx0
    obtain ⟨hx0f, hx0g⟩ := two_frozen hx0
    obtain ⟨hx1a, hx1b, hx1c⟩ := two_facts hx1
    obtain ⟨hx1f, hx1g⟩ := two_frozen hx1
    refine (hg _).mono ?_; rintro e w1 ⟨rfl, hb1⟩
    have hbw1 := nx hb0 hb1
    replace hx0 := heap_keep hb1 hx0
    replace hx1 := heap_keep hb1 hx1
    clear hx0a hx0b hx0c hx0f hx0g
    obtain ⟨hx0a, hx0b, hx0c⟩ := two_facts hx0
    obtain ⟨hx0f, hx0g⟩ := two_frozen hx0
    clear hx1a hx1b hx1c hx1f hx1g
    obtain ⟨hx1a, hx1b, hx1c⟩ := two_facts hx1
    obtain ⟨hx1f, hx1g⟩ := two_frozen hx1
    clear hb1 hb0
    go_wp2_with fail
    obtain ⟨q1, q2⟩ := two_cells (set_two (.string ⟨#[]⟩) (.string ⟨#[]⟩) hx1)
    refine bodyPost_ret (v := .tuple #[.agg #[.string ⟨#[]⟩, .string ⟨#[]⟩], .bool false]) (by simp [q1, q2, results, Try.results60, go_sem]) rfl ⟨rfl, ?_⟩
    exact (hbw1.setCell (by show w.heap.size ≤ w.heap.size + 1; omega) _).setCell (by show w.heap.size ≤ w.heap.size + 1; omega) _
  | some p =>
    rw [h] at hg
    obtain ⟨rfl, rfl, hok, hc1, hc2⟩ := pairOf_some h
    clear h
    show Calls _ _ _ _ (Gives (ansPr (if choB cs = true then some (redBy p cs) else none)) w)
    cases hch : choB cs with
    | false =>
      rw [hch] at hK
      clear hch
      show Calls _ _ _ _ (Gives (ansPr none) w)
      go_enter Try.func60, Try.ntmps60
      go_wp2_with fail
      have hb0 : Below w.heap.size w ((w.alloc (.cells #[.string p.1.str, .string p.2.str] 59 (0, 0))).alloc (.cells #[.string ⟨#[]⟩, .string ⟨#[]⟩] 59 (0, 0))) := nxAlloc (nxAlloc (Below.refl _ _) _) _
      have hx0 := heap_keep (nxAlloc (Below.refl _ _) (.cells #[.string ⟨#[]⟩, .string ⟨#[]⟩] 59 (0, 0))) (heap_alloc_at w (.cells #[.string p.1.str, .string p.2.str] 59 (0, 0)))
      have hx1 := heap_alloc_at (w.alloc (.cells #[.string p.1.str, .string p.2.str] 59 (0, 0))) (.cells #[.string ⟨#[]⟩, .string ⟨#[]⟩] 59 (0, 0))
      generalize ((w.alloc (.cells #[.string p.1.str, .string p.2.str] 59 (0, 0))).alloc (.cells #[.string ⟨#[]⟩, .string ⟨#[]⟩] 59 (0, 0))) = w0 at *
      have e1 : (w.alloc (.cells #[.string p.1.str, .string p.2.str] 59 (0, 0))).heap.size = w.heap.size + 1 := by simp
      rw [e1] at hx1
      clear e1
      obtain ⟨hx0a, hx0b, hx0c⟩ := two_facts hx0
      obtain ⟨hx0f, hx0g⟩ := two_frozen hx0
      obtain ⟨hx1a, hx1b, hx1c⟩ := two_facts hx1
      obtain ⟨hx1f, hx1g⟩ := two_frozen hx1
      refine (hg _).mono ?_; rintro e w1 ⟨rfl, hb1⟩
      have hbw1 := nx hb0 hb1
      replace hx0 := heap_keep hb1 hx0
      replace hx1 := heap_keep hb1 hx1
      clear hx0a hx0b hx0c hx0f hx0g
      obtain ⟨hx0a, hx0b, hx0c⟩ := two_facts hx0
      obtain ⟨hx0f, hx0g⟩ := two_frozen hx0
      clear hx1a hx1b hx1c hx1f hx1g
      obtain ⟨hx1a, hx1b, hx1c⟩ := two_facts hx1
      obtain ⟨hx1f, hx1g⟩ := two_frozen hx1
      clear hb1 hb0
      go_wp2_with fail
      refine (hK _ (HV.out.keep hbw1)).mono ?_; rintro e wc ⟨rfl, rfl⟩
      go_wp2_with fail
      obtain ⟨q1, q2⟩ := two_cells (set_two (.string ⟨#[]⟩) (.string ⟨#[]⟩) hx1)
      refine bodyPost_ret (v := .tuple #[.agg #[.string ⟨#[]⟩, .string ⟨#[]⟩], .bool false]) (by simp [q1, q2, results, Try.results60, go_sem]) rfl ⟨rfl, ?_⟩
      exact (hbw1.setCell (by show w.heap.size ≤ w.heap.size + 1; omega) _).setCell (by show w.heap.size ≤ w.heap.size + 1; omega) _
    | true =>
      have h0 := (choB_all hch).2
      rw [hch] at hK
      clear hch
      show Calls _ _ _ _ (Gives (ansPr (some (redBy p cs))) w)
      go_enter Try.func60, Try.ntmps60
      go_wp2_with fail
      have hb0 : Below w.heap.size w ((w.alloc (.cells #[.string p.1.str, .string p.2.str] 59 (0, 0))).alloc (.cells #[.string ⟨#[]⟩, .string ⟨#[]⟩] 59 (0, 0))) := nxAlloc (nxAlloc (Below.refl _ _) _) _
      have hx0 := heap_keep (nxAlloc (Below.refl _ _) (.cells #[.string ⟨#[]⟩, .string ⟨#[]⟩] 59 (0, 0))) (heap_alloc_at w (.cells #[.string p.1.str, .string p.2.str] 59 (0, 0)))
      have hx1 := heap_alloc_at (w.alloc (.cells #[.string p.1.str, .string p.2.str] 59 (0, 0))) (.cells #[.string ⟨#[]⟩, .string ⟨#[]⟩] 59 (0, 0))
      generalize ((w.alloc (.cells #[.string p.1.str, .string p.2.str] 59 (0, 0))).alloc (.cells #[.string ⟨#[]⟩, .string ⟨#[]⟩] 59 (0, 0))) = w0 at *
      have e1 : (w.alloc (.cells #[.string p.1.str, .string p.2.str] 59 (0, 0))).heap.size = w.heap.size + 1 := by simp
      rw [e1] at hx1
      clear e1
      obtain ⟨hx0a, hx0b, hx0c⟩ := two_facts hx0
      obtain ⟨hx0f, hx0g⟩ := two_frozen hx0
      obtain ⟨hx1a, hx1b, hx1c⟩ := two_facts hx1
      obtain ⟨hx1f, hx1g⟩ := two_frozen hx1
      refine (hg _).mono ?_; rintro e w1 ⟨rfl, hb1⟩
      have hbw1 := nx hb0 hb1
      replace hx0 := heap_keep hb1 hx0
      replace hx1 := heap_keep hb1 hx1
      clear hx0a hx0b hx0c hx0f hx0g
      obtain ⟨hx0a, hx0b, hx0c⟩ := two_facts hx0
      obtain ⟨hx0f, hx0g⟩ := two_frozen hx0
      clear hx1a hx1b hx1c hx1f hx1g
      obtain ⟨hx1a, hx1b, hx1c⟩ := two_facts hx1
      obtain ⟨hx1f, hx1g⟩ := two_frozen hx1
      clear hb1 hb0
      go_wp2_with fail
      refine (hK _ (HV.out.keep hbw1)).mono ?_; rintro e wc ⟨rfl, rfl⟩
      go_wp2_with fail
      refine (prReduce_any p _ cs b1 _ (by omega) (by omega) (HV.out.keep hbw1) (fun c hc => ⟨h0 c hc, (h9 c hc).2⟩)).mono ?_; rintro e w2 ⟨rfl, hb2⟩
      have hbw2 := nx hbw1 hb2
      replace hx0 := heap_keep hb2 hx0
      replace hx1 := heap_keep hb2 hx1
      clear hx0a hx0b hx0c hx0f hx0g
      obtain ⟨hx0a, hx0b, hx0c⟩ := two_facts hx0
      obtain ⟨hx0f, hx0g⟩ := two_frozen hx0
      clear hx1a hx1b hx1c hx1f hx1g
      obtain ⟨hx1a, hx1b, hx1c⟩ := two_facts hx1
      obtain ⟨hx1f, hx1g⟩ := two_frozen hx1
      clear hb2 hbw1
      go_wp2_with fail
      obtain ⟨q1, q2⟩ := two_cells (set_two (.string (redBy p cs).1.str) (.string (redBy p cs).2.str) hx1)
      refine bodyPost_ret (v := .tuple #[.agg #[.string (redBy p cs).1.str, .string (redBy p cs).2.str], .bool true]) (by simp [q1, q2, results, Try.results60, go_sem]) rfl ⟨rfl, ?_⟩
      exact (hbw2.setCell (by show w.heap.size ≤ w.heap.size + 1; omega) _).setCell (by show w.heap.size ≤ w.heap.size + 1; omega) _
end Go.Proofs.Yteflpaebckichab
