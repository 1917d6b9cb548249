/- The walk of laws.FnExactAreSamePairs. -/
import Derived.Test.YtbeailflcinilaaWIsReduced
namespace Go.Proofs.Ytbeailflcinilaa
open Go.RowKit

/-- Do both pairs have the same reduced one? -/
noncomputable def sameB (p q : Pr) : Bool := @decide (red p = red q) (Classical.propDecidable _)

set_option maxRecDepth 100000 in
set_option maxHeartbeats 2000000 in
theorem specAreSamePairs_any (a b c d : ByteArray) (w : World) (ha : a.size ≤ 9223372036854775806) (hb : b.size ≤ 9223372036854775806) (hc : c.size ≤ 9223372036854775806) (hd : d.size ≤ 9223372036854775806) :
    Calls Try.prog 42 #[.agg #[.string a, .string b], .agg #[.string c, .string d]] w (Gives (ansB ((pairOf a b).bind fun p => (pairOf c d).bind fun q => some (sameB p q))) w) := by
  have hg := fun w => prGood_any a b w ha hb
  have hk := fun w => prGood_any c d w hc hd
  cases h : pairOf a b with
  | none =>
    rw [h] at hg
    clear h hk
    go_enter Try.func42, Try.ntmps42
    go_wp2_with fail
    have hb0 : Below w.heap.size w ((w.alloc (.cells #[.string a, .string b] 35 (0, 0))).alloc (.cells #[.string c, .string d] 35 (0, 0))) := nxAlloc (nxAlloc (Below.refl _ _) _) _
    have hx0 := heap_keep (nxAlloc (Below.refl _ _) (.cells #[.string c, .string d] 35 (0, 0))) (heap_alloc_at w (.cells #[.string a, .string b] 35 (0, 0)))
    have hx1 := heap_alloc_at (w.alloc (.cells #[.string a, .string b] 35 (0, 0))) (.cells #[.string c, .string d] 35 (0, 0))
    generalize ((w.alloc (.cells #[.string a, .string b] 35 (0, 0))).alloc (.cells #[.string c, .string d] 35 (0, 0))) = w0 at *
    have e1 : (w.alloc (.cells #[.string a, .string b] 35 (0, 0))).heap.size = w.heap.size + 1 := by simp
    rw [e1] at hx1
    clear e1
    obtain ⟨hx0a, hx0b, hx0c⟩ := two_facts hx0
    obtain ⟨hx0f, hx0g⟩ := two_frozen hx0
    obtain ⟨hx1a, hx1b, hx1c⟩ := two_facts hx1
    obtain ⟨hx1f, hx1g⟩ := two_frozen hx1
    refine (hg _).mono ?_; rintro e w1 ⟨rfl, hb1⟩
    have hbw1 := nx hb0 hb1
    replace hx0 := heap_keep hb1 hx0
    replace hx1 := heap_keep hb1 hx1
    clear hx0a hx0b hx0c hx0f hx0g
    obtain ⟨hx0a, hx0b, hx0c⟩ := two_facts hx0
    obtain ⟨hx0f, hx0g⟩ := two_frozen hx0
    clear hx1a hx1b hx1c hx1f hx1g
    obtain ⟨hx1a, hx1b, hx1c⟩ := two_facts hx1
    obtain ⟨hx1f, hx1g⟩ := two_frozen hx1
    clear hb1 hb0
    go_wp2_with fail
    go_ret2
    exact ⟨rfl, hbw1⟩
  | some p =>
    rw [h] at hg
    obtain ⟨rfl, rfl, hok1, hp1, hp2⟩ := pairOf_some h
    clear h
    cases k : pairOf c d with
    | none =>
      rw [k] at hk
      clear k
      go_enter Try.func42, Try.ntmps42
      go_wp2_with fail
      have hb0 : Below w.heap.size w ((w.alloc (.cells #[.string p.1.str, .string p.2.str] 35 (0, 0))).alloc (.cells #[.string c, .string d] 35 (0, 0))) := nxAlloc (nxAlloc (Below.refl _ _) _) _
      have hx0 := heap_keep (nxAlloc (Below.refl _ _) (.cells #[.string c, .string d] 35 (0, 0))) (heap_alloc_at w (.cells #[.string p.1.str, .string p.2.str] 35 (0, 0)))
      have hx1 := heap_alloc_at (w.alloc (.cells #[.string p.1.str, .string p.2.str] 35 (0, 0))) (.cells #[.string c, .string d] 35 (0, 0))
      generalize ((w.alloc (.cells #[.string p.1.str, .string p.2.str] 35 (0, 0))).alloc (.cells #[.string c, .string d] 35 (0, 0))) = w0 at *
      have e1 : (w.alloc (.cells #[.string p.1.str, .string p.2.str] 35 (0, 0))).heap.size = w.heap.size + 1 := by simp
      rw [e1] at hx1
      clear e1
      obtain ⟨hx0a, hx0b, hx0c⟩ := two_facts hx0
      obtain ⟨hx0f, hx0g⟩ := two_frozen hx0
      obtain ⟨hx1a, hx1b, hx1c⟩ := two_facts hx1
      obtain ⟨hx1f, hx1g⟩ := two_frozen hx1
      refine (hg _).mono ?_; rintro e w1 ⟨rfl, hb1⟩
      have hbw1 := nx hb0 hb1
      replace hx0 := heap_keep hb1 hx0
      replace hx1 := heap_keep hb1 hx1
      clear hx0a hx0b hx0c hx0f hx0g
      obtain ⟨hx0a, hx0b, hx0c⟩ := two_facts hx0
      obtain ⟨hx0f, hx0g⟩ := two_frozen hx0
      clear hx1a hx1b hx1c hx1f hx1g
      obtain ⟨hx1a, hx1b, hx1c⟩ := two_facts hx1
      obtain ⟨hx1f, hx1g⟩ := two_frozen hx1
      clear hb1 hb0
      go_wp2_with fail
      refine (hk _).mono ?_; rintro e w2 ⟨rfl, hb2⟩
      have hbw2 := nx hbw1 hb2
      replace hx0 := heap_keep hb2 hx0
      replace hx1 := heap_keep hb2 hx1
      clear hx0a hx0b hx0c hx0f hx0g
      obtain ⟨hx0a, hx0b, hx0c⟩ := two_facts hx0
      obtain ⟨hx0f, hx0g⟩ := two_frozen hx0
      clear hx1a hx1b hx1c hx1f hx1g
      obtain ⟨hx1a, hx1b, hx1c⟩ := two_facts hx1
      obtain ⟨hx1f, hx1g⟩ := two_frozen hx1
      clear hb2 hbw1
      go_wp2_with fail
      go_ret2
      exact ⟨rfl, hbw2⟩
    | some q =>
      rw [k] at hk
      obtain ⟨rfl, rfl, hok2, hq1, hq2⟩ := pairOf_some k
      clear k
      show Calls _ _ _ _ (Gives (ansB (some (sameB p q))) w)
      have hcase : (red p = red q) ∨ ((red p).1 = (red q).1 ∧ ¬ (red p).2.str.toList = (red q).2.str.toList ∧ ¬ red p = red q) ∨ (¬ (red p).1.str.toList = (red q).1.str.toList ∧ ¬ red p = red q) := by
        by_cases h1 : (red p).1 = (red q).1
        · by_cases h2 : (red p).2 = (red q).2
          · exact .inl (Prod.ext h1 h2)
          · exact .inr (.inl ⟨h1, fun e => h2 (str_inj e), fun e => h2 (by rw [e])⟩)
        · exact .inr (.inr ⟨fun e => h1 (str_inj e), fun e => h1 (by rw [e])⟩)
      have P0 := fun w => prReduce_nil p w (by omega) (by omega)
      have Q0 := fun w => prReduce_nil q w (by omega) (by omega)
      rcases hcase with h1 | ⟨h1, h2, h3⟩ | ⟨h1, h3⟩
      · have P := P0; have Q := Q0; rw [h1] at P
        rw [show sameB p q = true by simp [sameB, h1]]
        clear P0 Q0 h1
        go_enter Try.func42, Try.ntmps42
        go_wp2_with fail
        have hb0 : Below w.heap.size w ((w.alloc (.cells #[.string p.1.str, .string p.2.str] 35 (0, 0))).alloc (.cells #[.string q.1.str, .string q.2.str] 35 (0, 0))) := nxAlloc (nxAlloc (Below.refl _ _) _) _
        have hx0 := heap_keep (nxAlloc (Below.refl _ _) (.cells #[.string q.1.str, .string q.2.str] 35 (0, 0))) (heap_alloc_at w (.cells #[.string p.1.str, .string p.2.str] 35 (0, 0)))
        have hx1 := heap_alloc_at (w.alloc (.cells #[.string p.1.str, .string p.2.str] 35 (0, 0))) (.cells #[.string q.1.str, .string q.2.str] 35 (0, 0))
        generalize ((w.alloc (.cells #[.string p.1.str, .string p.2.str] 35 (0, 0))).alloc (.cells #[.string q.1.str, .string q.2.str] 35 (0, 0))) = w0 at *
        have e1 : (w.alloc (.cells #[.string p.1.str, .string p.2.str] 35 (0, 0))).heap.size = w.heap.size + 1 := by simp
        rw [e1] at hx1
        clear e1
        obtain ⟨hx0a, hx0b, hx0c⟩ := two_facts hx0
        obtain ⟨hx0f, hx0g⟩ := two_frozen hx0
        obtain ⟨hx1a, hx1b, hx1c⟩ := two_facts hx1
        obtain ⟨hx1f, hx1g⟩ := two_frozen hx1
        refine (hg _).mono ?_; rintro e w1 ⟨rfl, hb1⟩
        have hbw1 := nx hb0 hb1
        replace hx0 := heap_keep hb1 hx0
        replace hx1 := heap_keep hb1 hx1
        clear hx0a hx0b hx0c hx0f hx0g
        obtain ⟨hx0a, hx0b, hx0c⟩ := two_facts hx0
        obtain ⟨hx0f, hx0g⟩ := two_frozen hx0
        clear hx1a hx1b hx1c hx1f hx1g
        obtain ⟨hx1a, hx1b, hx1c⟩ := two_facts hx1
        obtain ⟨hx1f, hx1g⟩ := two_frozen hx1
        clear hb1 hb0
        go_wp2_with fail
        refine (hk _).mono ?_; rintro e w2 ⟨rfl, hb2⟩
        have hbw2 := nx hbw1 hb2
        replace hx0 := heap_keep hb2 hx0
        replace hx1 := heap_keep hb2 hx1
        clear hx0a hx0b hx0c hx0f hx0g
        obtain ⟨hx0a, hx0b, hx0c⟩ := two_facts hx0
        obtain ⟨hx0f, hx0g⟩ := two_frozen hx0
        clear hx1a hx1b hx1c hx1f hx1g
        obtain ⟨hx1a, hx1b, hx1c⟩ := two_facts hx1
        obtain ⟨hx1f, hx1g⟩ := two_frozen hx1
        clear hb2 hbw1
        go_wp2_with fail
        refine wp_region_cls (by kernel_rfl) (by kernel_rfl) ?_
        repeat (
          refine wpQuiet_step (fun K hK => ?_)
          go_simp
          first
            | (refine hK _ ?_; clear hK K)
            | (refine ⟨_, fun _ _ => rfl, hK _ ?_⟩; clear hK K)
            | (apply Exists.intro
               refine ⟨fun w' hw' => ?_, hK _ ?_⟩
               · first
                   | (go_at_call 56; first | (with_reducible exact hw'.call (P _)) | (with_reducible exact hw'.call (Q _)))
                   | (rw [hw'.cell hx0c hx0a]; dsimp only [Result.andThen]; rw [hw'.cell hx0c hx0b]; exact ⟨rfl, rfl⟩)
                   | (rw [hw'.cell hx1c hx1a]; dsimp only [Result.andThen]; rw [hw'.cell hx1c hx1b]; exact ⟨rfl, rfl⟩)
               clear hK K))
        refine wpQuiet_nil ?_
        intro w' hw'
        go_wp2_with fail
        go_ret2
        exact ⟨rfl, nx hbw2 hw'⟩
      · have P := P0; have Q := Q0; rw [h1] at P
        rw [show sameB p q = false by simp [sameB, h3]]
        clear P0 Q0 h1 h3
        go_enter Try.func42, Try.ntmps42
        go_wp2_with fail
        have hb0 : Below w.heap.size w ((w.alloc (.cells #[.string p.1.str, .string p.2.str] 35 (0, 0))).alloc (.cells #[.string q.1.str, .string q.2.str] 35 (0, 0))) := nxAlloc (nxAlloc (Below.refl _ _) _) _
        have hx0 := heap_keep (nxAlloc (Below.refl _ _) (.cells #[.string q.1.str, .string q.2.str] 35 (0, 0))) (heap_alloc_at w (.cells #[.string p.1.str, .string p.2.str] 35 (0, 0)))
        have hx1 := heap_alloc_at (w.alloc (.cells #[.string p.1.str, .string p.2.str] 35 (0, 0))) (.cells #[.string q.1.str, .string q.2.str] 35 (0, 0))
        generalize ((w.alloc (.cells #[.string p.1.str, .string p.2.str] 35 (0, 0))).alloc (.cells #[.string q.1.str, .string q.2.str] 35 (0, 0))) = w0 at *
        have e1 : (w.alloc (.cells #[.string p.1.str, .string p.2.str] 35 (0, 0))).heap.size = w.heap.size + 1 := by simp
        rw [e1] at hx1
        clear e1
        obtain ⟨hx0a, hx0b, hx0c⟩ := two_facts hx0
        obtain ⟨hx0f, hx0g⟩ := two_frozen hx0
        obtain ⟨hx1a, hx1b, hx1c⟩ := two_facts hx1
        obtain ⟨hx1f, hx1g⟩ := two_frozen hx1
        refine (hg _).mono ?_; rintro e w1 ⟨rfl, hb1⟩
        have hbw1 := nx hb0 hb1
        replace hx0 := heap_keep hb1 hx0
        replace hx1 := heap_keep hb1 hx1
        clear hx0a hx0b hx0c hx0f hx0g
        obtain ⟨hx0a, hx0b, hx0c⟩ := two_facts hx0
        obtain ⟨hx0f, hx0g⟩ := two_frozen hx0
        clear hx1a hx1b hx1c hx1f hx1g
        obtain ⟨hx1a, hx1b, hx1c⟩ := two_facts hx1
        obtain ⟨hx1f, hx1g⟩ := two_frozen hx1
        clear hb1 hb0
        go_wp2_with fail
        refine (hk _).mono ?_; rintro e w2 ⟨rfl, hb2⟩
        have hbw2 := nx hbw1 hb2
        replace hx0 := heap_keep hb2 hx0
        replace hx1 := heap_keep hb2 hx1
        clear hx0a hx0b hx0c hx0f hx0g
        obtain ⟨hx0a, hx0b, hx0c⟩ := two_facts hx0
        obtain ⟨hx0f, hx0g⟩ := two_frozen hx0
        clear hx1a hx1b hx1c hx1f hx1g
        obtain ⟨hx1a, hx1b, hx1c⟩ := two_facts hx1
        obtain ⟨hx1f, hx1g⟩ := two_frozen hx1
        clear hb2 hbw1
        go_wp2_with fail
        refine wp_region_cls (by kernel_rfl) (by kernel_rfl) ?_
        repeat (
          refine wpQuiet_step (fun K hK => ?_)
          go_simp
          first
            | (refine hK _ ?_; clear hK K)
            | (refine ⟨_, fun _ _ => rfl, hK _ ?_⟩; clear hK K)
            | (apply Exists.intro
               refine ⟨fun w' hw' => ?_, hK _ ?_⟩
               · first
                   | (go_at_call 56; first | (with_reducible exact hw'.call (P _)) | (with_reducible exact hw'.call (Q _)))
                   | (rw [hw'.cell hx0c hx0a]; dsimp only [Result.andThen]; rw [hw'.cell hx0c hx0b]; exact ⟨rfl, rfl⟩)
                   | (rw [hw'.cell hx1c hx1a]; dsimp only [Result.andThen]; rw [hw'.cell hx1c hx1b]; exact ⟨rfl, rfl⟩)
               clear hK K))
        refine wpQuiet_nil ?_
        intro w' hw'
        go_wp2_with fail
        go_ret2
        exact ⟨rfl, nx hbw2 hw'⟩
      · have P := P0; have Q := Q0
        rw [show sameB p q = false by simp [sameB, h3]]
        clear P0 Q0 h3
        go_enter Try.func42, Try.ntmps42
        go_wp2_with fail
        have hb0 : Below w.heap.size w ((w.alloc (.cells #[.string p.1.str, .string p.2.str] 35 (0, 0))).alloc (.cells #[.string q.1.str, .string q.2.str] 35 (0, 0))) := nxAlloc (nxAlloc (Below.refl _ _) _) _
        have hx0 := heap_keep (nxAlloc (Below.refl _ _) (.cells #[.string q.1.str, .string q.2.str] 35 (0, 0))) (heap_alloc_at w (.cells #[.string p.1.str, .string p.2.str] 35 (0, 0)))
        have hx1 := heap_alloc_at (w.alloc (.cells #[.string p.1.str, .string p.2.str] 35 (0, 0))) (.cells #[.string q.1.str, .string q.2.str] 35 (0, 0))
        generalize ((w.alloc (.cells #[.string p.1.str, .string p.2.str] 35 (0, 0))).alloc (.cells #[.string q.1.str, .string q.2.str] 35 (0, 0))) = w0 at *
        have e1 : (w.alloc (.cells #[.string p.1.str, .string p.2.str] 35 (0, 0))).heap.size = w.heap.size + 1 := by simp
        rw [e1] at hx1
        clear e1
        obtain ⟨hx0a, hx0b, hx0c⟩ := two_facts hx0
        obtain ⟨hx0f, hx0g⟩ := two_frozen hx0
        obtain ⟨hx1a, hx1b, hx1c⟩ := two_facts hx1
        obtain ⟨hx1f, hx1g⟩ := two_frozen hx1
        refine (hg _).mono ?_; rintro e w1 ⟨rfl, hb1⟩
        have hbw1 := nx hb0 hb1
        replace hx0 := heap_keep hb1 hx0
        replace hx1 := heap_keep hb1 hx1
        clear hx0a hx0b hx0c hx0f hx0g
        obtain ⟨hx0a, hx0b, hx0c⟩ := two_facts hx0
        obtain ⟨hx0f, hx0g⟩ := two_frozen hx0
        clear hx1a hx1b hx1c hx1f hx1g
        obtain ⟨hx1a, hx1b, hx1c⟩ := two_facts hx1
        obtain ⟨hx1f, hx1g⟩ := two_frozen hx1
        clear hb1 hb0
        go_wp2_with fail
        refine (hk _).mono ?_; rintro e w2 ⟨rfl, hb2⟩
        have hbw2 := nx hbw1 hb2
        replace hx0 := heap_keep hb2 hx0
        replace hx1 := heap_keep hb2 hx1
        clear hx0a hx0b hx0c hx0f hx0g
        obtain ⟨hx0a, hx0b, hx0c⟩ := two_facts hx0
        obtain ⟨hx0f, hx0g⟩ := two_frozen hx0
        clear hx1a hx1b hx1c hx1f hx1g
        obtain ⟨hx1a, hx1b, hx1c⟩ := two_facts hx1
        obtain ⟨hx1f, hx1g⟩ := two_frozen hx1
        clear hb2 hbw1
        go_wp2_with fail
        refine wp_region_cls (by kernel_rfl) (by kernel_rfl) ?_
        repeat (
          refine wpQuiet_step (fun K hK => ?_)
          go_simp
          first
            | (refine hK _ ?_; clear hK K)
            | (refine ⟨_, fun _ _ => rfl, hK _ ?_⟩; clear hK K)
            | (apply Exists.intro
               refine ⟨fun w' hw' => ?_, hK _ ?_⟩
               · first
                   | (go_at_call 56; first | (with_reducible exact hw'.call (P _)) | (with_reducible exact hw'.call (Q _)))
                   | (rw [hw'.cell hx0c hx0a]; dsimp only [Result.andThen]; rw [hw'.cell hx0c hx0b]; exact ⟨rfl, rfl⟩)
                   | (rw [hw'.cell hx1c hx1a]; dsimp only [Result.andThen]; rw [hw'.cell hx1c hx1b]; exact ⟨rfl, rfl⟩)
               clear hK K))
        refine wpQuiet_nil ?_
        intro w' hw'
        go_wp2_with fail
        go_ret2
        exact ⟨rfl, nx hbw2 hw'⟩

set_option maxRecDepth 100000 in
set_option maxHeartbeats 2000000 in
theorem implAreSamePairs_any (a b c d : ByteArray) (w : World) (ha : a.size ≤ 9223372036854775806) (hb : b.size ≤ 9223372036854775806) (hc : c.size ≤ 9223372036854775806) (hd : d.size ≤ 9223372036854775806) :
    Calls Try.prog 43 #[.agg #[.string a, .string b], .agg #[.string c, .string d]] w (Gives (ansB ((pairOf a b).bind fun p => (pairOf c d).bind fun q => some (sameB p q))) w) := by
  have hg := fun w => implReducePair_any a b w ha hb
  have hk := fun w => implReducePair_any c d w hc hd
  cases h : pairOf a b with
  | none =>
    rw [h] at hg
    unfold ansPr at hg
    clear h hk
    go_enter Try.func43, Try.ntmps43
    go_wp2_with fail
    have hb0 : Below w.heap.size w ((w.alloc (.cells #[.string a, .string b] 35 (0, 0))).alloc (.cells #[.string c, .string d] 35 (0, 0))) := nxAlloc (nxAlloc (Below.refl _ _) _) _
    have hx0 := heap_keep (nxAlloc (Below.refl _ _) (.cells #[.string c, .string d] 35 (0, 0))) (heap_alloc_at w (.cells #[.string a, .string b] 35 (0, 0)))
    have hx1 := heap_alloc_at (w.alloc (.cells #[.string a, .string b] 35 (0, 0))) (.cells #[.string c, .string d] 35 (0, 0))
    generalize ((w.alloc (.cells #[.string a, .string b] 35 (0, 0))).alloc (.cells #[.string c, .string d] 35 (0, 0))) = w0 at *
    have e1 : (w.alloc (.cells #[.string a, .string b] 35 (0, 0))).heap.size = w.heap.size + 1 := by simp
    rw [e1] at hx1
    clear e1
    obtain ⟨hx0a, hx0b, hx0c⟩ := two_facts hx0
    obtain ⟨hx0f, hx0g⟩ := two_frozen hx0
    obtain ⟨hx1a, hx1b, hx1c⟩ := two_facts hx1
    obtain ⟨hx1f, hx1g⟩ := two_frozen hx1
    refine (hg _).mono ?_; rintro e w1 ⟨rfl, hb1⟩
    have hbw1 := nx hb0 hb1
    replace hx0 := heap_keep hb1 hx0
    replace hx1 := heap_keep hb1 hx1
    clear hx0a hx0b hx0c hx0f hx0g
    obtain ⟨hx0a, hx0b, hx0c⟩ := two_facts hx0
    obtain ⟨hx0f, hx0g⟩ := two_frozen hx0
    clear hx1a hx1b hx1c hx1f hx1g
    obtain ⟨hx1a, hx1b, hx1c⟩ := two_facts hx1
    obtain ⟨hx1f, hx1g⟩ := two_frozen hx1
    clear hb1 hb0
    go_wp2_with fail
    go_ret2
    exact ⟨rfl, nxAlloc hbw1 _⟩
  | some p =>
    rw [h] at hg
    obtain ⟨rfl, rfl, hok1, hp1, hp2⟩ := pairOf_some h
    clear h
    have P0 : ∀ w, Calls Try.prog 29 #[.agg #[.string p.1.str, .string p.2.str]] w (Gives (.tuple #[.agg #[.string (red p).1.str, .string (red p).2.str], .bool true]) w) := hg
    clear hg
    cases k : pairOf c d with
    | none =>
      rw [k] at hk
      unfold ansPr at hk
      clear k
      go_enter Try.func43, Try.ntmps43
      go_wp2_with fail
      have hb0 : Below w.heap.size w ((w.alloc (.cells #[.string p.1.str, .string p.2.str] 35 (0, 0))).alloc (.cells #[.string c, .string d] 35 (0, 0))) := nxAlloc (nxAlloc (Below.refl _ _) _) _
      have hx0 := heap_keep (nxAlloc (Below.refl _ _) (.cells #[.string c, .string d] 35 (0, 0))) (heap_alloc_at w (.cells #[.string p.1.str, .string p.2.str] 35 (0, 0)))
      have hx1 := heap_alloc_at (w.alloc (.cells #[.string p.1.str, .string p.2.str] 35 (0, 0))) (.cells #[.string c, .string d] 35 (0, 0))
      generalize ((w.alloc (.cells #[.string p.1.str, .string p.2.str] 35 (0, 0))).alloc (.cells #[.string c, .string d] 35 (0, 0))) = w0 at *
      have e1 : (w.alloc (.cells #[.string p.1.str, .string p.2.str] 35 (0, 0))).heap.size = w.heap.size + 1 := by simp
      rw [e1] at hx1
      clear e1
      obtain ⟨hx0a, hx0b, hx0c⟩ := two_facts hx0
      obtain ⟨hx0f, hx0g⟩ := two_frozen hx0
      obtain ⟨hx1a, hx1b, hx1c⟩ := two_facts hx1
      obtain ⟨hx1f, hx1g⟩ := two_frozen hx1
      refine (P0 _).mono ?_; rintro e w1 ⟨rfl, hb1⟩
      have hbw1 := nx hb0 hb1
      replace hx0 := heap_keep hb1 hx0
      replace hx1 := heap_keep hb1 hx1
      clear hx0a hx0b hx0c hx0f hx0g
      obtain ⟨hx0a, hx0b, hx0c⟩ := two_facts hx0
      obtain ⟨hx0f, hx0g⟩ := two_frozen hx0
      clear hx1a hx1b hx1c hx1f hx1g
      obtain ⟨hx1a, hx1b, hx1c⟩ := two_facts hx1
      obtain ⟨hx1f, hx1g⟩ := two_frozen hx1
      clear hb1 hb0
      go_wp2_with fail
      have hbw2 := nxAlloc hbw1 (.cells #[.string (red p).1.str, .string (red p).2.str] 35 (0, 0))
      replace hx0 := heap_keep (nxAlloc (Below.refl _ _) (.cells #[.string (red p).1.str, .string (red p).2.str] 35 (0, 0))) hx0
      replace hx1 := heap_keep (nxAlloc (Below.refl _ _) (.cells #[.string (red p).1.str, .string (red p).2.str] 35 (0, 0))) hx1
      have hy2 := heap_alloc_at w1 (.cells #[.string (red p).1.str, .string (red p).2.str] 35 (0, 0))
      generalize w1.alloc (.cells #[.string (red p).1.str, .string (red p).2.str] 35 (0, 0)) = w2 at *
      clear hbw1
      clear hx0a hx0b hx0c hx0f hx0g
      obtain ⟨hx0a, hx0b, hx0c⟩ := two_facts hx0
      obtain ⟨hx0f, hx0g⟩ := two_frozen hx0
      clear hx1a hx1b hx1c hx1f hx1g
      obtain ⟨hx1a, hx1b, hx1c⟩ := two_facts hx1
      obtain ⟨hx1f, hx1g⟩ := two_frozen hx1
      obtain ⟨hy2a, hy2b, hy2c⟩ := two_facts hy2
      obtain ⟨hy2f, hy2g⟩ := two_frozen hy2
      go_wp2_with fail
      refine (hk _).mono ?_; rintro e w3 ⟨rfl, hb3⟩
      have hbw3 := nx hbw2 hb3
      replace hx0 := heap_keep hb3 hx0
      replace hx1 := heap_keep hb3 hx1
      replace hy2 := heap_keep hb3 hy2
      clear hx0a hx0b hx0c hx0f hx0g
      obtain ⟨hx0a, hx0b, hx0c⟩ := two_facts hx0
      obtain ⟨hx0f, hx0g⟩ := two_frozen hx0
      clear hx1a hx1b hx1c hx1f hx1g
      obtain ⟨hx1a, hx1b, hx1c⟩ := two_facts hx1
      obtain ⟨hx1f, hx1g⟩ := two_frozen hx1
      clear hy2a hy2b hy2c hy2f hy2g
      obtain ⟨hy2a, hy2b, hy2c⟩ := two_facts hy2
      obtain ⟨hy2f, hy2g⟩ := two_frozen hy2
      clear hb3 hbw2
      go_wp2_with fail
      go_ret2
      exact ⟨rfl, nxAlloc hbw3 _⟩
    | some q =>
      rw [k] at hk
      obtain ⟨rfl, rfl, hok2, hq1, hq2⟩ := pairOf_some k
      clear k
      show Calls _ _ _ _ (Gives (ansB (some (sameB p q))) w)
      have Q0 : ∀ w, Calls Try.prog 29 #[.agg #[.string q.1.str, .string q.2.str]] w (Gives (.tuple #[.agg #[.string (red q).1.str, .string (red q).2.str], .bool true]) w) := hk
      clear hk
      have hcase : (red p = red q) ∨ ((red p).1 = (red q).1 ∧ ¬ (red p).2.str.toList = (red q).2.str.toList ∧ ¬ red p = red q) ∨ (¬ (red p).1.str.toList = (red q).1.str.toList ∧ ¬ red p = red q) := by
        by_cases h1 : (red p).1 = (red q).1
        · by_cases h2 : (red p).2 = (red q).2
          · exact .inl (Prod.ext h1 h2)
          · exact .inr (.inl ⟨h1, fun e => h2 (str_inj e), fun e => h2 (by rw [e])⟩)
        · exact .inr (.inr ⟨fun e => h1 (str_inj e), fun e => h1 (by rw [e])⟩)
      rcases hcase with h1 | ⟨h1, h2, h3⟩ | ⟨h1, h3⟩
      · have P := P0; have Q := Q0; rw [h1] at P
        rw [show sameB p q = true by simp [sameB, h1]]
        clear P0 Q0 h1
        go_enter Try.func43, Try.ntmps43
        go_wp2_with fail
        have hb0 : Below w.heap.size w ((w.alloc (.cells #[.string p.1.str, .string p.2.str] 35 (0, 0))).alloc (.cells #[.string q.1.str, .string q.2.str] 35 (0, 0))) := nxAlloc (nxAlloc (Below.refl _ _) _) _
        have hx0 := heap_keep (nxAlloc (Below.refl _ _) (.cells #[.string q.1.str, .string q.2.str] 35 (0, 0))) (heap_alloc_at w (.cells #[.string p.1.str, .string p.2.str] 35 (0, 0)))
        have hx1 := heap_alloc_at (w.alloc (.cells #[.string p.1.str, .string p.2.str] 35 (0, 0))) (.cells #[.string q.1.str, .string q.2.str] 35 (0, 0))
        generalize ((w.alloc (.cells #[.string p.1.str, .string p.2.str] 35 (0, 0))).alloc (.cells #[.string q.1.str, .string q.2.str] 35 (0, 0))) = w0 at *
        have e1 : (w.alloc (.cells #[.string p.1.str, .string p.2.str] 35 (0, 0))).heap.size = w.heap.size + 1 := by simp
        rw [e1] at hx1
        clear e1
        obtain ⟨hx0a, hx0b, hx0c⟩ := two_facts hx0
        obtain ⟨hx0f, hx0g⟩ := two_frozen hx0
        obtain ⟨hx1a, hx1b, hx1c⟩ := two_facts hx1
        obtain ⟨hx1f, hx1g⟩ := two_frozen hx1
        refine (P _).mono ?_; rintro e w1 ⟨rfl, hb1⟩
        have hbw1 := nx hb0 hb1
        replace hx0 := heap_keep hb1 hx0
        replace hx1 := heap_keep hb1 hx1
        clear hx0a hx0b hx0c hx0f hx0g
        obtain ⟨hx0a, hx0b, hx0c⟩ := two_facts hx0
        obtain ⟨hx0f, hx0g⟩ := two_frozen hx0
        clear hx1a hx1b hx1c hx1f hx1g
        obtain ⟨hx1a, hx1b, hx1c⟩ := two_facts hx1
        obtain ⟨hx1f, hx1g⟩ := two_frozen hx1
        clear hb1 hb0
        go_wp2_with fail
        have hbw2 := nxAlloc hbw1 (.cells #[.string (red q).1.str, .string (red q).2.str] 35 (0, 0))
        replace hx0 := heap_keep (nxAlloc (Below.refl _ _) (.cells #[.string (red q).1.str, .string (red q).2.str] 35 (0, 0))) hx0
        replace hx1 := heap_keep (nxAlloc (Below.refl _ _) (.cells #[.string (red q).1.str, .string (red q).2.str] 35 (0, 0))) hx1
        have hy2 := heap_alloc_at w1 (.cells #[.string (red q).1.str, .string (red q).2.str] 35 (0, 0))
        generalize w1.alloc (.cells #[.string (red q).1.str, .string (red q).2.str] 35 (0, 0)) = w2 at *
        clear hbw1
        clear hx0a hx0b hx0c hx0f hx0g
        obtain ⟨hx0a, hx0b, hx0c⟩ := two_facts hx0
        obtain ⟨hx0f, hx0g⟩ := two_frozen hx0
        clear hx1a hx1b hx1c hx1f hx1g
        obtain ⟨hx1a, hx1b, hx1c⟩ := two_facts hx1
        obtain ⟨hx1f, hx1g⟩ := two_frozen hx1
        obtain ⟨hy2a, hy2b, hy2c⟩ := two_facts hy2
        obtain ⟨hy2f, hy2g⟩ := two_frozen hy2
        go_wp2_with fail
        refine (Q _).mono ?_; rintro e w3 ⟨rfl, hb3⟩
        have hbw3 := nx hbw2 hb3
        replace hx0 := heap_keep hb3 hx0
        replace hx1 := heap_keep hb3 hx1
        replace hy2 := heap_keep hb3 hy2
        clear hx0a hx0b hx0c hx0f hx0g
        obtain ⟨hx0a, hx0b, hx0c⟩ := two_facts hx0
        obtain ⟨hx0f, hx0g⟩ := two_frozen hx0
        clear hx1a hx1b hx1c hx1f hx1g
        obtain ⟨hx1a, hx1b, hx1c⟩ := two_facts hx1
        obtain ⟨hx1f, hx1g⟩ := two_frozen hx1
        clear hy2a hy2b hy2c hy2f hy2g
        obtain ⟨hy2a, hy2b, hy2c⟩ := two_facts hy2
        obtain ⟨hy2f, hy2g⟩ := two_frozen hy2
        clear hb3 hbw2
        go_wp2_with fail
        have hbw4 := nxAlloc hbw3 (.cells #[.string (red q).1.str, .string (red q).2.str] 35 (0, 0))
        replace hx0 := heap_keep (nxAlloc (Below.refl _ _) (.cells #[.string (red q).1.str, .string (red q).2.str] 35 (0, 0))) hx0
        replace hx1 := heap_keep (nxAlloc (Below.refl _ _) (.cells #[.string (red q).1.str, .string (red q).2.str] 35 (0, 0))) hx1
        replace hy2 := heap_keep (nxAlloc (Below.refl _ _) (.cells #[.string (red q).1.str, .string (red q).2.str] 35 (0, 0))) hy2
        have hy4 := heap_alloc_at w3 (.cells #[.string (red q).1.str, .string (red q).2.str] 35 (0, 0))
        generalize w3.alloc (.cells #[.string (red q).1.str, .string (red q).2.str] 35 (0, 0)) = w4 at *
        clear hbw3
        clear hx0a hx0b hx0c hx0f hx0g
        obtain ⟨hx0a, hx0b, hx0c⟩ := two_facts hx0
        obtain ⟨hx0f, hx0g⟩ := two_frozen hx0
        clear hx1a hx1b hx1c hx1f hx1g
        obtain ⟨hx1a, hx1b, hx1c⟩ := two_facts hx1
        obtain ⟨hx1f, hx1g⟩ := two_frozen hx1
        clear hy2a hy2b hy2c hy2f hy2g
        obtain ⟨hy2a, hy2b, hy2c⟩ := two_facts hy2
        obtain ⟨hy2f, hy2g⟩ := two_frozen hy2
        obtain ⟨hy4a, hy4b, hy4c⟩ := two_facts hy4
        obtain ⟨hy4f, hy4g⟩ := two_frozen hy4
        go_wp2_with fail
        go_ret2
        exact ⟨rfl, hbw4⟩
      · have P := P0; have Q := Q0; rw [h1] at P
        rw [show sameB p q = false by simp [sameB, h3]]
        clear P0 Q0 h1 h3
        go_enter Try.func43, Try.ntmps43
        go_wp2_with fail
        have hb0 : Below w.heap.size w ((w.alloc (.cells #[.string p.1.str, .string p.2.str] 35 (0, 0))).alloc (.cells #[.string q.1.str, .string q.2.str] 35 (0, 0))) := nxAlloc (nxAlloc (Below.refl _ _) _) _
        have hx0 := heap_keep (nxAlloc (Below.refl _ _) (.cells #[.string q.1.str, .string q.2.str] 35 (0, 0))) (heap_alloc_at w (.cells #[.string p.1.str, .string p.2.str] 35 (0, 0)))
        have hx1 := heap_alloc_at (w.alloc (.cells #[.string p.1.str, .string p.2.str] 35 (0, 0))) (.cells #[.string q.1.str, .string q.2.str] 35 (0, 0))
        generalize ((w.alloc (.cells #[.string p.1.str, .string p.2.str] 35 (0, 0))).alloc (.cells #[.string q.1.str, .string q.2.str] 35 (0, 0))) = w0 at *
        have e1 : (w.alloc (.cells #[.string p.1.str, .string p.2.str] 35 (0, 0))).heap.size = w.heap.size + 1 := by simp
        rw [e1] at hx1
        clear e1
        obtain ⟨hx0a, hx0b, hx0c⟩ := two_facts hx0
        obtain ⟨hx0f, hx0g⟩ := two_frozen hx0
        obtain ⟨hx1a, hx1b, hx1c⟩ := two_facts hx1
        obtain ⟨hx1f, hx1g⟩ := two_frozen hx1
        refine (P _).mono ?_; rintro e w1 ⟨rfl, hb1⟩
        have hbw1 := nx hb0 hb1
        replace hx0 := heap_keep hb1 hx0
        replace hx1 := heap_keep hb1 hx1
        clear hx0a hx0b hx0c hx0f hx0g
        obtain ⟨hx0a, hx0b, hx0c⟩ := two_facts hx0
        obtain ⟨hx0f, hx0g⟩ := two_frozen hx0
        clear hx1a hx1b hx1c hx1f hx1g
        obtain ⟨hx1a, hx1b, hx1c⟩ := two_facts hx1
        obtain ⟨hx1f, hx1g⟩ := two_frozen hx1
        clear hb1 hb0
        go_wp2_with fail
        have hbw2 := nxAlloc hbw1 (.cells #[.string (red q).1.str, .string (red p).2.str] 35 (0, 0))
        replace hx0 := heap_keep (nxAlloc (Below.refl _ _) (.cells #[.string (red q).1.str, .string (red p).2.str] 35 (0, 0))) hx0
        replace hx1 := heap_keep (nxAlloc (Below.refl _ _) (.cells #[.string (red q).1.str, .string (red p).2.str] 35 (0, 0))) hx1
        have hy2 := heap_alloc_at w1 (.cells #[.string (red q).1.str, .string (red p).2.str] 35 (0, 0))
        generalize w1.alloc (.cells #[.string (red q).1.str, .string (red p).2.str] 35 (0, 0)) = w2 at *
        clear hbw1
        clear hx0a hx0b hx0c hx0f hx0g
        obtain ⟨hx0a, hx0b, hx0c⟩ := two_facts hx0
        obtain ⟨hx0f, hx0g⟩ := two_frozen hx0
        clear hx1a hx1b hx1c hx1f hx1g
        obtain ⟨hx1a, hx1b, hx1c⟩ := two_facts hx1
        obtain ⟨hx1f, hx1g⟩ := two_frozen hx1
        obtain ⟨hy2a, hy2b, hy2c⟩ := two_facts hy2
        obtain ⟨hy2f, hy2g⟩ := two_frozen hy2
        go_wp2_with fail
        refine (Q _).mono ?_; rintro e w3 ⟨rfl, hb3⟩
        have hbw3 := nx hbw2 hb3
        replace hx0 := heap_keep hb3 hx0
        replace hx1 := heap_keep hb3 hx1
        replace hy2 := heap_keep hb3 hy2
        clear hx0a hx0b hx0c hx0f hx0g
        obtain ⟨hx0a, hx0b, hx0c⟩ := two_facts hx0
        obtain ⟨hx0f, hx0g⟩ := two_frozen hx0
        clear hx1a hx1b hx1c hx1f hx1g
        obtain ⟨hx1a, hx1b, hx1c⟩ := two_facts hx1
        obtain ⟨hx1f, hx1g⟩ := two_frozen hx1
        clear hy2a hy2b hy2c hy2f hy2g
        obtain ⟨hy2a, hy2b, hy2c⟩ := two_facts hy2
        obtain ⟨hy2f, hy2g⟩ := two_frozen hy2
        clear hb3 hbw2
        go_wp2_with fail
        have hbw4 := nxAlloc hbw3 (.cells #[.string (red q).1.str, .string (red q).2.str] 35 (0, 0))
        replace hx0 := heap_keep (nxAlloc (Below.refl _ _) (.cells #[.string (red q).1.str, .string (red q).2.str] 35 (0, 0))) hx0
        replace hx1 := heap_keep (nxAlloc (Below.refl _ _) (.cells #[.string (red q).1.str, .string (red q).2.str] 35 (0, 0))) hx1
        replace hy2 := heap_keep (nxAlloc (Below.refl _ _) (.cells #[.string (red q).1.str, .string (red q).2.str] 35 (0, 0))) hy2
        have hy4 := heap_alloc_at w3 (.cells #[.string (red q).1.str, .string (red q).2.str] 35 (0, 0))
        generalize w3.alloc (.cells #[.string (red q).1.str, .string (red q).2.str] 35 (0, 0)) = w4 at *
        clear hbw3
        clear hx0a hx0b hx0c hx0f hx0g
        obtain ⟨hx0a, hx0b, hx0c⟩ := two_facts hx0
        obtain ⟨hx0f, hx0g⟩ := two_frozen hx0
        clear hx1a hx1b hx1c hx1f hx1g
        obtain ⟨hx1a, hx1b, hx1c⟩ := two_facts hx1
        obtain ⟨hx1f, hx1g⟩ := two_frozen hx1
        clear hy2a hy2b hy2c hy2f hy2g
        obtain ⟨hy2a, hy2b, hy2c⟩ := two_facts hy2
        obtain ⟨hy2f, hy2g⟩ := two_frozen hy2
        obtain ⟨hy4a, hy4b, hy4c⟩ := two_facts hy4
        obtain ⟨hy4f, hy4g⟩ := two_frozen hy4
        go_wp2_with fail
        go_ret2
        exact ⟨rfl, hbw4⟩
      · have P := P0; have Q := Q0
        rw [show sameB p q = false by simp [sameB, h3]]
        clear P0 Q0 h3
        go_enter Try.func43, Try.ntmps43
        go_wp2_with fail
        have hb0 : Below w.heap.size w ((w.alloc (.cells #[.string p.1.str, .string p.2.str] 35 (0, 0))).alloc (.cells #[.string q.1.str, .string q.2.str] 35 (0, 0))) := nxAlloc (nxAlloc (Below.refl _ _) _) _
        have hx0 := heap_keep (nxAlloc (Below.refl _ _) (.cells #[.string q.1.str, .string q.2.str] 35 (0, 0))) (heap_alloc_at w (.cells #[.string p.1.str, .string p.2.str] 35 (0, 0)))
        have hx1 := heap_alloc_at (w.alloc (.cells #[.string p.1.str, .string p.2.str] 35 (0, 0))) (.cells #[.string q.1.str, .string q.2.str] 35 (0, 0))
        generalize ((w.alloc (.cells #[.string p.1.str, .string p.2.str] 35 (0, 0))).alloc (.cells #[.string q.1.str, .string q.2.str] 35 (0, 0))) = w0 at *
        have e1 : (w.alloc (.cells #[.string p.1.str, .string p.2.str] 35 (0, 0))).heap.size = w.heap.size + 1 := by simp
        rw [e1] at hx1
        clear e1
        obtain ⟨hx0a, hx0b, hx0c⟩ := two_facts hx0
        obtain ⟨hx0f, hx0g⟩ := two_frozen hx0
        obtain ⟨hx1a, hx1b, hx1c⟩ := two_facts hx1
        obtain ⟨hx1f, hx1g⟩ := two_frozen hx1
        refine (P _).mono ?_; rintro e w1 ⟨rfl, hb1⟩
        have hbw1 := nx hb0 hb1
        replace hx0 := heap_keep hb1 hx0
        replace hx1 := heap_keep hb1 hx1
        clear hx0a hx0b hx0c hx0f hx0g
        obtain ⟨hx0a, hx0b, hx0c⟩ := two_facts hx0
        obtain ⟨hx0f, hx0g⟩ := two_frozen hx0
        clear hx1a hx1b hx1c hx1f hx1g
        obtain ⟨hx1a, hx1b, hx1c⟩ := two_facts hx1
        obtain ⟨hx1f, hx1g⟩ := two_frozen hx1
        clear hb1 hb0
        go_wp2_with fail
        have hbw2 := nxAlloc hbw1 (.cells #[.string (red p).1.str, .string (red p).2.str] 35 (0, 0))
        replace hx0 := heap_keep (nxAlloc (Below.refl _ _) (.cells #[.string (red p).1.str, .string (red p).2.str] 35 (0, 0))) hx0
        replace hx1 := heap_keep (nxAlloc (Below.refl _ _) (.cells #[.string (red p).1.str, .string (red p).2.str] 35 (0, 0))) hx1
        have hy2 := heap_alloc_at w1 (.cells #[.string (red p).1.str, .string (red p).2.str] 35 (0, 0))
        generalize w1.alloc (.cells #[.string (red p).1.str, .string (red p).2.str] 35 (0, 0)) = w2 at *
        clear hbw1
        clear hx0a hx0b hx0c hx0f hx0g
        obtain ⟨hx0a, hx0b, hx0c⟩ := two_facts hx0
        obtain ⟨hx0f, hx0g⟩ := two_frozen hx0
        clear hx1a hx1b hx1c hx1f hx1g
        obtain ⟨hx1a, hx1b, hx1c⟩ := two_facts hx1
        obtain ⟨hx1f, hx1g⟩ := two_frozen hx1
        obtain ⟨hy2a, hy2b, hy2c⟩ := two_facts hy2
        obtain ⟨hy2f, hy2g⟩ := two_frozen hy2
        go_wp2_with fail
        refine (Q _).mono ?_; rintro e w3 ⟨rfl, hb3⟩
        have hbw3 := nx hbw2 hb3
        replace hx0 := heap_keep hb3 hx0
        replace hx1 := heap_keep hb3 hx1
        replace hy2 := heap_keep hb3 hy2
        clear hx0a hx0b hx0c hx0f hx0g
        obtain ⟨hx0a, hx0b, hx0c⟩ := two_facts hx0
        obtain ⟨hx0f, hx0g⟩ := two_frozen hx0
        clear hx1a hx1b hx1c hx1f hx1g
        obtain ⟨hx1a, hx1b, hx1c⟩ := two_facts hx1
        obtain ⟨hx1f, hx1g⟩ := two_frozen hx1
        clear hy2a hy2b hy2c hy2f hy2g
        obtain ⟨hy2a, hy2b, hy2c⟩ := two_facts hy2
        obtain ⟨hy2f, hy2g⟩ := two_frozen hy2
        clear hb3 hbw2
        go_wp2_with fail
        have hbw4 := nxAlloc hbw3 (.cells #[.string (red q).1.str, .string (red q).2.str] 35 (0, 0))
        replace hx0 := heap_keep (nxAlloc (Below.refl _ _) (.cells #[.string (red q).1.str, .string (red q).2.str] 35 (0, 0))) hx0
        replace hx1 := heap_keep (nxAlloc (Below.refl _ _) (.cells #[.string (red q).1.str, .string (red q).2.str] 35 (0, 0))) hx1
        replace hy2 := heap_keep (nxAlloc (Below.refl _ _) (.cells #[.string (red q).1.str, .string (red q).2.str] 35 (0, 0))) hy2
        have hy4 := heap_alloc_at w3 (.cells #[.string (red q).1.str, .string (red q).2.str] 35 (0, 0))
        generalize w3.alloc (.cells #[.string (red q).1.str, .string (red q).2.str] 35 (0, 0)) = w4 at *
        clear hbw3
        clear hx0a hx0b hx0c hx0f hx0g
        obtain ⟨hx0a, hx0b, hx0c⟩ := two_facts hx0
        obtain ⟨hx0f, hx0g⟩ := two_frozen hx0
        clear hx1a hx1b hx1c hx1f hx1g
        obtain ⟨hx1a, hx1b, hx1c⟩ := two_facts hx1
        obtain ⟨hx1f, hx1g⟩ := two_frozen hx1
        clear hy2a hy2b hy2c hy2f hy2g
        obtain ⟨hy2a, hy2b, hy2c⟩ := two_facts hy2
        obtain ⟨hy2f, hy2g⟩ := two_frozen hy2
        obtain ⟨hy4a, hy4b, hy4c⟩ := two_facts hy4
        obtain ⟨hy4f, hy4g⟩ := two_frozen hy4
        go_wp2_with fail
        go_ret2
        exact ⟨rfl, hbw4⟩

set_option maxRecDepth 100000 in
set_option maxHeartbeats 1000000 in
theorem fnExactAreSamePairs_walk (a0 : ByteArray) (ha0 : a0.size ≤ maxLen) (b0 : ByteArray) (hb0 : b0.size ≤ maxLen) (a1 : ByteArray) (ha1 : a1.size ≤ maxLen) (b1 : ByteArray) (hb1 : b1.size ≤ maxLen) (w : World) :
    Calls Try.prog 13 #[.agg #[.string a0, .string b0], .agg #[.string a1, .string b1]] w fun e w' => e = .returned (.bool true) ∧ Below w.heap.size w w' := by
  unfold maxLen at ha0 hb0 ha1 hb1
  have hsz0 := fun w => szPair_any a0 b0 w (by omega) (by omega) 1048576 (by omega) (by omega)
  by_cases hz0 : (a0.size : Int) + b0.size ≤ 1048576
  rotate_left
  · simp only [if_neg hz0] at hsz0
    go_enter Try.func13, Try.ntmps13
    go_wp2_with fail
    have hb0 : Below w.heap.size w ((w.alloc (.cells #[.string a0, .string b0] 32 (0, 0))).alloc (.cells #[.string a1, .string b1] 32 (0, 0))) := nxAlloc (nxAlloc (Below.refl _ _) _) _
    have hx0 := heap_keep (nxAlloc (Below.refl _ _) (.cells #[.string a1, .string b1] 32 (0, 0))) (heap_alloc_at w (.cells #[.string a0, .string b0] 32 (0, 0)))
    have hx1 := heap_alloc_at (w.alloc (.cells #[.string a0, .string b0] 32 (0, 0))) (.cells #[.string a1, .string b1] 32 (0, 0))
    generalize ((w.alloc (.cells #[.string a0, .string b0] 32 (0, 0))).alloc (.cells #[.string a1, .string b1] 32 (0, 0))) = w0 at *
    have e1 : (w.alloc (.cells #[.string a0, .string b0] 32 (0, 0))).heap.size = w.heap.size + 1 := by simp
    rw [e1] at hx1
    clear e1
    obtain ⟨ka0, kb0, kc0⟩ := two_facts hx0
    obtain ⟨ka1, kb1, kc1⟩ := two_facts hx1
    refine (hsz0 _).mono ?_; rintro e w1 ⟨rfl, hb1⟩
    have hbw1 := nx hb0 hb1
    replace hx0 := heap_keep hb1 hx0
    clear ka0 kb0 kc0
    obtain ⟨ka0, kb0, kc0⟩ := two_facts hx0
    replace hx1 := heap_keep hb1 hx1
    clear ka1 kb1 kc1
    obtain ⟨ka1, kb1, kc1⟩ := two_facts hx1
    clear hb1 hb0
    go_wp2_with fail
    go_ret
    exact ⟨rfl, hbw1⟩
  simp only [if_pos hz0] at hsz0
  have hsz1 := fun w => szPair_any a1 b1 w (by omega) (by omega) (1048576 - (a0.size : Int) - b0.size) (by omega) (by omega)
  by_cases hz1 : (a1.size : Int) + b1.size ≤ (1048576 - (a0.size : Int) - b0.size)
  rotate_left
  · simp only [if_neg hz1] at hsz1
    go_enter Try.func13, Try.ntmps13
    go_wp2_with fail
    have hb0 : Below w.heap.size w ((w.alloc (.cells #[.string a0, .string b0] 32 (0, 0))).alloc (.cells #[.string a1, .string b1] 32 (0, 0))) := nxAlloc (nxAlloc (Below.refl _ _) _) _
    have hx0 := heap_keep (nxAlloc (Below.refl _ _) (.cells #[.string a1, .string b1] 32 (0, 0))) (heap_alloc_at w (.cells #[.string a0, .string b0] 32 (0, 0)))
    have hx1 := heap_alloc_at (w.alloc (.cells #[.string a0, .string b0] 32 (0, 0))) (.cells #[.string a1, .string b1] 32 (0, 0))
    generalize ((w.alloc (.cells #[.string a0, .string b0] 32 (0, 0))).alloc (.cells #[.string a1, .string b1] 32 (0, 0))) = w0 at *
    have e1 : (w.alloc (.cells #[.string a0, .string b0] 32 (0, 0))).heap.size = w.heap.size + 1 := by simp
    rw [e1] at hx1
    clear e1
    obtain ⟨ka0, kb0, kc0⟩ := two_facts hx0
    obtain ⟨ka1, kb1, kc1⟩ := two_facts hx1
    refine (hsz0 _).mono ?_; rintro e w1 ⟨rfl, hb1⟩
    have hbw1 := nx hb0 hb1
    replace hx0 := heap_keep hb1 hx0
    clear ka0 kb0 kc0
    obtain ⟨ka0, kb0, kc0⟩ := two_facts hx0
    replace hx1 := heap_keep hb1 hx1
    clear ka1 kb1 kc1
    obtain ⟨ka1, kb1, kc1⟩ := two_facts hx1
    clear hb1 hb0
    go_wp2_with fail
    refine (hsz1 _).mono ?_; rintro e w2 ⟨rfl, hb2⟩
    have hbw2 := nx hbw1 hb2
    replace hx0 := heap_keep hb2 hx0
    clear ka0 kb0 kc0
    obtain ⟨ka0, kb0, kc0⟩ := two_facts hx0
    replace hx1 := heap_keep hb2 hx1
    clear ka1 kb1 kc1
    obtain ⟨ka1, kb1, kc1⟩ := two_facts hx1
    clear hb2 hbw1
    go_wp2_with fail
    go_ret
    exact ⟨rfl, hbw2⟩
  simp only [if_pos hz1] at hsz1
  have hS := fun w => specAreSamePairs_any a0 b0 a1 b1 w (by omega) (by omega) (by omega) (by omega)
  have hI := fun w => implAreSamePairs_any a0 b0 a1 b1 w (by omega) (by omega) (by omega) (by omega)
  have hS' : ∀ w, Calls Try.prog 42 #[.agg #[.string a0, .string b0], .agg #[.string a1, .string b1]] w (Gives (ansB ((pairOf a0 b0).bind fun p => (pairOf a1 b1).bind fun q => some (sameB p q))) w) := hS
  have hI' : ∀ w, Calls Try.prog 43 #[.agg #[.string a0, .string b0], .agg #[.string a1, .string b1]] w (Gives (ansB ((pairOf a0 b0).bind fun p => (pairOf a1 b1).bind fun q => some (sameB p q))) w) := hI
  clear hS hI
  generalize ((pairOf a0 b0).bind fun p => (pairOf a1 b1).bind fun q => some (sameB p q)) = o at hS' hI'
  unfold ansB at hS' hI'
  go_enter Try.func13, Try.ntmps13
  go_wp2_with fail
  have hb0 : Below w.heap.size w ((w.alloc (.cells #[.string a0, .string b0] 32 (0, 0))).alloc (.cells #[.string a1, .string b1] 32 (0, 0))) := nxAlloc (nxAlloc (Below.refl _ _) _) _
  have hx0 := heap_keep (nxAlloc (Below.refl _ _) (.cells #[.string a1, .string b1] 32 (0, 0))) (heap_alloc_at w (.cells #[.string a0, .string b0] 32 (0, 0)))
  have hx1 := heap_alloc_at (w.alloc (.cells #[.string a0, .string b0] 32 (0, 0))) (.cells #[.string a1, .string b1] 32 (0, 0))
  generalize ((w.alloc (.cells #[.string a0, .string b0] 32 (0, 0))).alloc (.cells #[.string a1, .string b1] 32 (0, 0))) = w0 at *
  have e1 : (w.alloc (.cells #[.string a0, .string b0] 32 (0, 0))).heap.size = w.heap.size + 1 := by simp
  rw [e1] at hx1
  clear e1
  obtain ⟨ka0, kb0, kc0⟩ := two_facts hx0
  obtain ⟨ka1, kb1, kc1⟩ := two_facts hx1
  refine (hsz0 _).mono ?_; rintro e w1 ⟨rfl, hb1⟩
  have hbw1 := nx hb0 hb1
  replace hx0 := heap_keep hb1 hx0
  clear ka0 kb0 kc0
  obtain ⟨ka0, kb0, kc0⟩ := two_facts hx0
  replace hx1 := heap_keep hb1 hx1
  clear ka1 kb1 kc1
  obtain ⟨ka1, kb1, kc1⟩ := two_facts hx1
  clear hb1 hb0
  go_wp2_with fail
  refine (hsz1 _).mono ?_; rintro e w2 ⟨rfl, hb2⟩
  have hbw2 := nx hbw1 hb2
  replace hx0 := heap_keep hb2 hx0
  clear ka0 kb0 kc0
  obtain ⟨ka0, kb0, kc0⟩ := two_facts hx0
  replace hx1 := heap_keep hb2 hx1
  clear ka1 kb1 kc1
  obtain ⟨ka1, kb1, kc1⟩ := two_facts hx1
  clear hb2 hbw1
  go_wp2_with fail
  refine wp_region_cls (by kernel_rfl) (by kernel_rfl) ?_
  repeat (
    refine wpQuiet_step (fun K hK => ?_)
    go_simp
    first
      | (refine hK _ ?_; clear hK K)
      | (refine ⟨_, fun _ _ => rfl, hK _ ?_⟩; clear hK K)
      | (apply Exists.intro
         refine ⟨fun w' hw' => ?_, hK _ ?_⟩
         · first
             | (go_at_call 24; first | (with_reducible exact hw'.call (toPair_any a0 b0 _)) | (with_reducible exact hw'.call (toPair_any a1 b1 _)))
             | (go_at_call 42; exact hw'.call (hS' _))
             | (rw [hw'.cell kc0 ka0]; dsimp only [Result.andThen]; rw [hw'.cell kc0 kb0]; exact ⟨rfl, rfl⟩)
             | (rw [hw'.cell kc1 ka1]; dsimp only [Result.andThen]; rw [hw'.cell kc1 kb1]; exact ⟨rfl, rfl⟩)
         clear hK K))
  refine wpQuiet_nil ?_
  intro w' hw'
  have hbw3 := nx hbw2 hw'
  replace hx0 := heap_keep hw' hx0
  clear ka0 kb0 kc0
  obtain ⟨ka0, kb0, kc0⟩ := two_facts hx0
  replace hx1 := heap_keep hw' hx1
  clear ka1 kb1 kc1
  obtain ⟨ka1, kb1, kc1⟩ := two_facts hx1
  clear hw' hbw2
  generalize w' = w3 at *
  go_wp2_with fail
  refine wp_region_cls (by kernel_rfl) (by kernel_rfl) ?_
  repeat (
    refine wpQuiet_step (fun K hK => ?_)
    go_simp
    first
      | (refine hK _ ?_; clear hK K)
      | (refine ⟨_, fun _ _ => rfl, hK _ ?_⟩; clear hK K)
      | (apply Exists.intro
         refine ⟨fun w' hw' => ?_, hK _ ?_⟩
         · first
             | (go_at_call 24; first | (with_reducible exact hw'.call (toPair_any a0 b0 _)) | (with_reducible exact hw'.call (toPair_any a1 b1 _)))
             | (go_at_call 43; exact hw'.call (hI' _))
             | (rw [hw'.cell kc0 ka0]; dsimp only [Result.andThen]; rw [hw'.cell kc0 kb0]; exact ⟨rfl, rfl⟩)
             | (rw [hw'.cell kc1 ka1]; dsimp only [Result.andThen]; rw [hw'.cell kc1 kb1]; exact ⟨rfl, rfl⟩)
         clear hK K))
  refine wpQuiet_nil ?_
  intro w' hw'
  have hbw4 := nx hbw3 hw'
  replace hx0 := heap_keep hw' hx0
  clear ka0 kb0 kc0
  obtain ⟨ka0, kb0, kc0⟩ := two_facts hx0
  replace hx1 := heap_keep hw' hx1
  clear ka1 kb1 kc1
  obtain ⟨ka1, kb1, kc1⟩ := two_facts hx1
  clear hw' hbw3
  generalize w' = w4 at *
  go_wp2_with fail
  go_ret
  exact ⟨rfl, hbw4⟩
end Go.Proofs.Ytbeailflcinilaa
