/- FnExactValueOf: for every input the law returns true and leaves its arguments as they were. No conditions. -/
import Derived.Test.YtdhjchibhlcchaaMgValueOf1
import Derived.Deep.RegionHeld3
import Derived.ProofKit
import Derived.OpenShut
import Derived.ShutString
import Derived.ChangeOld
import Derived.Below
import Derived.Lib.SmallJoins
import Derived.ChangeSame
/-! Vl2 -/
namespace Go.Proofs.Ytdhjchibhlcchaa
open Go.RowKit

/-- The value of a number of steps under a pair. -/
def valP (p : Pr) (s : Nat) : Nat := valN (stA ((p.1.addrs ⟨#[]⟩).getD (lastTo p.1.starts s) ⟨#[]⟩)) ((p.1.addrs ⟨#[]⟩).getD (lastTo p.1.starts s) ⟨#[]⟩).size (stA ((p.2.addrs ⟨#[]⟩).getD (lastTo p.1.starts s) ⟨#[]⟩)) ((p.2.addrs ⟨#[]⟩).getD (lastTo p.1.starts s) ⟨#[]⟩).size s
theorem keep_set2 {w : World} {b g o : Nat} {v u1 u2 : Value} (h : w.cell? ⟨b, o, none⟩ = some v) (hne : b < g) : ((w.setCell ⟨g, 0, none⟩ u1).setCell ⟨g, 1, none⟩ u2).cell? ⟨b, o, none⟩ = some v := by
  have hB : Below g w ((w.setCell ⟨g, 0, none⟩ u1).setCell ⟨g, 1, none⟩ u2) := ((Below.refl g w).setCell (Nat.le_refl g) u1).setCell (Nat.le_refl g) u2
  exact (hB.cell (p := ⟨b, o, none⟩) hne).trans h
/-- To what a fraction is carried. -/
def valueO (a b : ByteArray) (n d : Int) : Option (Nat × Nat) := (pairOf a b).bind fun p => if isFr n d = true then frA (valP p (stepsOf n d)) else none
theorem val_facts (p : Pr) (h1 : p.1.carets ≤ 8) (h2 : p.2.carets ≤ 8) (he : p.1.carets = p.2.carets) (s : Nat) :
    ∃ a b : ByteArray, a = (p.1.addrs ⟨#[]⟩).getD (lastTo p.1.starts s) ⟨#[]⟩ ∧ b = (p.2.addrs ⟨#[]⟩).getD (lastTo p.1.starts s) ⟨#[]⟩ ∧ lastTo p.1.starts s < p.1.carets + 1 ∧
      a.size ≤ 8 ∧ b.size ≤ 8 ∧ a.data.toList.all isBit = true ∧ b.data.toList.all isBit = true ∧ stA a ≤ s ∧ valP p s = valN (stA a) a.size (stA b) b.size s ∧
      (pcs p).getD (lastTo p.1.starts s) (0, 0, 0) = (stA a, stA b, (a.size : Int) - b.size) := by
  have hl := starts_length p.1
  have hlt := lastTo_lt p.1.starts s (by omega)
  rw [hl] at hlt
  obtain ⟨a, ea, a1, a2⟩ := addr_facts p.1 h1 hlt
  obtain ⟨b, eb, b1, b2⟩ := addr_facts p.2 h2 (k := lastTo p.1.starts s) (by omega)
  have l1 := addrs_length p.1 ⟨#[]⟩
  have l2 := addrs_length p.2 ⟨#[]⟩
  have hs := lastTo_le p.1.starts s (starts_first p.1)
  rw [starts_at p.1 hlt, ← ea] at hs
  refine ⟨a, b, ea, eb, hlt, a1, b1, a2, b2, hs, ?_, ?_⟩
  · unfold valP
    rw [← ea, ← eb]
  · rw [ea, eb]
    exact pcsL_get _ _ (by omega) _ (by omega)

set_option maxRecDepth 100000 in
set_option maxHeartbeats 4000000 in
theorem implValueOf_any (a b : ByteArray) (n d : Int) (w : World) (ha : a.size ≤ 9223372036854775806) (hb : b.size ≤ 9223372036854775806) (_l1 : -9223372036854775808 ≤ n) (_u1 : n ≤ 9223372036854775807) (_l2 : -9223372036854775808 ≤ d) (_u2 : d ≤ 9223372036854775807) :
    Calls Try.prog 17 #[.agg #[.string a, .string b], .agg #[.int .i64 n, .int .i64 d]] w (Gives (ansF (valueO a b n d)) w) := by
  unfold valueO
  have hg := fun w => isPair_any a b w ha hb
  have hk := fun w => isFraction_any n d w
  cases h : pairOf a b with
  | none =>
    rw [h] at hg
    show Calls _ _ _ _ (Gives (ansF none) w)
    clear h hk _l1 _u1 _l2 _u2
    go_enter Try.func17, Try.ntmps17
    go_wp2_with fail
    have hb0 : Below w.heap.size w (((w.alloc (.cells #[.string a, .string b] 34 (0, 0))).alloc (.cells #[.int .i64 n, .int .i64 d] 26 (0, 0))).alloc (.cells #[.int .i64 0, .int .i64 0] 26 (0, 0))) := nxAlloc (nxAlloc (nxAlloc (Below.refl _ _) _) _) _
    have hx0 := heap_keep (nxAlloc (Below.refl _ _) (.cells #[.int .i64 0, .int .i64 0] 26 (0, 0))) (heap_keep (nxAlloc (Below.refl _ _) (.cells #[.int .i64 n, .int .i64 d] 26 (0, 0))) (heap_alloc_at w (.cells #[.string a, .string b] 34 (0, 0))))
    have hx1 := heap_keep (nxAlloc (Below.refl _ _) (.cells #[.int .i64 0, .int .i64 0] 26 (0, 0))) (heap_alloc_at (w.alloc (.cells #[.string a, .string b] 34 (0, 0))) (.cells #[.int .i64 n, .int .i64 d] 26 (0, 0)))
    have hx2 := heap_alloc_at ((w.alloc (.cells #[.string a, .string b] 34 (0, 0))).alloc (.cells #[.int .i64 n, .int .i64 d] 26 (0, 0))) (.cells #[.int .i64 0, .int .i64 0] 26 (0, 0))
    generalize (((w.alloc (.cells #[.string a, .string b] 34 (0, 0))).alloc (.cells #[.int .i64 n, .int .i64 d] 26 (0, 0))).alloc (.cells #[.int .i64 0, .int .i64 0] 26 (0, 0))) = w0 at *
    have e1 : (w.alloc (.cells #[.string a, .string b] 34 (0, 0))).heap.size = w.heap.size + 1 := by simp
    rw [e1] at hx1
    clear e1
    have e2 : ((w.alloc (.cells #[.string a, .string b] 34 (0, 0))).alloc (.cells #[.int .i64 n, .int .i64 d] 26 (0, 0))).heap.size = w.heap.size + 1 + 1 := by simp
    rw [e2] at hx2
    clear e2
    obtain ⟨hx0a, hx0b, hx0c⟩ := two_facts hx0
    obtain ⟨hx0f, hx0g⟩ := two_frozen hx0
    obtain ⟨hx1a, hx1b, hx1c⟩ := two_facts hx1
    obtain ⟨hx1f, hx1g⟩ := two_frozen hx1
    obtain ⟨hx2a, hx2b, hx2c⟩ := two_facts hx2
    obtain ⟨hx2f, hx2g⟩ := two_frozen hx2
    refine (hg _).mono ?_; rintro e w1 ⟨rfl, hb1⟩
    have hbw1 := nx hb0 hb1
    replace hx0 := heap_keep hb1 hx0
    replace hx1 := heap_keep hb1 hx1
    replace hx2 := heap_keep hb1 hx2
    clear hx0a hx0b hx0c hx0f hx0g
    obtain ⟨hx0a, hx0b, hx0c⟩ := two_facts hx0
    obtain ⟨hx0f, hx0g⟩ := two_frozen hx0
    clear hx1a hx1b hx1c hx1f hx1g
    obtain ⟨hx1a, hx1b, hx1c⟩ := two_facts hx1
    obtain ⟨hx1f, hx1g⟩ := two_frozen hx1
    clear hx2a hx2b hx2c hx2f hx2g
    obtain ⟨hx2a, hx2b, hx2c⟩ := two_facts hx2
    obtain ⟨hx2f, hx2g⟩ := two_frozen hx2
    clear hb1 hb0
    go_wp2_with fail
    obtain ⟨q1, q2⟩ := two_cells (set_two (.int .i64 0) (.int .i64 0) hx2)
    refine bodyPost_ret (v := .tuple #[.agg #[.int .i64 0, .int .i64 0], .bool false]) (by simp [q1, q2, results, Try.results17, go_sem]) rfl ⟨rfl, ?_⟩
    exact (hbw1.setCell (by show w.heap.size ≤ w.heap.size + 1 + 1; omega) _).setCell (by show w.heap.size ≤ w.heap.size + 1 + 1; omega) _
  | some p =>
    rw [h] at hg
    obtain ⟨rfl, rfl, hok, hc1, hc2⟩ := pairOf_some h
    clear h
    cases k : isFr n d with
    | false =>
      rw [k] at hk
      show Calls _ _ _ _ (Gives (ansF none) w)
      clear _l1 _u1 _l2 _u2 k
      go_enter Try.func17, Try.ntmps17
      go_wp2_with fail
      have hb0 : Below w.heap.size w (((w.alloc (.cells #[.string p.1.str, .string p.2.str] 34 (0, 0))).alloc (.cells #[.int .i64 n, .int .i64 d] 26 (0, 0))).alloc (.cells #[.int .i64 0, .int .i64 0] 26 (0, 0))) := nxAlloc (nxAlloc (nxAlloc (Below.refl _ _) _) _) _
      have hx0 := heap_keep (nxAlloc (Below.refl _ _) (.cells #[.int .i64 0, .int .i64 0] 26 (0, 0))) (heap_keep (nxAlloc (Below.refl _ _) (.cells #[.int .i64 n, .int .i64 d] 26 (0, 0))) (heap_alloc_at w (.cells #[.string p.1.str, .string p.2.str] 34 (0, 0))))
      have hx1 := heap_keep (nxAlloc (Below.refl _ _) (.cells #[.int .i64 0, .int .i64 0] 26 (0, 0))) (heap_alloc_at (w.alloc (.cells #[.string p.1.str, .string p.2.str] 34 (0, 0))) (.cells #[.int .i64 n, .int .i64 d] 26 (0, 0)))
      have hx2 := heap_alloc_at ((w.alloc (.cells #[.string p.1.str, .string p.2.str] 34 (0, 0))).alloc (.cells #[.int .i64 n, .int .i64 d] 26 (0, 0))) (.cells #[.int .i64 0, .int .i64 0] 26 (0, 0))
      generalize (((w.alloc (.cells #[.string p.1.str, .string p.2.str] 34 (0, 0))).alloc (.cells #[.int .i64 n, .int .i64 d] 26 (0, 0))).alloc (.cells #[.int .i64 0, .int .i64 0] 26 (0, 0))) = w0 at *
      have e1 : (w.alloc (.cells #[.string p.1.str, .string p.2.str] 34 (0, 0))).heap.size = w.heap.size + 1 := by simp
      rw [e1] at hx1
      clear e1
      have e2 : ((w.alloc (.cells #[.string p.1.str, .string p.2.str] 34 (0, 0))).alloc (.cells #[.int .i64 n, .int .i64 d] 26 (0, 0))).heap.size = w.heap.size + 1 + 1 := by simp
      rw [e2] at hx2
      clear e2
      obtain ⟨hx0a, hx0b, hx0c⟩ := two_facts hx0
      obtain ⟨hx0f, hx0g⟩ := two_frozen hx0
      obtain ⟨hx1a, hx1b, hx1c⟩ := two_facts hx1
      obtain ⟨hx1f, hx1g⟩ := two_frozen hx1
      obtain ⟨hx2a, hx2b, hx2c⟩ := two_facts hx2
      obtain ⟨hx2f, hx2g⟩ := two_frozen hx2
      refine (hg _).mono ?_; rintro e w1 ⟨rfl, hb1⟩
      have hbw1 := nx hb0 hb1
      replace hx0 := heap_keep hb1 hx0
      replace hx1 := heap_keep hb1 hx1
      replace hx2 := heap_keep hb1 hx2
      clear hx0a hx0b hx0c hx0f hx0g
      obtain ⟨hx0a, hx0b, hx0c⟩ := two_facts hx0
      obtain ⟨hx0f, hx0g⟩ := two_frozen hx0
      clear hx1a hx1b hx1c hx1f hx1g
      obtain ⟨hx1a, hx1b, hx1c⟩ := two_facts hx1
      obtain ⟨hx1f, hx1g⟩ := two_frozen hx1
      clear hx2a hx2b hx2c hx2f hx2g
      obtain ⟨hx2a, hx2b, hx2c⟩ := two_facts hx2
      obtain ⟨hx2f, hx2g⟩ := two_frozen hx2
      clear hb1 hb0
      go_wp2_with fail
      refine (hk _).mono ?_; rintro e w2 ⟨rfl, hb2⟩
      have hbw2 := nx hbw1 hb2
      replace hx0 := heap_keep hb2 hx0
      replace hx1 := heap_keep hb2 hx1
      replace hx2 := heap_keep hb2 hx2
      clear hx0a hx0b hx0c hx0f hx0g
      obtain ⟨hx0a, hx0b, hx0c⟩ := two_facts hx0
      obtain ⟨hx0f, hx0g⟩ := two_frozen hx0
      clear hx1a hx1b hx1c hx1f hx1g
      obtain ⟨hx1a, hx1b, hx1c⟩ := two_facts hx1
      obtain ⟨hx1f, hx1g⟩ := two_frozen hx1
      clear hx2a hx2b hx2c hx2f hx2g
      obtain ⟨hx2a, hx2b, hx2c⟩ := two_facts hx2
      obtain ⟨hx2f, hx2g⟩ := two_frozen hx2
      clear hb2 hbw1
      go_wp2_with fail
      obtain ⟨q1, q2⟩ := two_cells (set_two (.int .i64 0) (.int .i64 0) hx2)
      refine bodyPost_ret (v := .tuple #[.agg #[.int .i64 0, .int .i64 0], .bool false]) (by simp [q1, q2, results, Try.results17, go_sem]) rfl ⟨rfl, ?_⟩
      exact (hbw2.setCell (by show w.heap.size ≤ w.heap.size + 1 + 1; omega) _).setCell (by show w.heap.size ≤ w.heap.size + 1 + 1; omega) _
    | true =>
      rw [k] at hk
      show Calls _ _ _ _ (Gives (ansF (frA (valP p (stepsOf n d)))) w)
      clear _l1 _u1 _l2 _u2
      obtain ⟨n, d, rfl, rfl, n1, d1, d2⟩ := isFr_nats k
      have hpl := pcs_len p hok
      have hps := pcs_starts p hok
      have hsl := (steps_le k).1
      have hsm := (steps_le k).2.1
      obtain ⟨a, b, ea, eb, hlt, a8, b8, ab, bb, hsa, hv, hget⟩ := val_facts p hc1 hc2 hok (stepsOf n d)
      rw [hv]
      have hsb := stA_lt (a := b) (by omega) bb
      have hVd := valN_bd (sa := stA a) (lb := b.size) hsl (Nat.le_of_lt hsb) a8
      have hs := fun w => steps_any n d w k
      have hM := fun w => leafPieces_any p w hc1 hc2 hok
      have hV := fun w => valueAt_any (stA a) (stA b) (stepsOf n d) a.size b.size w a8 b8 hsa hsl (Nat.le_of_lt hsb)
      have hF := fun w => fractionAt_any (valN (stA a) a.size (stA b) b.size (stepsOf n d)) w (by omega)
      rw [← hps] at hget
      have hpl9 : (pcs p).length ≤ 9 := by omega
      have hpl0 : 0 < (pcs p).length := by omega
      generalize valN (stA a) a.size (stA b) b.size (stepsOf n d) = v at *
      generalize stepsOf n d = s at *
      generalize pcs p = ps at *
      generalize stA a = x at *
      generalize stA b = y at *
      generalize (a.size : Int) - (b.size : Int) = z at *
      obtain ⟨m, hm⟩ : ∃ m, ps.length = m := ⟨_, rfl⟩
      have hM' : ∀ w, Calls Try.prog 49 #[.agg #[.string p.1.str, .string p.2.str]] w fun e w' => ∃ g cap : Nat, g < w'.heap.size ∧ m ≤ cap ∧ cap ≤ maxLen ∧ (∀ i, i < m * 3 → w'.cell? ⟨g, i, none⟩ = some (.int .i64 ((flatP ps).getD i 0))) ∧ Below w.heap.size w w' ∧ e = .returned (.slice (some ⟨g, 0, none⟩) m cap) := by
        intro w
        refine (hM w).mono ?_
        rintro e w' ⟨v, own, hb, rfl⟩
        rcases own.cells with ⟨_, h0⟩ | ⟨g, cap, rfl, _, hg, h1, h2, h3, _⟩
        · omega
        · rw [hm] at h1 h3 ⊢
          exact ⟨g, cap, hg, h1, h2, h3, hb, rfl⟩
      have hP := fun g cap w hg h1 h2 h3 => pieceAt_any g cap ps m s w hm (by omega) (by omega) hg h1 h2 h3
      rw [hget] at hP
      generalize hA : frA v = A at *
      unfold ansF at hF ⊢
      generalize fS1 A = y1 at *
      generalize fS2 A = y2 at *
      generalize A.isSome = ok at *
      clear hM hps hpl hlt k hm hpl9 hpl0 ea eb a8 b8 ab bb hsa hv hsb hVd hget hA hsl hsm
      go_enter Try.func17, Try.ntmps17
      go_wp2_with fail
      have hb0 : Below w.heap.size w (((w.alloc (.cells #[.string p.1.str, .string p.2.str] 34 (0, 0))).alloc (.cells #[.int .i64 n, .int .i64 d] 26 (0, 0))).alloc (.cells #[.int .i64 0, .int .i64 0] 26 (0, 0))) := nxAlloc (nxAlloc (nxAlloc (Below.refl _ _) _) _) _
      have hx0 := heap_keep (nxAlloc (Below.refl _ _) (.cells #[.int .i64 0, .int .i64 0] 26 (0, 0))) (heap_keep (nxAlloc (Below.refl _ _) (.cells #[.int .i64 n, .int .i64 d] 26 (0, 0))) (heap_alloc_at w (.cells #[.string p.1.str, .string p.2.str] 34 (0, 0))))
      have hx1 := heap_keep (nxAlloc (Below.refl _ _) (.cells #[.int .i64 0, .int .i64 0] 26 (0, 0))) (heap_alloc_at (w.alloc (.cells #[.string p.1.str, .string p.2.str] 34 (0, 0))) (.cells #[.int .i64 n, .int .i64 d] 26 (0, 0)))
      have hx2 := heap_alloc_at ((w.alloc (.cells #[.string p.1.str, .string p.2.str] 34 (0, 0))).alloc (.cells #[.int .i64 n, .int .i64 d] 26 (0, 0))) (.cells #[.int .i64 0, .int .i64 0] 26 (0, 0))
      generalize (((w.alloc (.cells #[.string p.1.str, .string p.2.str] 34 (0, 0))).alloc (.cells #[.int .i64 n, .int .i64 d] 26 (0, 0))).alloc (.cells #[.int .i64 0, .int .i64 0] 26 (0, 0))) = w0 at *
      have e1 : (w.alloc (.cells #[.string p.1.str, .string p.2.str] 34 (0, 0))).heap.size = w.heap.size + 1 := by simp
      rw [e1] at hx1
      clear e1
      have e2 : ((w.alloc (.cells #[.string p.1.str, .string p.2.str] 34 (0, 0))).alloc (.cells #[.int .i64 n, .int .i64 d] 26 (0, 0))).heap.size = w.heap.size + 1 + 1 := by simp
      rw [e2] at hx2
      clear e2
      obtain ⟨hx0a, hx0b, hx0c⟩ := two_facts hx0
      obtain ⟨hx0f, hx0g⟩ := two_frozen hx0
      obtain ⟨hx1a, hx1b, hx1c⟩ := two_facts hx1
      obtain ⟨hx1f, hx1g⟩ := two_frozen hx1
      obtain ⟨hx2a, hx2b, hx2c⟩ := two_facts hx2
      obtain ⟨hx2f, hx2g⟩ := two_frozen hx2
      refine (hg _).mono ?_; rintro e w1 ⟨rfl, hb1⟩
      have hbw1 := nx hb0 hb1
      replace hx0 := heap_keep hb1 hx0
      replace hx1 := heap_keep hb1 hx1
      replace hx2 := heap_keep hb1 hx2
      clear hx0a hx0b hx0c hx0f hx0g
      obtain ⟨hx0a, hx0b, hx0c⟩ := two_facts hx0
      obtain ⟨hx0f, hx0g⟩ := two_frozen hx0
      clear hx1a hx1b hx1c hx1f hx1g
      obtain ⟨hx1a, hx1b, hx1c⟩ := two_facts hx1
      obtain ⟨hx1f, hx1g⟩ := two_frozen hx1
      clear hx2a hx2b hx2c hx2f hx2g
      obtain ⟨hx2a, hx2b, hx2c⟩ := two_facts hx2
      obtain ⟨hx2f, hx2g⟩ := two_frozen hx2
      clear hb1 hb0
      go_wp2_with fail
      refine (hk _).mono ?_; rintro e w2 ⟨rfl, hb2⟩
      have hbw2 := nx hbw1 hb2
      replace hx0 := heap_keep hb2 hx0
      replace hx1 := heap_keep hb2 hx1
      replace hx2 := heap_keep hb2 hx2
      clear hx0a hx0b hx0c hx0f hx0g
      obtain ⟨hx0a, hx0b, hx0c⟩ := two_facts hx0
      obtain ⟨hx0f, hx0g⟩ := two_frozen hx0
      clear hx1a hx1b hx1c hx1f hx1g
      obtain ⟨hx1a, hx1b, hx1c⟩ := two_facts hx1
      obtain ⟨hx1f, hx1g⟩ := two_frozen hx1
      clear hx2a hx2b hx2c hx2f hx2g
      obtain ⟨hx2a, hx2b, hx2c⟩ := two_facts hx2
      obtain ⟨hx2f, hx2g⟩ := two_frozen hx2
      clear hb2 hbw1
      go_wp2_with fail
      have hz := Below.refl w2.heap.size w2
      go_region_held3 (fun w' => w'.cell? ⟨w.heap.size, 0, none⟩ = some (.string p.1.str) ∧ w'.cell? ⟨w.heap.size, 1, none⟩ = some (.string p.2.str) ∧ w'.cell? ⟨w.heap.size + 1, 0, none⟩ = some (.int .i64 n) ∧ w'.cell? ⟨w.heap.size + 1, 1, none⟩ = some (.int .i64 d))
        (first
          | exact ⟨hx0a, hx0b, hx1a, hx1b⟩
          | exact K1
          | exact K2
          | exact K3
          | exact K4
          | exact K5
          | exact K6
          | exact K7 _ _)
        (first
          | (go_at_call 49; refine (hM' _).mono ?_; rintro e w3 ⟨g, cap, hg3, m1, m2, hcl, hb3, rfl⟩; have hb3' := nx hz.drew hb3; have K1 := And.intro (keep_cell hb3' hx0a) (And.intro (keep_cell hb3' hx0b) (And.intro (keep_cell hb3' hx1a) (keep_cell hb3' hx1b))))
          | (go_at_call 42; refine (hs _).mono ?_; rintro e w4 ⟨rfl, hb4⟩; have hb4' := nx hb3' hb4; have K2 := And.intro (keep_cell hb4' hx0a) (And.intro (keep_cell hb4' hx0b) (And.intro (keep_cell hb4' hx1a) (keep_cell hb4' hx1b))); have hcl4 := fun i (hi : i < m * 3) => keep_cell hb4 (hcl i hi); have hg4 := Nat.lt_of_lt_of_le hg3 hb4.size; have hP' := hP g cap w4 hg4 m1 m2 hcl4)
          | (go_at_call 48; refine hP'.mono ?_; rintro e w5 ⟨rfl, hb5⟩; have hb5' := nx hb4' hb5; have K3 := And.intro (keep_cell hb5' hx0a) (And.intro (keep_cell hb5' hx0b) (And.intro (keep_cell hb5' hx1a) (keep_cell hb5' hx1b))))
          | (go_at_call 42; refine (hs _).mono ?_; rintro e w6 ⟨rfl, hb6⟩; have hb6' := nx hb5' hb6; have K4 := And.intro (keep_cell hb6' hx0a) (And.intro (keep_cell hb6' hx0b) (And.intro (keep_cell hb6' hx1a) (keep_cell hb6' hx1b))))
          | (go_at_call 50; refine (hV _).mono ?_; rintro e w7 ⟨rfl, hb7⟩; have hb7' := nx hb6' hb7; have K5 := And.intro (keep_cell hb7' hx0a) (And.intro (keep_cell hb7' hx0b) (And.intro (keep_cell hb7' hx1a) (keep_cell hb7' hx1b))))
          | (go_at_call 47; refine (hF _).mono ?_; rintro e w8 ⟨rfl, hb8⟩; have hb8' := nx hb7' hb8; have K6 := And.intro (keep_cell hb8' hx0a) (And.intro (keep_cell hb8' hx0b) (And.intro (keep_cell hb8' hx1a) (keep_cell hb8' hx1b))); have hx8 := heap_keep hb8' hx2; obtain ⟨sa, sb, sc⟩ := two_facts hx8; obtain ⟨sf, sg⟩ := two_frozen hx8; have K7 := fun (u1 u2 : Value) => And.intro (keep_set2 (u1 := u1) (u2 := u2) (g := w.heap.size + 2) K6.1 (by omega)) (And.intro (keep_set2 (u1 := u1) (u2 := u2) (g := w.heap.size + 2) K6.2.1 (by omega)) (And.intro (keep_set2 (u1 := u1) (u2 := u2) (g := w.heap.size + 2) K6.2.2.1 (by omega)) (keep_set2 (u1 := u1) (u2 := u2) (g := w.heap.size + 2) K6.2.2.2 (by omega))))))
      go_wp2_with fail
      have hbw8 := nx hbw2 hb8'
      replace hx2 := heap_keep hb8' hx2
      obtain ⟨q1, q2⟩ := two_cells (set_two (.int .i64 y1) (.int .i64 y2) hx2)
      refine bodyPost_ret (v := .tuple #[.agg #[.int .i64 y1, .int .i64 y2], .bool ok]) (by simp [q1, q2, results, Try.results17, go_sem]) rfl ⟨rfl, ?_⟩
      exact (hbw8.setCell (by show w.heap.size ≤ w.heap.size + 1 + 1; omega) _).setCell (by show w.heap.size ≤ w.heap.size + 1 + 1; omega) _
end Go.Proofs.Ytdhjchibhlcchaa

/-! HeldW -/
namespace Go.Proofs.Ytdhjchibhlcchaa
open Go.RowKit

section
variable {P : Program} {ops : Array Oper} {Q : Exit → Act → World → Prop} {md : Region.Mode}

theorem held_mono {S S' : World → Prop} (hSS : ∀ w, S' w → S w) : ∀ (fuel : Nat) (listed : Array Bool) (a : Act) (w : World),
    wpAnyH P md ops Q S' fuel listed a w → wpAnyH P md ops Q S fuel listed a w
  | 0, _, _, _, h => h
  | fuel + 1, _, _, _, h => ⟨h.1, fun i hi => wpOp_mono (fun a' w' h' => ⟨hSS _ h'.1, held_mono hSS fuel _ a' w' h'.2⟩) (h.2 i hi)⟩

/-- One operation alone may come up; behind it the condition may be another one. -/
theorem held_one {S : World → Prop} {fuel : Nat} {listed : Array Bool} {a : Act} {w : World} (i : Nat) {o : Oper} (ho : ops[i]? = some o) (hr : Region.ready md ops listed = [i])
    (h : ∀ K' : Act → World → Prop, Shut (∀ (S' : World → Prop) a w, (∀ w, S' w → S w) → S' w → wpAnyH P md ops Q S' fuel (listed.setIfInBounds i true) a w → K' a w) → if Region.wanted o (yielded ops a.tmps) = true then Oper.wp P o a w K' Q else K' (a.put o.dst undef) w) :
    wpAnyH P md ops Q S (fuel + 1) listed a w :=
  wpAnyH_ready hr (by simp) (AllReadyH.cons ho (fun K hK => h K (fun _ a w hSS hS hW => hK.out a w (hSS _ hS) (fun _ => held_mono hSS _ _ _ _ hW))) AllReadyH.nil)
end
end Go.Proofs.Ytdhjchibhlcchaa

/-! Vl3 -/
namespace Go.Proofs.Ytdhjchibhlcchaa
open Go.RowKit

theorem wrap_nat {k : Nat} (h : k ≤ 4611686018427387904) : wrap64 (k : Int) = (k : Int) := by unfold wrap64; omega
set_option maxRecDepth 100000 in
set_option maxHeartbeats 4000000 in
theorem mpValue_any (p : Pr) (n d : Nat) (w : World) (hc1 : p.1.carets ≤ 8) (hc2 : p.2.carets ≤ 8) (hok : p.1.carets = p.2.carets) (k : isFr n d = true) :
    Calls Try.prog 45 #[.agg #[.string p.1.str, .string p.2.str], .agg #[.int .i64 n, .int .i64 d]] w (Gives (.agg #[.int .i64 (frOf (valP p (stepsOf n d))).1, .int .i64 (frOf (valP p (stepsOf n d))).2]) w) := by
  obtain ⟨a, b, ea, eb, hlt, a8, b8, ab, bb, hsa, hv, _⟩ := val_facts p hc1 hc2 hok (stepsOf n d)
  rw [hv]
  have hsl := (steps_le k).1
  have hsm := (steps_le k).2.1
  have hL := fun w => mpLeaf_any p.1 n d w hc1 k
  have hM1 := fun w => mpOf_any a w (by omega) ab
  have hM2 := fun w => mpOf_any b w (by omega) bb
  have l1 := addrs_length p.1 ⟨#[]⟩
  have l2 := addrs_length p.2 ⟨#[]⟩
  have hA1 := fun w => trAddresses_any p.1 ⟨#[]⟩ w (by omega) (by show 0 + p.1.carets ≤ 1000; omega)
  have hA2 := fun w => trAddresses_any p.2 ⟨#[]⟩ w (by omega) (by show 0 + p.2.carets ≤ 1000; omega)
  obtain ⟨hp0, hsh⟩ := vl_short (la := a.size) (steps_cross k) (frOf_bd a8 ab).2.2.2 (frOf_bd b8 bb).2.2.2 hsm (stA_thousand (a := a) (by omega)) (by omega : b.size ≤ 10) (by have := isFr_nats k; obtain ⟨_, _, e1, e2, _, h, _⟩ := this; omega) (frOf_bd a8 ab).2.1 (frOf_bd b8 bb).2.1
  rw [← hsh]
  have hsub := vl_sub (steps_cross k) (frOf_bd a8 ab).2.2.2 hsa
  obtain ⟨na9, da0, da9, _⟩ := frOf_bd a8 ab
  obtain ⟨nb9, db0, db9, _⟩ := frOf_bd b8 bb
  have pa := pow8 a8
  have pb := pow8 b8
  have w1' : wrap64 ((2 : Int) ^ a.size) = ((2 ^ a.size : Nat) : Int) := by
    rcases small_cases (show a.size ≤ 10 by omega) with e | e | e | e | e | e | e | e | e | e | e <;> (rw [e]; decide +kernel)
  have w2' : wrap64 ((2 : Int) ^ b.size) = ((2 ^ b.size : Nat) : Int) := by
    rcases small_cases (show b.size ≤ 10 by omega) with e | e | e | e | e | e | e | e | e | e | e <;> (rw [e]; decide +kernel)
  obtain ⟨nn, dd, en, ed, n1, d1, d2⟩ := isFr_nats k
  have nd : n ≤ d := by omega
  have d9 : d ≤ 1024 := by omega
  generalize (2 : Nat) ^ a.size = P at *
  generalize (2 : Nat) ^ b.size = Q at *
  generalize (frOf (stA a)).1 = na at *
  generalize (frOf (stA a)).2 = da at *
  generalize (frOf (stA b)).1 = nb at *
  generalize (frOf (stA b)).2 = db at *
  generalize lastTo p.1.starts (stepsOf n d) = r at *
  obtain ⟨m, hm⟩ : ∃ m, p.1.carets + 1 = m := ⟨_, rfl⟩
  rw [hm] at l1 hlt
  rw [← hok, hm] at l2
  have hm9 : m ≤ 9 := by omega
  have AF : ∀ (t : Tr) (c : ByteArray), (t.addrs ⟨#[]⟩).length = m → c = (t.addrs ⟨#[]⟩).getD r ⟨#[]⟩ → (∀ w, Calls Try.prog 76 #[.string t.str, .string ⟨#[]⟩] w (GivesTexts (t.addrs ⟨#[]⟩) w)) → ∀ w, Calls Try.prog 76 #[.string t.str, .string ⟨#[]⟩] w fun e w' => ∃ g cap : Nat, w'.cell? ⟨g, r, none⟩ = some (.string c) ∧ m ≤ cap ∧ cap ≤ maxLen ∧ Below w.heap.size w w' ∧ e = .returned (.slice (some ⟨g, 0, none⟩) m cap) := by
    intro t c hl hc h w
    refine (h w).mono ?_
    rintro e w' ⟨g, cap, own, hb, rfl⟩
    rcases own.cells with ⟨_, h0⟩ | ⟨g', cap', hv, hg0, hg, q1, q2, hcell, _⟩
    · rw [h0] at hl; simp only [List.length_nil] at hl; omega
    · obtain ⟨rfl, rfl⟩ : g' = g ∧ cap' = cap := by simpa using hv.symm
      rw [hl] at q1 hcell ⊢
      exact ⟨_, _, by rw [hc]; exact hcell r (by omega), q1, q2, hb, rfl⟩
  have hA1' := AF p.1 a l1 ea hA1
  have hA2' := AF p.2 b l2 eb hA2
  have hlt' : (r : Int) < (m : Int) := by omega
  clear hsh hv hsa hsl hsm ab bb k n1 d1 d2 en ed nn dd AF hA1 hA2 ea eb l1 l2 hm hlt
  have c1 : n * da ≤ 262144 := mul_bd (A := 1024) (B := 256) (by omega) da9 rfl
  have c2 : na * d ≤ 262144 := by omega
  have c3 : d * da ≤ 262144 := mul_bd (A := 1024) (B := 256) d9 da9 rfl
  obtain ⟨X, hX⟩ : ∃ X, n * da - na * d = X := ⟨_, rfl⟩
  obtain ⟨Y, hY⟩ : ∃ Y, d * da = Y := ⟨_, rfl⟩
  have i1 : (n : Int) * (da : Int) = ((n * da : Nat) : Int) := by simp
  have i2 : (na : Int) * (d : Int) = ((na * d : Nat) : Int) := by simp
  have i3 : (d : Int) * (da : Int) = ((d * da : Nat) : Int) := by simp
  have i4 : (n : Int) * (da : Int) - (na : Int) * (d : Int) = (X : Int) := by omega
  have i5 : (d : Int) * (da : Int) = (Y : Int) := by omega
  rw [hY] at hp0
  rw [hX, hY]
  have b1 : X * P ≤ 67108864 := mul_bd (A := 262144) (B := 256) (by omega) pa.2 rfl
  have b2 : X * P * db ≤ 17179869184 := mul_bd b1 db9 rfl
  have b3 : Y * Q ≤ 67108864 := mul_bd (A := 262144) (B := 256) (by omega) pb.2 rfl
  have b4 : nb * (Y * Q) ≤ 17179869184 := mul_bd nb9 b3 rfl
  have b5 : Y * Q * db ≤ 17179869184 := mul_bd b3 db9 rfl
  have hS := fun w => mpShort_any (X * P * db + nb * (Y * Q)) (Y * Q * db) w hp0 (by omega) (by omega)
  have hE1 : wrap64 (wrap64 (wrap64 (((n : Int) * (da : Int) - (na : Int) * (d : Int)) * (P : Int)) * (db : Int)) + wrap64 ((nb : Int) * wrap64 ((d : Int) * (da : Int) * (Q : Int)))) = ((X * P * db + nb * (Y * Q) : Nat) : Int) := by
    rw [i4, i5, ← Int.natCast_mul X P, wrap_nat (by omega), ← Int.natCast_mul (X * P) db, wrap_nat (by omega), ← Int.natCast_mul Y Q, wrap_nat (by omega), ← Int.natCast_mul nb, wrap_nat (by omega), ← Int.natCast_add, wrap_nat (by omega)]
  have hE2 : wrap64 (wrap64 ((d : Int) * (da : Int) * (Q : Int)) * (db : Int)) = ((Y * Q * db : Nat) : Int) := by
    rw [i5, ← Int.natCast_mul Y Q, wrap_nat (by omega), ← Int.natCast_mul (Y * Q) db, wrap_nat (by omega)]
  rw [← hE1, ← hE2] at hS
  generalize (shortN (X * P * db + nb * (Y * Q)) (Y * Q * db)).1 = z1 at *
  generalize (shortN (X * P * db + nb * (Y * Q)) (Y * Q * db)).2 = z2 at *
  have j1 : 0 ≤ (n : Int) * (da : Int) ∧ (n : Int) * (da : Int) ≤ 262144 := by omega
  have j2 : 0 ≤ (na : Int) * (d : Int) ∧ (na : Int) * (d : Int) ≤ 262144 := by omega
  have j3 : 0 ≤ (d : Int) * (da : Int) ∧ (d : Int) * (da : Int) ≤ 262144 := by omega
  obtain ⟨j1a, j1b⟩ := j1
  obtain ⟨j2a, j2b⟩ := j2
  obtain ⟨j3a, j3b⟩ := j3
  clear i1 i2 i3 i4 i5 b1 b2 b3 b4 b5 hE1 hE2 hp0 c1 c2 c3
  go_enter Try.func45, Try.ntmps45
  go_wp2_with fail
  have hb0 : Below w.heap.size w (((w.alloc (.cells #[.string p.1.str, .string p.2.str] 34 (0, 0))).alloc (.cells #[.int .i64 n, .int .i64 d] 26 (0, 0))).alloc (.cells #[.int .i64 0, .int .i64 0] 26 (0, 0))) := nxAlloc (nxAlloc (nxAlloc (Below.refl _ _) _) _) _
  have hx0 := heap_keep (nxAlloc (Below.refl _ _) (.cells #[.int .i64 0, .int .i64 0] 26 (0, 0))) (heap_keep (nxAlloc (Below.refl _ _) (.cells #[.int .i64 n, .int .i64 d] 26 (0, 0))) (heap_alloc_at w (.cells #[.string p.1.str, .string p.2.str] 34 (0, 0))))
  have hx1 := heap_keep (nxAlloc (Below.refl _ _) (.cells #[.int .i64 0, .int .i64 0] 26 (0, 0))) (heap_alloc_at (w.alloc (.cells #[.string p.1.str, .string p.2.str] 34 (0, 0))) (.cells #[.int .i64 n, .int .i64 d] 26 (0, 0)))
  have hx2 := heap_alloc_at ((w.alloc (.cells #[.string p.1.str, .string p.2.str] 34 (0, 0))).alloc (.cells #[.int .i64 n, .int .i64 d] 26 (0, 0))) (.cells #[.int .i64 0, .int .i64 0] 26 (0, 0))
  generalize (((w.alloc (.cells #[.string p.1.str, .string p.2.str] 34 (0, 0))).alloc (.cells #[.int .i64 n, .int .i64 d] 26 (0, 0))).alloc (.cells #[.int .i64 0, .int .i64 0] 26 (0, 0))) = w0 at *
  have e1 : (w.alloc (.cells #[.string p.1.str, .string p.2.str] 34 (0, 0))).heap.size = w.heap.size + 1 := by simp
  rw [e1] at hx1
  clear e1
  have e2 : ((w.alloc (.cells #[.string p.1.str, .string p.2.str] 34 (0, 0))).alloc (.cells #[.int .i64 n, .int .i64 d] 26 (0, 0))).heap.size = w.heap.size + 1 + 1 := by simp
  rw [e2] at hx2
  clear e2
  obtain ⟨hx0a, hx0b, hx0c⟩ := two_facts hx0
  obtain ⟨hx0f, hx0g⟩ := two_frozen hx0
  obtain ⟨hx1a, hx1b, hx1c⟩ := two_facts hx1
  obtain ⟨hx1f, hx1g⟩ := two_frozen hx1
  obtain ⟨hx2a, hx2b, hx2c⟩ := two_facts hx2
  obtain ⟨hx2f, hx2g⟩ := two_frozen hx2
  refine (hL _).mono ?_; rintro e w1 ⟨rfl, hb1⟩
  have hbw1 := nx hb0 hb1
  replace hx0 := heap_keep hb1 hx0
  replace hx1 := heap_keep hb1 hx1
  replace hx2 := heap_keep hb1 hx2
  clear hx0a hx0b hx0c hx0f hx0g
  obtain ⟨hx0a, hx0b, hx0c⟩ := two_facts hx0
  obtain ⟨hx0f, hx0g⟩ := two_frozen hx0
  clear hx1a hx1b hx1c hx1f hx1g
  obtain ⟨hx1a, hx1b, hx1c⟩ := two_facts hx1
  obtain ⟨hx1f, hx1g⟩ := two_frozen hx1
  clear hx2a hx2b hx2c hx2f hx2g
  obtain ⟨hx2a, hx2b, hx2c⟩ := two_facts hx2
  obtain ⟨hx2f, hx2g⟩ := two_frozen hx2
  clear hb1 hb0
  go_wp2_with fail
  have hz := Below.refl w1.heap.size w1
  refine wp_region_held_drew (S := (fun w' => w'.cell? ⟨w.heap.size, 0, none⟩ = some (.string p.1.str) ∧ w'.cell? ⟨w.heap.size, 1, none⟩ = some (.string p.2.str) ∧ w'.cell? ⟨w.heap.size + 1, 0, none⟩ = some (.int .i64 n) ∧ w'.cell? ⟨w.heap.size + 1, 1, none⟩ = some (.int .i64 d))) (by kernel_rfl) ⟨hx0a, hx0b, hx1a, hx1b⟩ (fun hH0 => ?_)
  refine wpAnyH_take (i := 0) (oi := ?oi1) (v := ?vv1) ?hi1 ?hn1 ?hf1 ?hr1 ?hq1 (Or.inl ⟨?hg1, ?hy1⟩) hH0 ?rest1
  case hi1 => (simp only [List.getElem?_toArray, List.getElem?_cons_zero]; rfl)
  case hn1 => kernel_rfl
  case hf1 => kernel_rfl
  case hr1 => kernel_rfl
  case hg1 => rfl
  case hy1 => (intro w hSw; (try dsimp only at hSw); go_simp; first | done | with_reducible rfl)
  case hq1 => exact fun _ _ _ h => h
  try dsimp only [Act.put]
  refine wpAnyH_take (i := 1) (oi := ?oi2) (v := ?vv2) ?hi2 ?hn2 ?hf2 ?hr2 ?hq2 (Or.inl ⟨?hg2, ?hy2⟩) hH0 ?rest2
  case hi2 => (simp only [List.getElem?_toArray, List.getElem?_cons_succ, List.getElem?_cons_zero]; rfl)
  case hn2 => kernel_rfl
  case hf2 => kernel_rfl
  case hr2 => kernel_rfl
  case hg2 => rfl
  case hy2 => (intro w hSw; (try dsimp only at hSw); go_simp; first | done | with_reducible rfl)
  case hq2 => exact fun _ _ _ h => h
  try dsimp only [Act.put]
  refine wpAnyH_take (i := 3) (oi := ?oi3) (v := ?vv3) ?hi3 ?hn3 ?hf3 ?hr3 ?hq3 (Or.inl ⟨?hg3, ?hy3⟩) hH0 ?rest3
  case hi3 => (simp only [List.getElem?_toArray, List.getElem?_cons_succ, List.getElem?_cons_zero]; rfl)
  case hn3 => kernel_rfl
  case hf3 => kernel_rfl
  case hr3 => kernel_rfl
  case hg3 => rfl
  case hy3 => (intro w hSw; (try dsimp only at hSw); go_simp; first | done | with_reducible rfl)
  case hq3 => exact fun _ _ _ h => h
  try dsimp only [Act.put]
  refine wpAnyH_take (i := 6) (oi := ?oi4) (v := ?vv4) ?hi4 ?hn4 ?hf4 ?hr4 ?hq4 (Or.inl ⟨?hg4, ?hy4⟩) hH0 ?rest4
  case hi4 => (simp only [List.getElem?_toArray, List.getElem?_cons_succ, List.getElem?_cons_zero]; rfl)
  case hn4 => kernel_rfl
  case hf4 => kernel_rfl
  case hr4 => kernel_rfl
  case hg4 => rfl
  case hy4 => (intro w hSw; (try dsimp only at hSw); go_simp; first | done | with_reducible rfl)
  case hq4 => exact fun _ _ _ h => h
  try dsimp only [Act.put]
  refine wpAnyH_take (i := 7) (oi := ?oi5) (v := ?vv5) ?hi5 ?hn5 ?hf5 ?hr5 ?hq5 (Or.inl ⟨?hg5, ?hy5⟩) hH0 ?rest5
  case hi5 => (simp only [List.getElem?_toArray, List.getElem?_cons_succ, List.getElem?_cons_zero]; rfl)
  case hn5 => kernel_rfl
  case hf5 => kernel_rfl
  case hr5 => kernel_rfl
  case hg5 => rfl
  case hy5 => (intro w hSw; (try dsimp only at hSw); go_simp; first | done | with_reducible rfl)
  case hq5 => exact fun _ _ _ h => h
  try dsimp only [Act.put]
  refine wpAnyH_take (i := 9) (oi := ?oi6) (v := ?vv6) ?hi6 ?hn6 ?hf6 ?hr6 ?hq6 (Or.inl ⟨?hg6, ?hy6⟩) hH0 ?rest6
  case hi6 => (simp only [List.getElem?_toArray, List.getElem?_cons_succ, List.getElem?_cons_zero]; rfl)
  case hn6 => kernel_rfl
  case hf6 => kernel_rfl
  case hr6 => kernel_rfl
  case hg6 => rfl
  case hy6 => (intro w hSw; (try dsimp only at hSw); go_simp; first | done | with_reducible rfl)
  case hq6 => exact fun _ _ _ h => h
  try dsimp only [Act.put]
  refine held_one 2 rfl (by kernel_rfl) (fun K hK => ?_)
  go_simp
  refine (hA1' _).mono ?_; rintro e w3 ⟨g1, cap1, hcl1, m1, m2, hb3, rfl⟩
  have hb3' := nx hz.drew hb3
  have K1 := And.intro (keep_cell hb3' hx0a) (And.intro (keep_cell hb3' hx0b) (And.intro (keep_cell hb3' hx1a) (keep_cell hb3' hx1b)))
  go_wp2_with fail
  have hH1 : (fun (w' : World) => (w'.cell? ⟨w.heap.size, 0, none⟩ = some (.string p.1.str) ∧ w'.cell? ⟨w.heap.size, 1, none⟩ = some (.string p.2.str) ∧ w'.cell? ⟨w.heap.size + 1, 0, none⟩ = some (.int .i64 n) ∧ w'.cell? ⟨w.heap.size + 1, 1, none⟩ = some (.int .i64 d)) ∧ w'.cell? ⟨g1, r, none⟩ = some (.string a)) _ := ⟨K1, hcl1⟩
  refine hK.out (fun (w' : World) => (w'.cell? ⟨w.heap.size, 0, none⟩ = some (.string p.1.str) ∧ w'.cell? ⟨w.heap.size, 1, none⟩ = some (.string p.2.str) ∧ w'.cell? ⟨w.heap.size + 1, 0, none⟩ = some (.int .i64 n) ∧ w'.cell? ⟨w.heap.size + 1, 1, none⟩ = some (.int .i64 d)) ∧ w'.cell? ⟨g1, r, none⟩ = some (.string a)) _ _ (fun _ h => h.1) hH1 ?_
  clear hK K
  try dsimp only [Act.put]
  refine wpAnyH_take (i := 4) (oi := ?oi7) (v := ?vv7) ?hi7 ?hn7 ?hf7 ?hr7 ?hq7 (Or.inl ⟨?hg7, ?hy7⟩) hH1 ?rest7
  case hi7 => (simp only [List.getElem?_toArray, List.getElem?_cons_succ, List.getElem?_cons_zero]; rfl)
  case hn7 => kernel_rfl
  case hf7 => kernel_rfl
  case hr7 => kernel_rfl
  case hg7 => rfl
  case hy7 => (intro w hSw; (try dsimp only at hSw); go_simp; first | done | with_reducible rfl)
  case hq7 => exact fun _ _ _ h => h
  try dsimp only [Act.put]
  refine wpAnyH_take (i := 5) (oi := ?oi8) (v := ?vv8) ?hi8 ?hn8 ?hf8 ?hr8 ?hq8 (Or.inl ⟨?hg8, ?hy8⟩) hH1 ?rest8
  case hi8 => (simp only [List.getElem?_toArray, List.getElem?_cons_succ, List.getElem?_cons_zero]; rfl)
  case hn8 => kernel_rfl
  case hf8 => kernel_rfl
  case hr8 => kernel_rfl
  case hg8 => rfl
  case hy8 => (intro w hSw; (try dsimp only at hSw); go_simp; first | done | with_reducible rfl)
  case hq8 => exact fun _ _ _ h => h
  try dsimp only [Act.put]
  refine held_one 8 rfl (by kernel_rfl) (fun K hK => ?_)
  go_simp
  refine (hA2' _).mono ?_; rintro e w4 ⟨g2, cap2, hcl2, m3, m4, hb4, rfl⟩
  have hb4' := nx hb3' hb4
  have hcl14 := keep_cell hb4 hcl1
  have K2 := And.intro (keep_cell hb4' hx0a) (And.intro (keep_cell hb4' hx0b) (And.intro (keep_cell hb4' hx1a) (keep_cell hb4' hx1b)))
  go_wp2_with fail
  have hH2 : (fun (w' : World) => ((w'.cell? ⟨w.heap.size, 0, none⟩ = some (.string p.1.str) ∧ w'.cell? ⟨w.heap.size, 1, none⟩ = some (.string p.2.str) ∧ w'.cell? ⟨w.heap.size + 1, 0, none⟩ = some (.int .i64 n) ∧ w'.cell? ⟨w.heap.size + 1, 1, none⟩ = some (.int .i64 d)) ∧ w'.cell? ⟨g1, r, none⟩ = some (.string a)) ∧ w'.cell? ⟨g2, r, none⟩ = some (.string b)) _ := ⟨⟨K2, hcl14⟩, hcl2⟩
  refine hK.out (fun (w' : World) => ((w'.cell? ⟨w.heap.size, 0, none⟩ = some (.string p.1.str) ∧ w'.cell? ⟨w.heap.size, 1, none⟩ = some (.string p.2.str) ∧ w'.cell? ⟨w.heap.size + 1, 0, none⟩ = some (.int .i64 n) ∧ w'.cell? ⟨w.heap.size + 1, 1, none⟩ = some (.int .i64 d)) ∧ w'.cell? ⟨g1, r, none⟩ = some (.string a)) ∧ w'.cell? ⟨g2, r, none⟩ = some (.string b)) _ _ (fun _ h => h.1) hH2 ?_
  clear hK K
  try dsimp only [Act.put]
  refine wpAnyH_take (i := 10) (oi := ?oi9) (v := ?vv9) ?hi9 ?hn9 ?hf9 ?hr9 ?hq9 (Or.inl ⟨?hg9, ?hy9⟩) hH2 ?rest9
  case hi9 => (simp only [List.getElem?_toArray, List.getElem?_cons_succ, List.getElem?_cons_zero]; rfl)
  case hn9 => kernel_rfl
  case hf9 => kernel_rfl
  case hr9 => kernel_rfl
  case hg9 => rfl
  case hy9 => (intro w hSw; (try dsimp only at hSw); go_simp; first | done | with_reducible rfl)
  case hq9 => exact fun _ _ _ h => h
  try dsimp only [Act.put]
  refine wpAnyH_take (i := 11) (oi := ?oi10) (v := ?vv10) ?hi10 ?hn10 ?hf10 ?hr10 ?hq10 (Or.inl ⟨?hg10, ?hy10⟩) hH2 ?rest10
  case hi10 => (simp only [List.getElem?_toArray, List.getElem?_cons_succ, List.getElem?_cons_zero]; rfl)
  case hn10 => kernel_rfl
  case hf10 => kernel_rfl
  case hr10 => kernel_rfl
  case hg10 => rfl
  case hy10 => (intro w hSw; (try dsimp only at hSw); go_simp; first | done | with_reducible rfl)
  case hq10 => exact fun _ _ _ h => h
  try dsimp only [Act.put]
  refine wpAnyH_take (i := 12) (oi := ?oi11) (v := ?vv11) ?hi11 ?hn11 ?hf11 ?hr11 ?hq11 (Or.inl ⟨?hg11, ?hy11⟩) hH2 ?rest11
  case hi11 => (simp only [List.getElem?_toArray, List.getElem?_cons_succ, List.getElem?_cons_zero]; rfl)
  case hn11 => kernel_rfl
  case hf11 => kernel_rfl
  case hr11 => kernel_rfl
  case hg11 => rfl
  case hy11 => (intro w hSw; (try dsimp only at hSw); go_simp; first | done | with_reducible rfl)
  case hq11 => exact fun _ _ _ h => h
  try dsimp only [Act.put]
  refine wpAnyH_take (i := 13) (oi := ?oi12) (v := ?vv12) ?hi12 ?hn12 ?hf12 ?hr12 ?hq12 (Or.inl ⟨?hg12, ?hy12⟩) hH2 ?rest12
  case hi12 => (simp only [List.getElem?_toArray, List.getElem?_cons_succ, List.getElem?_cons_zero]; rfl)
  case hn12 => kernel_rfl
  case hf12 => kernel_rfl
  case hr12 => kernel_rfl
  case hg12 => rfl
  case hy12 => (intro w hSw; (try dsimp only at hSw); go_simp; first | done | with_reducible rfl)
  case hq12 => exact fun _ _ _ h => h
  try dsimp only [Act.put]
  refine wpAnyH_done (by kernel_rfl) ?_ _
  simp only [List.setIfInBounds_toArray, List.set_cons_zero, List.set_cons_succ]
  go_wp2_with fail
  refine (hM1 _).mono ?_; rintro e w5 ⟨rfl, hb5⟩
  go_wp2_with fail
  refine (hM2 _).mono ?_; rintro e w6 ⟨rfl, hb6⟩
  clear hH0 hH1 hH2 K1 K2 hx0 hx0a hx0b hx0c hx0f hx0g hM1 hM2 hA1' hA2' hL
  have hbw6 := nx (nx (nx hbw1 hb4') hb5) hb6
  replace hx1 := heap_keep hb6 (heap_keep hb5 (heap_keep hb4' hx1))
  replace hx2 := heap_keep hb6 (heap_keep hb5 (heap_keep hb4' hx2))
  clear hb3 hb3' hb4 hb4' hb5 hb6 hbw1 hcl1 hcl2 hcl14 hx1a hx1b hx1c hx1f hx1g hx2a hx2b hx2c hx2f hx2g hlt' hm9
  go_wp2_with fail
  have hb0 : Below w.heap.size w ((w6.alloc (.cells #[.int .i64 na, .int .i64 da] 26 (0, 0))).alloc (.cells #[.int .i64 nb, .int .i64 db] 26 (0, 0))) := nxAlloc (nxAlloc hbw6 _) _
  have hx3 := heap_keep (nxAlloc (Below.refl _ _) (.cells #[.int .i64 nb, .int .i64 db] 26 (0, 0))) (heap_alloc_at w6 (.cells #[.int .i64 na, .int .i64 da] 26 (0, 0)))
  have hx4 := heap_alloc_at (w6.alloc (.cells #[.int .i64 na, .int .i64 da] 26 (0, 0))) (.cells #[.int .i64 nb, .int .i64 db] 26 (0, 0))
  replace hx1 := heap_keep (nxAlloc (Below.refl _ _) (.cells #[.int .i64 nb, .int .i64 db] 26 (0, 0))) (heap_keep (nxAlloc (Below.refl _ _) (.cells #[.int .i64 na, .int .i64 da] 26 (0, 0))) hx1)
  replace hx2 := heap_keep (nxAlloc (Below.refl _ _) (.cells #[.int .i64 nb, .int .i64 db] 26 (0, 0))) (heap_keep (nxAlloc (Below.refl _ _) (.cells #[.int .i64 na, .int .i64 da] 26 (0, 0))) hx2)
  have e4 : (w6.alloc (.cells #[.int .i64 na, .int .i64 da] 26 (0, 0))).heap.size = w6.heap.size + 1 := by simp
  rw [e4] at hx4
  generalize (w6.alloc (.cells #[.int .i64 na, .int .i64 da] 26 (0, 0))).alloc (.cells #[.int .i64 nb, .int .i64 db] 26 (0, 0)) = w7 at *
  obtain ⟨ya, yb, yc⟩ := two_facts hx1
  obtain ⟨ua, ub, uc⟩ := two_facts hx3
  obtain ⟨va, vb, vc⟩ := two_facts hx4
  go_quiet (fail)
  go_wp2_with fail
  refine (hS _).mono ?_; rintro e w8 ⟨rfl, hb8⟩
  have hbw8 := nx (drewB hb0 nq) hb8
  replace hx2 := heap_keep hb8 hx2
  obtain ⟨ra, rb, rc⟩ := two_facts hx2
  obtain ⟨rf, rg⟩ := two_frozen hx2
  go_wp2_with fail
  obtain ⟨q1, q2⟩ := two_cells (set_two (.int .i64 z1) (.int .i64 z2) hx2)
  refine bodyPost_ret (v := .agg #[.int .i64 z1, .int .i64 z2]) (by simp [q1, q2, results, Try.results45, go_sem]) rfl ⟨rfl, ?_⟩
  exact (hbw8.setCell (by show w.heap.size ≤ w.heap.size + 1 + 1; omega) _).setCell (by show w.heap.size ≤ w.heap.size + 1 + 1; omega) _
end Go.Proofs.Ytdhjchibhlcchaa

/-! WValueOf -/
namespace Go.Proofs.Ytdhjchibhlcchaa
open Go.RowKit

set_option maxRecDepth 100000 in
set_option maxHeartbeats 4000000 in
theorem specValueOf_any (a b : ByteArray) (n d : Int) (w : World) (ha : a.size ≤ 9223372036854775806) (hb : b.size ≤ 9223372036854775806) (_l1 : -9223372036854775808 ≤ n) (_u1 : n ≤ 9223372036854775807) (_l2 : -9223372036854775808 ≤ d) (_u2 : d ≤ 9223372036854775807) :
    Calls Try.prog 15 #[.agg #[.string a, .string b], .agg #[.int .i64 n, .int .i64 d]] w (Gives (ansF (valueO a b n d)) w) := by
  unfold valueO
  have hg := fun w => prGood_any a b w ha hb
  have hk := fun w => mpGood_any n d w
  cases h : pairOf a b with
  | none =>
    rw [h] at hg
    show Calls _ _ _ _ (Gives (ansF none) w)
    clear h hk _l1 _u1 _l2 _u2
    go_enter Try.func15, Try.ntmps15
    go_wp2_with fail
    have hb0 : Below w.heap.size w (((w.alloc (.cells #[.string a, .string b] 34 (0, 0))).alloc (.cells #[.int .i64 n, .int .i64 d] 26 (0, 0))).alloc (.cells #[.int .i64 0, .int .i64 0] 26 (0, 0))) := nxAlloc (nxAlloc (nxAlloc (Below.refl _ _) _) _) _
    have hx0 := heap_keep (nxAlloc (Below.refl _ _) (.cells #[.int .i64 0, .int .i64 0] 26 (0, 0))) (heap_keep (nxAlloc (Below.refl _ _) (.cells #[.int .i64 n, .int .i64 d] 26 (0, 0))) (heap_alloc_at w (.cells #[.string a, .string b] 34 (0, 0))))
    have hx1 := heap_keep (nxAlloc (Below.refl _ _) (.cells #[.int .i64 0, .int .i64 0] 26 (0, 0))) (heap_alloc_at (w.alloc (.cells #[.string a, .string b] 34 (0, 0))) (.cells #[.int .i64 n, .int .i64 d] 26 (0, 0)))
    have hx2 := heap_alloc_at ((w.alloc (.cells #[.string a, .string b] 34 (0, 0))).alloc (.cells #[.int .i64 n, .int .i64 d] 26 (0, 0))) (.cells #[.int .i64 0, .int .i64 0] 26 (0, 0))
    generalize (((w.alloc (.cells #[.string a, .string b] 34 (0, 0))).alloc (.cells #[.int .i64 n, .int .i64 d] 26 (0, 0))).alloc (.cells #[.int .i64 0, .int .i64 0] 26 (0, 0))) = w0 at *
    have e1 : (w.alloc (.cells #[.string a, .string b] 34 (0, 0))).heap.size = w.heap.size + 1 := by simp
    rw [e1] at hx1
    clear e1
    have e2 : ((w.alloc (.cells #[.string a, .string b] 34 (0, 0))).alloc (.cells #[.int .i64 n, .int .i64 d] 26 (0, 0))).heap.size = w.heap.size + 1 + 1 := by simp
    rw [e2] at hx2
    clear e2
    obtain ⟨hx0a, hx0b, hx0c⟩ := two_facts hx0
    obtain ⟨hx0f, hx0g⟩ := two_frozen hx0
    obtain ⟨hx1a, hx1b, hx1c⟩ := two_facts hx1
    obtain ⟨hx1f, hx1g⟩ := two_frozen hx1
    obtain ⟨hx2a, hx2b, hx2c⟩ := two_facts hx2
    obtain ⟨hx2f, hx2g⟩ := two_frozen hx2
    refine (hg _).mono ?_; rintro e w1 ⟨rfl, hb1⟩
    have hbw1 := nx hb0 hb1
    replace hx0 := heap_keep hb1 hx0
    replace hx1 := heap_keep hb1 hx1
    replace hx2 := heap_keep hb1 hx2
    clear hx0a hx0b hx0c hx0f hx0g
    obtain ⟨hx0a, hx0b, hx0c⟩ := two_facts hx0
    obtain ⟨hx0f, hx0g⟩ := two_frozen hx0
    clear hx1a hx1b hx1c hx1f hx1g
    obtain ⟨hx1a, hx1b, hx1c⟩ := two_facts hx1
    obtain ⟨hx1f, hx1g⟩ := two_frozen hx1
    clear hx2a hx2b hx2c hx2f hx2g
    obtain ⟨hx2a, hx2b, hx2c⟩ := two_facts hx2
    obtain ⟨hx2f, hx2g⟩ := two_frozen hx2
    clear hb1 hb0
    go_wp2_with fail
    obtain ⟨q1, q2⟩ := two_cells (set_two (.int .i64 0) (.int .i64 0) hx2)
    refine bodyPost_ret (v := .tuple #[.agg #[.int .i64 0, .int .i64 0], .bool false]) (by simp [q1, q2, results, Try.results15, go_sem]) rfl ⟨rfl, ?_⟩
    exact (hbw1.setCell (by show w.heap.size ≤ w.heap.size + 1 + 1; omega) _).setCell (by show w.heap.size ≤ w.heap.size + 1 + 1; omega) _
  | some p =>
    rw [h] at hg
    obtain ⟨rfl, rfl, hok, hc1, hc2⟩ := pairOf_some h
    clear h
    cases k : isFr n d with
    | false =>
      rw [k] at hk
      show Calls _ _ _ _ (Gives (ansF none) w)
      clear _l1 _u1 _l2 _u2 k
      go_enter Try.func15, Try.ntmps15
      go_wp2_with fail
      have hb0 : Below w.heap.size w (((w.alloc (.cells #[.string p.1.str, .string p.2.str] 34 (0, 0))).alloc (.cells #[.int .i64 n, .int .i64 d] 26 (0, 0))).alloc (.cells #[.int .i64 0, .int .i64 0] 26 (0, 0))) := nxAlloc (nxAlloc (nxAlloc (Below.refl _ _) _) _) _
      have hx0 := heap_keep (nxAlloc (Below.refl _ _) (.cells #[.int .i64 0, .int .i64 0] 26 (0, 0))) (heap_keep (nxAlloc (Below.refl _ _) (.cells #[.int .i64 n, .int .i64 d] 26 (0, 0))) (heap_alloc_at w (.cells #[.string p.1.str, .string p.2.str] 34 (0, 0))))
      have hx1 := heap_keep (nxAlloc (Below.refl _ _) (.cells #[.int .i64 0, .int .i64 0] 26 (0, 0))) (heap_alloc_at (w.alloc (.cells #[.string p.1.str, .string p.2.str] 34 (0, 0))) (.cells #[.int .i64 n, .int .i64 d] 26 (0, 0)))
      have hx2 := heap_alloc_at ((w.alloc (.cells #[.string p.1.str, .string p.2.str] 34 (0, 0))).alloc (.cells #[.int .i64 n, .int .i64 d] 26 (0, 0))) (.cells #[.int .i64 0, .int .i64 0] 26 (0, 0))
      generalize (((w.alloc (.cells #[.string p.1.str, .string p.2.str] 34 (0, 0))).alloc (.cells #[.int .i64 n, .int .i64 d] 26 (0, 0))).alloc (.cells #[.int .i64 0, .int .i64 0] 26 (0, 0))) = w0 at *
      have e1 : (w.alloc (.cells #[.string p.1.str, .string p.2.str] 34 (0, 0))).heap.size = w.heap.size + 1 := by simp
      rw [e1] at hx1
      clear e1
      have e2 : ((w.alloc (.cells #[.string p.1.str, .string p.2.str] 34 (0, 0))).alloc (.cells #[.int .i64 n, .int .i64 d] 26 (0, 0))).heap.size = w.heap.size + 1 + 1 := by simp
      rw [e2] at hx2
      clear e2
      obtain ⟨hx0a, hx0b, hx0c⟩ := two_facts hx0
      obtain ⟨hx0f, hx0g⟩ := two_frozen hx0
      obtain ⟨hx1a, hx1b, hx1c⟩ := two_facts hx1
      obtain ⟨hx1f, hx1g⟩ := two_frozen hx1
      obtain ⟨hx2a, hx2b, hx2c⟩ := two_facts hx2
      obtain ⟨hx2f, hx2g⟩ := two_frozen hx2
      refine (hg _).mono ?_; rintro e w1 ⟨rfl, hb1⟩
      have hbw1 := nx hb0 hb1
      replace hx0 := heap_keep hb1 hx0
      replace hx1 := heap_keep hb1 hx1
      replace hx2 := heap_keep hb1 hx2
      clear hx0a hx0b hx0c hx0f hx0g
      obtain ⟨hx0a, hx0b, hx0c⟩ := two_facts hx0
      obtain ⟨hx0f, hx0g⟩ := two_frozen hx0
      clear hx1a hx1b hx1c hx1f hx1g
      obtain ⟨hx1a, hx1b, hx1c⟩ := two_facts hx1
      obtain ⟨hx1f, hx1g⟩ := two_frozen hx1
      clear hx2a hx2b hx2c hx2f hx2g
      obtain ⟨hx2a, hx2b, hx2c⟩ := two_facts hx2
      obtain ⟨hx2f, hx2g⟩ := two_frozen hx2
      clear hb1 hb0
      go_wp2_with fail
      refine (hk _).mono ?_; rintro e w2 ⟨rfl, hb2⟩
      have hbw2 := nx hbw1 hb2
      replace hx0 := heap_keep hb2 hx0
      replace hx1 := heap_keep hb2 hx1
      replace hx2 := heap_keep hb2 hx2
      clear hx0a hx0b hx0c hx0f hx0g
      obtain ⟨hx0a, hx0b, hx0c⟩ := two_facts hx0
      obtain ⟨hx0f, hx0g⟩ := two_frozen hx0
      clear hx1a hx1b hx1c hx1f hx1g
      obtain ⟨hx1a, hx1b, hx1c⟩ := two_facts hx1
      obtain ⟨hx1f, hx1g⟩ := two_frozen hx1
      clear hx2a hx2b hx2c hx2f hx2g
      obtain ⟨hx2a, hx2b, hx2c⟩ := two_facts hx2
      obtain ⟨hx2f, hx2g⟩ := two_frozen hx2
      clear hb2 hbw1
      go_wp2_with fail
      obtain ⟨q1, q2⟩ := two_cells (set_two (.int .i64 0) (.int .i64 0) hx2)
      refine bodyPost_ret (v := .tuple #[.agg #[.int .i64 0, .int .i64 0], .bool false]) (by simp [q1, q2, results, Try.results15, go_sem]) rfl ⟨rfl, ?_⟩
      exact (hbw2.setCell (by show w.heap.size ≤ w.heap.size + 1 + 1; omega) _).setCell (by show w.heap.size ≤ w.heap.size + 1 + 1; omega) _
    | true =>
      rw [k] at hk
      show Calls _ _ _ _ (Gives (ansF (frA (valP p (stepsOf n d)))) w)
      clear _l1 _u1 _l2 _u2
      obtain ⟨n, d, rfl, rfl, n1, d1, d2⟩ := isFr_nats k
      have hpl := pcs_len p hok
      have hps := pcs_starts p hok
      have hsl := (steps_le k).1
      have hsm := (steps_le k).2.1
      have hV := fun w => mpValue_any p n d w hc1 hc2 hok k
      have hI := fun w => mpIf_any (frOf (valP p (stepsOf n d))).1 (frOf (valP p (stepsOf n d))).2 w
      rw [show (if isFr ((frOf (valP p (stepsOf n d))).1 : Int) ((frOf (valP p (stepsOf n d))).2 : Int) = true then some ((frOf (valP p (stepsOf n d))).1, (frOf (valP p (stepsOf n d))).2) else none) = frA (valP p (stepsOf n d)) from rfl] at hI
      clear hpl hps hsl hsm n1 d1 d2 k
      generalize (frOf (valP p (stepsOf n d))).1 = x1 at *
      generalize (frOf (valP p (stepsOf n d))).2 = x2 at *
      generalize frA (valP p (stepsOf n d)) = A at *
      unfold ansF at hI ⊢
      generalize fS1 A = y1 at *
      generalize fS2 A = y2 at *
      generalize A.isSome = ok at *
      go_enter Try.func15, Try.ntmps15
      go_wp2_with fail
      have hb0 : Below w.heap.size w (((w.alloc (.cells #[.string p.1.str, .string p.2.str] 34 (0, 0))).alloc (.cells #[.int .i64 n, .int .i64 d] 26 (0, 0))).alloc (.cells #[.int .i64 0, .int .i64 0] 26 (0, 0))) := nxAlloc (nxAlloc (nxAlloc (Below.refl _ _) _) _) _
      have hx0 := heap_keep (nxAlloc (Below.refl _ _) (.cells #[.int .i64 0, .int .i64 0] 26 (0, 0))) (heap_keep (nxAlloc (Below.refl _ _) (.cells #[.int .i64 n, .int .i64 d] 26 (0, 0))) (heap_alloc_at w (.cells #[.string p.1.str, .string p.2.str] 34 (0, 0))))
      have hx1 := heap_keep (nxAlloc (Below.refl _ _) (.cells #[.int .i64 0, .int .i64 0] 26 (0, 0))) (heap_alloc_at (w.alloc (.cells #[.string p.1.str, .string p.2.str] 34 (0, 0))) (.cells #[.int .i64 n, .int .i64 d] 26 (0, 0)))
      have hx2 := heap_alloc_at ((w.alloc (.cells #[.string p.1.str, .string p.2.str] 34 (0, 0))).alloc (.cells #[.int .i64 n, .int .i64 d] 26 (0, 0))) (.cells #[.int .i64 0, .int .i64 0] 26 (0, 0))
      generalize (((w.alloc (.cells #[.string p.1.str, .string p.2.str] 34 (0, 0))).alloc (.cells #[.int .i64 n, .int .i64 d] 26 (0, 0))).alloc (.cells #[.int .i64 0, .int .i64 0] 26 (0, 0))) = w0 at *
      have e1 : (w.alloc (.cells #[.string p.1.str, .string p.2.str] 34 (0, 0))).heap.size = w.heap.size + 1 := by simp
      rw [e1] at hx1
      clear e1
      have e2 : ((w.alloc (.cells #[.string p.1.str, .string p.2.str] 34 (0, 0))).alloc (.cells #[.int .i64 n, .int .i64 d] 26 (0, 0))).heap.size = w.heap.size + 1 + 1 := by simp
      rw [e2] at hx2
      clear e2
      obtain ⟨hx0a, hx0b, hx0c⟩ := two_facts hx0
      obtain ⟨hx0f, hx0g⟩ := two_frozen hx0
      obtain ⟨hx1a, hx1b, hx1c⟩ := two_facts hx1
      obtain ⟨hx1f, hx1g⟩ := two_frozen hx1
      obtain ⟨hx2a, hx2b, hx2c⟩ := two_facts hx2
      obtain ⟨hx2f, hx2g⟩ := two_frozen hx2
      refine (hg _).mono ?_; rintro e w1 ⟨rfl, hb1⟩
      have hbw1 := nx hb0 hb1
      replace hx0 := heap_keep hb1 hx0
      replace hx1 := heap_keep hb1 hx1
      replace hx2 := heap_keep hb1 hx2
      clear hx0a hx0b hx0c hx0f hx0g
      obtain ⟨hx0a, hx0b, hx0c⟩ := two_facts hx0
      obtain ⟨hx0f, hx0g⟩ := two_frozen hx0
      clear hx1a hx1b hx1c hx1f hx1g
      obtain ⟨hx1a, hx1b, hx1c⟩ := two_facts hx1
      obtain ⟨hx1f, hx1g⟩ := two_frozen hx1
      clear hx2a hx2b hx2c hx2f hx2g
      obtain ⟨hx2a, hx2b, hx2c⟩ := two_facts hx2
      obtain ⟨hx2f, hx2g⟩ := two_frozen hx2
      clear hb1 hb0
      go_wp2_with fail
      refine (hk _).mono ?_; rintro e w2 ⟨rfl, hb2⟩
      have hbw2 := nx hbw1 hb2
      replace hx0 := heap_keep hb2 hx0
      replace hx1 := heap_keep hb2 hx1
      replace hx2 := heap_keep hb2 hx2
      clear hx0a hx0b hx0c hx0f hx0g
      obtain ⟨hx0a, hx0b, hx0c⟩ := two_facts hx0
      obtain ⟨hx0f, hx0g⟩ := two_frozen hx0
      clear hx1a hx1b hx1c hx1f hx1g
      obtain ⟨hx1a, hx1b, hx1c⟩ := two_facts hx1
      obtain ⟨hx1f, hx1g⟩ := two_frozen hx1
      clear hx2a hx2b hx2c hx2f hx2g
      obtain ⟨hx2a, hx2b, hx2c⟩ := two_facts hx2
      obtain ⟨hx2f, hx2g⟩ := two_frozen hx2
      clear hb2 hbw1
      go_wp2_with fail
      refine (hV _).mono ?_; rintro e w3 ⟨rfl, hb3⟩
      have hbw3 := nx hbw2 hb3
      replace hx0 := heap_keep hb3 hx0
      replace hx1 := heap_keep hb3 hx1
      replace hx2 := heap_keep hb3 hx2
      clear hx0a hx0b hx0c hx0f hx0g
      obtain ⟨hx0a, hx0b, hx0c⟩ := two_facts hx0
      obtain ⟨hx0f, hx0g⟩ := two_frozen hx0
      clear hx1a hx1b hx1c hx1f hx1g
      obtain ⟨hx1a, hx1b, hx1c⟩ := two_facts hx1
      obtain ⟨hx1f, hx1g⟩ := two_frozen hx1
      clear hx2a hx2b hx2c hx2f hx2g
      obtain ⟨hx2a, hx2b, hx2c⟩ := two_facts hx2
      obtain ⟨hx2f, hx2g⟩ := two_frozen hx2
      clear hb3 hbw2
      go_wp2_with fail
      refine (hI _).mono ?_; rintro e w4 ⟨rfl, hb4⟩
      have hbw4 := nx hbw3 hb4
      replace hx0 := heap_keep hb4 hx0
      replace hx1 := heap_keep hb4 hx1
      replace hx2 := heap_keep hb4 hx2
      clear hx0a hx0b hx0c hx0f hx0g
      obtain ⟨hx0a, hx0b, hx0c⟩ := two_facts hx0
      obtain ⟨hx0f, hx0g⟩ := two_frozen hx0
      clear hx1a hx1b hx1c hx1f hx1g
      obtain ⟨hx1a, hx1b, hx1c⟩ := two_facts hx1
      obtain ⟨hx1f, hx1g⟩ := two_frozen hx1
      clear hx2a hx2b hx2c hx2f hx2g
      obtain ⟨hx2a, hx2b, hx2c⟩ := two_facts hx2
      obtain ⟨hx2f, hx2g⟩ := two_frozen hx2
      clear hb4 hbw3
      go_wp2_with fail
      obtain ⟨q1, q2⟩ := two_cells (set_two (.int .i64 y1) (.int .i64 y2) hx2)
      refine bodyPost_ret (v := .tuple #[.agg #[.int .i64 y1, .int .i64 y2], .bool ok]) (by simp [q1, q2, results, Try.results15, go_sem]) rfl ⟨rfl, ?_⟩
      exact (hbw4.setCell (by show w.heap.size ≤ w.heap.size + 1 + 1; omega) _).setCell (by show w.heap.size ≤ w.heap.size + 1 + 1; omega) _

set_option maxRecDepth 100000 in
set_option maxHeartbeats 1000000 in
theorem fnExactValueOf_walk (a0 : ByteArray) (ha0 : a0.size ≤ maxLen) (b0 : ByteArray) (hb0 : b0.size ≤ maxLen) (n1 : Int) (hn1 : (Lit.int .i64 n1).wf = true) (d1 : Int) (hd1 : (Lit.int .i64 d1).wf = true) (w : World) :
    Calls Try.prog 4 #[.agg #[.string a0, .string b0], .agg #[.int .i64 n1, .int .i64 d1]] w fun e w' => e = .returned (.bool true) ∧ Below w.heap.size w w' := by
  unfold maxLen at ha0 hb0
  obtain ⟨lon1, hin1⟩ := i64_bounds hn1
  obtain ⟨lod1, hid1⟩ := i64_bounds hd1
  have hsz0 := fun w => szPair_any a0 b0 w (by omega) (by omega) 1048576 (by omega) (by omega)
  by_cases hz0 : (a0.size : Int) + b0.size ≤ 1048576
  rotate_left
  · simp only [if_neg hz0] at hsz0
    go_enter Try.func4, Try.ntmps4
    go_wp2_with fail
    have hb0 : Below w.heap.size w ((w.alloc (.cells #[.string a0, .string b0] 30 (0, 0))).alloc (.cells #[.int .i64 n1, .int .i64 d1] 23 (0, 0))) := nxAlloc (nxAlloc (Below.refl _ _) _) _
    have hx0 := heap_keep (nxAlloc (Below.refl _ _) (.cells #[.int .i64 n1, .int .i64 d1] 23 (0, 0))) (heap_alloc_at w (.cells #[.string a0, .string b0] 30 (0, 0)))
    have hx1 := heap_alloc_at (w.alloc (.cells #[.string a0, .string b0] 30 (0, 0))) (.cells #[.int .i64 n1, .int .i64 d1] 23 (0, 0))
    generalize ((w.alloc (.cells #[.string a0, .string b0] 30 (0, 0))).alloc (.cells #[.int .i64 n1, .int .i64 d1] 23 (0, 0))) = w0 at *
    have e1 : (w.alloc (.cells #[.string a0, .string b0] 30 (0, 0))).heap.size = w.heap.size + 1 := by simp
    rw [e1] at hx1
    clear e1
    obtain ⟨ka0, kb0, kc0⟩ := two_facts hx0
    obtain ⟨ka1, kb1, kc1⟩ := two_facts hx1
    refine (hsz0 _).mono ?_; rintro e w1 ⟨rfl, hb1⟩
    have hbw1 := nx hb0 hb1
    replace hx0 := heap_keep hb1 hx0
    clear ka0 kb0 kc0
    obtain ⟨ka0, kb0, kc0⟩ := two_facts hx0
    replace hx1 := heap_keep hb1 hx1
    clear ka1 kb1 kc1
    obtain ⟨ka1, kb1, kc1⟩ := two_facts hx1
    clear hb1 hb0
    go_wp2_with fail
    go_ret
    exact ⟨rfl, hbw1⟩
  simp only [if_pos hz0] at hsz0
  have hS := fun w => specValueOf_any a0 b0 n1 d1 w (by omega) (by omega) lon1 hin1 lod1 hid1
  have hI := fun w => implValueOf_any a0 b0 n1 d1 w (by omega) (by omega) lon1 hin1 lod1 hid1
  have hS' : ∀ w, Calls Try.prog 15 #[.agg #[.string a0, .string b0], .agg #[.int .i64 n1, .int .i64 d1]] w (Gives (ansF (valueO a0 b0 n1 d1)) w) := hS
  have hI' : ∀ w, Calls Try.prog 17 #[.agg #[.string a0, .string b0], .agg #[.int .i64 n1, .int .i64 d1]] w (Gives (ansF (valueO a0 b0 n1 d1)) w) := hI
  clear hS hI
  generalize (valueO a0 b0 n1 d1) = o at hS' hI'
  unfold ansF at hS' hI'
  generalize fS1 o = A at hS' hI'
  generalize fS2 o = B at hS' hI'
  generalize o.isSome = ok at hS' hI'
  clear o
  go_enter Try.func4, Try.ntmps4
  go_wp2_with fail
  have hb0 : Below w.heap.size w ((w.alloc (.cells #[.string a0, .string b0] 30 (0, 0))).alloc (.cells #[.int .i64 n1, .int .i64 d1] 23 (0, 0))) := nxAlloc (nxAlloc (Below.refl _ _) _) _
  have hx0 := heap_keep (nxAlloc (Below.refl _ _) (.cells #[.int .i64 n1, .int .i64 d1] 23 (0, 0))) (heap_alloc_at w (.cells #[.string a0, .string b0] 30 (0, 0)))
  have hx1 := heap_alloc_at (w.alloc (.cells #[.string a0, .string b0] 30 (0, 0))) (.cells #[.int .i64 n1, .int .i64 d1] 23 (0, 0))
  generalize ((w.alloc (.cells #[.string a0, .string b0] 30 (0, 0))).alloc (.cells #[.int .i64 n1, .int .i64 d1] 23 (0, 0))) = w0 at *
  have e1 : (w.alloc (.cells #[.string a0, .string b0] 30 (0, 0))).heap.size = w.heap.size + 1 := by simp
  rw [e1] at hx1
  clear e1
  obtain ⟨ka0, kb0, kc0⟩ := two_facts hx0
  obtain ⟨ka1, kb1, kc1⟩ := two_facts hx1
  refine (hsz0 _).mono ?_; rintro e w1 ⟨rfl, hb1⟩
  have hbw1 := nx hb0 hb1
  replace hx0 := heap_keep hb1 hx0
  clear ka0 kb0 kc0
  obtain ⟨ka0, kb0, kc0⟩ := two_facts hx0
  replace hx1 := heap_keep hb1 hx1
  clear ka1 kb1 kc1
  obtain ⟨ka1, kb1, kc1⟩ := two_facts hx1
  clear hb1 hb0
  go_wp2_with fail
  refine wp_region_floatP 6 8 #[true, true, true, true, true, true, false, false, false, false, false] _ (.cells #[.int .i64 0, .int .i64 0] 26 (0, 0)) (by kernel_rfl) (by kernel_rfl) rfl (fun _ => rfl) (fun _ _ => rfl) ?_
  simp only [List.take_succ_cons, List.take_zero, List.drop_succ_cons, List.drop_zero, Nat.reduceSub]
  repeat (
    refine wpQuietR_step (fun K hK => ?_)
    go_simp
    first
      | (refine hK _ ?_; clear hK K)
      | (refine ⟨_, fun _ _ => rfl, hK _ ?_⟩; clear hK K)
      | (apply Exists.intro
         refine ⟨fun w' hw' => ?_, hK _ ?_⟩
         · first
             | (go_at_call 16; exact callR (toPair_any a0 b0 _))
             | (go_at_call 12; exact callR (toFraction_any n1 d1 _))
             | (go_at_call 15; exact callR (hS' _))
             | (rw [hw'.cell kc0 ka0]; dsimp only [Result.andThen]; rw [hw'.cell kc0 kb0]; exact ⟨rfl, rfl⟩)
             | (rw [hw'.cell kc1 ka1]; dsimp only [Result.andThen]; rw [hw'.cell kc1 kb1]; exact ⟨rfl, rfl⟩)
         clear hK K))
  refine wpQuietR_nil ?_
  repeat (refine wpPure_step (fun K hK => ?_); go_simp; first | (refine hK _ ?_; clear hK K) | (refine ⟨_, fun _ => rfl, hK _ ?_⟩; clear hK K))
  refine wpPure_nil ?_
  intro g0 w' hw' hx hg
  dsimp only [ptrV]
  obtain ⟨xa, xb, xc⟩ := two_facts hx
  obtain ⟨xf, xg⟩ := two_frozen hx
  refine only_hide (fun K hK => ?_)
  have HK := Lib.hid hK
  clear hK
  go_wp2_with fail
  refine HK.out _ _ ?_
  clear HK K xa xb xc xf xg
  have hB : Below w1.heap.size w1 ((w'.setCell ⟨g0, 0, none⟩ (.int .i64 A)).setCell ⟨g0, 1, none⟩ (.int .i64 B)) := (Below.setCell hw' hg _).setCell hg _
  have hy0 := set_two (.int .i64 A) (.int .i64 B) hx
  have hbw2 := nx hbw1 hB
  replace hx0 := heap_keep hB hx0
  clear ka0 kb0 kc0
  replace hx1 := heap_keep hB hx1
  clear ka1 kb1 kc1
  clear hB hbw1
  generalize (w'.setCell ⟨g0, 0, none⟩ (.int .i64 A)).setCell ⟨g0, 1, none⟩ (.int .i64 B) = w2 at *
  clear hw' hx hg w'
  obtain ⟨ka0, kb0, kc0⟩ := two_facts hx0
  obtain ⟨ka1, kb1, kc1⟩ := two_facts hx1
  obtain ⟨hy0a, hy0b, hy0c⟩ := two_facts hy0
  go_wp2_with fail
  refine wp_region_floatP 6 8 #[true, true, true, true, true, true, false, false, false, false, false] _ (.cells #[.int .i64 0, .int .i64 0] 26 (0, 0)) (by kernel_rfl) (by kernel_rfl) rfl (fun _ => rfl) (fun _ _ => rfl) ?_
  simp only [List.take_succ_cons, List.take_zero, List.drop_succ_cons, List.drop_zero, Nat.reduceSub]
  repeat (
    refine wpQuietR_step (fun K hK => ?_)
    go_simp
    first
      | (refine hK _ ?_; clear hK K)
      | (refine ⟨_, fun _ _ => rfl, hK _ ?_⟩; clear hK K)
      | (apply Exists.intro
         refine ⟨fun w' hw' => ?_, hK _ ?_⟩
         · first
             | (go_at_call 16; exact callR (toPair_any a0 b0 _))
             | (go_at_call 12; exact callR (toFraction_any n1 d1 _))
             | (go_at_call 17; exact callR (hI' _))
             | (rw [hw'.cell kc0 ka0]; dsimp only [Result.andThen]; rw [hw'.cell kc0 kb0]; exact ⟨rfl, rfl⟩)
             | (rw [hw'.cell kc1 ka1]; dsimp only [Result.andThen]; rw [hw'.cell kc1 kb1]; exact ⟨rfl, rfl⟩)
         clear hK K))
  refine wpQuietR_nil ?_
  repeat (refine wpPure_step (fun K hK => ?_); go_simp; first | (refine hK _ ?_; clear hK K) | (refine ⟨_, fun _ => rfl, hK _ ?_⟩; clear hK K))
  refine wpPure_nil ?_
  intro g1 w' hw' hx hg
  dsimp only [ptrV]
  obtain ⟨xa, xb, xc⟩ := two_facts hx
  obtain ⟨xf, xg⟩ := two_frozen hx
  refine only_hide (fun K hK => ?_)
  have HK := Lib.hid hK
  clear hK
  go_wp2_with fail
  refine HK.out _ _ ?_
  clear HK K xa xb xc xf xg
  have hB : Below w2.heap.size w2 ((w'.setCell ⟨g1, 0, none⟩ (.int .i64 A)).setCell ⟨g1, 1, none⟩ (.int .i64 B)) := (Below.setCell hw' hg _).setCell hg _
  have hy1 := set_two (.int .i64 A) (.int .i64 B) hx
  have hbw3 := nx hbw2 hB
  replace hx0 := heap_keep hB hx0
  clear ka0 kb0 kc0
  replace hx1 := heap_keep hB hx1
  clear ka1 kb1 kc1
  replace hy0 := heap_keep hB hy0
  clear hy0a hy0b hy0c
  clear hB hbw2
  generalize (w'.setCell ⟨g1, 0, none⟩ (.int .i64 A)).setCell ⟨g1, 1, none⟩ (.int .i64 B) = w3 at *
  clear hw' hx hg w'
  obtain ⟨ka0, kb0, kc0⟩ := two_facts hx0
  obtain ⟨ka1, kb1, kc1⟩ := two_facts hx1
  obtain ⟨hy0a, hy0b, hy0c⟩ := two_facts hy0
  obtain ⟨hy1a, hy1b, hy1c⟩ := two_facts hy1
  go_wp2_with fail
  refine (eqFraction_same A B _).mono ?_; rintro e wz ⟨rfl, hbz⟩
  go_wp2_with fail
  go_ret
  exact ⟨rfl, nx hbw3 hbz⟩
end Go.Proofs.Ytdhjchibhlcchaa

/-! LFnExactValueOf -/
namespace Go.Proofs.Ytdhjchibhlcchaa.fnExactValueOf
open Go.ChangeShapes Go.WideShapes Go.ChangeAt Go.RowKit
open Go.ChangeMaps (open_string shut_string)
open Go.Joins (open_agg2 shut_agg2)
set_option linter.unusedVariables false

theorem cellsPair : Try.prog.cellsOf 30 = 2 := by kernel_rfl
theorem cellsFrac : Try.prog.cellsOf 23 = 2 := by kernel_rfl
theorem own : ownKnob Try.prog.godebug = none := by kernel_rfl
theorem laidOut : laidOutB Try.prog = true := by kernel_rfl

set_option maxRecDepth 100000 in
theorem lifted (os : Os) (started : os.Started) (H : Type) (enc : TypeId × Value → H) :
    ReturnsInHanded {} Try.checked os 4 .any (Rows.fnExactValueOfSpec.pre6 enc Try.prog Try.f4 Rows.fnExactValueOfRow.domain false) (Rows.fnExactValueOfSpec.post enc Try.prog Try.f4 false true false false) := by
  refine returnsInHanded_of_change (C := Try.checked) own started (by kernel_rfl) Try.func4
    (ChangeSpec.witness6 (enc := enc) (C := Try.checked) false ⟨#[], #[.agg #[.string ByteArray.empty, .string ByteArray.empty], .agg #[.int .i64 0, .int .i64 0]], []⟩ 8 (by kernel_rfl) (by kernel_rfl) (by kernel_rfl) (by kernel_rfl)) ?_
  intro W base args ds gs before hval0 hW hcnd _
  have hval : ∀ (j : Nat) t v, Try.f4.params[j]? = some t → args[j]? = some v → Value.okWide Try.prog W .any base t v := hval0
  have hW' := hW
  obtain ⟨p, q, hA0, hV, rfl, hfz, hnd⟩ := hW
  have hA : DataW.TrodAll enc Try.prog W 0 (fun _ => true) true Try.f4.params.toList args.toList ds p := hA0
  rw [Try.params4] at hA hval
  obtain ⟨v0, vs0, d0, ds0, p0, q0, hargs, rfl, rfl, h0, r0⟩ := trodAll_cons hA
  obtain ⟨v1, vs1, d1, ds1, p1, q1, rfl, rfl, rfl, h1, r1⟩ := trodAll_cons r0
  obtain ⟨rfl, rfl, rfl⟩ := trodAll_nil r1
  obtain rfl : args = #[v0, v1] := by cases args; simp_all
  obtain ⟨rfl, rfl⟩ := trodVars_none hV
  obtain ⟨c0a, c0b, y0a, y0b, m0, rfl, rfl, rfl, hy0a, hy0b⟩ := open_agg2 Try.underlying30 (by kernel_rfl) cellsPair (hval 0 30 v0 rfl rfl) h0
  obtain ⟨a0a, e0a, rfl, w0a⟩ := DataW.trod_string Try.underlying9 hy0a
  obtain ⟨a0b, e0b, rfl, w0b⟩ := DataW.trod_string Try.underlying9 hy0b
  simp at e0a e0b
  subst e0a e0b
  obtain ⟨c1a, c1b, y1a, y1b, m1, rfl, rfl, rfl, hy1a, hy1b⟩ := open_agg2 Try.underlying23 (by kernel_rfl) cellsFrac (hval 1 23 v1 rfl rfl) h1
  obtain ⟨a1a, e1a, rfl, w1a⟩ := DataW.trod_int Try.underlying3 hy1a
  obtain ⟨a1b, e1b, rfl, w1b⟩ := DataW.trod_int Try.underlying3 hy1b
  simp at e1a e1b
  subst e1a e1b
  clear hA0 hval0
  simp only [List.append_nil] at hW'
  refine (fnExactValueOf_walk a0a w0a a0b w0b a1a w1a a1b w1b W).mono fun e W' ⟨he, bel⟩ => ?_
  subst he
  exact ⟨_, rfl, _, _, _, [], _, [], hW', trodAll_mk1 (shut_bool Try.underlying4 _), (trodAll_cons_mk (shut_agg2 (y0 := (.lit (.string a0a.data.toList), [])) (y1 := (.lit (.string a0b.data.toList), [])) Try.underlying30 (by kernel_rfl) cellsPair (Go.Deep.shut_string_cell Try.underlying9 w0a) (Go.Deep.shut_string_cell Try.underlying9 w0b)) (trodAll_cons_mk (shut_agg2 (y0 := (.lit (.int .i64 a1a), [])) (y1 := (.lit (.int .i64 a1b), [])) Try.underlying23 (by kernel_rfl) cellsFrac ⟨1, trod_int_mk 0 Try.underlying3 w1a⟩ ⟨1, trod_int_mk 0 Try.underlying3 w1b⟩) trodAll_mk0)), rfl, bel.frame _, fun h => by cases h⟩

theorem over : Rows.fnExactValueOfRow.holds Try.pinned (OpenSpec.ofChange Rows.fnExactValueOfSpec) :=
  OpenClaim.holds_of_wide 4 Try.f4 rfl rfl rfl rfl rfl rfl rfl ⟨rfl, rfl, rfl, rfl, rfl⟩ rfl rfl rfl rfl rfl (by kernel_rfl) Try.func4 (by kernel_rfl)
    (of_decide_eq_true (by kernel_rfl)) (by unfold Func.isWrapper; first | (rw [if_pos (by decide +kernel)]; kernel_rfl) | (rw [if_neg (by decide +kernel)]; exact ⟨rfl, rfl⟩))
    (fun os started H enc _ => lifted os started H enc)

theorem proved : Rows.FnExactValueOfSaid := over
#print axioms proved
end Go.Proofs.Ytdhjchibhlcchaa.fnExactValueOf
