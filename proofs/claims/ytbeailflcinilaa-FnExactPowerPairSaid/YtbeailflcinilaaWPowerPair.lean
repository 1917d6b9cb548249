/- The walk of laws.FnExactPowerPair. -/
import Derived.Test.YtbeailflcinilaaUnit
import Derived.Test.YtbeailflcinilaaInv
import Derived.Test.YtbeailflcinilaaProdC
namespace Go.Proofs.Ytbeailflcinilaa
open Go.RowKit

/-! Powers. -/

set_option maxRecDepth 100000 in
set_option maxHeartbeats 4000000 in
theorem specPowerPair_any (a b : ByteArray) (n : Int) (w : World) (ha : a.size ≤ 9223372036854775806) (hb : b.size ≤ 9223372036854775806) (lo : -9223372036854775808 ≤ n) (hi : n ≤ 9223372036854775807) :
    Calls Try.prog 40 #[.agg #[.string a, .string b], .int .i64 n] w (Gives (ansPr ((pairOf a b).bind fun p => powP p n)) w) := by
  have hg := fun w => prGood_any a b w ha hb
  cases h : pairOf a b with
  | none =>
    rw [h] at hg
    clear h
    go_enter Try.func40, Try.ntmps40
    go_wp2_with fail
    have hb0 : Below w.heap.size w ((w.alloc (.cells #[.string a, .string b] 35 (0, 0))).alloc (.cells #[.string ⟨#[]⟩, .string ⟨#[]⟩] 35 (0, 0))) := nxAlloc (nxAlloc (Below.refl _ _) _) _
    have hx0 := heap_keep (nxAlloc (Below.refl _ _) (.cells #[.string ⟨#[]⟩, .string ⟨#[]⟩] 35 (0, 0))) (heap_alloc_at w (.cells #[.string a, .string b] 35 (0, 0)))
    have hx1 := heap_alloc_at (w.alloc (.cells #[.string a, .string b] 35 (0, 0))) (.cells #[.string ⟨#[]⟩, .string ⟨#[]⟩] 35 (0, 0))
    generalize ((w.alloc (.cells #[.string a, .string b] 35 (0, 0))).alloc (.cells #[.string ⟨#[]⟩, .string ⟨#[]⟩] 35 (0, 0))) = w0 at *
    have e1 : (w.alloc (.cells #[.string a, .string b] 35 (0, 0))).heap.size = w.heap.size + 1 := by simp
    rw [e1] at hx1
    clear e1
    obtain ⟨hx0a, hx0b, hx0c⟩ := two_facts hx0
    obtain ⟨hx0f, hx0g⟩ := two_frozen hx0
    obtain ⟨hx1a, hx1b, hx1c⟩ := two_facts hx1
    obtain ⟨hx1f, hx1g⟩ := two_frozen hx1
    refine (hg _).mono ?_; rintro e w1 ⟨rfl, hb1⟩
    have hbw1 := nx hb0 hb1
    replace hx0 := heap_keep hb1 hx0
    replace hx1 := heap_keep hb1 hx1
    clear hx0a hx0b hx0c hx0f hx0g
    obtain ⟨hx0a, hx0b, hx0c⟩ := two_facts hx0
    obtain ⟨hx0f, hx0g⟩ := two_frozen hx0
    clear hx1a hx1b hx1c hx1f hx1g
    obtain ⟨hx1a, hx1b, hx1c⟩ := two_facts hx1
    obtain ⟨hx1f, hx1g⟩ := two_frozen hx1
    clear hb1 hb0
    go_wp2_with fail
    obtain ⟨q1, q2⟩ := two_cells (set_two (.string ⟨#[]⟩) (.string ⟨#[]⟩) hx1)
    refine bodyPost_ret (v := .tuple #[.agg #[.string ⟨#[]⟩, .string ⟨#[]⟩], .bool false]) (by simp [q1, q2, results, Try.results40, go_sem]) rfl ⟨rfl, ?_⟩
    exact (hbw1.setCell (by show w.heap.size ≤ w.heap.size + 1; omega) _).setCell (by show w.heap.size ≤ w.heap.size + 1; omega) _
  | some p =>
    rw [h] at hg
    obtain ⟨rfl, rfl, hok, hc1, hc2⟩ := pairOf_some h
    clear h
    show Calls _ _ _ _ (Gives (ansPr (powP p n)) w)
    unfold powP
    by_cases hn : -10 ≤ n ∧ n ≤ 10
    rotate_left
    · rw [if_neg hn]
      have I := fun w => l1In_no n (-10) 10 w (by omega)
      clear hn
      go_enter Try.func40, Try.ntmps40
      go_wp2_with fail
      have hb0 : Below w.heap.size w ((w.alloc (.cells #[.string p.1.str, .string p.2.str] 35 (0, 0))).alloc (.cells #[.string ⟨#[]⟩, .string ⟨#[]⟩] 35 (0, 0))) := nxAlloc (nxAlloc (Below.refl _ _) _) _
      have hx0 := heap_keep (nxAlloc (Below.refl _ _) (.cells #[.string ⟨#[]⟩, .string ⟨#[]⟩] 35 (0, 0))) (heap_alloc_at w (.cells #[.string p.1.str, .string p.2.str] 35 (0, 0)))
      have hx1 := heap_alloc_at (w.alloc (.cells #[.string p.1.str, .string p.2.str] 35 (0, 0))) (.cells #[.string ⟨#[]⟩, .string ⟨#[]⟩] 35 (0, 0))
      generalize ((w.alloc (.cells #[.string p.1.str, .string p.2.str] 35 (0, 0))).alloc (.cells #[.string ⟨#[]⟩, .string ⟨#[]⟩] 35 (0, 0))) = w0 at *
      have e1 : (w.alloc (.cells #[.string p.1.str, .string p.2.str] 35 (0, 0))).heap.size = w.heap.size + 1 := by simp
      rw [e1] at hx1
      clear e1
      obtain ⟨hx0a, hx0b, hx0c⟩ := two_facts hx0
      obtain ⟨hx0f, hx0g⟩ := two_frozen hx0
      obtain ⟨hx1a, hx1b, hx1c⟩ := two_facts hx1
      obtain ⟨hx1f, hx1g⟩ := two_frozen hx1
      refine (hg _).mono ?_; rintro e w1 ⟨rfl, hb1⟩
      have hbw1 := nx hb0 hb1
      replace hx0 := heap_keep hb1 hx0
      replace hx1 := heap_keep hb1 hx1
      clear hx0a hx0b hx0c hx0f hx0g
      obtain ⟨hx0a, hx0b, hx0c⟩ := two_facts hx0
      obtain ⟨hx0f, hx0g⟩ := two_frozen hx0
      clear hx1a hx1b hx1c hx1f hx1g
      obtain ⟨hx1a, hx1b, hx1c⟩ := two_facts hx1
      obtain ⟨hx1f, hx1g⟩ := two_frozen hx1
      clear hb1 hb0
      go_wp2_with fail
      refine (I _).mono ?_; rintro e wc ⟨rfl, rfl⟩
      go_wp2_with fail
      obtain ⟨q1, q2⟩ := two_cells (set_two (.string ⟨#[]⟩) (.string ⟨#[]⟩) hx1)
      refine bodyPost_ret (v := .tuple #[.agg #[.string ⟨#[]⟩, .string ⟨#[]⟩], .bool false]) (by simp [q1, q2, results, Try.results40, go_sem]) rfl ⟨rfl, ?_⟩
      exact (hbw1.setCell (by show w.heap.size ≤ w.heap.size + 1; omega) _).setCell (by show w.heap.size ≤ w.heap.size + 1; omega) _
    rw [if_pos hn]
    obtain ⟨hn1, hn2⟩ := hn
    have hok' : p.1.carets = p.2.carets := hok
    have I := fun w => l1In_yes n (-10) 10 w hn1 hn2
    by_cases hneg : n < 0
    · rw [if_pos hneg]
      obtain ⟨K, rfl⟩ : ∃ K : Nat, n = -(K : Int) := ⟨(-n).toNat, by omega⟩
      have eK : (-(-(K : Int))).toNat = K := by omega
      rw [eK]
      have hbok : okP (invP p) := hok.symm
      have hbc : (invP p).1.carets ≤ 8 := hc2
      clear eK
      go_enter Try.func40, Try.ntmps40
      go_wp2_with fail
      have hb0 : Below w.heap.size w ((w.alloc (.cells #[.string p.1.str, .string p.2.str] 35 (0, 0))).alloc (.cells #[.string ⟨#[]⟩, .string ⟨#[]⟩] 35 (0, 0))) := nxAlloc (nxAlloc (Below.refl _ _) _) _
      have hx0 := heap_keep (nxAlloc (Below.refl _ _) (.cells #[.string ⟨#[]⟩, .string ⟨#[]⟩] 35 (0, 0))) (heap_alloc_at w (.cells #[.string p.1.str, .string p.2.str] 35 (0, 0)))
      have hx1 := heap_alloc_at (w.alloc (.cells #[.string p.1.str, .string p.2.str] 35 (0, 0))) (.cells #[.string ⟨#[]⟩, .string ⟨#[]⟩] 35 (0, 0))
      generalize ((w.alloc (.cells #[.string p.1.str, .string p.2.str] 35 (0, 0))).alloc (.cells #[.string ⟨#[]⟩, .string ⟨#[]⟩] 35 (0, 0))) = w0 at *
      have e1 : (w.alloc (.cells #[.string p.1.str, .string p.2.str] 35 (0, 0))).heap.size = w.heap.size + 1 := by simp
      rw [e1] at hx1
      clear e1
      obtain ⟨hx0a, hx0b, hx0c⟩ := two_facts hx0
      obtain ⟨hx0f, hx0g⟩ := two_frozen hx0
      obtain ⟨hx1a, hx1b, hx1c⟩ := two_facts hx1
      obtain ⟨hx1f, hx1g⟩ := two_frozen hx1
      refine (hg _).mono ?_; rintro e w1 ⟨rfl, hb1⟩
      have hbw1 := nx hb0 hb1
      replace hx0 := heap_keep hb1 hx0
      replace hx1 := heap_keep hb1 hx1
      clear hx0a hx0b hx0c hx0f hx0g
      obtain ⟨hx0a, hx0b, hx0c⟩ := two_facts hx0
      obtain ⟨hx0f, hx0g⟩ := two_frozen hx0
      clear hx1a hx1b hx1c hx1f hx1g
      obtain ⟨hx1a, hx1b, hx1c⟩ := two_facts hx1
      obtain ⟨hx1f, hx1g⟩ := two_frozen hx1
      clear hb1 hb0
      go_wp2_with fail
      refine (I _).mono ?_; rintro e wc ⟨rfl, rfl⟩
      go_wp2_with fail
      refine (prInverse_any _ _ _).mono ?_; rintro e w2 ⟨rfl, hb2⟩
      have hbw2 := nx hbw1 hb2
      replace hx0 := heap_keep hb2 hx0
      replace hx1 := heap_keep hb2 hx1
      clear hx0a hx0b hx0c hx0f hx0g
      obtain ⟨hx0a, hx0b, hx0c⟩ := two_facts hx0
      obtain ⟨hx0f, hx0g⟩ := two_frozen hx0
      clear hx1a hx1b hx1c hx1f hx1g
      obtain ⟨hx1a, hx1b, hx1c⟩ := two_facts hx1
      obtain ⟨hx1f, hx1g⟩ := two_frozen hx1
      clear hb2 hbw1
      go_wp2_with fail
      have hs0 := set_two (.string p.2.str) (.string p.1.str) hx0
      have hs1 := (Below.heap_setCell (w2.setCell ⟨w.heap.size, 0, none⟩ (.string p.2.str)) ⟨w.heap.size, 1, none⟩ (.string p.1.str) (w.heap.size + 1) (by show ¬ w.heap.size + 1 = w.heap.size; omega)).trans ((Below.heap_setCell w2 ⟨w.heap.size, 0, none⟩ (.string p.2.str) (w.heap.size + 1) (by show ¬ w.heap.size + 1 = w.heap.size; omega)).trans hx1)
      have hbs := (hbw2.setCell (p := ⟨w.heap.size, 0, none⟩) (Nat.le_refl _) (.string p.2.str)).setCell (p := ⟨w.heap.size, 1, none⟩) (Nat.le_refl _) (.string p.1.str)
      generalize (w2.setCell ⟨w.heap.size, 0, none⟩ (.string p.2.str)).setCell ⟨w.heap.size, 1, none⟩ (.string p.1.str) = ws at *
      clear hx0a hx0b hx0c hx0f hx0g hx1a hx1b hx1c hx1f hx1g hx0 hx1 hbw2
      have hx0 := hs0
      have hx1 := hs1
      clear hs0 hs1
      obtain ⟨hx0a, hx0b, hx0c⟩ := two_facts hx0
      obtain ⟨hx0f, hx0g⟩ := two_frozen hx0
      obtain ⟨hx1a, hx1b, hx1c⟩ := two_facts hx1
      obtain ⟨hx1f, hx1g⟩ := two_frozen hx1
      replace hx0 : ws.heap[w.heap.size]? = some (.cells #[.string (invP p).1.str, .string (invP p).2.str] 35 (0, 0)) := hx0
      generalize invP p = b at *
      refine (prUnit_any _).mono ?_; rintro e wu ⟨rfl, hbu⟩
      have hbwu := nx hbs hbu
      replace hx0 := heap_keep hbu hx0
      replace hx1 := heap_keep hbu hx1
      clear hx0a hx0b hx0c hx0f hx0g
      obtain ⟨hx0a, hx0b, hx0c⟩ := two_facts hx0
      obtain ⟨hx0f, hx0g⟩ := two_frozen hx0
      clear hx1a hx1b hx1c hx1f hx1g
      obtain ⟨hx1a, hx1b, hx1c⟩ := two_facts hx1
      obtain ⟨hx1f, hx1g⟩ := two_frozen hx1
      clear hbu hbs
      go_wp2_with fail
      have hlow : w.heap.size + 1 < wu.heap.size := hx1c
      have hbwv := nxAlloc hbwu (.cells #[.string Tr.lf.str, .string Tr.lf.str] 35 (0, 0))
      replace hx0 := heap_keep (nxAlloc (Below.refl _ _) (.cells #[.string Tr.lf.str, .string Tr.lf.str] 35 (0, 0))) hx0
      replace hx1 := heap_keep (nxAlloc (Below.refl _ _) (.cells #[.string Tr.lf.str, .string Tr.lf.str] 35 (0, 0))) hx1
      have hyv := heap_alloc_at wu (.cells #[.string Tr.lf.str, .string Tr.lf.str] 35 (0, 0))
      generalize wu.alloc (.cells #[.string Tr.lf.str, .string Tr.lf.str] 35 (0, 0)) = wv at *
      clear hbwu
      clear hx0a hx0b hx0c hx0f hx0g
      obtain ⟨hx0a, hx0b, hx0c⟩ := two_facts hx0
      obtain ⟨hx0f, hx0g⟩ := two_frozen hx0
      clear hx1a hx1b hx1c hx1f hx1g
      obtain ⟨hx1a, hx1b, hx1c⟩ := two_facts hx1
      obtain ⟨hx1f, hx1g⟩ := two_frozen hx1
      obtain ⟨hyva, hyvb, hyvc⟩ := two_facts hyv
      obtain ⟨hyvf, hyvg⟩ := two_frozen hyv
      generalize hG : wu.heap.size = G at *
      clear hG
      have hgO : w.heap.size + 1 < G := hlow
      go_loopw [1] (fun v wr => ∃ (o : Pr) (m : Nat), m ≤ K ∧ v = .int .i64 ((K - m : Nat) : Int) ∧ wr.heap[w.heap.size]? = some (.cells #[.string b.1.str, .string b.2.str] 35 (0, 0)) ∧ wr.heap[w.heap.size + 1]? = some (.cells #[.string ⟨#[]⟩, .string ⟨#[]⟩] 35 (0, 0)) ∧ wr.heap[G]? = some (.cells #[.string o.1.str, .string o.2.str] 35 (0, 0)) ∧ Below w.heap.size w wr ∧ G < wr.heap.size ∧ pwN b m = some o) (fun v _ => (intOf v).toNat)
      case atStart => exact ⟨unitP, 0, Nat.zero_le _, by simp, hx0, hx1, hyv, hbwv, hyvc, rfl⟩
      case round =>
        clear hx0a hx0b hx0c hx0f hx0g hx1a hx1b hx1c hx1f hx1g hyva hyvb hyvc hyvf hyvg hx0 hx1 hyv hbwv
        obtain ⟨o, m, hm, rfl, hx0, hx1, hx2, hbw, hgl, hpo⟩ := hrel
        obtain ⟨hoo, hoc⟩ := pwN_ok hbok hpo
        obtain ⟨hx0a, hx0b, hx0c⟩ := two_facts hx0
        obtain ⟨hx0f, hx0g⟩ := two_frozen hx0
        obtain ⟨hx1a, hx1b, hx1c⟩ := two_facts hx1
        obtain ⟨hx1f, hx1g⟩ := two_frozen hx1
        obtain ⟨hx2a, hx2b, hx2c⟩ := two_facts hx2
        obtain ⟨hx2f, hx2g⟩ := two_frozen hx2
        by_cases hlt : m < K
        · have hbc2 := hbc
          have hmo := mulP_ok hoo hbok
          have hlt' : (0 : Int) < ((K - m : Nat) : Int) := by omega
          have hmc := mulP_carets hoo hbok
          have hpn : pwN b (m + 1) = limP (mulP o b) := by rw [pwN, hpo]; rfl
          have T := fun w => prTimes_any o b w hoo hbok (by omega) (by unfold okP at hbok; omega)
          have C := fun w => carets_str (mulP o b).1 w (by unfold okP at *; omega)
          generalize mulP o b = M at *
          have HPO := Lib.hid hpo
          clear hpo
          go_wp2_with fail
          refine (T _).mono ?_; rintro e w101 ⟨rfl, hb101⟩
          have hbw101 := nx hbw hb101
          replace hx0 := heap_keep hb101 hx0
          replace hx1 := heap_keep hb101 hx1
          replace hx2 := heap_keep hb101 hx2
          clear hx0a hx0b hx0c hx0f hx0g
          obtain ⟨hx0a, hx0b, hx0c⟩ := two_facts hx0
          obtain ⟨hx0f, hx0g⟩ := two_frozen hx0
          clear hx1a hx1b hx1c hx1f hx1g
          obtain ⟨hx1a, hx1b, hx1c⟩ := two_facts hx1
          obtain ⟨hx1f, hx1g⟩ := two_frozen hx1
          clear hx2a hx2b hx2c hx2f hx2g
          obtain ⟨hx2a, hx2b, hx2c⟩ := two_facts hx2
          obtain ⟨hx2f, hx2g⟩ := two_frozen hx2
          clear hb101 hbw
          have hgl2 := hx2c
          go_wp2_with fail
          have hs2 := set_two (.string M.1.str) (.string M.2.str) hx2
          have hs0 := (Below.heap_setCell (w101.setCell ⟨G, 0, none⟩ (.string M.1.str)) ⟨G, 1, none⟩ (.string M.2.str) w.heap.size (by show ¬ w.heap.size = G; omega)).trans ((Below.heap_setCell w101 ⟨G, 0, none⟩ (.string M.1.str) w.heap.size (by show ¬ w.heap.size = G; omega)).trans hx0)
          have hs1 := (Below.heap_setCell (w101.setCell ⟨G, 0, none⟩ (.string M.1.str)) ⟨G, 1, none⟩ (.string M.2.str) (w.heap.size + 1) (by show ¬ w.heap.size + 1 = G; omega)).trans ((Below.heap_setCell w101 ⟨G, 0, none⟩ (.string M.1.str) (w.heap.size + 1) (by show ¬ w.heap.size + 1 = G; omega)).trans hx1)
          have hbs := (hbw101.setCell (p := ⟨G, 0, none⟩) (by show w.heap.size ≤ G; omega) (.string M.1.str)).setCell (p := ⟨G, 1, none⟩) (by show w.heap.size ≤ G; omega) (.string M.2.str)
          generalize (w101.setCell ⟨G, 0, none⟩ (.string M.1.str)).setCell ⟨G, 1, none⟩ (.string M.2.str) = ws at *
          clear hx0a hx0b hx0c hx0f hx0g hx1a hx1b hx1c hx1f hx1g hx2a hx2b hx2c hx2f hx2g hx0 hx1 hx2 hbw101
          obtain ⟨hs0a, hs0b, hs0c⟩ := two_facts hs0
          obtain ⟨hs0f, hs0g⟩ := two_frozen hs0
          obtain ⟨hs1a, hs1b, hs1c⟩ := two_facts hs1
          obtain ⟨hs1f, hs1g⟩ := two_frozen hs1
          obtain ⟨hs2a, hs2b, hs2c⟩ := two_facts hs2
          obtain ⟨hs2f, hs2g⟩ := two_frozen hs2
          refine (C _).mono ?_; rintro e wc ⟨rfl, rfl⟩
          by_cases h8 : M.1.carets ≤ 8
          · have h8' : ¬ (8 : Int) < (M.1.carets : Int) := by omega
            have hpm : pwN b (m + 1) = some M := by rw [hpn]; unfold limP; rw [if_pos h8]
            have HPM := Lib.hid hpm
            clear hpm hpn h8
            go_wp2_with fail
            go_roundw
            case rel => exact ⟨M, m + 1, by omega, by go_num, hs0, hs1, hs2, hbs, hs2c, HPM.out⟩
            case measure => simp [intOf]; omega
          · have h8' : (8 : Int) < (M.1.carets : Int) := by omega
            have hpm : pwN b (m + 1) = none := by rw [hpn]; unfold limP; rw [if_neg h8]
            have hN := pwN_none hpm K (by omega)
            have HN := Lib.hid hN
            clear hpm hpn hN h8
            go_wp2_with fail
            obtain ⟨q1, q2⟩ := two_cells (set_two (.string ⟨#[]⟩) (.string ⟨#[]⟩) hs1)
            refine bodyPost_ret (v := .tuple #[.agg #[.string ⟨#[]⟩, .string ⟨#[]⟩], .bool false]) (by simp [q1, q2, results, Try.results40, go_sem]) rfl ⟨by rw [HN.out]; rfl, ?_⟩
            exact (hbs.setCell (by show w.heap.size ≤ w.heap.size + 1; omega) _).setCell (by show w.heap.size ≤ w.heap.size + 1; omega) _
        · obtain rfl : m = K := by omega
          have hlt' : ¬ (0 : Int) < ((m - m : Nat) : Int) := by omega
          have HPO := Lib.hid hpo
          clear hpo hlt
          go_wp2_with fail
          obtain ⟨q1, q2⟩ := two_cells (set_two (.string o.1.str) (.string o.2.str) hx1)
          refine bodyPost_ret (v := .tuple #[.agg #[.string o.1.str, .string o.2.str], .bool true]) (by simp [q1, q2, results, Try.results40, go_sem]) rfl ⟨by rw [HPO.out]; rfl, ?_⟩
          exact (hbw.setCell (by show w.heap.size ≤ w.heap.size + 1; omega) _).setCell (by show w.heap.size ≤ w.heap.size + 1; omega) _
    · rw [if_neg hneg]
      obtain ⟨K, rfl⟩ : ∃ K : Nat, n = (K : Int) := ⟨n.toNat, by omega⟩
      have eK : ((K : Int)).toNat = K := by omega
      rw [eK]
      have hbok : okP p := hok
      have hbc : p.1.carets ≤ 8 := hc1
      clear eK
      go_enter Try.func40, Try.ntmps40
      go_wp2_with fail
      have hb0 : Below w.heap.size w ((w.alloc (.cells #[.string p.1.str, .string p.2.str] 35 (0, 0))).alloc (.cells #[.string ⟨#[]⟩, .string ⟨#[]⟩] 35 (0, 0))) := nxAlloc (nxAlloc (Below.refl _ _) _) _
      have hx0 := heap_keep (nxAlloc (Below.refl _ _) (.cells #[.string ⟨#[]⟩, .string ⟨#[]⟩] 35 (0, 0))) (heap_alloc_at w (.cells #[.string p.1.str, .string p.2.str] 35 (0, 0)))
      have hx1 := heap_alloc_at (w.alloc (.cells #[.string p.1.str, .string p.2.str] 35 (0, 0))) (.cells #[.string ⟨#[]⟩, .string ⟨#[]⟩] 35 (0, 0))
      generalize ((w.alloc (.cells #[.string p.1.str, .string p.2.str] 35 (0, 0))).alloc (.cells #[.string ⟨#[]⟩, .string ⟨#[]⟩] 35 (0, 0))) = w0 at *
      have e1 : (w.alloc (.cells #[.string p.1.str, .string p.2.str] 35 (0, 0))).heap.size = w.heap.size + 1 := by simp
      rw [e1] at hx1
      clear e1
      obtain ⟨hx0a, hx0b, hx0c⟩ := two_facts hx0
      obtain ⟨hx0f, hx0g⟩ := two_frozen hx0
      obtain ⟨hx1a, hx1b, hx1c⟩ := two_facts hx1
      obtain ⟨hx1f, hx1g⟩ := two_frozen hx1
      refine (hg _).mono ?_; rintro e w1 ⟨rfl, hb1⟩
      have hbw1 := nx hb0 hb1
      replace hx0 := heap_keep hb1 hx0
      replace hx1 := heap_keep hb1 hx1
      clear hx0a hx0b hx0c hx0f hx0g
      obtain ⟨hx0a, hx0b, hx0c⟩ := two_facts hx0
      obtain ⟨hx0f, hx0g⟩ := two_frozen hx0
      clear hx1a hx1b hx1c hx1f hx1g
      obtain ⟨hx1a, hx1b, hx1c⟩ := two_facts hx1
      obtain ⟨hx1f, hx1g⟩ := two_frozen hx1
      clear hb1 hb0
      go_wp2_with fail
      refine (I _).mono ?_; rintro e wc ⟨rfl, rfl⟩
      go_wp2_with fail
      generalize p = b at *
      refine (prUnit_any _).mono ?_; rintro e wu ⟨rfl, hbu⟩
      have hbwu := nx hbw1 hbu
      replace hx0 := heap_keep hbu hx0
      replace hx1 := heap_keep hbu hx1
      clear hx0a hx0b hx0c hx0f hx0g
      obtain ⟨hx0a, hx0b, hx0c⟩ := two_facts hx0
      obtain ⟨hx0f, hx0g⟩ := two_frozen hx0
      clear hx1a hx1b hx1c hx1f hx1g
      obtain ⟨hx1a, hx1b, hx1c⟩ := two_facts hx1
      obtain ⟨hx1f, hx1g⟩ := two_frozen hx1
      clear hbu hbw1
      go_wp2_with fail
      have hlow : w.heap.size + 1 < wu.heap.size := hx1c
      have hbwv := nxAlloc hbwu (.cells #[.string Tr.lf.str, .string Tr.lf.str] 35 (0, 0))
      replace hx0 := heap_keep (nxAlloc (Below.refl _ _) (.cells #[.string Tr.lf.str, .string Tr.lf.str] 35 (0, 0))) hx0
      replace hx1 := heap_keep (nxAlloc (Below.refl _ _) (.cells #[.string Tr.lf.str, .string Tr.lf.str] 35 (0, 0))) hx1
      have hyv := heap_alloc_at wu (.cells #[.string Tr.lf.str, .string Tr.lf.str] 35 (0, 0))
      generalize wu.alloc (.cells #[.string Tr.lf.str, .string Tr.lf.str] 35 (0, 0)) = wv at *
      clear hbwu
      clear hx0a hx0b hx0c hx0f hx0g
      obtain ⟨hx0a, hx0b, hx0c⟩ := two_facts hx0
      obtain ⟨hx0f, hx0g⟩ := two_frozen hx0
      clear hx1a hx1b hx1c hx1f hx1g
      obtain ⟨hx1a, hx1b, hx1c⟩ := two_facts hx1
      obtain ⟨hx1f, hx1g⟩ := two_frozen hx1
      obtain ⟨hyva, hyvb, hyvc⟩ := two_facts hyv
      obtain ⟨hyvf, hyvg⟩ := two_frozen hyv
      generalize hG : wu.heap.size = G at *
      clear hG
      have hgO : w.heap.size + 1 < G := hlow
      go_loopw [1] (fun v wr => ∃ (o : Pr) (m : Nat), m ≤ K ∧ v = .int .i64 ((K - m : Nat) : Int) ∧ wr.heap[w.heap.size]? = some (.cells #[.string b.1.str, .string b.2.str] 35 (0, 0)) ∧ wr.heap[w.heap.size + 1]? = some (.cells #[.string ⟨#[]⟩, .string ⟨#[]⟩] 35 (0, 0)) ∧ wr.heap[G]? = some (.cells #[.string o.1.str, .string o.2.str] 35 (0, 0)) ∧ Below w.heap.size w wr ∧ G < wr.heap.size ∧ pwN b m = some o) (fun v _ => (intOf v).toNat)
      case atStart => exact ⟨unitP, 0, Nat.zero_le _, by simp, hx0, hx1, hyv, hbwv, hyvc, rfl⟩
      case round =>
        clear hx0a hx0b hx0c hx0f hx0g hx1a hx1b hx1c hx1f hx1g hyva hyvb hyvc hyvf hyvg hx0 hx1 hyv hbwv
        obtain ⟨o, m, hm, rfl, hx0, hx1, hx2, hbw, hgl, hpo⟩ := hrel
        obtain ⟨hoo, hoc⟩ := pwN_ok hbok hpo
        obtain ⟨hx0a, hx0b, hx0c⟩ := two_facts hx0
        obtain ⟨hx0f, hx0g⟩ := two_frozen hx0
        obtain ⟨hx1a, hx1b, hx1c⟩ := two_facts hx1
        obtain ⟨hx1f, hx1g⟩ := two_frozen hx1
        obtain ⟨hx2a, hx2b, hx2c⟩ := two_facts hx2
        obtain ⟨hx2f, hx2g⟩ := two_frozen hx2
        by_cases hlt : m < K
        · have hbc2 := hbc
          have hmo := mulP_ok hoo hbok
          have hlt' : (0 : Int) < ((K - m : Nat) : Int) := by omega
          have hmc := mulP_carets hoo hbok
          have hpn : pwN b (m + 1) = limP (mulP o b) := by rw [pwN, hpo]; rfl
          have T := fun w => prTimes_any o b w hoo hbok (by omega) (by unfold okP at hbok; omega)
          have C := fun w => carets_str (mulP o b).1 w (by unfold okP at *; omega)
          generalize mulP o b = M at *
          have HPO := Lib.hid hpo
          clear hpo
          go_wp2_with fail
          refine (T _).mono ?_; rintro e w101 ⟨rfl, hb101⟩
          have hbw101 := nx hbw hb101
          replace hx0 := heap_keep hb101 hx0
          replace hx1 := heap_keep hb101 hx1
          replace hx2 := heap_keep hb101 hx2
          clear hx0a hx0b hx0c hx0f hx0g
          obtain ⟨hx0a, hx0b, hx0c⟩ := two_facts hx0
          obtain ⟨hx0f, hx0g⟩ := two_frozen hx0
          clear hx1a hx1b hx1c hx1f hx1g
          obtain ⟨hx1a, hx1b, hx1c⟩ := two_facts hx1
          obtain ⟨hx1f, hx1g⟩ := two_frozen hx1
          clear hx2a hx2b hx2c hx2f hx2g
          obtain ⟨hx2a, hx2b, hx2c⟩ := two_facts hx2
          obtain ⟨hx2f, hx2g⟩ := two_frozen hx2
          clear hb101 hbw
          have hgl2 := hx2c
          go_wp2_with fail
          have hs2 := set_two (.string M.1.str) (.string M.2.str) hx2
          have hs0 := (Below.heap_setCell (w101.setCell ⟨G, 0, none⟩ (.string M.1.str)) ⟨G, 1, none⟩ (.string M.2.str) w.heap.size (by show ¬ w.heap.size = G; omega)).trans ((Below.heap_setCell w101 ⟨G, 0, none⟩ (.string M.1.str) w.heap.size (by show ¬ w.heap.size = G; omega)).trans hx0)
          have hs1 := (Below.heap_setCell (w101.setCell ⟨G, 0, none⟩ (.string M.1.str)) ⟨G, 1, none⟩ (.string M.2.str) (w.heap.size + 1) (by show ¬ w.heap.size + 1 = G; omega)).trans ((Below.heap_setCell w101 ⟨G, 0, none⟩ (.string M.1.str) (w.heap.size + 1) (by show ¬ w.heap.size + 1 = G; omega)).trans hx1)
          have hbs := (hbw101.setCell (p := ⟨G, 0, none⟩) (by show w.heap.size ≤ G; omega) (.string M.1.str)).setCell (p := ⟨G, 1, none⟩) (by show w.heap.size ≤ G; omega) (.string M.2.str)
          generalize (w101.setCell ⟨G, 0, none⟩ (.string M.1.str)).setCell ⟨G, 1, none⟩ (.string M.2.str) = ws at *
          clear hx0a hx0b hx0c hx0f hx0g hx1a hx1b hx1c hx1f hx1g hx2a hx2b hx2c hx2f hx2g hx0 hx1 hx2 hbw101
          obtain ⟨hs0a, hs0b, hs0c⟩ := two_facts hs0
          obtain ⟨hs0f, hs0g⟩ := two_frozen hs0
          obtain ⟨hs1a, hs1b, hs1c⟩ := two_facts hs1
          obtain ⟨hs1f, hs1g⟩ := two_frozen hs1
          obtain ⟨hs2a, hs2b, hs2c⟩ := two_facts hs2
          obtain ⟨hs2f, hs2g⟩ := two_frozen hs2
          refine (C _).mono ?_; rintro e wc ⟨rfl, rfl⟩
          by_cases h8 : M.1.carets ≤ 8
          · have h8' : ¬ (8 : Int) < (M.1.carets : Int) := by omega
            have hpm : pwN b (m + 1) = some M := by rw [hpn]; unfold limP; rw [if_pos h8]
            have HPM := Lib.hid hpm
            clear hpm hpn h8
            go_wp2_with fail
            go_roundw
            case rel => exact ⟨M, m + 1, by omega, by go_num, hs0, hs1, hs2, hbs, hs2c, HPM.out⟩
            case measure => simp [intOf]; omega
          · have h8' : (8 : Int) < (M.1.carets : Int) := by omega
            have hpm : pwN b (m + 1) = none := by rw [hpn]; unfold limP; rw [if_neg h8]
            have hN := pwN_none hpm K (by omega)
            have HN := Lib.hid hN
            clear hpm hpn hN h8
            go_wp2_with fail
            obtain ⟨q1, q2⟩ := two_cells (set_two (.string ⟨#[]⟩) (.string ⟨#[]⟩) hs1)
            refine bodyPost_ret (v := .tuple #[.agg #[.string ⟨#[]⟩, .string ⟨#[]⟩], .bool false]) (by simp [q1, q2, results, Try.results40, go_sem]) rfl ⟨by rw [HN.out]; rfl, ?_⟩
            exact (hbs.setCell (by show w.heap.size ≤ w.heap.size + 1; omega) _).setCell (by show w.heap.size ≤ w.heap.size + 1; omega) _
        · obtain rfl : m = K := by omega
          have hlt' : ¬ (0 : Int) < ((m - m : Nat) : Int) := by omega
          have HPO := Lib.hid hpo
          clear hpo hlt
          go_wp2_with fail
          obtain ⟨q1, q2⟩ := two_cells (set_two (.string o.1.str) (.string o.2.str) hx1)
          refine bodyPost_ret (v := .tuple #[.agg #[.string o.1.str, .string o.2.str], .bool true]) (by simp [q1, q2, results, Try.results40, go_sem]) rfl ⟨by rw [HPO.out]; rfl, ?_⟩
          exact (hbw.setCell (by show w.heap.size ≤ w.heap.size + 1; omega) _).setCell (by show w.heap.size ≤ w.heap.size + 1; omega) _

set_option maxRecDepth 100000 in
set_option maxHeartbeats 4000000 in
theorem implPowerPair_any (a b : ByteArray) (n : Int) (w : World) (ha : a.size ≤ 9223372036854775806) (hb : b.size ≤ 9223372036854775806) (lo : -9223372036854775808 ≤ n) (hi : n ≤ 9223372036854775807) :
    Calls Try.prog 41 #[.agg #[.string a, .string b], .int .i64 n] w (Gives (ansPr ((pairOf a b).bind fun p => powP p n)) w) := by
  have hg := fun w => isPair_any a b w ha hb
  cases h : pairOf a b with
  | none =>
    rw [h] at hg
    clear h
    go_enter Try.func41, Try.ntmps41
    go_wp2_with fail
    have hb0 : Below w.heap.size w ((w.alloc (.cells #[.string a, .string b] 35 (0, 0))).alloc (.cells #[.string ⟨#[]⟩, .string ⟨#[]⟩] 35 (0, 0))) := nxAlloc (nxAlloc (Below.refl _ _) _) _
    have hx0 := heap_keep (nxAlloc (Below.refl _ _) (.cells #[.string ⟨#[]⟩, .string ⟨#[]⟩] 35 (0, 0))) (heap_alloc_at w (.cells #[.string a, .string b] 35 (0, 0)))
    have hx1 := heap_alloc_at (w.alloc (.cells #[.string a, .string b] 35 (0, 0))) (.cells #[.string ⟨#[]⟩, .string ⟨#[]⟩] 35 (0, 0))
    generalize ((w.alloc (.cells #[.string a, .string b] 35 (0, 0))).alloc (.cells #[.string ⟨#[]⟩, .string ⟨#[]⟩] 35 (0, 0))) = w0 at *
    have e1 : (w.alloc (.cells #[.string a, .string b] 35 (0, 0))).heap.size = w.heap.size + 1 := by simp
    rw [e1] at hx1
    clear e1
    obtain ⟨hx0a, hx0b, hx0c⟩ := two_facts hx0
    obtain ⟨hx0f, hx0g⟩ := two_frozen hx0
    obtain ⟨hx1a, hx1b, hx1c⟩ := two_facts hx1
    obtain ⟨hx1f, hx1g⟩ := two_frozen hx1
    refine (hg _).mono ?_; rintro e w1 ⟨rfl, hb1⟩
    have hbw1 := nx hb0 hb1
    replace hx0 := heap_keep hb1 hx0
    replace hx1 := heap_keep hb1 hx1
    clear hx0a hx0b hx0c hx0f hx0g
    obtain ⟨hx0a, hx0b, hx0c⟩ := two_facts hx0
    obtain ⟨hx0f, hx0g⟩ := two_frozen hx0
    clear hx1a hx1b hx1c hx1f hx1g
    obtain ⟨hx1a, hx1b, hx1c⟩ := two_facts hx1
    obtain ⟨hx1f, hx1g⟩ := two_frozen hx1
    clear hb1 hb0
    go_wp2_with fail
    obtain ⟨q1, q2⟩ := two_cells (set_two (.string ⟨#[]⟩) (.string ⟨#[]⟩) hx1)
    refine bodyPost_ret (v := .tuple #[.agg #[.string ⟨#[]⟩, .string ⟨#[]⟩], .bool false]) (by simp [q1, q2, results, Try.results41, go_sem]) rfl ⟨rfl, ?_⟩
    exact (hbw1.setCell (by show w.heap.size ≤ w.heap.size + 1; omega) _).setCell (by show w.heap.size ≤ w.heap.size + 1; omega) _
  | some p =>
    rw [h] at hg
    obtain ⟨rfl, rfl, hok, hc1, hc2⟩ := pairOf_some h
    clear h
    show Calls _ _ _ _ (Gives (ansPr (powP p n)) w)
    unfold powP
    by_cases hn : -10 ≤ n ∧ n ≤ 10
    rotate_left
    · rw [if_neg hn]
      by_cases h1 : n < -10
      · clear hn
        go_enter Try.func41, Try.ntmps41
        go_wp2_with fail
        have hb0 : Below w.heap.size w ((w.alloc (.cells #[.string p.1.str, .string p.2.str] 35 (0, 0))).alloc (.cells #[.string ⟨#[]⟩, .string ⟨#[]⟩] 35 (0, 0))) := nxAlloc (nxAlloc (Below.refl _ _) _) _
        have hx0 := heap_keep (nxAlloc (Below.refl _ _) (.cells #[.string ⟨#[]⟩, .string ⟨#[]⟩] 35 (0, 0))) (heap_alloc_at w (.cells #[.string p.1.str, .string p.2.str] 35 (0, 0)))
        have hx1 := heap_alloc_at (w.alloc (.cells #[.string p.1.str, .string p.2.str] 35 (0, 0))) (.cells #[.string ⟨#[]⟩, .string ⟨#[]⟩] 35 (0, 0))
        generalize ((w.alloc (.cells #[.string p.1.str, .string p.2.str] 35 (0, 0))).alloc (.cells #[.string ⟨#[]⟩, .string ⟨#[]⟩] 35 (0, 0))) = w0 at *
        have e1 : (w.alloc (.cells #[.string p.1.str, .string p.2.str] 35 (0, 0))).heap.size = w.heap.size + 1 := by simp
        rw [e1] at hx1
        clear e1
        obtain ⟨hx0a, hx0b, hx0c⟩ := two_facts hx0
        obtain ⟨hx0f, hx0g⟩ := two_frozen hx0
        obtain ⟨hx1a, hx1b, hx1c⟩ := two_facts hx1
        obtain ⟨hx1f, hx1g⟩ := two_frozen hx1
        refine (hg _).mono ?_; rintro e w1 ⟨rfl, hb1⟩
        have hbw1 := nx hb0 hb1
        replace hx0 := heap_keep hb1 hx0
        replace hx1 := heap_keep hb1 hx1
        clear hx0a hx0b hx0c hx0f hx0g
        obtain ⟨hx0a, hx0b, hx0c⟩ := two_facts hx0
        obtain ⟨hx0f, hx0g⟩ := two_frozen hx0
        clear hx1a hx1b hx1c hx1f hx1g
        obtain ⟨hx1a, hx1b, hx1c⟩ := two_facts hx1
        obtain ⟨hx1f, hx1g⟩ := two_frozen hx1
        clear hb1 hb0
        go_wp2_with fail
        obtain ⟨q1, q2⟩ := two_cells (set_two (.string ⟨#[]⟩) (.string ⟨#[]⟩) hx1)
        refine bodyPost_ret (v := .tuple #[.agg #[.string ⟨#[]⟩, .string ⟨#[]⟩], .bool false]) (by simp [q1, q2, results, Try.results41, go_sem]) rfl ⟨rfl, ?_⟩
        exact (hbw1.setCell (by show w.heap.size ≤ w.heap.size + 1; omega) _).setCell (by show w.heap.size ≤ w.heap.size + 1; omega) _
      · have h2 : 10 < n := by omega
        clear hn
        go_enter Try.func41, Try.ntmps41
        go_wp2_with fail
        have hb0 : Below w.heap.size w ((w.alloc (.cells #[.string p.1.str, .string p.2.str] 35 (0, 0))).alloc (.cells #[.string ⟨#[]⟩, .string ⟨#[]⟩] 35 (0, 0))) := nxAlloc (nxAlloc (Below.refl _ _) _) _
        have hx0 := heap_keep (nxAlloc (Below.refl _ _) (.cells #[.string ⟨#[]⟩, .string ⟨#[]⟩] 35 (0, 0))) (heap_alloc_at w (.cells #[.string p.1.str, .string p.2.str] 35 (0, 0)))
        have hx1 := heap_alloc_at (w.alloc (.cells #[.string p.1.str, .string p.2.str] 35 (0, 0))) (.cells #[.string ⟨#[]⟩, .string ⟨#[]⟩] 35 (0, 0))
        generalize ((w.alloc (.cells #[.string p.1.str, .string p.2.str] 35 (0, 0))).alloc (.cells #[.string ⟨#[]⟩, .string ⟨#[]⟩] 35 (0, 0))) = w0 at *
        have e1 : (w.alloc (.cells #[.string p.1.str, .string p.2.str] 35 (0, 0))).heap.size = w.heap.size + 1 := by simp
        rw [e1] at hx1
        clear e1
        obtain ⟨hx0a, hx0b, hx0c⟩ := two_facts hx0
        obtain ⟨hx0f, hx0g⟩ := two_frozen hx0
        obtain ⟨hx1a, hx1b, hx1c⟩ := two_facts hx1
        obtain ⟨hx1f, hx1g⟩ := two_frozen hx1
        refine (hg _).mono ?_; rintro e w1 ⟨rfl, hb1⟩
        have hbw1 := nx hb0 hb1
        replace hx0 := heap_keep hb1 hx0
        replace hx1 := heap_keep hb1 hx1
        clear hx0a hx0b hx0c hx0f hx0g
        obtain ⟨hx0a, hx0b, hx0c⟩ := two_facts hx0
        obtain ⟨hx0f, hx0g⟩ := two_frozen hx0
        clear hx1a hx1b hx1c hx1f hx1g
        obtain ⟨hx1a, hx1b, hx1c⟩ := two_facts hx1
        obtain ⟨hx1f, hx1g⟩ := two_frozen hx1
        clear hb1 hb0
        go_wp2_with fail
        obtain ⟨q1, q2⟩ := two_cells (set_two (.string ⟨#[]⟩) (.string ⟨#[]⟩) hx1)
        refine bodyPost_ret (v := .tuple #[.agg #[.string ⟨#[]⟩, .string ⟨#[]⟩], .bool false]) (by simp [q1, q2, results, Try.results41, go_sem]) rfl ⟨rfl, ?_⟩
        exact (hbw1.setCell (by show w.heap.size ≤ w.heap.size + 1; omega) _).setCell (by show w.heap.size ≤ w.heap.size + 1; omega) _
    rw [if_pos hn]
    obtain ⟨hn1, hn2⟩ := hn
    have hok' : p.1.carets = p.2.carets := hok
    by_cases hneg : n < 0
    · rw [if_pos hneg]
      obtain ⟨K, rfl⟩ : ∃ K : Nat, n = -(K : Int) := ⟨(-n).toNat, by omega⟩
      have eK : (-(-(K : Int))).toNat = K := by omega
      rw [eK]
      have hbok : okP (invP p) := hok.symm
      have hbc : (invP p).1.carets ≤ 8 := hc2
      clear eK
      go_enter Try.func41, Try.ntmps41
      go_wp2_with fail
      have hb0 : Below w.heap.size w ((w.alloc (.cells #[.string p.1.str, .string p.2.str] 35 (0, 0))).alloc (.cells #[.string ⟨#[]⟩, .string ⟨#[]⟩] 35 (0, 0))) := nxAlloc (nxAlloc (Below.refl _ _) _) _
      have hx0 := heap_keep (nxAlloc (Below.refl _ _) (.cells #[.string ⟨#[]⟩, .string ⟨#[]⟩] 35 (0, 0))) (heap_alloc_at w (.cells #[.string p.1.str, .string p.2.str] 35 (0, 0)))
      have hx1 := heap_alloc_at (w.alloc (.cells #[.string p.1.str, .string p.2.str] 35 (0, 0))) (.cells #[.string ⟨#[]⟩, .string ⟨#[]⟩] 35 (0, 0))
      generalize ((w.alloc (.cells #[.string p.1.str, .string p.2.str] 35 (0, 0))).alloc (.cells #[.string ⟨#[]⟩, .string ⟨#[]⟩] 35 (0, 0))) = w0 at *
      have e1 : (w.alloc (.cells #[.string p.1.str, .string p.2.str] 35 (0, 0))).heap.size = w.heap.size + 1 := by simp
      rw [e1] at hx1
      clear e1
      obtain ⟨hx0a, hx0b, hx0c⟩ := two_facts hx0
      obtain ⟨hx0f, hx0g⟩ := two_frozen hx0
      obtain ⟨hx1a, hx1b, hx1c⟩ := two_facts hx1
      obtain ⟨hx1f, hx1g⟩ := two_frozen hx1
      refine (hg _).mono ?_; rintro e w1 ⟨rfl, hb1⟩
      have hbw1 := nx hb0 hb1
      replace hx0 := heap_keep hb1 hx0
      replace hx1 := heap_keep hb1 hx1
      clear hx0a hx0b hx0c hx0f hx0g
      obtain ⟨hx0a, hx0b, hx0c⟩ := two_facts hx0
      obtain ⟨hx0f, hx0g⟩ := two_frozen hx0
      clear hx1a hx1b hx1c hx1f hx1g
      obtain ⟨hx1a, hx1b, hx1c⟩ := two_facts hx1
      obtain ⟨hx1f, hx1g⟩ := two_frozen hx1
      clear hb1 hb0
      go_wp2_with fail
      refine (inverse_any _ _ _).mono ?_; rintro e w2 ⟨rfl, hb2⟩
      have hbw2 := nx hbw1 hb2
      replace hx0 := heap_keep hb2 hx0
      replace hx1 := heap_keep hb2 hx1
      clear hx0a hx0b hx0c hx0f hx0g
      obtain ⟨hx0a, hx0b, hx0c⟩ := two_facts hx0
      obtain ⟨hx0f, hx0g⟩ := two_frozen hx0
      clear hx1a hx1b hx1c hx1f hx1g
      obtain ⟨hx1a, hx1b, hx1c⟩ := two_facts hx1
      obtain ⟨hx1f, hx1g⟩ := two_frozen hx1
      clear hb2 hbw1
      go_wp2_with fail
      have hs0 := set_two (.string p.2.str) (.string p.1.str) hx0
      have hs1 := (Below.heap_setCell (w2.setCell ⟨w.heap.size, 0, none⟩ (.string p.2.str)) ⟨w.heap.size, 1, none⟩ (.string p.1.str) (w.heap.size + 1) (by show ¬ w.heap.size + 1 = w.heap.size; omega)).trans ((Below.heap_setCell w2 ⟨w.heap.size, 0, none⟩ (.string p.2.str) (w.heap.size + 1) (by show ¬ w.heap.size + 1 = w.heap.size; omega)).trans hx1)
      have hbs := (hbw2.setCell (p := ⟨w.heap.size, 0, none⟩) (Nat.le_refl _) (.string p.2.str)).setCell (p := ⟨w.heap.size, 1, none⟩) (Nat.le_refl _) (.string p.1.str)
      generalize (w2.setCell ⟨w.heap.size, 0, none⟩ (.string p.2.str)).setCell ⟨w.heap.size, 1, none⟩ (.string p.1.str) = ws at *
      clear hx0a hx0b hx0c hx0f hx0g hx1a hx1b hx1c hx1f hx1g hx0 hx1 hbw2
      have hx0 := hs0
      have hx1 := hs1
      clear hs0 hs1
      obtain ⟨hx0a, hx0b, hx0c⟩ := two_facts hx0
      obtain ⟨hx0f, hx0g⟩ := two_frozen hx0
      obtain ⟨hx1a, hx1b, hx1c⟩ := two_facts hx1
      obtain ⟨hx1f, hx1g⟩ := two_frozen hx1
      replace hx0 : ws.heap[w.heap.size]? = some (.cells #[.string (invP p).1.str, .string (invP p).2.str] 35 (0, 0)) := hx0
      generalize invP p = b at *
      refine (identity_any _).mono ?_; rintro e wu ⟨rfl, hbu⟩
      have hbwu := nx hbs hbu
      replace hx0 := heap_keep hbu hx0
      replace hx1 := heap_keep hbu hx1
      clear hx0a hx0b hx0c hx0f hx0g
      obtain ⟨hx0a, hx0b, hx0c⟩ := two_facts hx0
      obtain ⟨hx0f, hx0g⟩ := two_frozen hx0
      clear hx1a hx1b hx1c hx1f hx1g
      obtain ⟨hx1a, hx1b, hx1c⟩ := two_facts hx1
      obtain ⟨hx1f, hx1g⟩ := two_frozen hx1
      clear hbu hbs
      go_wp2_with fail
      have hlow : w.heap.size + 1 < wu.heap.size := hx1c
      have hbwv := nxAlloc hbwu (.cells #[.string Tr.lf.str, .string Tr.lf.str] 35 (0, 0))
      replace hx0 := heap_keep (nxAlloc (Below.refl _ _) (.cells #[.string Tr.lf.str, .string Tr.lf.str] 35 (0, 0))) hx0
      replace hx1 := heap_keep (nxAlloc (Below.refl _ _) (.cells #[.string Tr.lf.str, .string Tr.lf.str] 35 (0, 0))) hx1
      have hyv := heap_alloc_at wu (.cells #[.string Tr.lf.str, .string Tr.lf.str] 35 (0, 0))
      generalize wu.alloc (.cells #[.string Tr.lf.str, .string Tr.lf.str] 35 (0, 0)) = wv at *
      clear hbwu
      clear hx0a hx0b hx0c hx0f hx0g
      obtain ⟨hx0a, hx0b, hx0c⟩ := two_facts hx0
      obtain ⟨hx0f, hx0g⟩ := two_frozen hx0
      clear hx1a hx1b hx1c hx1f hx1g
      obtain ⟨hx1a, hx1b, hx1c⟩ := two_facts hx1
      obtain ⟨hx1f, hx1g⟩ := two_frozen hx1
      obtain ⟨hyva, hyvb, hyvc⟩ := two_facts hyv
      obtain ⟨hyvf, hyvg⟩ := two_frozen hyv
      generalize hG : wu.heap.size = G at *
      clear hG
      have hgO : w.heap.size + 1 < G := hlow
      go_loopw [29] (fun v wr => ∃ (o : Pr) (m : Nat), m ≤ K ∧ v = .int .i64 (m : Int) ∧ wr.heap[w.heap.size]? = some (.cells #[.string b.1.str, .string b.2.str] 35 (0, 0)) ∧ wr.heap[w.heap.size + 1]? = some (.cells #[.string ⟨#[]⟩, .string ⟨#[]⟩] 35 (0, 0)) ∧ wr.heap[G]? = some (.cells #[.string o.1.str, .string o.2.str] 35 (0, 0)) ∧ Below w.heap.size w wr ∧ G < wr.heap.size ∧ pwN b m = some o) (fun v _ => K - (intOf v).toNat)
      case atStart => exact ⟨unitP, 0, Nat.zero_le _, by simp, hx0, hx1, hyv, hbwv, hyvc, rfl⟩
      case round =>
        clear hx0a hx0b hx0c hx0f hx0g hx1a hx1b hx1c hx1f hx1g hyva hyvb hyvc hyvf hyvg hx0 hx1 hyv hbwv
        obtain ⟨o, m, hm, rfl, hx0, hx1, hx2, hbw, hgl, hpo⟩ := hrel
        obtain ⟨hoo, hoc⟩ := pwN_ok hbok hpo
        obtain ⟨hx0a, hx0b, hx0c⟩ := two_facts hx0
        obtain ⟨hx0f, hx0g⟩ := two_frozen hx0
        obtain ⟨hx1a, hx1b, hx1c⟩ := two_facts hx1
        obtain ⟨hx1f, hx1g⟩ := two_frozen hx1
        obtain ⟨hx2a, hx2b, hx2c⟩ := two_facts hx2
        obtain ⟨hx2f, hx2g⟩ := two_frozen hx2
        by_cases hlt : m < K
        · have hbc2 := hbc
          have hmo := mulP_ok hoo hbok
          have hlt' : (m : Int) < (K : Int) := by omega
          have hpn : pwN b (m + 1) = limP (mulP o b) := by rw [pwN, hpo]; rfl
          have s1 := o.1.str_size
          have s2 := o.2.str_size
          have s3 := b.1.str_size
          have s4 := b.2.str_size
          have T := fun w => implProductPair_any o.1.str o.2.str b.1.str b.2.str w (by unfold okP at *; omega) (by unfold okP at *; omega) (by unfold okP at *; omega) (by unfold okP at *; omega)
          rw [pairOf_str hoo hoc, pairOf_str hbok hbc] at T
          have HPO := Lib.hid hpo
          clear hpo s1 s2 s3 s4
          by_cases h8 : (mulP o b).1.carets ≤ 8
          · have hpm : pwN b (m + 1) = some (mulP o b) := by rw [hpn]; unfold limP; rw [if_pos h8]
            have T' : ∀ w, Calls Try.prog 39 #[.agg #[.string o.1.str, .string o.2.str], .agg #[.string b.1.str, .string b.2.str]] w (Gives (.tuple #[.agg #[.string (mulP o b).1.str, .string (mulP o b).2.str], .bool true]) w) := by
              intro w; have := T w; simp only [Option.bind_some, limP, if_pos h8] at this; exact this
            have HPM := Lib.hid hpm
            clear hpm hpn T h8
            generalize mulP o b = M at *
            go_wp2_with fail
            refine (T' _).mono ?_; rintro e w101 ⟨rfl, hb101⟩
            have hbw101 := nx hbw hb101
            replace hx0 := heap_keep hb101 hx0
            replace hx1 := heap_keep hb101 hx1
            replace hx2 := heap_keep hb101 hx2
            clear hx0a hx0b hx0c hx0f hx0g
            obtain ⟨hx0a, hx0b, hx0c⟩ := two_facts hx0
            obtain ⟨hx0f, hx0g⟩ := two_frozen hx0
            clear hx1a hx1b hx1c hx1f hx1g
            obtain ⟨hx1a, hx1b, hx1c⟩ := two_facts hx1
            obtain ⟨hx1f, hx1g⟩ := two_frozen hx1
            clear hx2a hx2b hx2c hx2f hx2g
            obtain ⟨hx2a, hx2b, hx2c⟩ := two_facts hx2
            obtain ⟨hx2f, hx2g⟩ := two_frozen hx2
            clear hb101 hbw
            go_wp2_with fail
            have hs2 := set_two (.string M.1.str) (.string M.2.str) hx2
            have hs0 := (Below.heap_setCell (w101.setCell ⟨G, 0, none⟩ (.string M.1.str)) ⟨G, 1, none⟩ (.string M.2.str) w.heap.size (by show ¬ w.heap.size = G; omega)).trans ((Below.heap_setCell w101 ⟨G, 0, none⟩ (.string M.1.str) w.heap.size (by show ¬ w.heap.size = G; omega)).trans hx0)
            have hs1 := (Below.heap_setCell (w101.setCell ⟨G, 0, none⟩ (.string M.1.str)) ⟨G, 1, none⟩ (.string M.2.str) (w.heap.size + 1) (by show ¬ w.heap.size + 1 = G; omega)).trans ((Below.heap_setCell w101 ⟨G, 0, none⟩ (.string M.1.str) (w.heap.size + 1) (by show ¬ w.heap.size + 1 = G; omega)).trans hx1)
            have hbs := (hbw101.setCell (p := ⟨G, 0, none⟩) (by show w.heap.size ≤ G; omega) (.string M.1.str)).setCell (p := ⟨G, 1, none⟩) (by show w.heap.size ≤ G; omega) (.string M.2.str)
            replace hs0 := heap_keep (nxAlloc (Below.refl _ _) (.cells #[.string M.1.str, .string M.2.str] 35 (0, 0))) hs0
            replace hs1 := heap_keep (nxAlloc (Below.refl _ _) (.cells #[.string M.1.str, .string M.2.str] 35 (0, 0))) hs1
            replace hs2 := heap_keep (nxAlloc (Below.refl _ _) (.cells #[.string M.1.str, .string M.2.str] 35 (0, 0))) hs2
            replace hbs := nxAlloc hbs (.cells #[.string M.1.str, .string M.2.str] 35 (0, 0))
            go_roundw
            case rel => exact ⟨M, m + 1, by omega, by go_num, hs0, hs1, hs2, hbs, lt_of_block hs2, HPM.out⟩
            case measure => simp [intOf]; omega
          · have hpm : pwN b (m + 1) = none := by rw [hpn]; unfold limP; rw [if_neg h8]
            have T' : ∀ w, Calls Try.prog 39 #[.agg #[.string o.1.str, .string o.2.str], .agg #[.string b.1.str, .string b.2.str]] w (Gives (.tuple #[.agg #[.string ⟨#[]⟩, .string ⟨#[]⟩], .bool false]) w) := by
              intro w; have := T w; simp only [Option.bind_some, limP, if_neg h8] at this; exact this
            have hN := pwN_none hpm K (by omega)
            have HN := Lib.hid hN
            clear hpm hpn T h8 hN
            go_wp2_with fail
            refine (T' _).mono ?_; rintro e w101 ⟨rfl, hb101⟩
            have hbw101 := nx hbw hb101
            replace hx0 := heap_keep hb101 hx0
            replace hx1 := heap_keep hb101 hx1
            replace hx2 := heap_keep hb101 hx2
            clear hx0a hx0b hx0c hx0f hx0g
            obtain ⟨hx0a, hx0b, hx0c⟩ := two_facts hx0
            obtain ⟨hx0f, hx0g⟩ := two_frozen hx0
            clear hx1a hx1b hx1c hx1f hx1g
            obtain ⟨hx1a, hx1b, hx1c⟩ := two_facts hx1
            obtain ⟨hx1f, hx1g⟩ := two_frozen hx1
            clear hx2a hx2b hx2c hx2f hx2g
            obtain ⟨hx2a, hx2b, hx2c⟩ := two_facts hx2
            obtain ⟨hx2f, hx2g⟩ := two_frozen hx2
            clear hb101 hbw
            go_wp2_with fail
            obtain ⟨q1, q2⟩ := two_cells (heap_keep (nxAlloc (Below.refl _ _) (.cells #[.string ⟨#[]⟩, .string ⟨#[]⟩] 35 (0, 0))) (set_two (.string ⟨#[]⟩) (.string ⟨#[]⟩) hx1))
            refine bodyPost_ret (v := .tuple #[.agg #[.string ⟨#[]⟩, .string ⟨#[]⟩], .bool false]) (by simp [q1, q2, results, Try.results41, go_sem]) rfl ⟨by rw [HN.out]; rfl, ?_⟩
            exact nxAlloc ((hbw101.setCell (by show w.heap.size ≤ w.heap.size + 1; omega) _).setCell (by show w.heap.size ≤ w.heap.size + 1; omega) _) _
        · obtain rfl : m = K := by omega
          have hlt' : ¬ (m : Int) < (m : Int) := by omega
          have HPO := Lib.hid hpo
          clear hpo hlt
          go_wp2_with fail
          obtain ⟨q1, q2⟩ := two_cells (set_two (.string o.1.str) (.string o.2.str) hx1)
          refine bodyPost_ret (v := .tuple #[.agg #[.string o.1.str, .string o.2.str], .bool true]) (by simp [q1, q2, results, Try.results41, go_sem]) rfl ⟨by rw [HPO.out]; rfl, ?_⟩
          exact (hbw.setCell (by show w.heap.size ≤ w.heap.size + 1; omega) _).setCell (by show w.heap.size ≤ w.heap.size + 1; omega) _
    · rw [if_neg hneg]
      obtain ⟨K, rfl⟩ : ∃ K : Nat, n = (K : Int) := ⟨n.toNat, by omega⟩
      have eK : ((K : Int)).toNat = K := by omega
      rw [eK]
      have hbok : okP p := hok
      have hbc : p.1.carets ≤ 8 := hc1
      clear eK
      go_enter Try.func41, Try.ntmps41
      go_wp2_with fail
      have hb0 : Below w.heap.size w ((w.alloc (.cells #[.string p.1.str, .string p.2.str] 35 (0, 0))).alloc (.cells #[.string ⟨#[]⟩, .string ⟨#[]⟩] 35 (0, 0))) := nxAlloc (nxAlloc (Below.refl _ _) _) _
      have hx0 := heap_keep (nxAlloc (Below.refl _ _) (.cells #[.string ⟨#[]⟩, .string ⟨#[]⟩] 35 (0, 0))) (heap_alloc_at w (.cells #[.string p.1.str, .string p.2.str] 35 (0, 0)))
      have hx1 := heap_alloc_at (w.alloc (.cells #[.string p.1.str, .string p.2.str] 35 (0, 0))) (.cells #[.string ⟨#[]⟩, .string ⟨#[]⟩] 35 (0, 0))
      generalize ((w.alloc (.cells #[.string p.1.str, .string p.2.str] 35 (0, 0))).alloc (.cells #[.string ⟨#[]⟩, .string ⟨#[]⟩] 35 (0, 0))) = w0 at *
      have e1 : (w.alloc (.cells #[.string p.1.str, .string p.2.str] 35 (0, 0))).heap.size = w.heap.size + 1 := by simp
      rw [e1] at hx1
      clear e1
      obtain ⟨hx0a, hx0b, hx0c⟩ := two_facts hx0
      obtain ⟨hx0f, hx0g⟩ := two_frozen hx0
      obtain ⟨hx1a, hx1b, hx1c⟩ := two_facts hx1
      obtain ⟨hx1f, hx1g⟩ := two_frozen hx1
      refine (hg _).mono ?_; rintro e w1 ⟨rfl, hb1⟩
      have hbw1 := nx hb0 hb1
      replace hx0 := heap_keep hb1 hx0
      replace hx1 := heap_keep hb1 hx1
      clear hx0a hx0b hx0c hx0f hx0g
      obtain ⟨hx0a, hx0b, hx0c⟩ := two_facts hx0
      obtain ⟨hx0f, hx0g⟩ := two_frozen hx0
      clear hx1a hx1b hx1c hx1f hx1g
      obtain ⟨hx1a, hx1b, hx1c⟩ := two_facts hx1
      obtain ⟨hx1f, hx1g⟩ := two_frozen hx1
      clear hb1 hb0
      go_wp2_with fail
      generalize p = b at *
      refine (identity_any _).mono ?_; rintro e wu ⟨rfl, hbu⟩
      have hbwu := nx hbw1 hbu
      replace hx0 := heap_keep hbu hx0
      replace hx1 := heap_keep hbu hx1
      clear hx0a hx0b hx0c hx0f hx0g
      obtain ⟨hx0a, hx0b, hx0c⟩ := two_facts hx0
      obtain ⟨hx0f, hx0g⟩ := two_frozen hx0
      clear hx1a hx1b hx1c hx1f hx1g
      obtain ⟨hx1a, hx1b, hx1c⟩ := two_facts hx1
      obtain ⟨hx1f, hx1g⟩ := two_frozen hx1
      clear hbu hbw1
      go_wp2_with fail
      have hlow : w.heap.size + 1 < wu.heap.size := hx1c
      have hbwv := nxAlloc hbwu (.cells #[.string Tr.lf.str, .string Tr.lf.str] 35 (0, 0))
      replace hx0 := heap_keep (nxAlloc (Below.refl _ _) (.cells #[.string Tr.lf.str, .string Tr.lf.str] 35 (0, 0))) hx0
      replace hx1 := heap_keep (nxAlloc (Below.refl _ _) (.cells #[.string Tr.lf.str, .string Tr.lf.str] 35 (0, 0))) hx1
      have hyv := heap_alloc_at wu (.cells #[.string Tr.lf.str, .string Tr.lf.str] 35 (0, 0))
      generalize wu.alloc (.cells #[.string Tr.lf.str, .string Tr.lf.str] 35 (0, 0)) = wv at *
      clear hbwu
      clear hx0a hx0b hx0c hx0f hx0g
      obtain ⟨hx0a, hx0b, hx0c⟩ := two_facts hx0
      obtain ⟨hx0f, hx0g⟩ := two_frozen hx0
      clear hx1a hx1b hx1c hx1f hx1g
      obtain ⟨hx1a, hx1b, hx1c⟩ := two_facts hx1
      obtain ⟨hx1f, hx1g⟩ := two_frozen hx1
      obtain ⟨hyva, hyvb, hyvc⟩ := two_facts hyv
      obtain ⟨hyvf, hyvg⟩ := two_frozen hyv
      generalize hG : wu.heap.size = G at *
      clear hG
      have hgO : w.heap.size + 1 < G := hlow
      go_loopw [29] (fun v wr => ∃ (o : Pr) (m : Nat), m ≤ K ∧ v = .int .i64 (m : Int) ∧ wr.heap[w.heap.size]? = some (.cells #[.string b.1.str, .string b.2.str] 35 (0, 0)) ∧ wr.heap[w.heap.size + 1]? = some (.cells #[.string ⟨#[]⟩, .string ⟨#[]⟩] 35 (0, 0)) ∧ wr.heap[G]? = some (.cells #[.string o.1.str, .string o.2.str] 35 (0, 0)) ∧ Below w.heap.size w wr ∧ G < wr.heap.size ∧ pwN b m = some o) (fun v _ => K - (intOf v).toNat)
      case atStart => exact ⟨unitP, 0, Nat.zero_le _, by simp, hx0, hx1, hyv, hbwv, hyvc, rfl⟩
      case round =>
        clear hx0a hx0b hx0c hx0f hx0g hx1a hx1b hx1c hx1f hx1g hyva hyvb hyvc hyvf hyvg hx0 hx1 hyv hbwv
        obtain ⟨o, m, hm, rfl, hx0, hx1, hx2, hbw, hgl, hpo⟩ := hrel
        obtain ⟨hoo, hoc⟩ := pwN_ok hbok hpo
        obtain ⟨hx0a, hx0b, hx0c⟩ := two_facts hx0
        obtain ⟨hx0f, hx0g⟩ := two_frozen hx0
        obtain ⟨hx1a, hx1b, hx1c⟩ := two_facts hx1
        obtain ⟨hx1f, hx1g⟩ := two_frozen hx1
        obtain ⟨hx2a, hx2b, hx2c⟩ := two_facts hx2
        obtain ⟨hx2f, hx2g⟩ := two_frozen hx2
        by_cases hlt : m < K
        · have hbc2 := hbc
          have hmo := mulP_ok hoo hbok
          have hlt' : (m : Int) < (K : Int) := by omega
          have hpn : pwN b (m + 1) = limP (mulP o b) := by rw [pwN, hpo]; rfl
          have s1 := o.1.str_size
          have s2 := o.2.str_size
          have s3 := b.1.str_size
          have s4 := b.2.str_size
          have T := fun w => implProductPair_any o.1.str o.2.str b.1.str b.2.str w (by unfold okP at *; omega) (by unfold okP at *; omega) (by unfold okP at *; omega) (by unfold okP at *; omega)
          rw [pairOf_str hoo hoc, pairOf_str hbok hbc] at T
          have HPO := Lib.hid hpo
          clear hpo s1 s2 s3 s4
          by_cases h8 : (mulP o b).1.carets ≤ 8
          · have hpm : pwN b (m + 1) = some (mulP o b) := by rw [hpn]; unfold limP; rw [if_pos h8]
            have T' : ∀ w, Calls Try.prog 39 #[.agg #[.string o.1.str, .string o.2.str], .agg #[.string b.1.str, .string b.2.str]] w (Gives (.tuple #[.agg #[.string (mulP o b).1.str, .string (mulP o b).2.str], .bool true]) w) := by
              intro w; have := T w; simp only [Option.bind_some, limP, if_pos h8] at this; exact this
            have HPM := Lib.hid hpm
            clear hpm hpn T h8
            generalize mulP o b = M at *
            go_wp2_with fail
            refine (T' _).mono ?_; rintro e w101 ⟨rfl, hb101⟩
            have hbw101 := nx hbw hb101
            replace hx0 := heap_keep hb101 hx0
            replace hx1 := heap_keep hb101 hx1
            replace hx2 := heap_keep hb101 hx2
            clear hx0a hx0b hx0c hx0f hx0g
            obtain ⟨hx0a, hx0b, hx0c⟩ := two_facts hx0
            obtain ⟨hx0f, hx0g⟩ := two_frozen hx0
            clear hx1a hx1b hx1c hx1f hx1g
            obtain ⟨hx1a, hx1b, hx1c⟩ := two_facts hx1
            obtain ⟨hx1f, hx1g⟩ := two_frozen hx1
            clear hx2a hx2b hx2c hx2f hx2g
            obtain ⟨hx2a, hx2b, hx2c⟩ := two_facts hx2
            obtain ⟨hx2f, hx2g⟩ := two_frozen hx2
            clear hb101 hbw
            go_wp2_with fail
            have hs2 := set_two (.string M.1.str) (.string M.2.str) hx2
            have hs0 := (Below.heap_setCell (w101.setCell ⟨G, 0, none⟩ (.string M.1.str)) ⟨G, 1, none⟩ (.string M.2.str) w.heap.size (by show ¬ w.heap.size = G; omega)).trans ((Below.heap_setCell w101 ⟨G, 0, none⟩ (.string M.1.str) w.heap.size (by show ¬ w.heap.size = G; omega)).trans hx0)
            have hs1 := (Below.heap_setCell (w101.setCell ⟨G, 0, none⟩ (.string M.1.str)) ⟨G, 1, none⟩ (.string M.2.str) (w.heap.size + 1) (by show ¬ w.heap.size + 1 = G; omega)).trans ((Below.heap_setCell w101 ⟨G, 0, none⟩ (.string M.1.str) (w.heap.size + 1) (by show ¬ w.heap.size + 1 = G; omega)).trans hx1)
            have hbs := (hbw101.setCell (p := ⟨G, 0, none⟩) (by show w.heap.size ≤ G; omega) (.string M.1.str)).setCell (p := ⟨G, 1, none⟩) (by show w.heap.size ≤ G; omega) (.string M.2.str)
            replace hs0 := heap_keep (nxAlloc (Below.refl _ _) (.cells #[.string M.1.str, .string M.2.str] 35 (0, 0))) hs0
            replace hs1 := heap_keep (nxAlloc (Below.refl _ _) (.cells #[.string M.1.str, .string M.2.str] 35 (0, 0))) hs1
            replace hs2 := heap_keep (nxAlloc (Below.refl _ _) (.cells #[.string M.1.str, .string M.2.str] 35 (0, 0))) hs2
            replace hbs := nxAlloc hbs (.cells #[.string M.1.str, .string M.2.str] 35 (0, 0))
            go_roundw
            case rel => exact ⟨M, m + 1, by omega, by go_num, hs0, hs1, hs2, hbs, lt_of_block hs2, HPM.out⟩
            case measure => simp [intOf]; omega
          · have hpm : pwN b (m + 1) = none := by rw [hpn]; unfold limP; rw [if_neg h8]
            have T' : ∀ w, Calls Try.prog 39 #[.agg #[.string o.1.str, .string o.2.str], .agg #[.string b.1.str, .string b.2.str]] w (Gives (.tuple #[.agg #[.string ⟨#[]⟩, .string ⟨#[]⟩], .bool false]) w) := by
              intro w; have := T w; simp only [Option.bind_some, limP, if_neg h8] at this; exact this
            have hN := pwN_none hpm K (by omega)
            have HN := Lib.hid hN
            clear hpm hpn T h8 hN
            go_wp2_with fail
            refine (T' _).mono ?_; rintro e w101 ⟨rfl, hb101⟩
            have hbw101 := nx hbw hb101
            replace hx0 := heap_keep hb101 hx0
            replace hx1 := heap_keep hb101 hx1
            replace hx2 := heap_keep hb101 hx2
            clear hx0a hx0b hx0c hx0f hx0g
            obtain ⟨hx0a, hx0b, hx0c⟩ := two_facts hx0
            obtain ⟨hx0f, hx0g⟩ := two_frozen hx0
            clear hx1a hx1b hx1c hx1f hx1g
            obtain ⟨hx1a, hx1b, hx1c⟩ := two_facts hx1
            obtain ⟨hx1f, hx1g⟩ := two_frozen hx1
            clear hx2a hx2b hx2c hx2f hx2g
            obtain ⟨hx2a, hx2b, hx2c⟩ := two_facts hx2
            obtain ⟨hx2f, hx2g⟩ := two_frozen hx2
            clear hb101 hbw
            go_wp2_with fail
            obtain ⟨q1, q2⟩ := two_cells (heap_keep (nxAlloc (Below.refl _ _) (.cells #[.string ⟨#[]⟩, .string ⟨#[]⟩] 35 (0, 0))) (set_two (.string ⟨#[]⟩) (.string ⟨#[]⟩) hx1))
            refine bodyPost_ret (v := .tuple #[.agg #[.string ⟨#[]⟩, .string ⟨#[]⟩], .bool false]) (by simp [q1, q2, results, Try.results41, go_sem]) rfl ⟨by rw [HN.out]; rfl, ?_⟩
            exact nxAlloc ((hbw101.setCell (by show w.heap.size ≤ w.heap.size + 1; omega) _).setCell (by show w.heap.size ≤ w.heap.size + 1; omega) _) _
        · obtain rfl : m = K := by omega
          have hlt' : ¬ (m : Int) < (m : Int) := by omega
          have HPO := Lib.hid hpo
          clear hpo hlt
          go_wp2_with fail
          obtain ⟨q1, q2⟩ := two_cells (set_two (.string o.1.str) (.string o.2.str) hx1)
          refine bodyPost_ret (v := .tuple #[.agg #[.string o.1.str, .string o.2.str], .bool true]) (by simp [q1, q2, results, Try.results41, go_sem]) rfl ⟨by rw [HPO.out]; rfl, ?_⟩
          exact (hbw.setCell (by show w.heap.size ≤ w.heap.size + 1; omega) _).setCell (by show w.heap.size ≤ w.heap.size + 1; omega) _

set_option maxRecDepth 100000 in
set_option maxHeartbeats 1000000 in
theorem fnExactPowerPair_walk (a0 : ByteArray) (ha0 : a0.size ≤ maxLen) (b0 : ByteArray) (hb0 : b0.size ≤ maxLen) (n1 : Int) (hn1 : (Lit.int .i64 n1).wf = true) (w : World) :
    Calls Try.prog 12 #[.agg #[.string a0, .string b0], .int .i64 n1] w fun e w' => e = .returned (.bool true) ∧ Below w.heap.size w w' := by
  unfold maxLen at ha0 hb0
  obtain ⟨lo1, hi1⟩ := i64_bounds hn1
  have hsz0 := fun w => szPair_any a0 b0 w (by omega) (by omega) 1048576 (by omega) (by omega)
  by_cases hz0 : (a0.size : Int) + b0.size ≤ 1048576
  rotate_left
  · simp only [if_neg hz0] at hsz0
    go_enter Try.func12, Try.ntmps12
    go_wp2_with fail
    have hb0 : Below w.heap.size w (w.alloc (.cells #[.string a0, .string b0] 32 (0, 0))) := nxAlloc (Below.refl _ _) _
    have hx0 := heap_alloc_at w (.cells #[.string a0, .string b0] 32 (0, 0))
    generalize (w.alloc (.cells #[.string a0, .string b0] 32 (0, 0))) = w0 at *
    obtain ⟨ka0, kb0, kc0⟩ := two_facts hx0
    refine (hsz0 _).mono ?_; rintro e w1 ⟨rfl, hb1⟩
    have hbw1 := nx hb0 hb1
    replace hx0 := heap_keep hb1 hx0
    clear ka0 kb0 kc0
    obtain ⟨ka0, kb0, kc0⟩ := two_facts hx0
    clear hb1 hb0
    go_wp2_with fail
    go_ret
    exact ⟨rfl, hbw1⟩
  simp only [if_pos hz0] at hsz0
  have hS := fun w => specPowerPair_any a0 b0 n1 w (by omega) (by omega) lo1 hi1
  have hI := fun w => implPowerPair_any a0 b0 n1 w (by omega) (by omega) lo1 hi1
  have hS' : ∀ w, Calls Try.prog 40 #[.agg #[.string a0, .string b0], .int .i64 n1] w (Gives (ansPr ((pairOf a0 b0).bind fun p => powP p n1)) w) := hS
  have hI' : ∀ w, Calls Try.prog 41 #[.agg #[.string a0, .string b0], .int .i64 n1] w (Gives (ansPr ((pairOf a0 b0).bind fun p => powP p n1)) w) := hI
  clear hS hI
  generalize ((pairOf a0 b0).bind fun p => powP p n1) = o at hS' hI'
  unfold ansPr at hS' hI'
  generalize pS1 o = A at hS' hI'
  generalize pS2 o = B at hS' hI'
  generalize o.isSome = ok at hS' hI'
  clear o
  go_enter Try.func12, Try.ntmps12
  go_wp2_with fail
  have hb0 : Below w.heap.size w (w.alloc (.cells #[.string a0, .string b0] 32 (0, 0))) := nxAlloc (Below.refl _ _) _
  have hx0 := heap_alloc_at w (.cells #[.string a0, .string b0] 32 (0, 0))
  generalize (w.alloc (.cells #[.string a0, .string b0] 32 (0, 0))) = w0 at *
  obtain ⟨ka0, kb0, kc0⟩ := two_facts hx0
  refine (hsz0 _).mono ?_; rintro e w1 ⟨rfl, hb1⟩
  have hbw1 := nx hb0 hb1
  replace hx0 := heap_keep hb1 hx0
  clear ka0 kb0 kc0
  obtain ⟨ka0, kb0, kc0⟩ := two_facts hx0
  clear hb1 hb0
  go_wp2_with fail
  refine (toPair_any a0 b0 _).mono ?_; rintro e w2 ⟨rfl, hb2⟩
  have hbw2 := nx hbw1 hb2
  replace hx0 := heap_keep hb2 hx0
  clear ka0 kb0 kc0
  obtain ⟨ka0, kb0, kc0⟩ := two_facts hx0
  clear hb2 hbw1
  go_wp2_with fail
  refine (hS' _).mono ?_; rintro e w3 ⟨rfl, hb3⟩
  have hbw3 := nx hbw2 hb3
  replace hx0 := heap_keep hb3 hx0
  clear ka0 kb0 kc0
  obtain ⟨ka0, kb0, kc0⟩ := two_facts hx0
  clear hb3 hbw2
  go_wp2_with fail
  have hbw4 := nxAlloc hbw3 (.cells #[.string A, .string B] 35 (0, 0))
  replace hx0 := heap_keep (nxAlloc (Below.refl _ _) (.cells #[.string A, .string B] 35 (0, 0))) hx0
  have hy0 := heap_alloc_at w3 (.cells #[.string A, .string B] 35 (0, 0))
  generalize w3.alloc (.cells #[.string A, .string B] 35 (0, 0)) = w4 at *
  clear ka0 kb0 kc0
  obtain ⟨ka0, kb0, kc0⟩ := two_facts hx0
  obtain ⟨ya, yb, yc⟩ := two_facts hy0
  go_wp2_with fail
  refine (toPair_any a0 b0 _).mono ?_; rintro e w5 ⟨rfl, hb5⟩
  have hbw5 := nx hbw4 hb5
  replace hx0 := heap_keep hb5 hx0
  clear ka0 kb0 kc0
  obtain ⟨ka0, kb0, kc0⟩ := two_facts hx0
  replace hy0 := heap_keep hb5 hy0
  clear ya yb yc
  obtain ⟨ya, yb, yc⟩ := two_facts hy0
  clear hb5 hbw4
  go_wp2_with fail
  refine (hI' _).mono ?_; rintro e w6 ⟨rfl, hb6⟩
  have hbw6 := nx hbw5 hb6
  replace hx0 := heap_keep hb6 hx0
  clear ka0 kb0 kc0
  obtain ⟨ka0, kb0, kc0⟩ := two_facts hx0
  replace hy0 := heap_keep hb6 hy0
  clear ya yb yc
  obtain ⟨ya, yb, yc⟩ := two_facts hy0
  clear hb6 hbw5
  go_wp2_with fail
  have hbw7 := nxAlloc hbw6 (.cells #[.string A, .string B] 35 (0, 0))
  replace hx0 := heap_keep (nxAlloc (Below.refl _ _) (.cells #[.string A, .string B] 35 (0, 0))) hx0
  replace hy0 := heap_keep (nxAlloc (Below.refl _ _) (.cells #[.string A, .string B] 35 (0, 0))) hy0
  have hy1 := heap_alloc_at w6 (.cells #[.string A, .string B] 35 (0, 0))
  generalize w6.alloc (.cells #[.string A, .string B] 35 (0, 0)) = w7 at *
  clear ya yb yc
  obtain ⟨ya, yb, yc⟩ := two_facts hy0
  obtain ⟨za, zb, zc⟩ := two_facts hy1
  go_wp2_with fail
  refine (eqPair_same A B _).mono ?_; rintro e wz ⟨rfl, hbz⟩
  go_wp2_with fail
  go_ret
  exact ⟨rfl, nx hbw7 hbz⟩
end Go.Proofs.Ytbeailflcinilaa
