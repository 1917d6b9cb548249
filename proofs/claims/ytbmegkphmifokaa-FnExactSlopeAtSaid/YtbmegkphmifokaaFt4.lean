/- Walks: spec.mpLess, mpLeaf; impl.lastUpTo[string]. -/
import Derived.Test.YtbmegkphmifokaaFt2
namespace Go.Proofs.Ytbmegkphmifokaa
open Go.RowKit

theorem less_steps {n d m e : Nat} (h : isFr n d = true) (k : isFr m e = true) : n * e < m * d ↔ stepsOf n d < stepsOf m e := by
  have h1 := steps_cross h
  have k1 := steps_cross k
  have hd : 0 < d := by have := isP2_bounds (isFr_iff.1 h).1; omega
  have he : 0 < e := by have := isP2_bounds (isFr_iff.1 k).1; omega
  obtain ⟨W, hW⟩ : ∃ W, W = 1048576 := ⟨_, rfl⟩
  have hW0 : 0 < W := by omega
  rw [← hW] at h1 k1
  generalize stepsOf n d = s at *
  generalize stepsOf m e = t at *
  have a1 : n * e * W = s * (d * e) := by
    calc n * e * W = (n * W) * e := by ac_rfl
      _ = s * (d * e) := by rw [h1]; ac_rfl
  have a2 : m * d * W = t * (d * e) := by
    calc m * d * W = (m * W) * d := by ac_rfl
      _ = t * (d * e) := by rw [k1]; ac_rfl
  rw [← Nat.mul_lt_mul_right hW0, a1, a2]
  exact Nat.mul_lt_mul_right (Nat.mul_pos hd he)
theorem frOf_pos (s : Nat) : 0 < (frOf s).2 := short_pos (by omega)
theorem frOf_cross (s : Nat) : (frOf s).1 * 1048576 = s * (frOf s).2 := by
  obtain ⟨W, hW⟩ : ∃ W, W = 1048576 := ⟨_, rfl⟩
  have := short_steps (W := W) (n := s) (d := W) (by omega) ⟨1, by omega⟩
  rw [Nat.div_self (by omega), Nat.mul_one] at this
  unfold frOf
  rw [← hW]
  exact this
theorem steps_frOf {s : Nat} (h : s ≤ 1048576) (h2 : s % 1024 = 0) : stepsOf (frOf s).1 (frOf s).2 = s := by
  have h1 := steps_cross (frOf_thousand h h2)
  have h3 := frOf_cross s
  rw [h3] at h1
  exact (Nat.eq_of_mul_eq_mul_right (frOf_pos s) h1).symm

set_option maxHeartbeats 2000000 in
theorem mpLess_any (n d m e : Nat) (w : World) (h : isFr n d = true) (k : isFr m e = true) :
    Calls Try.prog 80 #[.agg #[.int .i64 n, .int .i64 d], .agg #[.int .i64 m, .int .i64 e]] w (Gives (.bool (decide (stepsOf n d < stepsOf m e))) w) := by
  have hl := less_steps h k
  obtain ⟨a1, a2, a3, a4⟩ := isFr_iff.1 h
  obtain ⟨b1, b2, b3, b4⟩ := isFr_iff.1 k
  have c1 := isP2_bounds a1
  have c2 := isP2_bounds b1
  have p1 : n * e ≤ 1024 * 1024 := mul_bound (by omega) (by omega)
  have p2 : m * d ≤ 1024 * 1024 := mul_bound (by omega) (by omega)
  have i1 : (n : Int) * (e : Int) = ((n * e : Nat) : Int) := by simp
  have i2 : (m : Int) * (d : Int) = ((m * d : Nat) : Int) := by simp
  have j1 : 0 ≤ (n : Int) * (e : Int) ∧ (n : Int) * (e : Int) ≤ 1048576 := by omega
  have j2 : 0 ≤ (m : Int) * (d : Int) ∧ (m : Int) * (d : Int) ≤ 1048576 := by omega
  have hl' : (decide (stepsOf n d < stepsOf m e)) = decide ((n : Int) * (e : Int) < (m : Int) * (d : Int)) := by
    rw [i1, i2]
    exact decide_eq_decide.2 (hl.symm.trans (by omega))
  rw [hl']
  clear hl' hl p1 p2 i1 i2 c1 c2 a1 a2 a3 a4 b1 b2 b3 b4 h k
  obtain ⟨j1a, j1b⟩ := j1
  obtain ⟨j2a, j2b⟩ := j2
  generalize hu : (n : Int) * (e : Int) = u at *
  generalize hv : (m : Int) * (d : Int) = v at *
  generalize hr : decide (u < v) = r
  have HR := Lib.hid hr
  clear hr
  go_enter Try.func80, Try.ntmps80
  go_wp2_with fail
  have hb0 : Below w.heap.size w ((w.alloc (.cells #[.int .i64 n, .int .i64 d] 25 (0, 0))).alloc (.cells #[.int .i64 m, .int .i64 e] 25 (0, 0))) := nxAlloc (nxAlloc (Below.refl _ _) _) _
  have hx0 := heap_keep (nxAlloc (Below.refl _ _) (.cells #[.int .i64 m, .int .i64 e] 25 (0, 0))) (heap_alloc_at w (.cells #[.int .i64 n, .int .i64 d] 25 (0, 0)))
  have hx1 := heap_alloc_at (w.alloc (.cells #[.int .i64 n, .int .i64 d] 25 (0, 0))) (.cells #[.int .i64 m, .int .i64 e] 25 (0, 0))
  generalize ((w.alloc (.cells #[.int .i64 n, .int .i64 d] 25 (0, 0))).alloc (.cells #[.int .i64 m, .int .i64 e] 25 (0, 0))) = w0 at *
  have e1 : (w.alloc (.cells #[.int .i64 n, .int .i64 d] 25 (0, 0))).heap.size = w.heap.size + 1 := by simp
  rw [e1] at hx1
  clear e1
  obtain ⟨hx0a, hx0b, hx0c⟩ := two_facts hx0
  obtain ⟨hx0f, hx0g⟩ := two_frozen hx0
  obtain ⟨hx1a, hx1b, hx1c⟩ := two_facts hx1
  obtain ⟨hx1f, hx1g⟩ := two_frozen hx1
  go_ret
  refine ⟨ret_bool ?_, hb0⟩
  rw [← HR.out]

set_option maxRecDepth 100000 in
set_option maxHeartbeats 2000000 in
theorem mpLeaf_any (t : Tr) (n d : Nat) (w : World) (h : t.carets ≤ 8) (hf : isFr n d = true) :
    Calls Try.prog 53 #[.string t.str, .agg #[.int .i64 n, .int .i64 d]] w (Gives (.int .i64 (lastTo t.starts (stepsOf n d))) w) := by
  have hM := fun w => mpStarts_any t w h
  have hok := addrs_ok t h
  have hl := addrs_length t ⟨#[]⟩
  unfold Tr.starts
  generalize t.addrs ⟨#[]⟩ = ss at *
  obtain ⟨S, hS⟩ : ∃ S : List Nat, S = ss.map stA := ⟨_, rfl⟩
  rw [← hS]
  have hSl : S.length = ss.length := by rw [hS]; simp
  have hstep : ∀ k, k < ss.length → ∃ x y : Nat, (flatF (frs ss)).getD (k * 2) 0 = (x : Int) ∧ (flatF (frs ss)).getD (k * 2 + 1) 0 = (y : Int) ∧ isFr x y = true ∧ stepsOf x y = S.getD k 0 := by
    intro k hk
    have hk2 : k < (frs ss).length := by simpa [frs] using hk
    have ha := hok (ss.getD k ⟨#[]⟩) (by simp [hk])
    have hlt := stA_lt (a := ss.getD k ⟨#[]⟩) (by have := ha.1; omega) ha.2
    have hth := stA_thousand ha.1
    have e : (frs ss).getD k (0, 0) = frOf (stA (ss.getD k ⟨#[]⟩)) := by simp [frs, hk]
    have e2 : S.getD k 0 = stA (ss.getD k ⟨#[]⟩) := by rw [hS]; simp [hk]
    have g := flatF_get (frs ss) k hk2
    rw [e] at g
    exact ⟨_, _, g.1, g.2, frOf_thousand (by omega) hth, by rw [e2]; exact steps_frOf (by omega) hth⟩
  have hfl : (frs ss).length = ss.length := by simp [frs]
  generalize frs ss = fs at *
  have HS := Lib.hid hstep
  have hL := fun x y w (k : isFr ((x : Nat) : Int) ((y : Nat) : Int) = true) => mpLess_any n d x y w hf k
  generalize stepsOf n d = s at *
  have HF := Lib.hid hf
  clear hstep hok hS hf
  go_enter Try.func53, Try.ntmps53
  go_wp2_with fail
  have hb0 : Below w.heap.size w (w.alloc (.cells #[.int .i64 n, .int .i64 d] 25 (0, 0))) := nxAlloc (Below.refl _ _) _
  have hx0 := heap_alloc_at w (.cells #[.int .i64 n, .int .i64 d] 25 (0, 0))
  generalize (w.alloc (.cells #[.int .i64 n, .int .i64 d] 25 (0, 0))) = w0 at *
  obtain ⟨hx0a, hx0b, hx0c⟩ := two_facts hx0
  obtain ⟨hx0f, hx0g⟩ := two_frozen hx0
  refine (hM _).mono ?_; rintro e w1 ⟨v, own, hb1, rfl⟩
  have hbw1 := nx hb0 hb1
  have hx1 := heap_keep hb1 hx0
  rcases own.cells with ⟨_, h0⟩ | ⟨g, cap, rfl, hg0, hg, hc1, hc2, hcell, _⟩
  · omega
  · have HC := Lib.hid hcell
    unfold maxLen at hc2
    clear hcell own hx0 hx0a hx0b hx0c hx0f hx0g hM
    rw [hfl] at *
    obtain ⟨hx0a, hx0b, hx0c⟩ := two_facts hx1
    go_wp2_with fail
    go_loopw [5, 11] (fun v i wr => ∃ k : Nat, k ≤ ss.length ∧ i = .int .i64 k ∧ v = .int .i64 (lastTo (S.take k) s) ∧ Below w1.heap.size w1 wr) (fun _ i _ => ss.length - (intOf i).toNat)
    case atStart => exact ⟨0, Nat.zero_le _, rfl, rfl, Below.refl _ _⟩
    case round =>
      obtain ⟨k, hk, rfl, rfl, hbw⟩ := hrel
      by_cases hlt : k < ss.length
      · have hlt' : (k : Int) < (ss.length : Int) := by omega
        obtain ⟨x, y, g1, g2, hf2, hst⟩ := HS.out k hlt
        have c1 := (hbw.cell (p := ⟨g, k * 2, none⟩) hg).trans (HC.out (k * 2) (by omega))
        have c2 := (hbw.cell (p := ⟨g, k * 2 + 1, none⟩) hg).trans (HC.out (k * 2 + 1) (by omega))
        rw [g1] at c1
        rw [g2] at c2
        obtain ⟨ka, kb, kc⟩ := two_facts (heap_keep hbw hx1)
        have hLs := fun w => hL x y w hf2
        rw [hst] at hLs
        have hnext := lastTo_take (l := S) (k := k) (s := s) (by omega)
        clear g1 g2 hf2 hst
        by_cases hc : s < S.getD k 0
        · rw [decide_eq_true hc] at hLs
          rw [if_neg (by omega)] at hnext
          have HN := Lib.hid hnext
          clear hnext hc
          go_wp2_with fail
          refine (hLs _).mono ?_; rintro e w3 ⟨rfl, hb3⟩
          have hbw3 := nx (nxAlloc hbw _) hb3
          go_wp2_with fail
          go_roundw
          case rel => exact ⟨k + 1, by omega, by go_num, by rw [HN.out], hbw3⟩
          case measure => simp [intOf]; omega
        · rw [decide_eq_false hc] at hLs
          rw [if_pos (by omega)] at hnext
          have HN := Lib.hid hnext
          clear hnext hc
          go_wp2_with fail
          refine (hLs _).mono ?_; rintro e w3 ⟨rfl, hb3⟩
          have hbw3 := nx (nxAlloc hbw _) hb3
          go_wp2_with fail
          go_roundw
          case rel => exact ⟨k + 1, by omega, by go_num, by rw [HN.out], hbw3⟩
          case measure => simp [intOf]; omega
      · obtain rfl : k = ss.length := by omega
        rw [List.take_of_length_le (by omega)]
        go_wp2_with fail
        go_ret
        exact ⟨rfl, nx hbw1 hbw⟩

set_option maxRecDepth 100000 in
set_option maxHeartbeats 2000000 in
theorem lastUpToStr_any (b0 : Nat) (v : Value) (ss : List ByteArray) (s : Nat) (w : World) (hc : CellsS b0 w v ss) (hn : ss.length ≤ 1000) (hok : ∀ a ∈ ss, okAd a) :
    Calls Try.prog 54 #[v, .int .i64 s, .func (Fn.func 52) #[] #[]] w (Gives (.int .i64 (lastTo (ss.map stA) s)) w) := by
  have hcall : ∀ (args : Array Value) (w : World), (callFunc 52 args).run Try.prog w = .ok (.enter 52 args) w := fun _ _ => by kernel_rfl
  have HZ := Lib.hid hok
  clear hok
  obtain ⟨S, hS⟩ : ∃ S : List Nat, S = ss.map stA := ⟨_, rfl⟩
  rw [← hS]
  have hSl : S.length = ss.length := by rw [hS]; simp
  have hst : ∀ k, k < ss.length → S.getD k 0 = stA (ss.getD k ⟨#[]⟩) := by intro k hk; rw [hS]; simp [hk]
  have HT := Lib.hid hst
  clear hst hS
  rcases hc with ⟨rfl, rfl⟩ | ⟨g, cap, rfl, hg0, hg, hc1, hc2, hcell, _⟩
  · obtain rfl : S = [] := List.length_eq_zero_iff.1 (by simpa using hSl)
    go_enter Try.func54, Try.ntmps54
    go_wp2_with fail
    go_loopw [7, 11] (fun v i wr => v = .int .i64 0 ∧ i = .int .i64 0 ∧ wr = w) (fun _ _ _ => 0)
    case atStart => exact ⟨rfl, rfl, rfl⟩
    case round =>
      obtain ⟨rfl, rfl, rfl⟩ := hrel
      go_wp2_with fail
      go_ret
      exact ⟨rfl, Below.refl _ _⟩
  · have HC := Lib.hid hcell
    unfold maxLen at hc2
    clear hcell
    go_enter Try.func54, Try.ntmps54
    go_wp2_with fail
    go_loopw [7, 11] (fun v i wr => ∃ k : Nat, k ≤ ss.length ∧ i = .int .i64 k ∧ v = .int .i64 (lastTo (S.take k) s) ∧ Below w.heap.size w wr) (fun _ i _ => ss.length - (intOf i).toNat)
    case atStart => exact ⟨0, Nat.zero_le _, rfl, rfl, Below.refl _ _⟩
    case round =>
      obtain ⟨k, hk, rfl, rfl, hbw⟩ := hrel
      by_cases hlt : k < ss.length
      · have hlt' : (k : Int) < (ss.length : Int) := by omega
        have c1 := (hbw.cell (p := ⟨g, k, none⟩) hg).trans (HC.out k hlt)
        have hz := HZ.out (ss.getD k ⟨#[]⟩) (by rw [List.getD_eq_getElem?_getD, List.getElem?_eq_getElem hlt]; exact List.getElem_mem hlt)
        have hnext := lastTo_take (l := S) (k := k) (s := s) (by omega)
        rw [HT.out k hlt] at hnext
        obtain ⟨a, ha⟩ : ∃ a, a = ss.getD k ⟨#[]⟩ := ⟨_, rfl⟩
        rw [← ha] at c1 hz hnext
        have hS := fun w => startOf_any a w hz.1 hz.2
        generalize stA a = z at *
        clear ha hz
        by_cases hle : z ≤ s
        · rw [if_pos hle] at hnext
          have HN := Lib.hid hnext
          have hle' : (z : Int) ≤ (s : Int) := by omega
          clear hnext hle
          go_wp2_with fail
          refine (hS _).mono ?_; rintro e w3 ⟨rfl, hb3⟩
          have hbw3 := nx hbw hb3
          go_wp2_with fail
          go_roundw
          case rel => exact ⟨k + 1, by omega, by go_num, by rw [HN.out], hbw3⟩
          case measure => simp [intOf]; omega
        · rw [if_neg hle] at hnext
          have HN := Lib.hid hnext
          have hle' : ¬ (z : Int) ≤ (s : Int) := by omega
          clear hnext hle
          go_wp2_with fail
          refine (hS _).mono ?_; rintro e w3 ⟨rfl, hb3⟩
          have hbw3 := nx hbw hb3
          go_wp2_with fail
          go_roundw
          case rel => exact ⟨k + 1, by omega, by go_num, by rw [HN.out], hbw3⟩
          case measure => simp [intOf]; omega
      · obtain rfl : k = ss.length := by omega
        rw [List.take_of_length_le (by omega)]
        go_wp2_with fail
        go_ret
        exact ⟨rfl, hbw⟩
end Go.Proofs.Ytbmegkphmifokaa
