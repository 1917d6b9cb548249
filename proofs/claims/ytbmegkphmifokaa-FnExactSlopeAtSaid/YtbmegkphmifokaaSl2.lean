/- Walks: impl.lastUpTo[piece], pieceAt. -/
import Derived.Test.YtbmegkphmifokaaFp1
import Derived.Test.YtbmegkphmifokaaFt4
namespace Go.Proofs.Ytbmegkphmifokaa
open Go.RowKit

theorem start_any (x y z : Int) (w : World) : Calls Try.prog 68 #[.agg #[.int .i64 x, .int .i64 y, .int .i64 z]] w (Gives (.int .i64 x) w) := by
  go_enter Try.func68, Try.ntmps68
  go_wp2_with fail
  go_ret
  exact ⟨rfl, nxAlloc (Below.refl _ _) _⟩
set_option maxRecDepth 100000 in
set_option maxHeartbeats 2000000 in
theorem lastUpToP_any (g cap : Nat) (ps : List (Nat × Nat × Int)) (n s : Nat) (w : World) (hn : ps.length = n) (hn9 : n ≤ 1000) (hg : g < w.heap.size) (hc1 : n ≤ cap) (_hc2 : cap ≤ maxLen)
    (hcell : ∀ i, i < n * 3 → w.cell? ⟨g, i, none⟩ = some (.int .i64 ((flatP ps).getD i 0))) :
    Calls Try.prog 83 #[.slice (some ⟨g, 0, none⟩) n cap, .int .i64 s, .func (Fn.func 68) #[] #[]] w (Gives (.int .i64 (lastTo (ps.map fun x => x.1) s)) w) := by
  have hcall : ∀ (args : Array Value) (w : World), (callFunc 68 args).run Try.prog w = .ok (.enter 68 args) w := fun _ _ => by kernel_rfl
  obtain ⟨S, hS⟩ : ∃ S : List Nat, S = ps.map fun x => x.1 := ⟨_, rfl⟩
  rw [← hS]
  have hSl : S.length = n := by rw [hS]; simp [hn]
  have hst : ∀ k, k < n → S.getD k 0 = (ps.getD k (0, 0, 0)).1 := by intro k hk; have : k < ps.length := by omega
                                                                     rw [hS]; simp [this]
  have HT := Lib.hid hst
  have HNN := Lib.hid hn
  have HC := Lib.hid hcell
  unfold maxLen at _hc2
  clear hst hS hn hcell
  go_enter Try.func83, Try.ntmps83
  go_wp2_with fail
  go_loopw [7, 11] (fun v i wr => ∃ k : Nat, k ≤ n ∧ i = .int .i64 k ∧ v = .int .i64 (lastTo (S.take k) s) ∧ Below w.heap.size w wr) (fun _ i _ => n - (intOf i).toNat)
  case atStart => exact ⟨0, Nat.zero_le _, rfl, rfl, Below.refl _ _⟩
  case round =>
    obtain ⟨k, hk, rfl, rfl, hbw⟩ := hrel
    by_cases hlt : k < n
    · have hlt' : (k : Int) < (n : Int) := by omega
      have hN := HNN.out
      have fg := flatP_get ps k (by omega)
      have c1 := (hbw.cell (p := ⟨g, k * 3, none⟩) hg).trans (HC.out (k * 3) (by omega))
      have c2 := (hbw.cell (p := ⟨g, k * 3 + 1, none⟩) hg).trans (HC.out (k * 3 + 1) (by omega))
      have c3 := (hbw.cell (p := ⟨g, k * 3 + 2, none⟩) hg).trans (HC.out (k * 3 + 2) (by omega))
      rw [fg.1] at c1
      rw [fg.2.1] at c2
      rw [fg.2.2] at c3
      have hnext := lastTo_take (l := S) (k := k) (s := s) (by omega)
      rw [HT.out k hlt] at hnext
      generalize (ps.getD k (0, 0, 0)).2.2 = z at *
      generalize (ps.getD k (0, 0, 0)).2.1 = y at *
      generalize (ps.getD k (0, 0, 0)).1 = x at *
      have hS := fun w => start_any (x : Int) (y : Int) z w
      clear fg hN
      by_cases hle : x ≤ s
      · rw [if_pos hle] at hnext
        have HN := Lib.hid hnext
        have hle' : (x : Int) ≤ (s : Int) := by omega
        clear hnext hle
        go_wp2_with fail
        refine (hS _).mono ?_; rintro e w3 ⟨rfl, hb3⟩
        have hbw3 := nx hbw hb3
        go_wp2_with fail
        go_roundw
        case rel => exact ⟨k + 1, by omega, by go_num, by rw [HN.out], hbw3⟩
        case measure => simp [intOf]; omega
      · rw [if_neg hle] at hnext
        have HN := Lib.hid hnext
        have hle' : ¬ (x : Int) ≤ (s : Int) := by omega
        clear hnext hle
        go_wp2_with fail
        refine (hS _).mono ?_; rintro e w3 ⟨rfl, hb3⟩
        have hbw3 := nx hbw hb3
        go_wp2_with fail
        go_roundw
        case rel => exact ⟨k + 1, by omega, by go_num, by rw [HN.out], hbw3⟩
        case measure => simp [intOf]; omega
    · obtain rfl : k = n := by omega
      rw [List.take_of_length_le (by omega)]
      go_wp2_with fail
      go_ret
      exact ⟨rfl, hbw⟩

theorem three_cells {w : World} {g : Nat} {a b c : Value} {t : TypeId} (h : w.heap[g]? = some (.cells #[a, b, c] t (0, 0))) : w.cell? ⟨g, 0, none⟩ = some a ∧ w.cell? ⟨g, 1, none⟩ = some b ∧ w.cell? ⟨g, 2, none⟩ = some c := by
  simp [World.cell?, h]
theorem three_frozen {w : World} {g : Nat} {a b c : Value} {t : TypeId} (h : w.heap[g]? = some (.cells #[a, b, c] t (0, 0))) : w.frozen? ⟨g, 0, none⟩ = false ∧ w.frozen? ⟨g, 1, none⟩ = false ∧ w.frozen? ⟨g, 2, none⟩ = false := by
  simp [World.frozen?, h]
theorem set_three {w : World} {g : Nat} {a b c : Value} (a' b' c' : Value) {t : TypeId} (h : w.heap[g]? = some (.cells #[a, b, c] t (0, 0))) : (((w.setCell ⟨g, 0, none⟩ a').setCell ⟨g, 1, none⟩ b').setCell ⟨g, 2, none⟩ c').heap[g]? = some (.cells #[a', b', c'] t (0, 0)) :=
  Joins.block_setCell (Joins.block_setCell (Joins.block_setCell h a') b') c'

set_option maxRecDepth 100000 in
set_option maxHeartbeats 2000000 in
theorem pieceAt_any (g cap : Nat) (ps : List (Nat × Nat × Int)) (n s : Nat) (w : World) (hn : ps.length = n) (hn0 : 0 < n) (hn9 : n ≤ 1000) (hg : g < w.heap.size) (hc1 : n ≤ cap) (hc2 : cap ≤ maxLen)
    (hcell : ∀ i, i < n * 3 → w.cell? ⟨g, i, none⟩ = some (.int .i64 ((flatP ps).getD i 0))) :
    Calls Try.prog 60 #[.slice (some ⟨g, 0, none⟩) n cap, .int .i64 s] w (Gives (.agg #[.int .i64 (ps.getD (lastTo (ps.map fun x => x.1) s) (0, 0, 0)).1, .int .i64 (ps.getD (lastTo (ps.map fun x => x.1) s) (0, 0, 0)).2.1, .int .i64 (ps.getD (lastTo (ps.map fun x => x.1) s) (0, 0, 0)).2.2]) w) := by
  obtain ⟨o, ho⟩ : ∃ o : Obj, o = .cells #[.int .i64 0, .int .i64 0, .int .i64 0] 78 (0, 0) := ⟨_, rfl⟩
  have hb0 : Below w.heap.size w (w.alloc o) := nxAlloc (Below.refl _ _) _
  have hcell' : ∀ i, i < n * 3 → (w.alloc o).cell? ⟨g, i, none⟩ = some (.int .i64 ((flatP ps).getD i 0)) := fun i hi => (hb0.cell (p := ⟨g, i, none⟩) hg).trans (hcell i hi)
  have hg' : g < (w.alloc o).heap.size := Nat.lt_of_lt_of_le hg hb0.size
  have hU := lastUpToP_any g cap ps n s (w.alloc o) hn hn9 hg' hc1 hc2 hcell'
  have hlt := lastTo_lt (ps.map fun x => x.1) s (by simp; omega)
  rw [List.length_map, hn] at hlt
  generalize lastTo (ps.map fun x => x.1) s = r at *
  have fg := flatP_get ps r (by omega)
  have d1 := hcell' (r * 3) (by omega)
  have d2 := hcell' (r * 3 + 1) (by omega)
  have d3 := hcell' (r * 3 + 2) (by omega)
  rw [fg.1] at d1
  rw [fg.2.1] at d2
  rw [fg.2.2] at d3
  generalize (ps.getD r (0, 0, 0)).2.2 = z at *
  generalize (ps.getD r (0, 0, 0)).2.1 = y at *
  generalize (ps.getD r (0, 0, 0)).1 = x at *
  have hx0 := heap_alloc_at w o
  rw [ho] at hU d1 d2 d3 hg' hx0 hb0
  have hlt' : (r : Int) < (n : Int) := by omega
  unfold maxLen at hc2
  clear hcell hcell' fg hn ho
  go_enter Try.func60, Try.ntmps60
  go_wp2_with fail
  refine hU.mono ?_; rintro e w1 ⟨rfl, hb1⟩
  have c1 := (hb1.cell (p := ⟨g, r * 3, none⟩) hg').trans d1
  have c2 := (hb1.cell (p := ⟨g, r * 3 + 1, none⟩) hg').trans d2
  have c3 := (hb1.cell (p := ⟨g, r * 3 + 2, none⟩) hg').trans d3
  have hx1 := heap_keep hb1 hx0
  have hbw1 := nx hb0 hb1
  obtain ⟨ka, kb, kc⟩ := three_cells hx1
  obtain ⟨kf, kg, kh⟩ := three_frozen hx1
  clear d1 d2 d3 hx0 hb0 hb1 hU
  go_wp2_with fail
  obtain ⟨q1, q2, q3⟩ := three_cells (set_three (.int .i64 x) (.int .i64 y) (.int .i64 z) hx1)
  refine bodyPost_ret (v := .agg #[.int .i64 x, .int .i64 y, .int .i64 z]) (by simp [q1, q2, q3, results, Try.results60, go_sem]) rfl ⟨rfl, ?_⟩
  exact ((hbw1.setCell (by show w.heap.size ≤ w.heap.size; omega) _).setCell (by show w.heap.size ≤ w.heap.size; omega) _).setCell (by show w.heap.size ≤ w.heap.size; omega) _
end Go.Proofs.Ytbmegkphmifokaa
