/- Walks: spec.mpStarts, impl.fractionsOf[string]. -/
import Derived.Test.YtbmegkphmifokaaFs2
import Derived.Test.YtbmegkphmifokaaRowW
import Derived.Test.YtbmegkphmifokaaFr4
import Derived.Test.YtbmegkphmifokaaAddr
namespace Go.Proofs.Ytbmegkphmifokaa
open Go.RowKit

theorem two1 (a b : Int) : ∀ u ∈ [Value.int .i64 a, Value.int .i64 b], u.oneCell' = true := by
  intro u hu
  simp at hu
  rcases hu with rfl | rfl <;> rfl
/-- The fractions at which addresses begin. -/
def frs (ss : List ByteArray) : List (Nat × Nat) := ss.map fun a => frOf (stA a)
theorem frs_snoc {ss : List ByteArray} {k : Nat} (h : k < ss.length) : frs (ss.take (k + 1)) = frs (ss.take k) ++ [((frOf (stA (ss.getD k ⟨#[]⟩))).1, (frOf (stA (ss.getD k ⟨#[]⟩))).2)] := by
  unfold frs
  rw [List.take_succ_eq_append_getElem h, List.map_append]
  simp [h]
def okAd (a : ByteArray) : Prop := a.size ≤ 10 ∧ a.data.toList.all isBit = true
theorem addrs_ok (t : Tr) (h : t.carets ≤ 8) : ∀ a ∈ t.addrs ⟨#[]⟩, okAd a := by
  intro a ha
  refine ⟨?_, addrs_bits t ⟨#[]⟩ rfl a ha⟩
  have := addrs_size t ⟨#[]⟩ a ha
  have e : (⟨#[]⟩ : ByteArray).size = 0 := rfl
  omega

set_option maxRecDepth 100000 in
set_option maxHeartbeats 2000000 in
theorem mpStarts_any (t : Tr) (w : World) (h : t.carets ≤ 8) :
    Calls Try.prog 49 #[.string t.str] w (GivesF (frs (t.addrs ⟨#[]⟩)) w) := by
  obtain ⟨i0, hi, hz0, hz1, hz2⟩ := info_parts info_frac
  have hl := addrs_length t ⟨#[]⟩
  have hA := fun w => trAddresses_any t ⟨#[]⟩ w (by omega) (by show 0 + t.carets ≤ 1000; omega)
  have hok := addrs_ok t h
  obtain ⟨ss, hss⟩ : ∃ ss, ss = t.addrs ⟨#[]⟩ := ⟨_, rfl⟩
  rw [← hss] at hl hA hok ⊢
  have hln : ss.length ≤ 9 := by omega
  have hlp : 0 < ss.length := by omega
  have HZ := Lib.hid hok
  clear hss hl hok
  go_enter Try.func49, Try.ntmps49
  go_wp2_with fail
  refine (hA _).mono ?_; rintro e w2 ⟨g, cap, own, hb2, rfl⟩
  go_wp2_with fail
  rcases own.cells with ⟨_, h0⟩ | ⟨g', cap', hv, hg0, hg, hc1, hc2, hcell, _⟩
  · rw [h0] at hlp; simp at hlp
  · obtain ⟨rfl, rfl⟩ : g' = g ∧ cap' = cap := by simpa using hv.symm
    have HC := Lib.hid hcell
    clear hv hcell own
    go_loopw [3, 9] (fun v i wr => ∃ k : Nat, k ≤ ss.length ∧ i = .int .i64 k ∧ OwnF w2.heap.size wr v (frs (ss.take k)) ∧ Below w2.heap.size w2 wr) (fun _ i _ => ss.length - (intOf i).toNat)
    case atStart => exact ⟨0, Nat.zero_le _, rfl, OwnW.nil _ _ _ _, Below.refl _ _⟩
    case round =>
      obtain ⟨k, hk, rfl, hown, hbw2⟩ := hrel
      by_cases hlt : k < ss.length
      · have hlt' : (k : Int) < (ss.length : Int) := by omega
        have hlen : (frs (ss.take k)).length = k := by simp [frs]; omega
        have c1 := (hbw2.cell (p := ⟨g', k, none⟩) hg).trans (HC.out k hlt)
        have hz := HZ.out (ss.getD k ⟨#[]⟩) (by rw [List.getD_eq_getElem?_getD, List.getElem?_eq_getElem hlt]; exact List.getElem_mem hlt)
        have hnext := frs_snoc hlt
        obtain ⟨xs, hxs⟩ : ∃ xs, xs = frs (ss.take k) := ⟨_, rfl⟩
        rw [← hxs] at hown hlen hnext
        obtain ⟨s, hs⟩ : ∃ s, s = ss.getD k ⟨#[]⟩ := ⟨_, rfl⟩
        rw [← hs] at c1 hz hnext
        have hM := fun w => mpOf_any s w hz.1 hz.2
        generalize (frOf (stA s)).1 = x at *
        generalize (frOf (stA s)).2 = y at *
        have HN := Lib.hid hnext
        have hxl : xs.length ≤ 9 := by omega
        clear hs hnext hxs hlen hz
        go_wp2_with fail
        refine (hM _).mono ?_; rintro e w3 ⟨rfl, hb3⟩
        have hown3 := hown.keep hb3
        have hbw3 := nx hbw2 hb3
        have hs3 := hbw3.size
        clear hown hbw2 hb3
        go_wp2_with (at_builtin; refine wpList_append_own _ rfl _ _ 31 rfl w2.heap.size 25 i0 (.agg #[.int .i64 0, .int .i64 0]) 2 16 Try.underlying31 hi hz0 hz1 hz2 rfl (by decide) _ _ _ rfl (hown3.alloc _) ⟨w3.heap.size, 0, none⟩ 1 1 [.int .i64 x, .int .i64 y] rfl rfl (newsK _ #[.int .i64 x, .int .i64 y] _) (two1 _ _) (by unfold maxLen; omega) (by omega) (by simp; omega) ?_; intro v' w9 hown' hgrow hnn)
        have hbw9 := (nxAlloc hbw3 _).grown hgrow (by simp; omega) (fun k hk => ownsRow_ge hown3 k hk)
        have hown1 := OwnF.snoc hown'
        clear hown3 hown' hgrow hbw3 hnn
        go_wp2_with fail
        go_roundw
        case rel => exact ⟨k + 1, by omega, by go_num, by rw [HN.out]; exact hown1, hbw9⟩
        case measure => simp [intOf]; omega
      · obtain rfl : k = ss.length := by omega
        rw [List.take_of_length_le (Nat.le_refl _)] at hown
        go_wp2_with fail
        go_ret
        exact ⟨_, hown.mono hb2.size, nx hb2 hbw2, rfl⟩

set_option maxRecDepth 100000 in
set_option maxHeartbeats 2000000 in
theorem fractionsOfStr_any (b0 : Nat) (v : Value) (ss : List ByteArray) (w : World) (hc : CellsS b0 w v ss) (hn : ss.length ≤ 1000) (hok : ∀ a ∈ ss, okAd a)
    (hcall : ∀ (args : Array Value) (w : World), (callFunc 52 args).run Try.prog w = .ok (.enter 52 args) w) :
    Calls Try.prog 51 #[v, .func (Fn.func 52) #[] #[]] w (GivesF (frs ss) w) := by
  obtain ⟨i0, hi, hz0, hz1, hz2⟩ := info_parts info_frac
  have HZ := Lib.hid hok
  clear hok
  rcases hc with ⟨rfl, rfl⟩ | ⟨g, cap, rfl, hg0, hg, hc1, hc2, hcell, _⟩
  · go_enter Try.func51, Try.ntmps51
    go_wp2_with fail
    go_loopw [5, 12] (fun v i wr => v = .slice none 0 0 ∧ i = .int .i64 0 ∧ wr = w) (fun _ _ _ => 0)
    case atStart => exact ⟨rfl, rfl, rfl⟩
    case round =>
      obtain ⟨rfl, rfl, rfl⟩ := hrel
      go_wp2_with fail
      go_ret
      exact ⟨_, OwnW.nil _ _ _ _, Below.refl _ _, rfl⟩
  · have HC := Lib.hid hcell
    unfold maxLen at hc2
    clear hcell
    go_enter Try.func51, Try.ntmps51
    go_wp2_with fail
    go_loopw [5, 12] (fun v i wr => ∃ k : Nat, k ≤ ss.length ∧ i = .int .i64 k ∧ OwnF w.heap.size wr v (frs (ss.take k)) ∧ Below w.heap.size w wr) (fun _ i _ => ss.length - (intOf i).toNat)
    case atStart => exact ⟨0, Nat.zero_le _, rfl, OwnW.nil _ _ _ _, Below.refl _ _⟩
    case round =>
      obtain ⟨k, hk, rfl, hown, hbw2⟩ := hrel
      by_cases hlt : k < ss.length
      · have hlt' : (k : Int) < (ss.length : Int) := by omega
        have hlen : (frs (ss.take k)).length = k := by simp [frs]; omega
        have c1 := (hbw2.cell (p := ⟨g, k, none⟩) hg).trans (HC.out k hlt)
        have hz := HZ.out (ss.getD k ⟨#[]⟩) (by rw [List.getD_eq_getElem?_getD, List.getElem?_eq_getElem hlt]; exact List.getElem_mem hlt)
        have hnext := frs_snoc hlt
        obtain ⟨xs, hxs⟩ : ∃ xs, xs = frs (ss.take k) := ⟨_, rfl⟩
        rw [← hxs] at hown hlen hnext
        obtain ⟨s, hs⟩ : ∃ s, s = ss.getD k ⟨#[]⟩ := ⟨_, rfl⟩
        rw [← hs] at c1 hz hnext
        have hS := fun w => startOf_any s w hz.1 hz.2
        have hlts := stA_lt (a := s) (by have := hz.1; omega) hz.2
        have hFA := fun w => fractionAt_any (stA s) w (by omega)
        rw [frA_thousand (by omega) (stA_thousand hz.1)] at hFA
        have hF : ∀ w, Calls Try.prog 59 #[.int .i64 (stA s)] w (Gives (.tuple #[.agg #[.int .i64 (frOf (stA s)).1, .int .i64 (frOf (stA s)).2], .bool true]) w) := hFA
        clear hFA hlts
        generalize (frOf (stA s)).1 = x at *
        generalize (frOf (stA s)).2 = y at *
        generalize stA s = z at *
        have HN := Lib.hid hnext
        have hxl : xs.length ≤ 1000 := by omega
        clear hs hnext hxs hlen hz
        go_wp2_with fail
        refine (hS _).mono ?_; rintro e w3 ⟨rfl, hb3⟩
        have hown3 := hown.keep hb3
        have hbw3 := nx hbw2 hb3
        clear hown hbw2 hb3
        go_wp2_with fail
        refine (hF _).mono ?_; rintro e w4 ⟨rfl, hb4⟩
        have hown4 := (hown3.keep hb4)
        have hbw4 := nx hbw3 hb4
        have hs4 := hbw4.size
        clear hown3 hbw3 hb4
        have hnews : ∀ (j : Nat) (u : Value), [Value.int .i64 x, Value.int .i64 y][j]? = some u → ((w4.alloc (.cells #[.int .i64 x, .int .i64 y] 25 (0, 0))).alloc (.cells #[.int .i64 x, .int .i64 y] 25 (0, 0))).cell? ((⟨w4.heap.size + 1, 0, none⟩ : Addr).add j) = some u := by
          have h := newsK (w4.alloc (.cells #[.int .i64 x, .int .i64 y] 25 (0, 0))) #[.int .i64 x, .int .i64 y] 25
          have e1 : (w4.alloc (.cells #[.int .i64 x, .int .i64 y] 25 (0, 0))).heap.size = w4.heap.size + 1 := by simp
          rw [e1] at h
          exact h
        have hown5 := World.ownsRow.alloc (World.ownsRow.alloc hown4 (.cells #[.int .i64 x, .int .i64 y] 25 (0, 0))) (.cells #[.int .i64 x, .int .i64 y] 25 (0, 0))
        have hsz5 : w.heap.size ≤ ((w4.alloc (.cells #[.int .i64 x, .int .i64 y] 25 (0, 0))).alloc (.cells #[.int .i64 x, .int .i64 y] 25 (0, 0))).heap.size := by simp; omega
        go_wp2_with (at_builtin; refine wpList_append_own _ rfl _ _ 31 rfl w.heap.size 25 i0 (.agg #[.int .i64 0, .int .i64 0]) 2 16 Try.underlying31 hi hz0 hz1 hz2 rfl (by decide) _ _ _ rfl hown5 ⟨w4.heap.size + 1, 0, none⟩ 1 1 [.int .i64 x, .int .i64 y] rfl rfl hnews (two1 _ _) (by unfold maxLen; omega) (by omega) hsz5 ?_; intro v' w9 hown' hgrow hnn)
        have hbw9 := (nxAlloc (nxAlloc hbw4 _) _).grown hgrow (by simp; omega) (fun k hk => ownsRow_ge hown4 k hk)
        have hown1 := OwnF.snoc hown'
        clear hown4 hown5 hnews hsz5 hown' hgrow hbw4 hnn
        go_wp2_with fail
        go_roundw
        case rel => exact ⟨k + 1, by omega, by go_num, by rw [HN.out]; exact hown1, hbw9⟩
        case measure => simp [intOf]; omega
      · obtain rfl : k = ss.length := by omega
        rw [List.take_of_length_le (Nat.le_refl _)] at hown
        go_wp2_with fail
        go_ret
        exact ⟨_, hown, hbw2, rfl⟩
end Go.Proofs.Ytbmegkphmifokaa
