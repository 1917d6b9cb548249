/- FnExactGraphText: for every input the law returns true and leaves its arguments as they were. No conditions. -/
import Derived.Test.YtdhjchibhlcchaaDoorMgGraphText1
import Derived.Shelf.Strings.OnBuilder
import Derived.Shelf.Strings.Builder1
import Derived.Shelf.Strings.Builder2
import Derived.Test.YtdhjchibhlcchaaDoorProg
import Derived.Deep.AppendLies
import Derived.Test.YtdhjchibhlcchaaDoorCards
import Derived.Test.YtdhjchibhlcchaaDoorTie
import Derived.LaidMore
import Derived.Lay
import Derived.SevenTiedAt
import Derived.Stop.Joined
import Derived.ProofKit
import Derived.OpenShut
import Derived.ShutString
import Derived.ChangeOld
import Derived.Below
import Derived.Lib.SmallJoins
/-! Br1 -/
namespace Go.Proofs.YtdhjchibhlcchaaDoor
open Go.RowKit

/-- The places where a list changes. -/
def brkI (sl : List Int) (n : Nat) : List Nat := (List.range n).filter fun k => decide (0 < k) && decide (sl.getD k 0 ≠ sl.getD (k - 1) 0)
theorem brkI_one (sl : List Int) : brkI sl 1 = [] := by simp [brkI, List.range_succ]
theorem brkI_succ (sl : List Int) (j : Nat) : brkI sl (j + 1 + 1) = brkI sl (j + 1) ++ (if sl.getD (j + 1) 0 = sl.getD j 0 then [] else [j + 1]) := by
  unfold brkI
  rw [List.range_succ, List.filter_append]
  congr 1
  by_cases h : sl.getD (j + 1) 0 = sl.getD j 0
  · rw [if_pos h, List.filter_cons_of_neg (by simp only [Nat.add_sub_cancel]; rw [h]; simp)]; rfl
  · rw [if_neg h, List.filter_cons_of_pos (by simp only [Nat.add_sub_cancel]; simp only [Bool.and_eq_true, decide_eq_true_eq]; exact ⟨by omega, h⟩)]; rfl
theorem brkI_lt (sl : List Int) (n : Nat) : ∀ k ∈ brkI sl n, k < n := by
  intro k hk
  unfold brkI at hk
  rw [List.mem_filter, List.mem_range] at hk
  exact hk.1
theorem brkI_len (sl : List Int) (n : Nat) : (brkI sl n).length ≤ n := by
  have := List.length_filter_le (fun k => decide (0 < k) && decide (sl.getD k 0 ≠ sl.getD (k - 1) 0)) (List.range n)
  rw [List.length_range] at this
  exact this
def toI (l : List Nat) : List Int := l.map fun (k : Nat) => (k : Int)

set_option maxRecDepth 100000 in
set_option maxHeartbeats 4000000 in
theorem mpBreaks_any (p : Pr) (w : World) (h1 : p.1.carets ≤ 8) (h2 : p.2.carets ≤ 8) (he : p.1.carets = p.2.carets) :
    Calls Tryd.prog 26 #[.agg #[.string p.1.str, .string p.2.str]] w (GivesInts (toI (brkI (slopes p) (slopes p).length)) w) := by
  obtain ⟨i0, hi, hz0, hz1, hz2⟩ := info_parts info_int
  have hM := fun w => mpSlopes_any p w h1 h2 he
  have l1 := addrs_length p.1 ⟨#[]⟩
  have l2 := addrs_length p.2 ⟨#[]⟩
  have pl : (slopes p).length = p.1.carets + 1 := by
    have := slopesL_length (p.1.addrs ⟨#[]⟩) (p.2.addrs ⟨#[]⟩) (by omega)
    show (slopesL (p.1.addrs ⟨#[]⟩) (p.2.addrs ⟨#[]⟩)).length = _
    omega
  generalize slopes p = ps at *
  obtain ⟨m, hm⟩ : ∃ m, ps.length = m := ⟨_, rfl⟩
  have hm9 : m ≤ 9 := by omega
  have hm0 : 0 < m := by omega
  rw [hm]
  clear l1 l2 pl
  go_enter Tryd.func26, Tryd.ntmps26
  go_wp2_with fail
  have hb0 : Below w.heap.size w (w.alloc (.cells #[.string p.1.str, .string p.2.str] 33 (0, 0))) := nxAlloc (Below.refl _ _) _
  have hx0 := heap_alloc_at w (.cells #[.string p.1.str, .string p.2.str] 33 (0, 0))
  generalize (w.alloc (.cells #[.string p.1.str, .string p.2.str] 33 (0, 0))) = w0 at *
  obtain ⟨hx0a, hx0b, hx0c⟩ := two_facts hx0
  obtain ⟨hx0f, hx0g⟩ := two_frozen hx0
  refine (hM _).mono ?_; rintro e w2 ⟨v, own, hb2, rfl⟩
  have hbw2 := nx hb0 hb2
  clear hx0 hx0a hx0b hx0c hx0f hx0g hM hb2 hb0
  rcases own.cells with ⟨_, h0⟩ | ⟨g, cap, rfl, _, hg1, hc3, hc4, hcell, _⟩
  · rw [h0] at hm; simp at hm; omega
  · unfold maxLen at hc4
    rw [hm] at hc3 hcell ⊢
    have HC := Lib.hid hcell
    clear hcell own hm
    go_wp2_with fail
    go_loopw [3, 5] (fun v i wr => ∃ j : Nat, j + 1 ≤ m ∧ i = .int .i64 (j + 1 : Nat) ∧ OwnI w2.heap.size wr v (toI (brkI ps (j + 1))) ∧ Below w2.heap.size w2 wr) (fun _ i _ => m - (intOf i).toNat)
    case atStart => exact ⟨0, by omega, rfl, by rw [brkI_one]; exact OwnI.nil _ _, Below.refl _ _⟩
    case round =>
      obtain ⟨j, hj, rfl, hown, hbw⟩ := hrel
      by_cases hlt : j + 1 < m
      · have hlt' : (j : Int) + 1 < (m : Int) := by omega
        have hlt2 : (j : Int) < (m : Int) := by omega
        have c1 := (hbw.cell (p := ⟨g, j + 1, none⟩) hg1).trans (HC.out (j + 1) (by omega))
        have c2 := (hbw.cell (p := ⟨g, j, none⟩) hg1).trans (HC.out j (by omega))
        have hnext := brkI_succ ps j
        have hlen := brkI_len ps (j + 1)
        generalize ps.getD (j + 1) 0 = x at *
        generalize ps.getD j 0 = y at *
        by_cases hxy : x = y
        · have hxy' : (x != y) = false := by simp [hxy]
          rw [if_pos hxy, List.append_nil] at hnext
          have HN := Lib.hid hnext
          clear hnext hxy hlen
          go_wp2_with fail
          go_quiet (fail)
          go_wp2_with fail
          go_roundw
          case rel => exact ⟨j + 1, by omega, by go_num, by rw [HN.out]; exact hown.keep (drewB (Below.refl _ _) _), drewB hbw _⟩
          case measure => simp [intOf]; omega
        · have hxy' : (x != y) = true := by simp [hxy]
          rw [if_neg hxy] at hnext
          obtain ⟨qs, hqs⟩ : ∃ qs, qs = toI (brkI ps (j + 1)) := ⟨_, rfl⟩
          have hnext2 : toI (brkI ps (j + 1 + 1)) = qs ++ [((j + 1 : Nat) : Int)] := by rw [hnext, hqs]; simp [toI]
          have hq9 : qs.length ≤ 9 := by rw [hqs]; simp [toI]; omega
          rw [← hqs] at hown
          have HN := Lib.hid hnext2
          clear hnext hxy hlen hqs hnext2
          go_wp2_with fail
          go_quiet (fail)
          have hownd := hown.keep (drewB (Below.refl wr.heap.size wr) nq)
          have hbwd := drewB hbw nq
          have hszd := hbwd.size
          generalize wr.drewN nq = wd at *
          clear hown hbw
          go_wp2_with (at_builtin; refine wpList_append_own _ rfl _ _ 48 rfl w2.heap.size 3 i0 (.int .i64 0) 1 8 Tryd.underlying48 hi hz0 hz1 hz2 rfl (by decide) _ _ _ rfl (hownd.alloc _) ⟨wd.heap.size, 0, none⟩ 1 1 [.int .i64 ((j + 1 : Nat) : Int)] rfl rfl (new1 _ _ _) (one1 _) (by unfold maxLen; omega) (by omega) (size_al hbwd _) ?_; intro v' w3 hown' hgrow hnn)
          have hbw' := below_app hbwd hownd (Nat.le_refl _) hgrow
          have hown1 := OwnI.snoc hown'
          clear hownd hown' hgrow hbwd hnn
          go_wp2_with fail
          go_roundw
          case rel => exact ⟨j + 1, by omega, by go_num, by rw [HN.out]; exact hown1, hbw'⟩
          case measure => simp [intOf]; omega
      · obtain rfl : m = j + 1 := by omega
        go_wp2_with fail
        go_ret
        exact ⟨_, hown.mono hbw2.size, nx hbw2 hbw, rfl⟩

set_option maxRecDepth 100000 in
set_option maxHeartbeats 4000000 in
theorem mpAt_any (t : Tr) (b0 : Nat) (v : Value) (L : List Nat) (w : World) (h : t.carets ≤ 8) (hc : CellsI b0 w v (toI L)) (hL : ∀ k ∈ L, k < t.carets + 1) (hn9 : L.length ≤ 9) :
    Calls Tryd.prog 27 #[.string t.str, v] w (GivesF (L.map fun k => (frs (t.addrs ⟨#[]⟩)).getD k (0, 0)) w) := by
  obtain ⟨i0, hi, hz0, hz1, hz2⟩ := info_parts info_frac
  have hM := fun w => mpStarts_any t w h
  have hl := addrs_length t ⟨#[]⟩
  have hfl : (frs (t.addrs ⟨#[]⟩)).length = t.carets + 1 := by simp [frs, hl]
  generalize frs (t.addrs ⟨#[]⟩) = fs at *
  obtain ⟨m, hm⟩ : ∃ m, t.carets + 1 = m := ⟨_, rfl⟩
  have hm0 : 0 < m := by omega
  have hm9 : m ≤ 9 := by omega
  rw [hm] at hL hfl
  have HL := Lib.hid hL
  clear hl hm hL
  have hcl : ∀ w', Below w.heap.size w w' → CellsI b0 w' v (toI L) := by
    intro w' hb
    rcases hc with ⟨h1, h2⟩ | ⟨g, cap, h1, h2, h3, h4, h5, h6, h7⟩
    · exact .inl ⟨h1, h2⟩
    · exact .inr ⟨g, cap, h1, h2, Nat.lt_of_lt_of_le h3 hb.size, h4, h5, fun i hi => (hb.cell (p := ⟨g, i, none⟩) h3).trans (h6 i hi), fun i => (hb.frozen (p := ⟨g, i, none⟩) h3).trans (h7 i)⟩
  have HCL := Lib.hid hcl
  clear hcl
  have hlI : (toI L).length = L.length := by simp [toI]
  rcases hc with ⟨rfl, h2⟩ | ⟨gl, capl, rfl, hb1, hgl, hcl1, hcl2, hxl, _⟩
  · have h0 : L = [] := by cases L with
      | nil => rfl
      | cons a l => simp [toI] at h2
    subst h0
    clear h2 hlI HCL
    go_enter Tryd.func27, Tryd.ntmps27
    go_wp2_with fail
    refine (hM _).mono ?_; rintro e w2 ⟨vs, own, hb2, rfl⟩
    clear own
    go_wp2_with fail
    go_loopw [5, 13] (fun v i wr => v = .slice none 0 0 ∧ i = .int .i64 0 ∧ wr = w2) (fun _ _ _ => 0)
    case atStart => exact ⟨rfl, rfl, rfl⟩
    case round =>
      obtain ⟨rfl, rfl, rfl⟩ := hrel
      go_wp2_with fail
      go_ret
      exact ⟨_, OwnW.nil _ _ _ _, hb2, rfl⟩
  · have HXL := Lib.hid hxl
    unfold maxLen at hcl2
    rw [hlI] at hcl1 HXL ⊢
    clear hxl HCL hlI
    go_enter Tryd.func27, Tryd.ntmps27
    go_wp2_with fail
    refine (hM _).mono ?_; rintro e w2 ⟨vs, own, hb2, rfl⟩
    rcases own.cells with ⟨_, h0⟩ | ⟨g, cap, rfl, _, hg1, hc3, hc4, hcell, _⟩
    · rw [h0] at hfl; omega
    · unfold maxLen at hc4
      rw [hfl] at hc3 hcell ⊢
      have HC := Lib.hid hcell
      have hgl2 := Nat.lt_of_lt_of_le hgl hb2.size
      clear hcell own hM
      go_wp2_with fail
      go_loopw [5, 13] (fun v i wr => ∃ j : Nat, j ≤ L.length ∧ i = .int .i64 j ∧ OwnF w2.heap.size wr v ((L.take j).map fun k => fs.getD k (0, 0)) ∧ Below w2.heap.size w2 wr) (fun _ i _ => L.length - (intOf i).toNat)
      case atStart => exact ⟨0, Nat.zero_le _, rfl, OwnW.nil _ _ _ _, Below.refl _ _⟩
      case round =>
        obtain ⟨j, hj, rfl, hown, hbw⟩ := hrel
        by_cases hlt : j < L.length
        · have hlt' : (j : Int) < (L.length : Int) := by omega
          have e1 : (toI L).getD j 0 = ((L.getD j 0 : Nat) : Int) := by simp [toI, hlt]
          have c1 := (hbw.cell (p := ⟨gl, j, none⟩) hgl2).trans ((hb2.cell (p := ⟨gl, j, none⟩) hgl).trans (HXL.out j hlt))
          rw [e1] at c1
          have hkm := HL.out (L.getD j 0) (by rw [List.getD_eq_getElem?_getD, List.getElem?_eq_getElem hlt]; exact List.getElem_mem hlt)
          have hnext : (L.take (j + 1)).map (fun k => fs.getD k (0, 0)) = (L.take j).map (fun k => fs.getD k (0, 0)) ++ [((fs.getD (L.getD j 0) (0, 0)).1, (fs.getD (L.getD j 0) (0, 0)).2)] := by
            rw [List.take_succ_eq_append_getElem hlt, List.map_append]; simp [hlt]
          have hlen : ((L.take j).map (fun k => fs.getD k (0, 0))).length = j := by simp; omega
          generalize (L.take j).map (fun k => fs.getD k (0, 0)) = qs at hown hlen hnext
          generalize L.getD j 0 = k at *
          have fg := flatF_get fs k (by omega)
          have c2 := (hbw.cell (p := ⟨g, k * 2, none⟩) hg1).trans (HC.out (k * 2) (by omega))
          have c3 := (hbw.cell (p := ⟨g, k * 2 + 1, none⟩) hg1).trans (HC.out (k * 2 + 1) (by omega))
          rw [fg.1] at c2
          rw [fg.2] at c3
          generalize (fs.getD k (0, 0)).1 = x at *
          generalize (fs.getD k (0, 0)).2 = y at *
          have hkm' : (k : Int) < (m : Int) := by omega
          have HN := Lib.hid hnext
          have hq9 : qs.length ≤ 9 := by omega
          have hs3 := hbw.size
          clear hnext hlen fg e1 hfl
          go_wp2_with (at_builtin; refine wpList_append_own _ rfl _ _ 50 rfl w2.heap.size 23 i0 (.agg #[.int .i64 0, .int .i64 0]) 2 16 Tryd.underlying50 hi hz0 hz1 hz2 rfl (by decide) _ _ _ rfl (hown.alloc _) ⟨wr.heap.size, 0, none⟩ 1 1 [.int .i64 x, .int .i64 y] rfl rfl (newsK _ #[.int .i64 x, .int .i64 y] _) (two1 _ _) (by unfold maxLen; omega) (by omega) (by simp; omega) ?_; intro v' w9 hown' hgrow hnn)
          have hbw9 := (nxAlloc hbw _).grown hgrow (by simp; omega) (fun k hk => ownsRow_ge hown k hk)
          have hown1 := OwnF.snoc hown'
          clear hown hown' hgrow hbw hnn
          go_wp2_with fail
          go_roundw
          case rel => exact ⟨j + 1, by omega, by go_num, by rw [HN.out]; exact hown1, hbw9⟩
          case measure => simp [intOf]; omega
        · obtain rfl : j = L.length := by omega
          rw [List.take_of_length_le (Nat.le_refl _)] at hown
          go_wp2_with fail
          go_ret
          exact ⟨_, hown.mono hb2.size, nx hb2 hbw, rfl⟩
end Go.Proofs.YtdhjchibhlcchaaDoor

/-! VlP -/
namespace Go.Proofs.YtdhjchibhlcchaaDoor

theorem frOf_bd {a : ByteArray} (h : a.size ≤ 8) (hb : a.data.toList.all isBit = true) :
    (frOf (stA a)).1 ≤ 256 ∧ 0 < (frOf (stA a)).2 ∧ (frOf (stA a)).2 ≤ 256 ∧ (frOf (stA a)).1 * 1048576 = stA a * (frOf (stA a)).2 := by
  rw [stA_frOf (by omega)]
  have h1 := numA_lt _ a.data.toList rfl hb
  have h2 : a.data.toList.length = a.size := rfl
  rw [h2] at h1
  have h3 : 2 ^ a.size ≤ 2 ^ 8 := Nat.pow_le_pow_right (by omega) h
  have c := stA_cross (a := a) (by omega)
  refine ⟨?_, short_pos (Nat.pow_pos (by omega)), ?_, c⟩
  · exact Nat.le_trans (Nat.div_le_self _ _) (by omega)
  · exact Nat.le_trans (Nat.div_le_self _ _) (by omega)
theorem vl_sub {n d s na da sa : Nat} (h : n * 1048576 = s * d) (ha : na * 1048576 = sa * da) (hs : sa ≤ s) : na * d ≤ n * da := by
  have e : na * d * 1048576 ≤ n * da * 1048576 := by
    calc na * d * 1048576 = (na * 1048576) * d := by ac_rfl
      _ = sa * (da * d) := by rw [ha]; ac_rfl
      _ ≤ s * (da * d) := Nat.mul_le_mul_right _ hs
      _ = (s * d) * da := by ac_rfl
      _ = n * da * 1048576 := by rw [← h]; ac_rfl
  omega
theorem vl_short {n d na da nb db la lb s sa sb : Nat} (h : n * 1048576 = s * d) (ha : na * 1048576 = sa * da) (hb : nb * 1048576 = sb * db)
    (hs : s % 1024 = 0) (hsa : sa % 1024 = 0) (hl : lb ≤ 10) (hd : 0 < d) (hda : 0 < da) (hdb : 0 < db) :
    0 < d * da * 2 ^ lb * db ∧ shortN ((n * da - na * d) * 2 ^ la * db + nb * (d * da * 2 ^ lb)) (d * da * 2 ^ lb * db) = frOf (valN sa la sb lb s) := by
  have hp : 0 < d * da * 2 ^ lb * db := Nat.mul_pos (Nat.mul_pos (Nat.mul_pos hd hda) (Nat.pow_pos (by omega))) hdb
  exact ⟨hp, short_cross hp (by omega) (value_cross (la := la) h ha hb (valN_exact hs hsa hl))⟩
theorem pow8 {l : Nat} (h : l ≤ 8) : 1 ≤ 2 ^ l ∧ 2 ^ l ≤ 256 := by
  have h3 : 2 ^ l ≤ 2 ^ 8 := Nat.pow_le_pow_right (by omega) h
  exact ⟨Nat.pow_pos (by omega), by omega⟩
theorem mul_bd {a b A B C : Nat} (ha : a ≤ A) (hb : b ≤ B) (h : A * B = C) : a * b ≤ C := by
  subst h
  exact Nat.mul_le_mul ha hb
theorem valN_bd {sa la sb lb s : Nat} (hs : s ≤ 1048576) (hb : sb ≤ 1048576) (hl : la ≤ 8) : valN sa la sb lb s ≤ 269484032 := by
  unfold valN
  have h1 : (s - sa) * 2 ^ la ≤ 268435456 := mul_bd (A := 1048576) (B := 256) (by omega) (pow8 hl).2 rfl
  have h2 : (s - sa) * 2 ^ la / 2 ^ lb ≤ (s - sa) * 2 ^ la := Nat.div_le_self _ _
  omega
end Go.Proofs.YtdhjchibhlcchaaDoor

/-! Ft1 -/
namespace Go.Proofs.YtdhjchibhlcchaaDoor
open Go.RowKit

theorem OwnW.set {e : TypeId} {c base : Nat} {w : World} {g cap n : Nat} {L : List Int} (h : OwnW e c base w (.slice (some ⟨g, 0, none⟩) n cap) n L) (j : Nat) (m : Int) :
    OwnW e c base (w.setCell ⟨g, j, none⟩ (.int .i64 m)) (.slice (some ⟨g, 0, none⟩) n cap) n (L.set j m) := by
  unfold OwnW at *
  rw [List.map_set]
  exact (World.ownsRow.stored h j _).1
/-- A call that hands back a number, and leaves the slice v with other numbers. -/
def MarkedW (e0 : TypeId) (c base : Nat) (r : Int) (v : Value) (n : Nat) (L : List Int) (w : World) (e : Ending) (w' : World) : Prop := e = .returned (.int .i64 r) ∧ OwnW e0 c base w' v n L ∧ Below base w w'

end Go.Proofs.YtdhjchibhlcchaaDoor

/-! In -/
namespace Go.Proofs.YtdhjchibhlcchaaDoor
open Go.RowKit

/-- An answer of a text and a bool. -/
def ans2 (o : Option ByteArray) : Value := .tuple #[.string (o.getD ⟨#[]⟩), .bool o.isSome]

end Go.Proofs.YtdhjchibhlcchaaDoor

/-! Sl2 -/
namespace Go.Proofs.YtdhjchibhlcchaaDoor
open Go.RowKit

theorem start_any (x y z : Int) (w : World) : Calls Tryd.prog 51 #[.agg #[.int .i64 x, .int .i64 y, .int .i64 z]] w (Gives (.int .i64 x) w) := by
  go_enter Tryd.func51, Tryd.ntmps51
  go_wp2_with fail
  go_ret
  exact ⟨rfl, nxAlloc (Below.refl _ _) _⟩
theorem three_cells {w : World} {g : Nat} {a b c : Value} {t : TypeId} (h : w.heap[g]? = some (.cells #[a, b, c] t (0, 0))) : w.cell? ⟨g, 0, none⟩ = some a ∧ w.cell? ⟨g, 1, none⟩ = some b ∧ w.cell? ⟨g, 2, none⟩ = some c := by
  simp [World.cell?, h]
theorem three_frozen {w : World} {g : Nat} {a b c : Value} {t : TypeId} (h : w.heap[g]? = some (.cells #[a, b, c] t (0, 0))) : w.frozen? ⟨g, 0, none⟩ = false ∧ w.frozen? ⟨g, 1, none⟩ = false ∧ w.frozen? ⟨g, 2, none⟩ = false := by
  simp [World.frozen?, h]
theorem set_three {w : World} {g : Nat} {a b c : Value} (a' b' c' : Value) {t : TypeId} (h : w.heap[g]? = some (.cells #[a, b, c] t (0, 0))) : (((w.setCell ⟨g, 0, none⟩ a').setCell ⟨g, 1, none⟩ b').setCell ⟨g, 2, none⟩ c').heap[g]? = some (.cells #[a', b', c'] t (0, 0)) :=
  Joins.block_setCell (Joins.block_setCell (Joins.block_setCell h a') b') c'

end Go.Proofs.YtdhjchibhlcchaaDoor

/-! Br2 -/
namespace Go.Proofs.YtdhjchibhlcchaaDoor
open Go.RowKit

/-- The pieces that begin at a break. -/
def brkP (ps : List (Nat × Nat × Int)) : List (Nat × Nat × Int) := (brkI (ps.map fun x => x.2.2) ps.length).map fun k => ps.getD k (0, 0, 0)

set_option maxRecDepth 100000 in
set_option maxHeartbeats 4000000 in
theorem breaking_any (g cap : Nat) (ps : List (Nat × Nat × Int)) (n : Nat) (w : World) (hn : ps.length = n) (hn0 : 0 < n) (hn9 : n ≤ 9) (hg : g < w.heap.size) (hc1 : n ≤ cap) (_hc2 : cap ≤ maxLen)
    (hcell : ∀ i, i < n * 3 → w.cell? ⟨g, i, none⟩ = some (.int .i64 ((flatP ps).getD i 0))) :
    Calls Tryd.prog 70 #[.slice (some ⟨g, 0, none⟩) n cap] w (GivesP (brkP ps) w) := by
  obtain ⟨i0, hi, hz0, hz1, hz2⟩ := info_parts info_piece
  unfold brkP
  obtain ⟨S, hS⟩ : ∃ S : List Int, S = ps.map fun x => x.2.2 := ⟨_, rfl⟩
  rw [← hS, hn]
  have hst : ∀ k, k < n → S.getD k 0 = (ps.getD k (0, 0, 0)).2.2 := by intro k hk; have : k < ps.length := by omega
                                                                       rw [hS]; simp [this]
  have HT := Lib.hid hst
  have HNN := Lib.hid hn
  have HC := Lib.hid hcell
  unfold maxLen at _hc2
  clear hst hS hn hcell
  go_enter Tryd.func70, Tryd.ntmps70
  go_wp2_with fail
  go_loopw [3, 4] (fun v i wr => ∃ j : Nat, j + 1 ≤ n ∧ i = .int .i64 (j + 1 : Nat) ∧ OwnP w.heap.size wr v ((brkI S (j + 1)).map fun k => ps.getD k (0, 0, 0)) ∧ Below w.heap.size w wr) (fun _ i _ => n - (intOf i).toNat)
  case atStart => exact ⟨0, by omega, rfl, by rw [brkI_one]; exact OwnW.nil _ _ _ _, Below.refl _ _⟩
  case round =>
    obtain ⟨j, hj, rfl, hown, hbw⟩ := hrel
    by_cases hlt : j + 1 < n
    · have hlt' : (j : Int) + 1 < (n : Int) := by omega
      have hlt2 : (j : Int) < (n : Int) := by omega
      have hN := HNN.out
      have fg := flatP_get ps (j + 1) (by omega)
      have fh := (flatP_get ps j (by omega)).2.2
      have fi := (flatP_get ps j (by omega)).2.1
      have fj := (flatP_get ps j (by omega)).1
      have c1 := (hbw.cell (p := ⟨g, (j + 1) * 3, none⟩) hg).trans (HC.out ((j + 1) * 3) (by omega))
      have c2 := (hbw.cell (p := ⟨g, (j + 1) * 3 + 1, none⟩) hg).trans (HC.out ((j + 1) * 3 + 1) (by omega))
      have c3 := (hbw.cell (p := ⟨g, (j + 1) * 3 + 2, none⟩) hg).trans (HC.out ((j + 1) * 3 + 2) (by omega))
      have c4 := (hbw.cell (p := ⟨g, j * 3 + 2, none⟩) hg).trans (HC.out (j * 3 + 2) (by omega))
      have c5 := (hbw.cell (p := ⟨g, j * 3 + 1, none⟩) hg).trans (HC.out (j * 3 + 1) (by omega))
      have c6 := (hbw.cell (p := ⟨g, j * 3, none⟩) hg).trans (HC.out (j * 3) (by omega))
      rw [fg.1] at c1
      rw [fg.2.1] at c2
      rw [fg.2.2] at c3
      rw [fh] at c4
      rw [fi] at c5
      rw [fj] at c6
      have hnext := brkI_succ S j
      rw [HT.out (j + 1) hlt, HT.out j (by omega)] at hnext
      have hlen := brkI_len S (j + 1)
      obtain ⟨qs, hqs⟩ : ∃ qs, qs = (brkI S (j + 1)).map fun k => ps.getD k (0, 0, 0) := ⟨_, rfl⟩
      have hq9 : qs.length ≤ 9 := by rw [hqs, List.length_map]; omega
      rw [← hqs] at hown
      by_cases hxy : (ps.getD (j + 1) (0, 0, 0)).2.2 = (ps.getD j (0, 0, 0)).2.2
      · rw [if_pos hxy, List.append_nil] at hnext
        rw [← hnext] at hqs
        generalize (ps.getD (j + 1) (0, 0, 0)).2.2 = z at *
        generalize (ps.getD (j + 1) (0, 0, 0)).2.1 = y at *
        generalize (ps.getD (j + 1) (0, 0, 0)).1 = x at *
        generalize (ps.getD j (0, 0, 0)).2.2 = z2 at *
        generalize (ps.getD j (0, 0, 0)).2.1 = y2 at *
        generalize (ps.getD j (0, 0, 0)).1 = x2 at *
        have hxy' : (z != z2) = false := by simp [hxy]
        have HN := Lib.hid hqs
        clear hnext hxy hlen hqs hN fg fh fi fj
        go_wp2_with fail
        go_quiet (fail)
        go_wp2_with fail
        go_roundw
        case rel => exact ⟨j + 1, by omega, by go_num, by rw [← HN.out]; exact hown.keep (drewB (Below.refl _ _) _), drewB hbw _⟩
        case measure => simp [intOf]; omega
      · rw [if_neg hxy] at hnext
        have hqs2 : (brkI S (j + 1 + 1)).map (fun k => ps.getD k (0, 0, 0)) = qs ++ [((ps.getD (j + 1) (0, 0, 0)).1, (ps.getD (j + 1) (0, 0, 0)).2.1, (ps.getD (j + 1) (0, 0, 0)).2.2)] := by rw [hnext, List.map_append, hqs]; rfl
        generalize (ps.getD (j + 1) (0, 0, 0)).2.2 = z at *
        generalize (ps.getD (j + 1) (0, 0, 0)).2.1 = y at *
        generalize (ps.getD (j + 1) (0, 0, 0)).1 = x at *
        generalize (ps.getD j (0, 0, 0)).2.2 = z2 at *
        generalize (ps.getD j (0, 0, 0)).2.1 = y2 at *
        generalize (ps.getD j (0, 0, 0)).1 = x2 at *
        have hxy' : (z != z2) = true := by simp [hxy]
        have HN := Lib.hid hqs2
        clear hnext hxy hlen hqs hqs2 hN fg fh fi fj
        go_wp2_with fail
        go_quiet (fail)
        have hownd := hown.keep (drewB (Below.refl wr.heap.size wr) nq)
        have d1 := (keep_cell (drewB (Below.refl wr.heap.size wr) nq) c1)
        have d2 := (keep_cell (drewB (Below.refl wr.heap.size wr) nq) c2)
        have d3 := (keep_cell (drewB (Below.refl wr.heap.size wr) nq) c3)
        have hbwd := drewB hbw nq
        have hszd := hbwd.size
        generalize wr.drewN nq = wd at *
        clear hown hbw c1 c2 c3 c4 c5 c6
        go_wp2_with (at_builtin; refine wpList_append_own _ rfl _ _ 70 rfl w.heap.size 75 i0 (.agg #[.int .i64 0, .int .i64 0, .int .i64 0]) 3 24 Tryd.underlying70 hi hz0 hz1 hz2 rfl (by decide) _ _ _ rfl (hownd.alloc _) ⟨wd.heap.size, 0, none⟩ 1 1 [.int .i64 x, .int .i64 y, .int .i64 z] rfl rfl (newsK _ #[.int .i64 x, .int .i64 y, .int .i64 z] _) (three1 _ _ _) (by unfold maxLen; omega) (by omega) (by simp; omega) ?_; intro v' w3 hown' hgrow hnn)
        have hbw' := (nxAlloc hbwd _).grown hgrow (by simp; omega) (fun k hk => ownsRow_ge hownd k hk)
        have hown1 := OwnP.snoc hown'
        clear hownd hown' hgrow hbwd hnn
        go_wp2_with fail
        go_roundw
        case rel => exact ⟨j + 1, by omega, by go_num, by rw [HN.out]; exact hown1, hbw'⟩
        case measure => simp [intOf]; omega
    · obtain rfl : n = j + 1 := by omega
      go_wp2_with fail
      go_ret
      exact ⟨_, hown, hbw, rfl⟩

/-- Fractions of steps. -/
def fracs (sel : Nat × Nat × Int → Nat) (ps : List (Nat × Nat × Int)) : List (Nat × Nat) := ps.map fun x => frOf (sel x)

theorem start_any' (x y z : Int) (w : World) : Calls Tryd.prog 51 #[.agg #[.int .i64 x, .int .i64 y, .int .i64 z]] w (Gives (.int .i64 x) w) := by
  go_enter Tryd.func51, Tryd.ntmps51
  go_wp2_with fail
  go_ret
  exact ⟨rfl, nxAlloc (Below.refl _ _) _⟩
set_option maxRecDepth 100000 in
set_option maxHeartbeats 4000000 in
theorem fractionsOf_start (b0 : Nat) (v : Value) (ps : List (Nat × Nat × Int)) (w : World) (hc : CellsW 3 b0 w v ps.length (flatP ps)) (hn : ps.length ≤ 1000) (hok : ∀ x ∈ ps, x.1 ≤ 1048576 ∧ x.1 % 1024 = 0) :
    Calls Tryd.prog 50 #[v, .func (Fn.func 51) #[] #[]] w (GivesF (fracs (fun x => x.1) ps) w) := by
  have hcall : ∀ (args : Array Value) (w : World), (callFunc 51 args).run Tryd.prog w = .ok (.enter 51 args) w := fun _ _ => by kernel_rfl
  obtain ⟨i0, hi, hz0, hz1, hz2⟩ := info_parts info_frac
  have HZ := Lib.hid hok
  clear hok
  rcases hc with ⟨rfl, h0⟩ | ⟨g, cap, rfl, hg0, hg, hc1, hc2, hcell, _⟩
  · obtain rfl : ps = [] := List.length_eq_zero_iff.1 h0
    go_enter Tryd.func50, Tryd.ntmps50
    go_wp2_with fail
    go_loopw [5, 12] (fun v i wr => v = .slice none 0 0 ∧ i = .int .i64 0 ∧ wr = w) (fun _ _ _ => 0)
    case atStart => exact ⟨rfl, rfl, rfl⟩
    case round =>
      obtain ⟨rfl, rfl, rfl⟩ := hrel
      go_wp2_with fail
      go_ret
      exact ⟨_, OwnW.nil _ _ _ _, Below.refl _ _, rfl⟩
  · obtain ⟨n, hnn⟩ : ∃ n, ps.length = n := ⟨_, rfl⟩
    rw [hnn] at hcell hc1 hn ⊢
    have HC := Lib.hid hcell
    have HNN := Lib.hid hnn
    unfold maxLen at hc2
    clear hcell hnn
    go_enter Tryd.func50, Tryd.ntmps50
    go_wp2_with fail
    go_loopw [5, 12] (fun v i wr => ∃ k : Nat, k ≤ n ∧ i = .int .i64 k ∧ OwnF w.heap.size wr v (fracs (fun x => x.1) (ps.take k)) ∧ Below w.heap.size w wr) (fun _ i _ => n - (intOf i).toNat)
    case atStart => exact ⟨0, Nat.zero_le _, rfl, OwnW.nil _ _ _ _, Below.refl _ _⟩
    case round =>
      obtain ⟨k, hk, rfl, hown, hbw2⟩ := hrel
      by_cases hlt : k < n
      · have hlt' : (k : Int) < (n : Int) := by omega
        have hN := HNN.out
        have hlen : (fracs (fun x => x.1) (ps.take k)).length = k := by simp [fracs]; omega
        have fg := flatP_get ps k (by omega)
        have c1 := (hbw2.cell (p := ⟨g, k * 3, none⟩) hg).trans (HC.out (k * 3) (by omega))
        have c2 := (hbw2.cell (p := ⟨g, k * 3 + 1, none⟩) hg).trans (HC.out (k * 3 + 1) (by omega))
        have c3 := (hbw2.cell (p := ⟨g, k * 3 + 2, none⟩) hg).trans (HC.out (k * 3 + 2) (by omega))
        rw [fg.1] at c1
        rw [fg.2.1] at c2
        rw [fg.2.2] at c3
        have hz := HZ.out (ps.getD k (0, 0, 0)) (by have : k < ps.length := by omega
                                                    rw [List.getD_eq_getElem?_getD, List.getElem?_eq_getElem this]; exact List.getElem_mem this)
        have hnext : fracs (fun x => x.1) (ps.take (k + 1)) = fracs (fun x => x.1) (ps.take k) ++ [((frOf ((ps.getD k (0, 0, 0)).1)).1, (frOf ((ps.getD k (0, 0, 0)).1)).2)] := by
          have : k < ps.length := by omega
          unfold fracs
          rw [List.take_succ_eq_append_getElem this, List.map_append]
          simp [this]
        obtain ⟨xs, hxs⟩ : ∃ xs, xs = fracs (fun x => x.1) (ps.take k) := ⟨_, rfl⟩
        rw [← hxs] at hown hlen hnext
        have hFA := fun w => fractionAt_any ((ps.getD k (0, 0, 0)).1) w (by have := hz.1; omega)
        rw [frA_thousand hz.1 hz.2] at hFA
        have hF : ∀ w, Calls Tryd.prog 18 #[.int .i64 ((ps.getD k (0, 0, 0)).1 : Nat)] w (Gives (.tuple #[.agg #[.int .i64 (frOf ((ps.getD k (0, 0, 0)).1)).1, .int .i64 (frOf ((ps.getD k (0, 0, 0)).1)).2], .bool true]) w) := hFA
        clear hFA hz fg hN
        generalize (ps.getD k (0, 0, 0)).2.2 = z at *
        generalize (ps.getD k (0, 0, 0)).2.1 = y at *
        generalize (ps.getD k (0, 0, 0)).1 = x at *
        have hS := fun w => start_any' (x : Int) (y : Int) z w
        generalize (frOf x).1 = x1 at *
        generalize (frOf x).2 = y1 at *
        have HN := Lib.hid hnext
        have hxl : xs.length ≤ 1000 := by omega
        clear hnext hxs hlen
        go_wp2_with fail
        refine (hS _).mono ?_; rintro e w3 ⟨rfl, hb3⟩
        have hown3 := OwnF.keep (xs := xs) (World.ownsRow.alloc hown _) hb3
        have hbw3 := nx (nxAlloc hbw2 _) hb3
        clear hown hbw2 hb3
        go_wp2_with fail
        refine (hF _).mono ?_; rintro e w4 ⟨rfl, hb4⟩
        have hown4 := (hown3.keep hb4)
        have hbw4 := nx hbw3 hb4
        have hs4 := hbw4.size
        clear hown3 hbw3 hb4
        have hnews : ∀ (j : Nat) (u : Value), [Value.int .i64 x1, Value.int .i64 y1][j]? = some u → ((w4.alloc (.cells #[.int .i64 x1, .int .i64 y1] 23 (0, 0))).alloc (.cells #[.int .i64 x1, .int .i64 y1] 23 (0, 0))).cell? ((⟨w4.heap.size + 1, 0, none⟩ : Addr).add j) = some u := by
          have h := newsK (w4.alloc (.cells #[.int .i64 x1, .int .i64 y1] 23 (0, 0))) #[.int .i64 x1, .int .i64 y1] 23
          have e1 : (w4.alloc (.cells #[.int .i64 x1, .int .i64 y1] 23 (0, 0))).heap.size = w4.heap.size + 1 := by simp
          rw [e1] at h
          exact h
        have hown5 := World.ownsRow.alloc (World.ownsRow.alloc hown4 (.cells #[.int .i64 x1, .int .i64 y1] 23 (0, 0))) (.cells #[.int .i64 x1, .int .i64 y1] 23 (0, 0))
        have hsz5 : w.heap.size ≤ ((w4.alloc (.cells #[.int .i64 x1, .int .i64 y1] 23 (0, 0))).alloc (.cells #[.int .i64 x1, .int .i64 y1] 23 (0, 0))).heap.size := by simp; omega
        go_wp2_with (at_builtin; refine wpList_append_own _ rfl _ _ 50 rfl w.heap.size 23 i0 (.agg #[.int .i64 0, .int .i64 0]) 2 16 Tryd.underlying50 hi hz0 hz1 hz2 rfl (by decide) _ _ _ rfl hown5 ⟨w4.heap.size + 1, 0, none⟩ 1 1 [.int .i64 x1, .int .i64 y1] rfl rfl hnews (two1 _ _) (by unfold maxLen; omega) (by omega) hsz5 ?_; intro v' w9 hown' hgrow hnn)
        have hbw9 := (nxAlloc (nxAlloc hbw4 _) _).grown hgrow (by simp; omega) (fun k hk => ownsRow_ge hown4 k hk)
        have hown1 := OwnF.snoc hown'
        clear hown4 hown5 hnews hsz5 hown' hgrow hbw4 hnn
        go_wp2_with fail
        go_roundw
        case rel => exact ⟨k + 1, by omega, by go_num, by rw [HN.out]; exact hown1, hbw9⟩
        case measure => simp [intOf]; omega
      · obtain rfl : k = n := by omega
        have hN := HNN.out
        rw [List.take_of_length_le (by omega)] at hown
        go_wp2_with fail
        go_ret
        exact ⟨_, hown, hbw2, rfl⟩

theorem target_any' (x y z : Int) (w : World) : Calls Tryd.prog 52 #[.agg #[.int .i64 x, .int .i64 y, .int .i64 z]] w (Gives (.int .i64 y) w) := by
  go_enter Tryd.func52, Tryd.ntmps52
  go_wp2_with fail
  go_ret
  exact ⟨rfl, nxAlloc (Below.refl _ _) _⟩
set_option maxRecDepth 100000 in
set_option maxHeartbeats 4000000 in
theorem fractionsOf_target (b0 : Nat) (v : Value) (ps : List (Nat × Nat × Int)) (w : World) (hc : CellsW 3 b0 w v ps.length (flatP ps)) (hn : ps.length ≤ 1000) (hok : ∀ x ∈ ps, x.2.1 ≤ 1048576 ∧ x.2.1 % 1024 = 0) :
    Calls Tryd.prog 50 #[v, .func (Fn.func 52) #[] #[]] w (GivesF (fracs (fun x => x.2.1) ps) w) := by
  have hcall : ∀ (args : Array Value) (w : World), (callFunc 52 args).run Tryd.prog w = .ok (.enter 52 args) w := fun _ _ => by kernel_rfl
  obtain ⟨i0, hi, hz0, hz1, hz2⟩ := info_parts info_frac
  have HZ := Lib.hid hok
  clear hok
  rcases hc with ⟨rfl, h0⟩ | ⟨g, cap, rfl, hg0, hg, hc1, hc2, hcell, _⟩
  · obtain rfl : ps = [] := List.length_eq_zero_iff.1 h0
    go_enter Tryd.func50, Tryd.ntmps50
    go_wp2_with fail
    go_loopw [5, 12] (fun v i wr => v = .slice none 0 0 ∧ i = .int .i64 0 ∧ wr = w) (fun _ _ _ => 0)
    case atStart => exact ⟨rfl, rfl, rfl⟩
    case round =>
      obtain ⟨rfl, rfl, rfl⟩ := hrel
      go_wp2_with fail
      go_ret
      exact ⟨_, OwnW.nil _ _ _ _, Below.refl _ _, rfl⟩
  · obtain ⟨n, hnn⟩ : ∃ n, ps.length = n := ⟨_, rfl⟩
    rw [hnn] at hcell hc1 hn ⊢
    have HC := Lib.hid hcell
    have HNN := Lib.hid hnn
    unfold maxLen at hc2
    clear hcell hnn
    go_enter Tryd.func50, Tryd.ntmps50
    go_wp2_with fail
    go_loopw [5, 12] (fun v i wr => ∃ k : Nat, k ≤ n ∧ i = .int .i64 k ∧ OwnF w.heap.size wr v (fracs (fun x => x.2.1) (ps.take k)) ∧ Below w.heap.size w wr) (fun _ i _ => n - (intOf i).toNat)
    case atStart => exact ⟨0, Nat.zero_le _, rfl, OwnW.nil _ _ _ _, Below.refl _ _⟩
    case round =>
      obtain ⟨k, hk, rfl, hown, hbw2⟩ := hrel
      by_cases hlt : k < n
      · have hlt' : (k : Int) < (n : Int) := by omega
        have hN := HNN.out
        have hlen : (fracs (fun x => x.2.1) (ps.take k)).length = k := by simp [fracs]; omega
        have fg := flatP_get ps k (by omega)
        have c1 := (hbw2.cell (p := ⟨g, k * 3, none⟩) hg).trans (HC.out (k * 3) (by omega))
        have c2 := (hbw2.cell (p := ⟨g, k * 3 + 1, none⟩) hg).trans (HC.out (k * 3 + 1) (by omega))
        have c3 := (hbw2.cell (p := ⟨g, k * 3 + 2, none⟩) hg).trans (HC.out (k * 3 + 2) (by omega))
        rw [fg.1] at c1
        rw [fg.2.1] at c2
        rw [fg.2.2] at c3
        have hz := HZ.out (ps.getD k (0, 0, 0)) (by have : k < ps.length := by omega
                                                    rw [List.getD_eq_getElem?_getD, List.getElem?_eq_getElem this]; exact List.getElem_mem this)
        have hnext : fracs (fun x => x.2.1) (ps.take (k + 1)) = fracs (fun x => x.2.1) (ps.take k) ++ [((frOf ((ps.getD k (0, 0, 0)).2.1)).1, (frOf ((ps.getD k (0, 0, 0)).2.1)).2)] := by
          have : k < ps.length := by omega
          unfold fracs
          rw [List.take_succ_eq_append_getElem this, List.map_append]
          simp [this]
        obtain ⟨xs, hxs⟩ : ∃ xs, xs = fracs (fun x => x.2.1) (ps.take k) := ⟨_, rfl⟩
        rw [← hxs] at hown hlen hnext
        have hFA := fun w => fractionAt_any ((ps.getD k (0, 0, 0)).2.1) w (by have := hz.1; omega)
        rw [frA_thousand hz.1 hz.2] at hFA
        have hF : ∀ w, Calls Tryd.prog 18 #[.int .i64 ((ps.getD k (0, 0, 0)).2.1 : Nat)] w (Gives (.tuple #[.agg #[.int .i64 (frOf ((ps.getD k (0, 0, 0)).2.1)).1, .int .i64 (frOf ((ps.getD k (0, 0, 0)).2.1)).2], .bool true]) w) := hFA
        clear hFA hz fg hN
        generalize (ps.getD k (0, 0, 0)).2.2 = z at *
        generalize (ps.getD k (0, 0, 0)).2.1 = y at *
        generalize (ps.getD k (0, 0, 0)).1 = x at *
        have hS := fun w => target_any' (x : Int) (y : Int) z w
        generalize (frOf y).1 = x1 at *
        generalize (frOf y).2 = y1 at *
        have HN := Lib.hid hnext
        have hxl : xs.length ≤ 1000 := by omega
        clear hnext hxs hlen
        go_wp2_with fail
        refine (hS _).mono ?_; rintro e w3 ⟨rfl, hb3⟩
        have hown3 := OwnF.keep (xs := xs) (World.ownsRow.alloc hown _) hb3
        have hbw3 := nx (nxAlloc hbw2 _) hb3
        clear hown hbw2 hb3
        go_wp2_with fail
        refine (hF _).mono ?_; rintro e w4 ⟨rfl, hb4⟩
        have hown4 := (hown3.keep hb4)
        have hbw4 := nx hbw3 hb4
        have hs4 := hbw4.size
        clear hown3 hbw3 hb4
        have hnews : ∀ (j : Nat) (u : Value), [Value.int .i64 x1, Value.int .i64 y1][j]? = some u → ((w4.alloc (.cells #[.int .i64 x1, .int .i64 y1] 23 (0, 0))).alloc (.cells #[.int .i64 x1, .int .i64 y1] 23 (0, 0))).cell? ((⟨w4.heap.size + 1, 0, none⟩ : Addr).add j) = some u := by
          have h := newsK (w4.alloc (.cells #[.int .i64 x1, .int .i64 y1] 23 (0, 0))) #[.int .i64 x1, .int .i64 y1] 23
          have e1 : (w4.alloc (.cells #[.int .i64 x1, .int .i64 y1] 23 (0, 0))).heap.size = w4.heap.size + 1 := by simp
          rw [e1] at h
          exact h
        have hown5 := World.ownsRow.alloc (World.ownsRow.alloc hown4 (.cells #[.int .i64 x1, .int .i64 y1] 23 (0, 0))) (.cells #[.int .i64 x1, .int .i64 y1] 23 (0, 0))
        have hsz5 : w.heap.size ≤ ((w4.alloc (.cells #[.int .i64 x1, .int .i64 y1] 23 (0, 0))).alloc (.cells #[.int .i64 x1, .int .i64 y1] 23 (0, 0))).heap.size := by simp; omega
        go_wp2_with (at_builtin; refine wpList_append_own _ rfl _ _ 50 rfl w.heap.size 23 i0 (.agg #[.int .i64 0, .int .i64 0]) 2 16 Tryd.underlying50 hi hz0 hz1 hz2 rfl (by decide) _ _ _ rfl hown5 ⟨w4.heap.size + 1, 0, none⟩ 1 1 [.int .i64 x1, .int .i64 y1] rfl rfl hnews (two1 _ _) (by unfold maxLen; omega) (by omega) hsz5 ?_; intro v' w9 hown' hgrow hnn)
        have hbw9 := (nxAlloc (nxAlloc hbw4 _) _).grown hgrow (by simp; omega) (fun k hk => ownsRow_ge hown4 k hk)
        have hown1 := OwnF.snoc hown'
        clear hown4 hown5 hnews hsz5 hown' hgrow hbw4 hnn
        go_wp2_with fail
        go_roundw
        case rel => exact ⟨k + 1, by omega, by go_num, by rw [HN.out]; exact hown1, hbw9⟩
        case measure => simp [intOf]; omega
      · obtain rfl : k = n := by omega
        have hN := HNN.out
        rw [List.take_of_length_le (by omega)] at hown
        go_wp2_with fail
        go_ret
        exact ⟨_, hown, hbw2, rfl⟩
end Go.Proofs.YtdhjchibhlcchaaDoor

/-! Br3 -/
namespace Go.Proofs.YtdhjchibhlcchaaDoor
open Go.RowKit

/-- Where the leaves of a tree begin at which the slopes of a pair change. -/
def frAt (t : Tr) (p : Pr) : List (Nat × Nat) := (brkI (slopes p) (slopes p).length).map fun k => (frs (t.addrs ⟨#[]⟩)).getD k (0, 0)
theorem slopes_len (p : Pr) (he : p.1.carets = p.2.carets) : (slopes p).length = p.1.carets + 1 := by
  have l1 := addrs_length p.1 ⟨#[]⟩
  have l2 := addrs_length p.2 ⟨#[]⟩
  have := slopesL_length (p.1.addrs ⟨#[]⟩) (p.2.addrs ⟨#[]⟩) (by omega)
  show (slopesL (p.1.addrs ⟨#[]⟩) (p.2.addrs ⟨#[]⟩)).length = _
  omega
theorem frAt_len (t : Tr) (p : Pr) (he : p.1.carets = p.2.carets) : (frAt t p).length ≤ p.1.carets + 1 := by
  have := slopes_len p he
  have h := brkI_len (slopes p) (slopes p).length
  unfold frAt
  rw [List.length_map]
  omega
theorem pcsB_len (p : Pr) : (pcs p).length = (slopes p).length := by rw [← slopes_pcs, List.length_map]
theorem pcs_get (p : Pr) (he : p.1.carets = p.2.carets) {k : Nat} (hk : k < (slopes p).length) : ((pcs p).getD k (0, 0, 0)).1 = stA ((p.1.addrs ⟨#[]⟩).getD k ⟨#[]⟩) ∧ ((pcs p).getD k (0, 0, 0)).2.1 = stA ((p.2.addrs ⟨#[]⟩).getD k ⟨#[]⟩) := by
  have l1 := addrs_length p.1 ⟨#[]⟩
  have l2 := addrs_length p.2 ⟨#[]⟩
  have hl := slopes_len p he
  have := pcsL_get (p.1.addrs ⟨#[]⟩) (p.2.addrs ⟨#[]⟩) (by omega) k (by omega)
  unfold pcs
  rw [this]
  exact ⟨rfl, rfl⟩
theorem frs_get (l : List ByteArray) (k : Nat) (h : k < l.length) : (frs l).getD k (0, 0) = frOf (stA (l.getD k ⟨#[]⟩)) := by
  simp [frs, h]
theorem brk_start (p : Pr) (he : p.1.carets = p.2.carets) : fracs (fun x => x.1) (brkP (pcs p)) = frAt p.1 p := by
  unfold fracs brkP frAt
  rw [slopes_pcs, List.map_map, pcsB_len]
  apply List.map_congr_left
  intro k hk
  have hk' := brkI_lt _ _ k hk
  have l1 := addrs_length p.1 ⟨#[]⟩
  have hl := slopes_len p he
  show frOf ((pcs p).getD k (0, 0, 0)).1 = _
  rw [(pcs_get p he hk').1, frs_get _ _ (by omega)]
theorem brk_target (p : Pr) (he : p.1.carets = p.2.carets) : fracs (fun x => x.2.1) (brkP (pcs p)) = frAt p.2 p := by
  unfold fracs brkP frAt
  rw [slopes_pcs, List.map_map, pcsB_len]
  apply List.map_congr_left
  intro k hk
  have hk' := brkI_lt _ _ k hk
  have l1 := addrs_length p.2 ⟨#[]⟩
  have hl := slopes_len p he
  show frOf ((pcs p).getD k (0, 0, 0)).2.1 = _
  rw [(pcs_get p he hk').2, frs_get _ _ (by omega)]
theorem stA_ok {a : ByteArray} (h : okAd a) : stA a ≤ 1048576 ∧ stA a % 1024 = 0 :=
  ⟨Nat.le_of_lt (stA_lt (by have := h.1; omega) h.2), stA_thousand h.1⟩
theorem brk_ok (p : Pr) (h1 : p.1.carets ≤ 8) (h2 : p.2.carets ≤ 8) (he : p.1.carets = p.2.carets) : ∀ x ∈ brkP (pcs p), (x.1 ≤ 1048576 ∧ x.1 % 1024 = 0) ∧ (x.2.1 ≤ 1048576 ∧ x.2.1 % 1024 = 0) := by
  intro x hx
  unfold brkP at hx
  rw [List.mem_map] at hx
  obtain ⟨k, hk, rfl⟩ := hx
  have hk' := brkI_lt _ _ k hk
  rw [pcsB_len] at hk'
  have l1 := addrs_length p.1 ⟨#[]⟩
  have l2 := addrs_length p.2 ⟨#[]⟩
  have hl := slopes_len p he
  rw [(pcs_get p he hk').1, (pcs_get p he hk').2]
  have m1 : (p.1.addrs ⟨#[]⟩).getD k ⟨#[]⟩ ∈ p.1.addrs ⟨#[]⟩ := by simp [show k < (p.1.addrs ⟨#[]⟩).length by omega]
  have m2 : (p.2.addrs ⟨#[]⟩).getD k ⟨#[]⟩ ∈ p.2.addrs ⟨#[]⟩ := by simp [show k < (p.2.addrs ⟨#[]⟩).length by omega]
  exact ⟨stA_ok (addrs_ok p.1 h1 _ m1), stA_ok (addrs_ok p.2 h2 _ m2)⟩
theorem brkP_len (p : Pr) (he : p.1.carets = p.2.carets) : (brkP (pcs p)).length ≤ p.1.carets + 1 := by
  unfold brkP
  rw [List.length_map, pcsB_len, slopes_pcs]
  have := brkI_len (slopes p) (slopes p).length
  have := slopes_len p he
  omega
/-- A slice of pieces that the call has made, and a bool. -/
def AnsP2 (xs : List (Nat × Nat × Int)) (ok : Bool) (w : World) (e : Ending) (w' : World) : Prop :=
  ∃ v, OwnP w.heap.size w' v xs ∧ Below w.heap.size w w' ∧ e = .returned (.tuple #[v, .bool ok])
def brkQ (o : Option Pr) : List (Nat × Nat × Int) := match o with | some p => brkP (pcs p) | none => []
set_option maxRecDepth 100000 in
set_option maxHeartbeats 1000000 in
theorem implbreaksOf_any (a b : ByteArray) (w : World) (ha : a.size ≤ 9223372036854775806) (hb : b.size ≤ 9223372036854775806) :
    Calls Tryd.prog 49 #[.agg #[.string a, .string b]] w (AnsP2 (brkQ (pairOf a b)) (pairOf a b).isSome w) := by
  have hg := fun w => isPair_any a b w ha hb
  cases h : pairOf a b with
  | none =>
    rw [h] at hg
    clear h
    go_enter Tryd.func49, Tryd.ntmps49
    go_wp2_with fail
    have hb0 : Below w.heap.size w (w.alloc (.cells #[.string a, .string b] 33 (0, 0))) := nxAlloc (Below.refl _ _) _
    have hx0 := heap_alloc_at w (.cells #[.string a, .string b] 33 (0, 0))
    generalize (w.alloc (.cells #[.string a, .string b] 33 (0, 0))) = w0 at *
    obtain ⟨hx0a, hx0b, hx0c⟩ := two_facts hx0
    obtain ⟨hx0f, hx0g⟩ := two_frozen hx0
    refine (hg _).mono ?_; rintro e w1 ⟨rfl, hb1⟩
    have hbw1 := nx hb0 hb1
    replace hx0 := heap_keep hb1 hx0
    clear hx0a hx0b hx0c hx0f hx0g
    obtain ⟨hx0a, hx0b, hx0c⟩ := two_facts hx0
    obtain ⟨hx0f, hx0g⟩ := two_frozen hx0
    clear hb1 hb0
    go_wp2_with fail
    go_ret2
    exact ⟨_, OwnW.nil _ _ _ _, hbw1, rfl⟩
  | some p =>
    rw [h] at hg
    obtain ⟨rfl, rfl, hok, hc1, hc2⟩ := pairOf_some h
    have hM := fun w => leafPieces_any p w hc1 hc2 hok
    have hl := slopes_len p hok
    have hpl := pcsB_len p
    clear h
    show Calls _ _ _ _ (AnsP2 (brkP (pcs p)) true w)
    generalize pcs p = ps at *
    obtain ⟨n, hn⟩ : ∃ n, ps.length = n := ⟨_, rfl⟩
    have hn9 : n ≤ 9 := by omega
    have hn0 : 0 < n := by omega
    clear hl hpl
    go_enter Tryd.func49, Tryd.ntmps49
    go_wp2_with fail
    have hb0 : Below w.heap.size w (w.alloc (.cells #[.string p.1.str, .string p.2.str] 33 (0, 0))) := nxAlloc (Below.refl _ _) _
    have hx0 := heap_alloc_at w (.cells #[.string p.1.str, .string p.2.str] 33 (0, 0))
    generalize (w.alloc (.cells #[.string p.1.str, .string p.2.str] 33 (0, 0))) = w0 at *
    obtain ⟨hx0a, hx0b, hx0c⟩ := two_facts hx0
    obtain ⟨hx0f, hx0g⟩ := two_frozen hx0
    refine (hg _).mono ?_; rintro e w1 ⟨rfl, hb1⟩
    have hbw1 := nx hb0 hb1
    replace hx0 := heap_keep hb1 hx0
    clear hx0a hx0b hx0c hx0f hx0g
    obtain ⟨hx0a, hx0b, hx0c⟩ := two_facts hx0
    obtain ⟨hx0f, hx0g⟩ := two_frozen hx0
    clear hb1 hb0
    go_wp2_with fail
    refine (hM _).mono ?_; rintro e w2 ⟨v, own, hb2, rfl⟩
    have hbw2 := nx hbw1 hb2
    clear hx0 hx0a hx0b hx0c hx0f hx0g hM hg hb2 hbw1
    rcases own.cells with ⟨rfl, h0⟩ | ⟨g, cap, rfl, _, hg1, hc3, hc4, hcell, _⟩
    · omega
    · rw [hn] at hc3 hcell ⊢
      have hB := breaking_any g cap ps n w2 hn hn0 hn9 hg1 hc3 hc4 hcell
      clear hcell own hc4
      go_wp2_with fail
      refine hB.mono ?_; rintro e w3 ⟨v3, own3, hb3, rfl⟩
      go_wp2_with fail
      go_ret2
      exact ⟨_, own3.mono hbw2.size, nx hbw2 hb3, rfl⟩
end Go.Proofs.YtdhjchibhlcchaaDoor

/-! Gt4 -/
namespace Go.Proofs.YtdhjchibhlcchaaDoor
open Go.RowKit

/-- The text of a fraction and of that to which it is carried. -/
def itT (x y : Nat × Nat) : ByteArray := frT x.1 x.2 ++ ⟨#[62]⟩ ++ frT y.1 y.2
/-- Such texts up to a place, with a comma between. -/
def gJ (xs ys : List (Nat × Nat)) : Nat → ByteArray
  | 0 => ⟨#[]⟩
  | j + 1 => (if j = 0 then gJ xs ys j else gJ xs ys j ++ ⟨#[44]⟩) ++ itT (xs.getD j (0, 0)) (ys.getD j (0, 0))
def okF (x : Nat × Nat) : Prop := x.1 ≤ 9999 ∧ x.2 ≤ 9999
theorem itT_size {x y : Nat × Nat} (h : okF x) (k : okF y) : (itT x y).size ≤ 19 := by
  have := frT_size x.1 x.2 h.1 h.2
  have := frT_size y.1 y.2 k.1 k.2
  unfold itT
  rw [ByteArray.size_append, ByteArray.size_append, show (⟨#[62]⟩ : ByteArray).size = 1 from rfl]
  omega
theorem gJ_size (xs ys : List (Nat × Nat)) (h : ∀ x ∈ xs, okF x) (k : ∀ y ∈ ys, okF y) : ∀ j, j ≤ xs.length → j ≤ ys.length → (gJ xs ys j).size ≤ j * 20 := by
  intro j
  induction j with
  | zero => intro _ _; exact Nat.le_refl _
  | succ j ih =>
    intro h1 h2
    have i1 := ih (by omega) (by omega)
    have i2 := itT_size (x := xs.getD j (0, 0)) (y := ys.getD j (0, 0)) (h _ (by simp [show j < xs.length by omega])) (k _ (by simp [show j < ys.length by omega]))
    unfold gJ
    split
    · rw [ByteArray.size_append]; omega
    · rw [ByteArray.size_append, ByteArray.size_append, show (⟨#[44]⟩ : ByteArray).size = 1 from rfl]; omega
def gText (xs ys : List (Nat × Nat)) : ByteArray := if xs.length = 0 then ⟨#[45]⟩ else gJ xs ys xs.length
def GraphText_o (a b : ByteArray) : Option ByteArray := (pairOf a b).bind fun p => some (gText (frAt p.1 p) (frAt p.2 p))
theorem frs_ok (t : Tr) (h : t.carets ≤ 8) (k : Nat) (hk : k < t.carets + 1) : okF ((frs (t.addrs ⟨#[]⟩)).getD k (0, 0)) := by
  have l1 := addrs_length t ⟨#[]⟩
  rw [frs_get _ _ (by omega)]
  obtain ⟨a, e, h1, h2⟩ := addr_facts t h hk
  rw [← e]
  have := frOf_bd h1 h2
  exact ⟨by omega, by omega⟩
theorem frAt_ok (t : Tr) (p : Pr) (ht : t.carets ≤ 8) (he : p.1.carets = p.2.carets) (hc : t.carets = p.1.carets) : ∀ x ∈ frAt t p, okF x := by
  intro x hx
  unfold frAt at hx
  rw [List.mem_map] at hx
  obtain ⟨k, hk, rfl⟩ := hx
  have h1 := brkI_lt _ _ k hk
  have h2 := slopes_len p he
  exact frs_ok t ht k (by omega)

set_option maxRecDepth 100000 in
set_option maxHeartbeats 4000000 in
theorem specGraphText_any (a b : ByteArray) (w : World) (ha : a.size ≤ 9223372036854775806) (hb : b.size ≤ 9223372036854775806) :
    Calls Tryd.prog 13 #[.agg #[.string a, .string b]] w (Gives (ans2 (GraphText_o a b)) w) := by
  have hg := fun w => prGood_any a b w ha hb
  unfold GraphText_o
  cases h : pairOf a b with
  | none =>
    rw [h] at hg
    clear h
    go_enter Tryd.func13, Tryd.ntmps13
    go_wp2_with fail
    have hb0 : Below w.heap.size w (w.alloc (.cells #[.string a, .string b] 33 (0, 0))) := nxAlloc (Below.refl _ _) _
    have hx0 := heap_alloc_at w (.cells #[.string a, .string b] 33 (0, 0))
    generalize (w.alloc (.cells #[.string a, .string b] 33 (0, 0))) = w0 at *
    obtain ⟨hx0a, hx0b, hx0c⟩ := two_facts hx0
    obtain ⟨hx0f, hx0g⟩ := two_frozen hx0
    refine (hg _).mono ?_; rintro e w1 ⟨rfl, hb1⟩
    have hbw1 := nx hb0 hb1
    replace hx0 := heap_keep hb1 hx0
    clear hx0a hx0b hx0c hx0f hx0g
    obtain ⟨hx0a, hx0b, hx0c⟩ := two_facts hx0
    obtain ⟨hx0f, hx0g⟩ := two_frozen hx0
    clear hb1 hb0
    go_wp2_with fail
    go_ret2
    exact ⟨rfl, hbw1⟩
  | some p =>
    rw [h] at hg
    obtain ⟨rfl, rfl, hok, hc1, hc2⟩ := pairOf_some h
    have hok' : p.1.carets = p.2.carets := hok
    have hM := fun w => mpBreaks_any p w hc1 hc2 hok
    have hl := slopes_len p hok
    have hL : ∀ k ∈ brkI (slopes p) (slopes p).length, k < p.1.carets + 1 := fun k hk => by have := brkI_lt _ _ k hk; omega
    have hL2 : ∀ k ∈ brkI (slopes p) (slopes p).length, k < p.2.carets + 1 := fun k hk => by have := brkI_lt _ _ k hk; omega
    have hL9 : (brkI (slopes p) (slopes p).length).length ≤ 9 := by have := brkI_len (slopes p) (slopes p).length; omega
    have hA := fun b0 v w hc => mpAt_any p.1 b0 v (brkI (slopes p) (slopes p).length) w hc1 hc hL hL9
    have hA2 := fun b0 v w hc => mpAt_any p.2 b0 v (brkI (slopes p) (slopes p).length) w hc2 hc hL2 hL9
    change ∀ b0 v w, _ → Calls _ _ _ _ (GivesF (frAt p.1 p) w) at hA
    change ∀ b0 v w, _ → Calls _ _ _ _ (GivesF (frAt p.2 p) w) at hA2
    have f1 : (frAt p.1 p).length = (brkI (slopes p) (slopes p).length).length := by simp [frAt]
    have f2 : (frAt p.2 p).length = (brkI (slopes p) (slopes p).length).length := by simp [frAt]
    have ox := frAt_ok p.1 p hc1 hok rfl
    have oy := frAt_ok p.2 p hc2 hok hok'.symm
    show Calls _ _ _ _ (Gives (ans2 (some (gText (frAt p.1 p) (frAt p.2 p)))) w)
    generalize brkI (slopes p) (slopes p).length = B at *
    generalize frAt p.1 p = xs at *
    generalize frAt p.2 p = ys at *
    obtain ⟨n, hn⟩ : ∃ n, B.length = n := ⟨_, rfl⟩
    have hBI : (toI B).length = n := by simp [toI, hn]
    rw [hn] at f1 f2 hL9
    clear h hL hL2 hl hok hok' hc1 hc2
    by_cases hn0 : n = 0
    · rw [show gText xs ys = ⟨#[45]⟩ by unfold gText; rw [if_pos (by omega)]]
      subst hn0
      go_enter Tryd.func13, Tryd.ntmps13
      go_wp2_with fail
      have hb0 : Below w.heap.size w (w.alloc (.cells #[.string p.1.str, .string p.2.str] 33 (0, 0))) := nxAlloc (Below.refl _ _) _
      have hx0 := heap_alloc_at w (.cells #[.string p.1.str, .string p.2.str] 33 (0, 0))
      generalize (w.alloc (.cells #[.string p.1.str, .string p.2.str] 33 (0, 0))) = w0 at *
      obtain ⟨hx0a, hx0b, hx0c⟩ := two_facts hx0
      obtain ⟨hx0f, hx0g⟩ := two_frozen hx0
      refine (hg _).mono ?_; rintro e w1 ⟨rfl, hb1⟩
      have hbw1 := nx hb0 hb1
      replace hx0 := heap_keep hb1 hx0
      clear hx0a hx0b hx0c hx0f hx0g
      obtain ⟨hx0a, hx0b, hx0c⟩ := two_facts hx0
      obtain ⟨hx0f, hx0g⟩ := two_frozen hx0
      clear hb1 hb0
      go_wp2_with fail
      refine (hM _).mono ?_; rintro e w2 ⟨v, own, hb2, rfl⟩
      have hbw2 := nx hbw1 hb2
      clear hA hA2
      rcases own.cells with ⟨rfl, _⟩ | ⟨g, cap, rfl, _, _, _, _, _, _⟩
      · go_wp2_with fail
        go_ret2
        exact ⟨rfl, hbw2⟩
      · rw [hBI]
        go_wp2_with fail
        go_ret2
        exact ⟨rfl, hbw2⟩
    · rw [show gText xs ys = gJ xs ys n by unfold gText; rw [if_neg (by omega), f1]]
      obtain ⟨R, hR⟩ : ∃ R, R = gJ xs ys n := ⟨_, rfl⟩
      rw [← hR]
      have HR := Lib.hid hR
      have hn0' : ((n : Int) == 0) = false := by rw [beq_eq_false_iff_ne]; omega
      clear hR
      go_enter Tryd.func13, Tryd.ntmps13
      go_wp2_with fail
      have hb0 : Below w.heap.size w (w.alloc (.cells #[.string p.1.str, .string p.2.str] 33 (0, 0))) := nxAlloc (Below.refl _ _) _
      have hx0 := heap_alloc_at w (.cells #[.string p.1.str, .string p.2.str] 33 (0, 0))
      generalize (w.alloc (.cells #[.string p.1.str, .string p.2.str] 33 (0, 0))) = w0 at *
      obtain ⟨hx0a, hx0b, hx0c⟩ := two_facts hx0
      obtain ⟨hx0f, hx0g⟩ := two_frozen hx0
      refine (hg _).mono ?_; rintro e w1 ⟨rfl, hb1⟩
      have hbw1 := nx hb0 hb1
      replace hx0 := heap_keep hb1 hx0
      clear hx0a hx0b hx0c hx0f hx0g
      obtain ⟨hx0a, hx0b, hx0c⟩ := two_facts hx0
      obtain ⟨hx0f, hx0g⟩ := two_frozen hx0
      clear hb1 hb0
      go_wp2_with fail
      refine (hM _).mono ?_; rintro e w2 ⟨v, own, hb2, rfl⟩
      have hbw2 := nx hbw1 hb2
      replace hx0 := heap_keep hb2 hx0
      clear hx0a hx0b hx0c hx0f hx0g
      obtain ⟨hx0a, hx0b, hx0c⟩ := two_facts hx0
      obtain ⟨hx0f, hx0g⟩ := two_frozen hx0
      have hA2' := hA2 _ v w2 own.cells
      have HOW := Lib.hid own
      rcases own.cells with ⟨_, h0⟩ | ⟨gv, cv, rfl, _, hgv, _, _, _, _⟩
      · rw [h0] at hBI; simp at hBI; omega
      rw [hBI] at hA2' ⊢
      clear hA2 hb2 own
      go_wp2_with fail
      refine hA2'.mono ?_; rintro e w3 ⟨v3, own3, hb3, rfl⟩
      have hbw3 := nx hbw2 hb3
      replace hx0 := heap_keep hb3 hx0
      clear hx0a hx0b hx0c hx0f hx0g
      obtain ⟨hx0a, hx0b, hx0c⟩ := two_facts hx0
      have own2 := HOW.out.keep hb3
      have hA1' := hA _ _ w3 own2.cells
      rw [hBI] at hA1'
      clear hA hA2' own2 HOW hb3
      go_wp2_with fail
      refine hA1'.mono ?_; rintro e w4 ⟨v4, own4, hb4, rfl⟩
      have hbw4 := nx hbw3 hb4
      replace own3 := own3.keep hb4
      rcases own4.cells with ⟨_, h0⟩ | ⟨ga, ca, rfl, _, hga, p1, p2, hxa, _⟩
      · omega
      rcases own3.cells with ⟨_, h0⟩ | ⟨gb, cb, rfl, _, hgb, p3, p4, hxb, _⟩
      · omega
      rw [f1] at p1 hxa ⊢
      rw [f2] at p3 hxb ⊢
      unfold maxLen at p2 p4
      have HA := Lib.hid hxa
      have HB := Lib.hid hxb
      have OX := Lib.hid ox
      have OY := Lib.hid oy
      have GS := Lib.hid (gJ_size xs ys ox oy)
      clear own3 own4 hxa hxb ox oy hx0 hx0a hx0b hx0c hbw1 hbw2 hbw3 hb4 hA1' hM hg
      go_wp2_with fail
      go_loopw [6, 26] (fun v i wr => ∃ j : Nat, j ≤ n ∧ i = .int .i64 j ∧ v = .string (gJ xs ys j) ∧ Below w4.heap.size w4 wr) (fun _ i _ => n - (intOf i).toNat)
      case atStart => exact ⟨0, Nat.zero_le _, rfl, rfl, Below.refl _ _⟩
      case round =>
        obtain ⟨j, hj, rfl, rfl, hbw⟩ := hrel
        by_cases hlt : j < n
        · have hlt' : (j : Int) < (n : Int) := by omega
          have a1 := (hbw.cell (p := ⟨ga, j * 2, none⟩) hga).trans (HA.out (j * 2) (by omega))
          have a2 := (hbw.cell (p := ⟨ga, j * 2 + 1, none⟩) hga).trans (HA.out (j * 2 + 1) (by omega))
          have b1 := (hbw.cell (p := ⟨gb, j * 2, none⟩) hgb).trans (HB.out (j * 2) (by omega))
          have b2 := (hbw.cell (p := ⟨gb, j * 2 + 1, none⟩) hgb).trans (HB.out (j * 2 + 1) (by omega))
          rw [(flatF_get xs j (by omega)).1] at a1
          rw [(flatF_get xs j (by omega)).2] at a2
          rw [(flatF_get ys j (by omega)).1] at b1
          rw [(flatF_get ys j (by omega)).2] at b2
          have hnext : gJ xs ys (j + 1) = (if j = 0 then gJ xs ys j else gJ xs ys j ++ ⟨#[44]⟩) ++ itT (xs.getD j (0, 0)) (ys.getD j (0, 0)) := rfl
          have hgs := GS.out j (by omega) (by omega)
          have ox := OX.out (xs.getD j (0, 0)) (by simp [show j < xs.length by omega])
          have oy := OY.out (ys.getD j (0, 0)) (by simp [show j < ys.length by omega])
          generalize xs.getD j (0, 0) = x at *
          generalize ys.getD j (0, 0) = y at *
          obtain ⟨x1, x2⟩ := x
          obtain ⟨y1, y2⟩ := y
          dsimp only at a1 a2 b1 b2 hnext
          have m1 := fun w => mpText_any x1 x2 w ox.1 ox.2
          have m2 := fun w => mpText_any y1 y2 w oy.1 oy.2
          have s1 := frT_size x1 x2 ox.1 ox.2
          have s2 := frT_size y1 y2 oy.1 oy.2
          change _ = _ ++ (frT x1 x2 ++ ⟨#[62]⟩ ++ frT y1 y2) at hnext
          generalize frT x1 x2 = T at *
          generalize frT y1 y2 = U at *
          have hbA : Below w4.heap.size w4 (wr.alloc (.cells #[.int .i64 x1, .int .i64 x2] 23 (0, 0))) := nxAlloc hbw _
          have hxc := heap_alloc_at wr (.cells #[.int .i64 x1, .int .i64 x2] 23 (0, 0))
          have b1' := keep_cell ((Below.refl wr.heap.size wr).alloc (Nat.le_refl _) (.cells #[.int .i64 x1, .int .i64 x2] 23 (0, 0))) b1
          have b2' := keep_cell ((Below.refl wr.heap.size wr).alloc (Nat.le_refl _) (.cells #[.int .i64 x1, .int .i64 x2] 23 (0, 0))) b2
          have hgb' : gb < (wr.alloc (.cells #[.int .i64 x1, .int .i64 x2] 23 (0, 0))).heap.size := by have := hbw.size; simp; omega
          obtain ⟨c1, c2, c3⟩ := two_facts hxc
          have e62 : (⟨#[62]⟩ : ByteArray).size = 1 := rfl
          have z1 : ¬ (9223372036854775807 < T.size + (⟨#[62]⟩ : ByteArray).size) := by omega
          have z2 : ¬ (9223372036854775807 < T.size + 1) := by omega
          have z3 : ¬ (9223372036854775807 < (T ++ ⟨#[62]⟩).size + U.size) := by rw [ByteArray.size_append]; omega
          have z4 : ¬ (9223372036854775807 < T.size + 1 + U.size) := by omega
          obtain ⟨S, hS⟩ : ∃ S, S = gJ xs ys j := ⟨_, rfl⟩
          rw [← hS] at hnext hgs ⊢
          by_cases hj0 : j = 0
          · rw [if_pos hj0] at hnext
            have z5 : ¬ (9223372036854775807 < S.size + (T ++ ⟨#[62]⟩ ++ U).size) := by rw [ByteArray.size_append, ByteArray.size_append]; omega
            have z6 : ¬ (9223372036854775807 < S.size + (T.size + 1 + U.size)) := by omega
            have hj1 : ¬ (0 : Int) < (j : Int) := by omega
            have HN := Lib.hid hnext
            clear hnext hS hj0 ox oy e62
            go_wp2_with fail
            refine wp_region_cls (by kernel_rfl) (by kernel_rfl) ?_
            repeat (
              refine wpQuiet_step (fun K hK => ?_)
              go_simp
              first
                | (refine hK _ ?_; clear hK K)
                | (refine ⟨_, fun _ _ => rfl, hK _ ?_⟩; clear hK K)
                | (apply Exists.intro
                   refine ⟨fun w' hw' => ?_, hK _ ?_⟩
                   · first
                       | (go_at_call 28; first | (with_reducible exact hw'.call (m1 _)) | (with_reducible exact hw'.call (m2 _)))
                       | (rw [hw'.cell c3 c1]; dsimp only [Result.andThen]; rw [hw'.cell c3 c2]; exact ⟨rfl, rfl⟩)
                       | (rw [hw'.cell hgb' b1']; dsimp only [Result.andThen]; rw [hw'.cell hgb' b2']; exact ⟨rfl, rfl⟩)
                   clear hK K))
            refine wpQuiet_nil ?_
            intro w' hw'
            have hbn := nx hbA hw'
            go_wp2_with fail
            go_roundw
            case rel => exact ⟨j + 1, by omega, by go_num, by rw [HN.out], hbn⟩
            case measure => simp [intOf]; omega
          · rw [if_neg hj0] at hnext
            have e44 : (⟨#[44]⟩ : ByteArray).size = 1 := rfl
            have z7 : ¬ (9223372036854775807 < S.size + (⟨#[44]⟩ : ByteArray).size) := by omega
            have z8 : ¬ (9223372036854775807 < S.size + 1) := by omega
            have z5 : ¬ (9223372036854775807 < (S ++ ⟨#[44]⟩).size + (T ++ ⟨#[62]⟩ ++ U).size) := by rw [ByteArray.size_append, ByteArray.size_append, ByteArray.size_append]; omega
            have z6 : ¬ (9223372036854775807 < S.size + 1 + (T.size + 1 + U.size)) := by omega
            have hj1 : (0 : Int) < (j : Int) := by omega
            have HN := Lib.hid hnext
            clear hnext hS hj0 ox oy e62 e44
            go_wp2_with fail
            refine wp_region_cls (by kernel_rfl) (by kernel_rfl) ?_
            repeat (
              refine wpQuiet_step (fun K hK => ?_)
              go_simp
              first
                | (refine hK _ ?_; clear hK K)
                | (refine ⟨_, fun _ _ => rfl, hK _ ?_⟩; clear hK K)
                | (apply Exists.intro
                   refine ⟨fun w' hw' => ?_, hK _ ?_⟩
                   · first
                       | (go_at_call 28; first | (with_reducible exact hw'.call (m1 _)) | (with_reducible exact hw'.call (m2 _)))
                       | (rw [hw'.cell c3 c1]; dsimp only [Result.andThen]; rw [hw'.cell c3 c2]; exact ⟨rfl, rfl⟩)
                       | (rw [hw'.cell hgb' b1']; dsimp only [Result.andThen]; rw [hw'.cell hgb' b2']; exact ⟨rfl, rfl⟩)
                   clear hK K))
            refine wpQuiet_nil ?_
            intro w' hw'
            have hbn := nx hbA hw'
            go_wp2_with fail
            go_roundw
            case rel => exact ⟨j + 1, by omega, by go_num, by rw [HN.out], hbn⟩
            case measure => simp [intOf]; omega
        · obtain rfl : j = n := by omega
          have hr := HR.out
          clear HR
          subst hr
          go_wp2_with fail
          go_ret2
          exact ⟨rfl, nx hbw4 hbw⟩
end Go.Proofs.YtdhjchibhlcchaaDoor

/-! ShelfJoin -/
namespace Go.Proofs
open Go.Shelf
def Tryd.lays156_ren : Go.Shelf.Ren := ⟨fun | 156 => 32 | 165 => 54 | 166 => 55 | 169 => 56 | 240 => 73 | 241 => 74 | 276 => 85 | 277 => 86 | n => n, fun | 31 => 42 | 9 => 9 | 3 => 3 | 4 => 4 | 0 => 0 | 20 => 20 | 72 => 81 | 76 => 85 | 70 => 78 | 37 => 79 | 75 => 84 | 127 => 104 | 164 => 115 | 5 => 5 | 80 => 55 | n => n, fun | n => n⟩
theorem Tryd.lays156 : Go.Proofs.Lays.n156 Tryd.prog Tryd.lays156_ren := {
  mixed := by kernel_rfl
  f156 := Tryd.func32.trans (congrArg some (by kernel_rfl))
  f165 := Tryd.func54.trans (congrArg some (by kernel_rfl))
  f166 := Tryd.func55.trans (congrArg some (by kernel_rfl))
  f169 := Tryd.func56.trans (congrArg some (by kernel_rfl))
  f240 := Tryd.func73.trans (congrArg some (by kernel_rfl))
  f241 := Tryd.func74.trans (congrArg some (by kernel_rfl))
  f276 := Tryd.func85.trans (congrArg some (by kernel_rfl))
  f277 := Tryd.func86.trans (congrArg some (by kernel_rfl))
  t0 := Tryd.underlying0
  a0 := Tryd.isAgg0
  z0 := Tryd.sizeOf0
  v0 := Tryd.zeroValue0
  t3 := Tryd.underlying3
  a3 := Tryd.isAgg3
  z3 := Tryd.sizeOf3
  v3 := Tryd.zeroValue3
  t4 := Tryd.underlying4
  a4 := Tryd.isAgg4
  z4 := Tryd.sizeOf4
  v4 := Tryd.zeroValue4
  t9 := Tryd.underlying9
  a9 := Tryd.isAgg9
  z9 := Tryd.sizeOf9
  v9 := Tryd.zeroValue9
  t20 := Tryd.underlying20
  a20 := Tryd.isAgg20
  z20 := Tryd.sizeOf20
  v20 := Tryd.zeroValue20
  t31 := Tryd.underlying42
  a31 := Tryd.isAgg42
  z31 := Tryd.sizeOf42
  v31 := Tryd.zeroValue42
  t37 := Tryd.underlying79
  a37 := Tryd.isAgg79
  z37 := Tryd.sizeOf79
  v37 := Tryd.zeroValue79
  t70 := Tryd.underlying78
  a70 := Tryd.isAgg78
  z70 := Tryd.sizeOf78
  v70 := Tryd.zeroValue78
  t72 := Tryd.underlying81
  a72 := Tryd.isAgg81
  z72 := Tryd.sizeOf81
  v72 := Tryd.zeroValue81
  t75 := Tryd.underlying84
  a75 := Tryd.isAgg84
  z75 := Tryd.sizeOf84
  v75 := Tryd.zeroValue84
  t76 := Tryd.underlying85
  a76 := Tryd.isAgg85
  z76 := Tryd.sizeOf85
  v76 := Tryd.zeroValue85
  t127 := Tryd.underlying104
  a127 := Tryd.isAgg104
  z127 := Tryd.sizeOf104
  v127 := Tryd.zeroValue104
  t164 := Tryd.underlying115
  a164 := Tryd.isAgg115
  z164 := Tryd.sizeOf115
  v164 := Tryd.zeroValue115 }
theorem Tryd.Builder_Extra_156 : Builder.Extra Tryd.prog Tryd.lays156_ren := {
  sizeBuilder := by kernel_rfl
  liesBuilder := by kernel_rfl
  t5 := Tryd.underlying5
  a5 := Tryd.isAgg5
  z5 := Tryd.sizeOf5
  v5 := Tryd.zeroValue5
  infoByte := by kernel_rfl
  cellsByte := by kernel_rfl
  sizeByte := by kernel_rfl
  neB5 := by decide }
open Go.RowKit in
theorem Tryd.strings_Join (bk o c : Nat) (xs : List ByteArray) (sep : ByteArray) (w : World) (hcells : ∀ (j : Nat) x, xs[j]? = some x → w.cell? ⟨bk, o + j, none⟩ = some (.string x)) (hbk : bk < w.heap.size) (hN : xs.length ≤ 140737488355328) (hcap : xs.length ≤ c) (hlen : (Lib.join (xs.map (·.data.toList)) sep.data.toList).length ≤ 140737488355328) :
    Calls Tryd.prog 32 #[.slice (some ⟨bk, o, none⟩) xs.length c, .string sep] w fun e w' => e = .returned (.string ⟨(Lib.join (xs.map (·.data.toList)) sep.data.toList).toArray⟩) ∧ Below w.heap.size w w' := Any.strings_Join Tryd.lays156 Tryd.Builder_Extra_156 bk o c xs sep w hcells hbk hN hcap hlen
end Go.Proofs

/-! WBreaksOf -/
namespace Go.Proofs.YtdhjchibhlcchaaDoor
open Go.RowKit

def BreaksOf_o (a b : ByteArray) : Option (List (Nat × Nat)) := (pairOf a b).bind fun p => some (frAt p.1 p)
theorem BreaksOf_len (a b : ByteArray) : ((BreaksOf_o a b).getD []).length ≤ 1000000000 := by
  unfold BreaksOf_o
  cases h : pairOf a b with
  | none => simp
  | some p =>
    obtain ⟨_, _, hok, hc1, hc2⟩ := pairOf_some h
    have := frAt_len p.1 p hok
    show (frAt p.1 p).length ≤ 1000000000
    omega
theorem call_start (args : Array Value) (w : World) : (callFunc 51 args).run Tryd.prog w = .ok (.enter 51 args) w := by kernel_rfl
set_option maxRecDepth 100000 in
set_option maxHeartbeats 1000000 in
theorem implBreaksOf_any (a b : ByteArray) (w : World) (ha : a.size ≤ 9223372036854775806) (hb : b.size ≤ 9223372036854775806) :
    Calls Tryd.prog 29 #[.agg #[.string a, .string b]] w (AnsFs (BreaksOf_o a b) w) := by
  have hB := fun w => implbreaksOf_any a b w ha hb
  have hx : ∃ ps ok, brkQ (pairOf a b) = ps ∧ (pairOf a b).isSome = ok ∧ BreaksOf_o a b = (if ok then some (fracs (fun x => x.1) ps) else none) ∧ (ok = false → ps = []) ∧ ps.length ≤ 1000 ∧ ∀ x ∈ ps, x.1 ≤ 1048576 ∧ x.1 % 1024 = 0 := by
    refine ⟨_, _, rfl, rfl, ?_⟩
    unfold BreaksOf_o
    cases h : pairOf a b with
    | none => exact ⟨rfl, fun _ => rfl, by simp [brkQ], by simp [brkQ]⟩
    | some p =>
      obtain ⟨_, _, hok, hc1, hc2⟩ := pairOf_some h
      refine ⟨?_, by simp, by have := brkP_len p hok; show (brkP (pcs p)).length ≤ 1000; omega, fun x hx => (brk_ok p hc1 hc2 hok x hx).1⟩
      show some (frAt p.1 p) = some (fracs (fun x => x.1) (brkP (pcs p)))
      rw [brk_start p hok]
  obtain ⟨ps, ok, h0, h1, h2, h3, h4, h5⟩ := hx
  rw [h0, h1] at hB
  rw [h2]
  have e : AnsFs (if ok then some (fracs (fun x => x.1) ps) else none) w = AnsF2 (fracs (fun x => x.1) ps) ok w := by
    cases ok with
    | false => obtain rfl := h3 rfl; rfl
    | true => rfl
  rw [e]
  have H5 := Lib.hid h5
  clear h0 h1 h2 h3 e h5
  go_enter Tryd.func29, Tryd.ntmps29
  go_wp2_with fail
  have hb0 : Below w.heap.size w (w.alloc (.cells #[.string a, .string b] 33 (0, 0))) := nxAlloc (Below.refl _ _) _
  have hx0 := heap_alloc_at w (.cells #[.string a, .string b] 33 (0, 0))
  generalize (w.alloc (.cells #[.string a, .string b] 33 (0, 0))) = w0 at *
  obtain ⟨hx0a, hx0b, hx0c⟩ := two_facts hx0
  obtain ⟨hx0f, hx0g⟩ := two_frozen hx0
  refine (hB _).mono ?_; rintro e w1 ⟨v, own, hb1, rfl⟩
  have hF := fractionsOf_start _ v ps w1 own.cells h4 H5.out
  have hbw1 := nx hb0 hb1
  clear own hx0 hx0a hx0b hx0c hx0f hx0g
  go_wp2_with fail
  refine hF.mono ?_; rintro e w2 ⟨v2, own2, hb2, rfl⟩
  go_wp2_with fail
  go_ret2
  exact ⟨_, own2.mono hbw1.size, nx hbw1 hb2, rfl⟩

end Go.Proofs.YtdhjchibhlcchaaDoor

/-! WBreakValues -/
namespace Go.Proofs.YtdhjchibhlcchaaDoor
open Go.RowKit

def BreakValues_o (a b : ByteArray) : Option (List (Nat × Nat)) := (pairOf a b).bind fun p => some (frAt p.2 p)
theorem BreakValues_len (a b : ByteArray) : ((BreakValues_o a b).getD []).length ≤ 1000000000 := by
  unfold BreakValues_o
  cases h : pairOf a b with
  | none => simp
  | some p =>
    obtain ⟨_, _, hok, hc1, hc2⟩ := pairOf_some h
    have := frAt_len p.2 p hok
    show (frAt p.2 p).length ≤ 1000000000
    omega
theorem call_target (args : Array Value) (w : World) : (callFunc 52 args).run Tryd.prog w = .ok (.enter 52 args) w := by kernel_rfl
set_option maxRecDepth 100000 in
set_option maxHeartbeats 1000000 in
theorem implBreakValues_any (a b : ByteArray) (w : World) (ha : a.size ≤ 9223372036854775806) (hb : b.size ≤ 9223372036854775806) :
    Calls Tryd.prog 30 #[.agg #[.string a, .string b]] w (AnsFs (BreakValues_o a b) w) := by
  have hB := fun w => implbreaksOf_any a b w ha hb
  have hx : ∃ ps ok, brkQ (pairOf a b) = ps ∧ (pairOf a b).isSome = ok ∧ BreakValues_o a b = (if ok then some (fracs (fun x => x.2.1) ps) else none) ∧ (ok = false → ps = []) ∧ ps.length ≤ 1000 ∧ ∀ x ∈ ps, x.2.1 ≤ 1048576 ∧ x.2.1 % 1024 = 0 := by
    refine ⟨_, _, rfl, rfl, ?_⟩
    unfold BreakValues_o
    cases h : pairOf a b with
    | none => exact ⟨rfl, fun _ => rfl, by simp [brkQ], by simp [brkQ]⟩
    | some p =>
      obtain ⟨_, _, hok, hc1, hc2⟩ := pairOf_some h
      refine ⟨?_, by simp, by have := brkP_len p hok; show (brkP (pcs p)).length ≤ 1000; omega, fun x hx => (brk_ok p hc1 hc2 hok x hx).2⟩
      show some (frAt p.2 p) = some (fracs (fun x => x.2.1) (brkP (pcs p)))
      rw [brk_target p hok]
  obtain ⟨ps, ok, h0, h1, h2, h3, h4, h5⟩ := hx
  rw [h0, h1] at hB
  rw [h2]
  have e : AnsFs (if ok then some (fracs (fun x => x.2.1) ps) else none) w = AnsF2 (fracs (fun x => x.2.1) ps) ok w := by
    cases ok with
    | false => obtain rfl := h3 rfl; rfl
    | true => rfl
  rw [e]
  have H5 := Lib.hid h5
  clear h0 h1 h2 h3 e h5
  go_enter Tryd.func30, Tryd.ntmps30
  go_wp2_with fail
  have hb0 : Below w.heap.size w (w.alloc (.cells #[.string a, .string b] 33 (0, 0))) := nxAlloc (Below.refl _ _) _
  have hx0 := heap_alloc_at w (.cells #[.string a, .string b] 33 (0, 0))
  generalize (w.alloc (.cells #[.string a, .string b] 33 (0, 0))) = w0 at *
  obtain ⟨hx0a, hx0b, hx0c⟩ := two_facts hx0
  obtain ⟨hx0f, hx0g⟩ := two_frozen hx0
  refine (hB _).mono ?_; rintro e w1 ⟨v, own, hb1, rfl⟩
  have hF := fractionsOf_target _ v ps w1 own.cells h4 H5.out
  have hbw1 := nx hb0 hb1
  clear own hx0 hx0a hx0b hx0c hx0f hx0g
  go_wp2_with fail
  refine hF.mono ?_; rintro e w2 ⟨v2, own2, hb2, rfl⟩
  go_wp2_with fail
  go_ret2
  exact ⟨_, own2.mono hbw1.size, nx hbw1 hb2, rfl⟩

end Go.Proofs.YtdhjchibhlcchaaDoor

/-! Gt5 -/
namespace Go.Proofs.YtdhjchibhlcchaaDoor
open Go.RowKit

def txs (xs ys : List (Nat × Nat)) (j : Nat) : List ByteArray := (List.range j).map fun k => itT (xs.getD k (0, 0)) (ys.getD k (0, 0))
theorem txs_len (xs ys : List (Nat × Nat)) (j : Nat) : (txs xs ys j).length = j := by simp [txs]
theorem txs_succ (xs ys : List (Nat × Nat)) (j : Nat) : txs xs ys (j + 1) = txs xs ys j ++ [itT (xs.getD j (0, 0)) (ys.getD j (0, 0))] := by
  unfold txs
  rw [List.range_succ, List.map_append]
  rfl
theorem join_snoc (x : List UInt8) (r : List (List UInt8)) (y sep : List UInt8) : Lib.join (x :: r ++ [y]) sep = Lib.join (x :: r) sep ++ (sep ++ y) := by
  rw [List.cons_append, Lib.join_cons, Lib.join_cons]
  unfold Lib.joinTail
  simp
theorem join_gJ (xs ys : List (Nat × Nat)) : ∀ j, Lib.join ((txs xs ys (j + 1)).map (·.data.toList)) [44] = (gJ xs ys (j + 1)).data.toList := by
  intro j
  induction j with
  | zero =>
    show Lib.join [(itT (xs.getD 0 (0, 0)) (ys.getD 0 (0, 0))).data.toList] [44] = ((⟨#[]⟩ : ByteArray) ++ itT (xs.getD 0 (0, 0)) (ys.getD 0 (0, 0))).data.toList
    rw [Lib.join_one, data_append]
    rfl
  | succ j ih =>
    rw [txs_succ, List.map_append]
    obtain ⟨x, r, hx⟩ : ∃ x r, (txs xs ys (j + 1)).map (·.data.toList) = x :: r := by
      cases h : (txs xs ys (j + 1)).map (·.data.toList) with
      | nil => have := txs_len xs ys (j + 1); rw [List.map_eq_nil_iff] at h; rw [h] at this; simp at this
      | cons x r => exact ⟨x, r, rfl⟩
    rw [hx] at ih ⊢
    show Lib.join (x :: r ++ [(itT (xs.getD (j + 1) (0, 0)) (ys.getD (j + 1) (0, 0))).data.toList]) [44] = _
    rw [join_snoc, ih]
    show _ = ((gJ xs ys (j + 1) ++ ⟨#[44]⟩) ++ itT (xs.getD (j + 1) (0, 0)) (ys.getD (j + 1) (0, 0))).data.toList
    rw [data_append, data_append, List.append_assoc]
theorem one_str (m : ByteArray) : ∀ u ∈ [Value.string m], u.oneCell' = true := by
  intro u hu
  simp at hu
  subst hu
  rfl
theorem ownS_snoc {base : Nat} {w : World} {v : Value} {xs : List ByteArray} {m : ByteArray} (h : w.ownsRow base 9 1 v (xs.length + 1) (xs.map Value.string ++ [Value.string m])) : OwnS base w v (xs ++ [m]) := by
  unfold OwnS
  rw [List.length_append, List.map_append]
  exact h

set_option maxRecDepth 100000 in
set_option maxHeartbeats 4000000 in
theorem implGraphText_any (a b : ByteArray) (w : World) (hT : Tab w) (ha : a.size ≤ 9223372036854775806) (hb : b.size ≤ 9223372036854775806) :
    Calls Tryd.prog 14 #[.agg #[.string a, .string b]] w (Gives (ans2 (GraphText_o a b)) w) := by
  have hB := fun w => implBreaksOf_any a b w ha hb
  have hV := fun w => implBreakValues_any a b w ha hb
  unfold GraphText_o
  unfold BreaksOf_o at hB
  unfold BreakValues_o at hV
  cases h : pairOf a b with
  | none =>
    rw [h] at hB
    change ∀ w, Calls _ _ _ w (AnsF2 [] false w) at hB
    clear h hV
    go_enter Tryd.func14, Tryd.ntmps14
    go_wp2_with fail
    have hb0 : Below w.heap.size w (w.alloc (.cells #[.string a, .string b] 33 (0, 0))) := nxAlloc (Below.refl _ _) _
    have hx0 := heap_alloc_at w (.cells #[.string a, .string b] 33 (0, 0))
    generalize (w.alloc (.cells #[.string a, .string b] 33 (0, 0))) = w0 at *
    obtain ⟨hx0a, hx0b, hx0c⟩ := two_facts hx0
    obtain ⟨hx0f, hx0g⟩ := two_frozen hx0
    refine (hB _).mono ?_; rintro e w1 ⟨v, own, hb1, rfl⟩
    have hbw1 := nx hb0 hb1
    clear own
    go_wp2_with fail
    go_ret2
    exact ⟨rfl, hbw1⟩
  | some p =>
    rw [h] at hB hV
    obtain ⟨rfl, rfl, hok, hc1, hc2⟩ := pairOf_some h
    have hok' : p.1.carets = p.2.carets := hok
    change ∀ w, Calls _ _ _ w (AnsF2 (frAt p.1 p) true w) at hB
    change ∀ w, Calls _ _ _ w (AnsF2 (frAt p.2 p) true w) at hV
    have hl := slopes_len p hok
    have hL9 : (brkI (slopes p) (slopes p).length).length ≤ 9 := by have := brkI_len (slopes p) (slopes p).length; omega
    have f1 : (frAt p.1 p).length = (brkI (slopes p) (slopes p).length).length := by simp [frAt]
    have f2 : (frAt p.2 p).length = (brkI (slopes p) (slopes p).length).length := by simp [frAt]
    have ox := frAt_ok p.1 p hc1 hok rfl
    have oy := frAt_ok p.2 p hc2 hok hok'.symm
    show Calls _ _ _ _ (Gives (ans2 (some (gText (frAt p.1 p) (frAt p.2 p)))) w)
    generalize (brkI (slopes p) (slopes p).length).length = n at *
    generalize frAt p.1 p = xs at *
    generalize frAt p.2 p = ys at *
    clear h hl hok hok' hc1 hc2
    by_cases hn0 : n = 0
    · rw [show gText xs ys = ⟨#[45]⟩ by unfold gText; rw [if_pos (by omega)]]
      subst hn0
      clear hV ox oy
      go_enter Tryd.func14, Tryd.ntmps14
      go_wp2_with fail
      have hb0 : Below w.heap.size w (w.alloc (.cells #[.string p.1.str, .string p.2.str] 33 (0, 0))) := nxAlloc (Below.refl _ _) _
      have hx0 := heap_alloc_at w (.cells #[.string p.1.str, .string p.2.str] 33 (0, 0))
      generalize (w.alloc (.cells #[.string p.1.str, .string p.2.str] 33 (0, 0))) = w0 at *
      obtain ⟨hx0a, hx0b, hx0c⟩ := two_facts hx0
      obtain ⟨hx0f, hx0g⟩ := two_frozen hx0
      refine (hB _).mono ?_; rintro e w1 ⟨v, own, hb1, rfl⟩
      have hbw1 := nx hb0 hb1
      rcases own.cells with ⟨rfl, _⟩ | ⟨g, cap, rfl, _, _, _, _, _, _⟩
      · go_wp2_with fail
        go_ret2
        exact ⟨rfl, hbw1⟩
      · rw [f1]
        go_wp2_with fail
        go_ret2
        exact ⟨rfl, hbw1⟩
    · rw [show gText xs ys = gJ xs ys n by unfold gText; rw [if_neg (by omega), f1]]
      have hgs := gJ_size xs ys ox oy n (by omega) (by omega)
      have hjn : Lib.join ((txs xs ys n).map (·.data.toList)) [44] = (gJ xs ys n).data.toList := by
        obtain ⟨k, rfl⟩ : ∃ k, n = k + 1 := ⟨n - 1, by omega⟩
        exact join_gJ xs ys k
      have hlen := txs_len xs ys n
      obtain ⟨R, hR⟩ : ∃ R, R = gJ xs ys n := ⟨_, rfl⟩
      rw [← hR] at hjn hgs ⊢
      have hn0' : ((n : Int) == 0) = false := by rw [beq_eq_false_iff_ne]; omega
      obtain ⟨i0, hi, hz0, hz1, hz2⟩ := info_parts info_str
      have HJ := Lib.hid hjn
      have HLN := Lib.hid hlen
      have HGS := Lib.hid hgs
      clear hR hjn hlen hgs
      go_enter Tryd.func14, Tryd.ntmps14
      go_wp2_with fail
      have hb0 : Below w.heap.size w (w.alloc (.cells #[.string p.1.str, .string p.2.str] 33 (0, 0))) := nxAlloc (Below.refl _ _) _
      have hx0 := heap_alloc_at w (.cells #[.string p.1.str, .string p.2.str] 33 (0, 0))
      generalize (w.alloc (.cells #[.string p.1.str, .string p.2.str] 33 (0, 0))) = w0 at *
      obtain ⟨hx0a, hx0b, hx0c⟩ := two_facts hx0
      obtain ⟨hx0f, hx0g⟩ := two_frozen hx0
      refine (hB _).mono ?_; rintro e w1 ⟨v, own, hb1, rfl⟩
      have hbw1 := nx hb0 hb1
      replace hx0 := heap_keep hb1 hx0
      clear hx0a hx0b hx0c hx0f hx0g
      obtain ⟨hx0a, hx0b, hx0c⟩ := two_facts hx0
      obtain ⟨hx0f, hx0g⟩ := two_frozen hx0
      rcases own.cells with ⟨_, h0⟩ | ⟨ga, ca, rfl, _, hga1, p1, p2, hxa1, _⟩
      · omega
      rw [f1] at p1 ⊢
      go_wp2_with fail
      refine (hV _).mono ?_; rintro e w2 ⟨v2, own2, hb2, rfl⟩
      have hbw2 := nx hbw1 hb2
      have ownA := own.keep hb2
      rcases ownA.cells with ⟨h0, _⟩ | ⟨ga', ca', h0, _, hga, _, _, hxa, _⟩
      · simp at h0
      obtain ⟨rfl, rfl⟩ : ga = ga' ∧ ca = ca' := by simpa using h0
      rcases own2.cells with ⟨_, h1⟩ | ⟨gb, cb, rfl, _, hgb, p3, p4, hxb, _⟩
      · omega
      rw [f1] at hxa
      rw [f2] at p3 hxb ⊢
      unfold maxLen at p2 p4
      have HA := Lib.hid hxa
      have HB := Lib.hid hxb
      have OX := Lib.hid ox
      have OY := Lib.hid oy
      have hT2 := hT.keep hbw2
      clear own own2 ownA hxa hxb hxa1 hga1 ox oy h0 hb1 hb2 hbw1 hB hV hT hx0 hx0a hx0b hx0c hx0f hx0g
      go_wp2_with fail
      go_loopw [8, 27] (fun v i wr => ∃ j : Nat, j ≤ n ∧ i = .int .i64 j ∧ OwnS w2.heap.size wr v (txs xs ys j) ∧ Below w2.heap.size w2 wr) (fun _ i _ => n - (intOf i).toNat)
      case atStart => exact ⟨0, Nat.zero_le _, rfl, OwnS.nil _ _, Below.refl _ _⟩
      case round =>
        obtain ⟨j, hj, rfl, hown, hbw⟩ := hrel
        by_cases hlt : j < n
        · have hlt' : (j : Int) < (n : Int) := by omega
          have a1 := (hbw.cell (p := ⟨ga, j * 2, none⟩) hga).trans (HA.out (j * 2) (by omega))
          have a2 := (hbw.cell (p := ⟨ga, j * 2 + 1, none⟩) hga).trans (HA.out (j * 2 + 1) (by omega))
          have b1 := (hbw.cell (p := ⟨gb, j * 2, none⟩) hgb).trans (HB.out (j * 2) (by omega))
          have b2 := (hbw.cell (p := ⟨gb, j * 2 + 1, none⟩) hgb).trans (HB.out (j * 2 + 1) (by omega))
          have A1 := HA.out (j * 2) (by omega)
          have A2 := HA.out (j * 2 + 1) (by omega)
          have B1 := HB.out (j * 2) (by omega)
          have B2 := HB.out (j * 2 + 1) (by omega)
          rw [(flatF_get xs j (by omega)).1] at A1
          rw [(flatF_get xs j (by omega)).2] at A2
          rw [(flatF_get ys j (by omega)).1] at B1
          rw [(flatF_get ys j (by omega)).2] at B2
          rw [(flatF_get xs j (by omega)).1] at a1
          rw [(flatF_get xs j (by omega)).2] at a2
          rw [(flatF_get ys j (by omega)).1] at b1
          rw [(flatF_get ys j (by omega)).2] at b2
          have hnext := txs_succ xs ys j
          have hll := txs_len xs ys j
          have ox := OX.out (xs.getD j (0, 0)) (by simp [show j < xs.length by omega])
          have oy := OY.out (ys.getD j (0, 0)) (by simp [show j < ys.length by omega])
          obtain ⟨ts, hts⟩ : ∃ ts, ts = txs xs ys j := ⟨_, rfl⟩
          rw [← hts] at hown hnext hll
          generalize xs.getD j (0, 0) = x at *
          generalize ys.getD j (0, 0) = y at *
          obtain ⟨x1, x2⟩ := x
          obtain ⟨y1, y2⟩ := y
          dsimp only at a1 a2 b1 b2 A1 A2 B1 B2 hnext
          have hTr := hT2.keep hbw
          have m1 := fun w hT => frText_any x1 x2 w hT ox.1 ox.2
          have m2 := fun w hT => frText_any y1 y2 w hT oy.1 oy.2
          have s1 := frT_size x1 x2 ox.1 ox.2
          have s2 := frT_size y1 y2 oy.1 oy.2
          change _ = _ ++ [frT x1 x2 ++ ⟨#[62]⟩ ++ frT y1 y2] at hnext
          generalize frT x1 x2 = T at *
          generalize frT y1 y2 = U at *
          have hga' : ga < wr.heap.size := Nat.lt_of_lt_of_le hga hbw.size
          have hgb' : gb < wr.heap.size := Nat.lt_of_lt_of_le hgb hbw.size
          have e62 : (⟨#[62]⟩ : ByteArray).size = 1 := rfl
          have z1 : ¬ (9223372036854775807 < T.size + (⟨#[62]⟩ : ByteArray).size) := by omega
          have z2 : ¬ (9223372036854775807 < T.size + 1) := by omega
          have z3 : ¬ (9223372036854775807 < (T ++ ⟨#[62]⟩).size + U.size) := by rw [ByteArray.size_append]; omega
          have z4 : ¬ (9223372036854775807 < T.size + 1 + U.size) := by omega
          have HN := Lib.hid hnext
          have hll9 : ts.length ≤ 9 := by omega
          clear hnext hts hll ox oy e62
          go_wp2_with fail
          have hz := Below.refl wr.heap.size wr
          refine wp_region_held_drew (S := (fun (w' : World) => w'.cell? ⟨ga, j * 2, none⟩ = some (.int .i64 (x1 : Int)) ∧ w'.cell? ⟨ga, j * 2 + 1, none⟩ = some (.int .i64 (x2 : Int)) ∧ w'.cell? ⟨gb, j * 2, none⟩ = some (.int .i64 (y1 : Int)) ∧ w'.cell? ⟨gb, j * 2 + 1, none⟩ = some (.int .i64 (y2 : Int)))) (by kernel_rfl) ⟨a1, a2, b1, b2⟩ (fun hH0 => ?_)
          refine wpAnyH_take (i := 0) (oi := ?oi1) (v := ?vv1) ?hi1 ?hn1 ?hf1 ?hr1 ?hq1 (Or.inl ⟨?hg1, ?hy1⟩) hH0 ?rest1
          case hi1 => (simp only [List.getElem?_toArray, List.getElem?_cons_zero]; rfl)
          case hn1 => kernel_rfl
          case hf1 => kernel_rfl
          case hr1 => kernel_rfl
          case hg1 => rfl
          case hy1 => (intro w hSw; (try dsimp only at hSw); go_simp; first | done | with_reducible rfl)
          case hq1 => exact fun _ _ _ h => h
          try dsimp only [Act.put]
          refine wpAnyH_take (i := 1) (oi := ?oi2) (v := ?vv2) ?hi2 ?hn2 ?hf2 ?hr2 ?hq2 (Or.inl ⟨?hg2, ?hy2⟩) hH0 ?rest2
          case hi2 => (simp only [List.getElem?_toArray, List.getElem?_cons_succ, List.getElem?_cons_zero]; rfl)
          case hn2 => kernel_rfl
          case hf2 => kernel_rfl
          case hr2 => kernel_rfl
          case hg2 => rfl
          case hy2 => (intro w hSw; (try dsimp only at hSw); go_simp; first | done | with_reducible rfl)
          case hq2 => exact fun _ _ _ h => h
          try dsimp only [Act.put]
          refine wpAnyH_take (i := 2) (oi := ?oi3) (v := ?vv3) ?hi3 ?hn3 ?hf3 ?hr3 ?hq3 (Or.inl ⟨?hg3, ?hy3⟩) hH0 ?rest3
          case hi3 => (simp only [List.getElem?_toArray, List.getElem?_cons_succ, List.getElem?_cons_zero]; rfl)
          case hn3 => kernel_rfl
          case hf3 => kernel_rfl
          case hr3 => kernel_rfl
          case hg3 => rfl
          case hy3 => (intro w hSw; (try dsimp only at hSw); go_simp; first | done | with_reducible rfl)
          case hq3 => exact fun _ _ _ h => h
          try dsimp only [Act.put]
          refine wpAnyH_take (i := 3) (oi := ?oi4) (v := ?vv4) ?hi4 ?hn4 ?hf4 ?hr4 ?hq4 (Or.inl ⟨?hg4, ?hy4⟩) hH0 ?rest4
          case hi4 => (simp only [List.getElem?_toArray, List.getElem?_cons_succ, List.getElem?_cons_zero]; rfl)
          case hn4 => kernel_rfl
          case hf4 => kernel_rfl
          case hr4 => kernel_rfl
          case hg4 => rfl
          case hy4 => (intro w hSw; (try dsimp only at hSw); go_simp; first | done | with_reducible rfl)
          case hq4 => exact fun _ _ _ h => h
          try dsimp only [Act.put]
          refine wpAnyH_take (i := 4) (oi := ?oi5) (v := ?vv5) ?hi5 ?hn5 ?hf5 ?hr5 ?hq5 (Or.inl ⟨?hg5, ?hy5⟩) hH0 ?rest5
          case hi5 => (simp only [List.getElem?_toArray, List.getElem?_cons_succ, List.getElem?_cons_zero]; rfl)
          case hn5 => kernel_rfl
          case hf5 => kernel_rfl
          case hr5 => kernel_rfl
          case hg5 => rfl
          case hy5 => (intro w hSw; (try dsimp only at hSw); go_simp; first | done | with_reducible rfl)
          case hq5 => exact fun _ _ _ h => h
          try dsimp only [Act.put]
          refine wpAnyH_take (i := 7) (oi := ?oi6) (v := ?vv6) ?hi6 ?hn6 ?hf6 ?hr6 ?hq6 (Or.inl ⟨?hg6, ?hy6⟩) hH0 ?rest6
          case hi6 => (simp only [List.getElem?_toArray, List.getElem?_cons_succ, List.getElem?_cons_zero]; rfl)
          case hn6 => kernel_rfl
          case hf6 => kernel_rfl
          case hr6 => kernel_rfl
          case hg6 => rfl
          case hy6 => (intro w hSw; (try dsimp only at hSw); go_simp; first | done | with_reducible rfl)
          case hq6 => exact fun _ _ _ h => h
          try dsimp only [Act.put]
          refine wpAnyH_take (i := 8) (oi := ?oi7) (v := ?vv7) ?hi7 ?hn7 ?hf7 ?hr7 ?hq7 (Or.inl ⟨?hg7, ?hy7⟩) hH0 ?rest7
          case hi7 => (simp only [List.getElem?_toArray, List.getElem?_cons_succ, List.getElem?_cons_zero]; rfl)
          case hn7 => kernel_rfl
          case hf7 => kernel_rfl
          case hr7 => kernel_rfl
          case hg7 => rfl
          case hy7 => (intro w hSw; (try dsimp only at hSw); go_simp; first | done | with_reducible rfl)
          case hq7 => exact fun _ _ _ h => h
          try dsimp only [Act.put]
          refine wpAnyH_take (i := 9) (oi := ?oi8) (v := ?vv8) ?hi8 ?hn8 ?hf8 ?hr8 ?hq8 (Or.inl ⟨?hg8, ?hy8⟩) hH0 ?rest8
          case hi8 => (simp only [List.getElem?_toArray, List.getElem?_cons_succ, List.getElem?_cons_zero]; rfl)
          case hn8 => kernel_rfl
          case hf8 => kernel_rfl
          case hr8 => kernel_rfl
          case hg8 => rfl
          case hy8 => (intro w hSw; (try dsimp only at hSw); go_simp; first | done | with_reducible rfl)
          case hq8 => exact fun _ _ _ h => h
          try dsimp only [Act.put]
          refine wpAnyH_take (i := 10) (oi := ?oi9) (v := ?vv9) ?hi9 ?hn9 ?hf9 ?hr9 ?hq9 (Or.inl ⟨?hg9, ?hy9⟩) hH0 ?rest9
          case hi9 => (simp only [List.getElem?_toArray, List.getElem?_cons_succ, List.getElem?_cons_zero]; rfl)
          case hn9 => kernel_rfl
          case hf9 => kernel_rfl
          case hr9 => kernel_rfl
          case hg9 => rfl
          case hy9 => (intro w hSw; (try dsimp only at hSw); go_simp; first | done | with_reducible rfl)
          case hq9 => exact fun _ _ _ h => h
          try dsimp only [Act.put]
          refine held_one 5 rfl (by kernel_rfl) (fun K hK => ?_)
          go_simp
          refine (m1 _ (hTr.keep hz.drew)).mono ?_; rintro e w3 ⟨rfl, hb3⟩
          have hb3' := nx hz.drew hb3
          have hb3n := nx hbw hb3'
          go_wp2_with fail
          have hH1 : (fun (w' : World) => w'.cell? ⟨ga, j * 2, none⟩ = some (.int .i64 (x1 : Int)) ∧ w'.cell? ⟨ga, j * 2 + 1, none⟩ = some (.int .i64 (x2 : Int)) ∧ w'.cell? ⟨gb, j * 2, none⟩ = some (.int .i64 (y1 : Int)) ∧ w'.cell? ⟨gb, j * 2 + 1, none⟩ = some (.int .i64 (y2 : Int))) _ := ⟨keep_cell hb3n A1, keep_cell hb3n A2, keep_cell hb3n B1, keep_cell hb3n B2⟩
          refine hK.out (fun (w' : World) => w'.cell? ⟨ga, j * 2, none⟩ = some (.int .i64 (x1 : Int)) ∧ w'.cell? ⟨ga, j * 2 + 1, none⟩ = some (.int .i64 (x2 : Int)) ∧ w'.cell? ⟨gb, j * 2, none⟩ = some (.int .i64 (y1 : Int)) ∧ w'.cell? ⟨gb, j * 2 + 1, none⟩ = some (.int .i64 (y2 : Int))) _ _ (fun _ h => h) hH1 ?_
          clear hK K
          try dsimp only [Act.put]
          refine wpAnyH_take (i := 6) (oi := ?oi10) (v := ?vv10) ?hi10 ?hn10 ?hf10 ?hr10 ?hq10 (Or.inl ⟨?hg10, ?hy10⟩) hH1 ?rest10
          case hi10 => (simp only [List.getElem?_toArray, List.getElem?_cons_succ, List.getElem?_cons_zero]; rfl)
          case hn10 => kernel_rfl
          case hf10 => kernel_rfl
          case hr10 => kernel_rfl
          case hg10 => rfl
          case hy10 => (intro w hSw; (try dsimp only at hSw); go_simp; first | done | with_reducible rfl)
          case hq10 => exact fun _ _ _ h => h
          try dsimp only [Act.put]
          refine held_one 11 rfl (by kernel_rfl) (fun K hK => ?_)
          go_simp
          refine (m2 _ (hTr.keep hb3')).mono ?_; rintro e w4 ⟨rfl, hb4⟩
          have hb4' := nx hb3' hb4
          have hb4n := nx hbw hb4'
          go_wp2_with fail
          have hH2 : (fun (w' : World) => w'.cell? ⟨ga, j * 2, none⟩ = some (.int .i64 (x1 : Int)) ∧ w'.cell? ⟨ga, j * 2 + 1, none⟩ = some (.int .i64 (x2 : Int)) ∧ w'.cell? ⟨gb, j * 2, none⟩ = some (.int .i64 (y1 : Int)) ∧ w'.cell? ⟨gb, j * 2 + 1, none⟩ = some (.int .i64 (y2 : Int))) _ := ⟨keep_cell hb4n A1, keep_cell hb4n A2, keep_cell hb4n B1, keep_cell hb4n B2⟩
          refine hK.out (fun (w' : World) => w'.cell? ⟨ga, j * 2, none⟩ = some (.int .i64 (x1 : Int)) ∧ w'.cell? ⟨ga, j * 2 + 1, none⟩ = some (.int .i64 (x2 : Int)) ∧ w'.cell? ⟨gb, j * 2, none⟩ = some (.int .i64 (y1 : Int)) ∧ w'.cell? ⟨gb, j * 2 + 1, none⟩ = some (.int .i64 (y2 : Int))) _ _ (fun _ h => h) hH2 ?_
          clear hK K
          try dsimp only [Act.put]
          refine wpAnyH_take (i := 12) (oi := ?oi11) (v := ?vv11) ?hi11 ?hn11 ?hf11 ?hr11 ?hq11 (Or.inl ⟨?hg11, ?hy11⟩) hH2 ?rest11
          case hi11 => (simp only [List.getElem?_toArray, List.getElem?_cons_succ, List.getElem?_cons_zero]; rfl)
          case hn11 => kernel_rfl
          case hf11 => kernel_rfl
          case hr11 => kernel_rfl
          case hg11 => rfl
          case hy11 => (intro w hSw; (try dsimp only at hSw); go_simp; first | done | with_reducible rfl)
          case hq11 => exact fun _ _ _ h => h
          try dsimp only [Act.put]
          have hown4 := hown.keep hb4'
          have hbn := nxAlloc hb4n (.cells #[.string (T ++ ⟨#[62]⟩ ++ U)] 9 (0, 0))
          have hsn := hb4n.size
          refine held_one 13 rfl (by kernel_rfl) (fun K hK => ?_)
          go_simp
          refine hK.out (fun (w' : World) => w'.cell? ⟨ga, j * 2, none⟩ = some (.int .i64 (x1 : Int)) ∧ w'.cell? ⟨ga, j * 2 + 1, none⟩ = some (.int .i64 (x2 : Int)) ∧ w'.cell? ⟨gb, j * 2, none⟩ = some (.int .i64 (y1 : Int)) ∧ w'.cell? ⟨gb, j * 2 + 1, none⟩ = some (.int .i64 (y2 : Int))) _ _ (fun _ h => h) ⟨keep_cell hbn A1, keep_cell hbn A2, keep_cell hbn B1, keep_cell hbn B2⟩ ?_
          clear hK K
          try dsimp only [Act.put]
          refine held_one 14 rfl (by kernel_rfl) (fun K hK => ?_)
          refine step_append_lies _ rfl _ _ 42 rfl w2.heap.size 9 i0 (.string ⟨#[]⟩) 1 16 Tryd.underlying42 hi hz0 hz1 hz2 rfl (by decide) _ _ _ rfl (hown4.alloc _) ⟨w4.heap.size, 0, none⟩ 1 1 [.string (T ++ ⟨#[62]⟩ ++ U)] rfl rfl (new1 _ _ _) (one_str _) (by decide) (by unfold maxLen; omega) (by omega) (by simp; omega) _ rfl ?_
          intro g9 cap9 w9 hown9 hgrow hnb hlt9
          have hbw9 := hbn.grown hgrow (by simp; omega) (fun k hk => ownsRow_ge hown4 k hk)
          have hown1 := ownS_snoc hown9
          refine hK.out (fun (w' : World) => w'.cell? ⟨ga, j * 2, none⟩ = some (.int .i64 (x1 : Int)) ∧ w'.cell? ⟨ga, j * 2 + 1, none⟩ = some (.int .i64 (x2 : Int)) ∧ w'.cell? ⟨gb, j * 2, none⟩ = some (.int .i64 (y1 : Int)) ∧ w'.cell? ⟨gb, j * 2 + 1, none⟩ = some (.int .i64 (y2 : Int))) _ _ (fun _ h => h) ⟨keep_cell hbw9 A1, keep_cell hbw9 A2, keep_cell hbw9 B1, keep_cell hbw9 B2⟩ ?_
          clear hK K
          try dsimp only [Act.put]
          refine wpAnyH_take (i := 15) (oi := ?oi90) (v := ?vv90) ?hi90 ?hn90 ?hf90 ?hr90 ?hq90 (Or.inl ⟨?hg90, ?hy90⟩) (show (fun (w' : World) => w'.cell? ⟨ga, j * 2, none⟩ = some (.int .i64 (x1 : Int)) ∧ w'.cell? ⟨ga, j * 2 + 1, none⟩ = some (.int .i64 (x2 : Int)) ∧ w'.cell? ⟨gb, j * 2, none⟩ = some (.int .i64 (y1 : Int)) ∧ w'.cell? ⟨gb, j * 2 + 1, none⟩ = some (.int .i64 (y2 : Int))) w9 from ⟨keep_cell hbw9 A1, keep_cell hbw9 A2, keep_cell hbw9 B1, keep_cell hbw9 B2⟩) ?rest90
          case hi90 => (simp only [List.getElem?_toArray, List.getElem?_cons_succ, List.getElem?_cons_zero]; rfl)
          case hn90 => kernel_rfl
          case hf90 => kernel_rfl
          case hr90 => kernel_rfl
          case hg90 => rfl
          case hy90 => (intro w hSw; (try dsimp only at hSw); go_simp; first | done | with_reducible rfl)
          case hq90 => exact fun _ _ _ h => h
          try dsimp only [Act.put]
          refine wpAnyH_done (by kernel_rfl) ?_ _
          simp only [List.setIfInBounds_toArray]
          clear hown4 hown9 hgrow hbn hown hz hb3 hb3' hb3n hb4 hb4' hb4n
          go_wp2_with fail
          go_roundw
          case rel => exact ⟨j + 1, by omega, by go_num, by rw [HN.out]; exact hown1, hbw9⟩
          case measure => simp [intOf]; omega
        · obtain rfl : j = n := by omega
          have hlen := HLN.out
          have hjn := HJ.out
          rcases hown.cells with ⟨_, h0⟩ | ⟨g, cap, rfl, _, hg, q1, q2, hx, _⟩
          · rw [h0] at hlen; simp at hlen; omega
          have hJ := Tryd.strings_Join g 0 cap (txs xs ys j) ⟨#[44]⟩ wr (fun k x hk => by
            have hk' := (List.getElem?_eq_some_iff.1 hk).1
            rw [Nat.zero_add, hx k hk']
            rw [List.getD_eq_getElem?_getD, hk]
            rfl) hg (by omega) q1 (by
              show (Lib.join _ [44]).length ≤ _
              rw [hjn]
              have := HGS.out
              show R.size ≤ _
              omega)
          change Calls _ _ _ wr (fun e w' => e = .returned (.string ⟨(Lib.join ((txs xs ys j).map (·.data.toList)) [44]).toArray⟩) ∧ Below wr.heap.size wr w') at hJ
          rw [hjn, hlen] at hJ
          change Calls _ _ _ wr (fun e w' => e = .returned (.string R) ∧ Below wr.heap.size wr w') at hJ
          rw [hlen]
          clear hx hown hjn HJ HGS HLN
          go_wp2_with fail
          refine hJ.mono ?_; rintro e w9 ⟨rfl, hb9⟩
          go_wp2_with fail
          go_ret2
          exact ⟨rfl, nx (nx hbw2 hbw) hb9⟩
end Go.Proofs.YtdhjchibhlcchaaDoor

/-! WGraphText -/
namespace Go.Proofs.YtdhjchibhlcchaaDoor
open Go.RowKit

set_option maxRecDepth 100000 in
set_option maxHeartbeats 1000000 in
theorem fnExactGraphText_walk (a0 : ByteArray) (ha0 : a0.size ≤ maxLen) (b0 : ByteArray) (hb0 : b0.size ≤ maxLen) (w : World) (hT : Tab w) :
    Calls Tryd.prog 5 #[.agg #[.string a0, .string b0]] w fun e w' => e = .returned (.bool true) ∧ Below w.heap.size w w' := by
  unfold maxLen at ha0 hb0
  have hsz0 := fun w => szPair_any a0 b0 w (by omega) (by omega) 1048576 (by omega) (by omega)
  by_cases hz0 : (a0.size : Int) + b0.size ≤ 1048576
  rotate_left
  · simp only [if_neg hz0] at hsz0
    go_enter Tryd.func5, Tryd.ntmps5
    go_wp2_with fail
    have hb0 : Below w.heap.size w (w.alloc (.cells #[.string a0, .string b0] 29 (0, 0))) := nxAlloc (Below.refl _ _) _
    have hx0 := heap_alloc_at w (.cells #[.string a0, .string b0] 29 (0, 0))
    generalize (w.alloc (.cells #[.string a0, .string b0] 29 (0, 0))) = w0 at *
    obtain ⟨ka0, kb0, kc0⟩ := two_facts hx0
    refine (hsz0 _).mono ?_; rintro e w1 ⟨rfl, hb1⟩
    have hbw1 := nx hb0 hb1
    replace hx0 := heap_keep hb1 hx0
    clear ka0 kb0 kc0
    obtain ⟨ka0, kb0, kc0⟩ := two_facts hx0
    clear hb1 hb0
    go_wp2_with fail
    go_ret
    exact ⟨rfl, hbw1⟩
  simp only [if_pos hz0] at hsz0
  have hS := fun w => specGraphText_any a0 b0 w (by omega) (by omega)
  have hI := fun w hT => implGraphText_any a0 b0 w hT (by omega) (by omega)
  have hS' : ∀ w, Calls Tryd.prog 13 #[.agg #[.string a0, .string b0]] w (Gives (ans2 (GraphText_o a0 b0)) w) := hS
  have hI' : ∀ w, Tab w → Calls Tryd.prog 14 #[.agg #[.string a0, .string b0]] w (Gives (ans2 (GraphText_o a0 b0)) w) := hI
  clear hS hI
  generalize (GraphText_o a0 b0) = o at hS' hI'
  unfold ans2 at hS' hI'
  go_enter Tryd.func5, Tryd.ntmps5
  go_wp2_with fail
  have hb0 : Below w.heap.size w (w.alloc (.cells #[.string a0, .string b0] 29 (0, 0))) := nxAlloc (Below.refl _ _) _
  have hx0 := heap_alloc_at w (.cells #[.string a0, .string b0] 29 (0, 0))
  generalize (w.alloc (.cells #[.string a0, .string b0] 29 (0, 0))) = w0 at *
  obtain ⟨ka0, kb0, kc0⟩ := two_facts hx0
  refine (hsz0 _).mono ?_; rintro e w1 ⟨rfl, hb1⟩
  have hbw1 := nx hb0 hb1
  replace hx0 := heap_keep hb1 hx0
  clear ka0 kb0 kc0
  obtain ⟨ka0, kb0, kc0⟩ := two_facts hx0
  clear hb1 hb0
  go_wp2_with fail
  refine (toPair_any a0 b0 _).mono ?_; rintro e w2 ⟨rfl, hb2⟩
  have hbw2 := nx hbw1 hb2
  replace hx0 := heap_keep hb2 hx0
  clear ka0 kb0 kc0
  obtain ⟨ka0, kb0, kc0⟩ := two_facts hx0
  clear hb2 hbw1
  go_wp2_with fail
  refine (hS' _).mono ?_; rintro e w3 ⟨rfl, hb3⟩
  have hbw3 := nx hbw2 hb3
  replace hx0 := heap_keep hb3 hx0
  clear ka0 kb0 kc0
  obtain ⟨ka0, kb0, kc0⟩ := two_facts hx0
  clear hb3 hbw2
  go_wp2_with fail
  refine (toPair_any a0 b0 _).mono ?_; rintro e w4 ⟨rfl, hb4⟩
  have hbw4 := nx hbw3 hb4
  replace hx0 := heap_keep hb4 hx0
  clear ka0 kb0 kc0
  obtain ⟨ka0, kb0, kc0⟩ := two_facts hx0
  clear hb4 hbw3
  go_wp2_with fail
  refine (hI' _ (hT.keep hbw4)).mono ?_; rintro e w5 ⟨rfl, hb5⟩
  have hbw5 := nx hbw4 hb5
  replace hx0 := heap_keep hb5 hx0
  clear ka0 kb0 kc0
  obtain ⟨ka0, kb0, kc0⟩ := two_facts hx0
  clear hb5 hbw4
  go_wp2_with fail
  go_ret
  exact ⟨rfl, hbw5⟩
end Go.Proofs.YtdhjchibhlcchaaDoor

/-! LFnExactGraphText -/
namespace Go.Proofs.YtdhjchibhlcchaaDoor.fnExactGraphText
open Go.ChangeShapes Go.WideShapes Go.ChangeAt Go.RowKit
open Go.ChangeMaps (open_string shut_string)
open Go.Joins (open_agg2 shut_agg2)
set_option linter.unusedVariables false

theorem cellsPair : Tryd.prog.cellsOf 29 = 2 := by kernel_rfl
theorem own : ownKnob Tryd.prog.godebug = none := by kernel_rfl
theorem laidOut : laidOutB Tryd.prog = true := by kernel_rfl

theorem tab_at {P : Program} {W : World} {name : String} {k : IntKind} {zs : List Int} {rest : List (String × DataW Unit)} {x0 x1 : String × DataW Unit} {g : Nat} {t e : TypeId} {n : Nat}
    (hg : P.globalNamed name = some g) (hty : (P.globals[g]?).map (·.type) = some t) (ht : P.underlying t = some (.array n e)) (he : P.underlying e = some (.int k)) (hce : P.cellsOf e = 1) (hct : P.cellsOf t = n)
    (h : laidMet P (x0 :: x1 :: (name, Lib.tabData k zs) :: rest) W) : Lib.TabIs P W name k zs := by
  obtain ⟨ps, h0, _⟩ := h
  obtain ⟨_, _, _, _, _, q1, _, _, _, _, h1, _⟩ := h0
  obtain ⟨_, _, _, _, _, q2, _, _, _, _, h2, _⟩ := h1
  obtain ⟨g', t', cs, fuel, p, q, hg', ht', hvar, hd, _, _⟩ := h2
  obtain rfl := Option.some.inj (hg.symm.trans hg')
  obtain rfl := Option.some.inj (hty.symm.trans ht')
  unfold Lib.TabIs
  rw [hvar, ← Lib.cells_of_tab ht he hce hct hd]

set_option maxRecDepth 100000 in
theorem lifted (os : Os) (started : os.Started) (H : Type) (enc : TypeId × Value → H) :
    ReturnsInHanded {} Tryd.checked os 5 .any (fun w args => (Rows.fnExactGraphTextSpec.pre enc Tryd.prog Tryd.f5 Rows.fnExactGraphTextRow.domain false w args ∧ laidMetH Tryd.prog Rows.fnExactGraphTextRow.laid w) ∧ sizedMet enc Tryd.prog Tryd.f5 (OpenSpec.ofChange Rows.fnExactGraphTextSpec) false w args)
      (Rows.fnExactGraphTextSpec.post enc Tryd.prog Tryd.f5 false true false false) := by
  refine returnsInHanded_of_change_and (C := Tryd.checked) (X := fun w _ => laidMetH Tryd.prog Rows.fnExactGraphTextRow.laid w) (fun _ _ _ hh h => h.of_heap hh) own started (by kernel_rfl) Tryd.func5
    (ChangeSpec.witness_shaped (enc := enc) (C := Tryd.checked) (os := os) (X := fun w _ => laidMetH Tryd.prog Rows.fnExactGraphTextRow.laid w) false (World.laidAll Tryd.prog os Rows.fnExactGraphTextRow.laid) #[.agg #[.string ByteArray.empty, .string ByteArray.empty]] 8 (World.laidAll_os _ _ _)
      (World.shaped_of_ZipB (by kernel_rfl) (by kernel_rfl)) (by kernel_rfl) (by kernel_rfl) (by kernel_rfl)
      (by rw [MakeChecks.laidMetH_plain _ _ _ (by kernel_rfl)]; exact laidMet_laidAll _ (by kernel_rfl) (by kernel_rfl))) ?_
  intro W base args ds gs before hval0 hW hc _ hL _
  have hval : ∀ (j : Nat) t v, Tryd.f5.params[j]? = some t → args[j]? = some v → Value.okWide Tryd.prog W .any base t v := hval0
  have hW' := hW
  obtain ⟨p, q, hA0, hV, rfl, hfz, hnd⟩ := hW
  have hA : DataW.TrodAll enc Tryd.prog W 0 (fun _ => true) true Tryd.f5.params.toList args.toList ds p := hA0
  rw [Tryd.params5] at hA hval
  obtain ⟨v0, vs0, d0, ds0, p0, q0, hargs, rfl, rfl, h0, r0⟩ := trodAll_cons hA
  obtain ⟨rfl, rfl, rfl⟩ := trodAll_nil r0
  obtain rfl : args = #[v0] := by cases args; simp_all
  obtain ⟨rfl, rfl⟩ := trodVars_none hV
  obtain ⟨c0a, c0b, y0a, y0b, m0, rfl, rfl, rfl, hy0a, hy0b⟩ := open_agg2 Tryd.underlying29 (by kernel_rfl) cellsPair (hval 0 29 v0 rfl rfl) h0
  obtain ⟨a0a, e0a, rfl, w0a⟩ := DataW.trod_string Tryd.underlying9 hy0a
  obtain ⟨a0b, e0b, rfl, w0b⟩ := DataW.trod_string Tryd.underlying9 hy0b
  simp at e0a e0b
  subst e0a e0b
  clear hA0 hval0
  simp only [List.append_nil] at hW'
  have hT : Tab W := by
    have hL2 := hL
    rw [MakeChecks.laidMetH_plain _ _ _ (by kernel_rfl)] at hL2
    exact Tab.of (tab_at (g := 3) (t := 129) (e := 112) (n := 20) (by kernel_rfl) (by kernel_rfl) Tryd.underlying129 Tryd.underlying112 (by kernel_rfl) (by kernel_rfl) (show laidMet Tryd.prog ((_, _) :: (_, _) :: ("internal/strconv.uint64pow10", Lib.tabData .u64 Lib.pow10Tab) :: []) W from hL2))
  refine (fnExactGraphText_walk a0a w0a a0b w0b W hT).mono fun e W' ⟨he, bel⟩ => ?_
  subst he
  exact ⟨_, rfl, _, _, _, [], _, [], hW', trodAll_mk1 (shut_bool Tryd.underlying4 _), (trodAll_cons_mk (shut_agg2 (y0 := (.lit (.string a0a.data.toList), [])) (y1 := (.lit (.string a0b.data.toList), [])) Tryd.underlying29 (by kernel_rfl) cellsPair (Go.Deep.shut_string_cell Tryd.underlying9 w0a) (Go.Deep.shut_string_cell Tryd.underlying9 w0b)) trodAll_mk0), rfl, bel.frame _, fun h => by cases h⟩

theorem over : Rows.fnExactGraphTextRow.holds Tryd.pinned (OpenSpec.ofChange Rows.fnExactGraphTextSpec) :=
  OpenClaim.holds_of_wide 5 Tryd.f5 rfl rfl rfl rfl rfl rfl rfl ⟨rfl, rfl, rfl, rfl, rfl⟩ rfl rfl rfl rfl rfl (by kernel_rfl) Tryd.func5 (by kernel_rfl)
    (of_decide_eq_true (by kernel_rfl)) (by unfold Func.isWrapper; first | (rw [if_pos (by decide +kernel)]; kernel_rfl) | (rw [if_neg (by decide +kernel)]; exact ⟨rfl, rfl⟩))
    (fun os started H enc _ => lifted os started H enc)

theorem plain (f : FuncId) (fn : Func) (hf : Tryd.pinned.checked.prog.funcNamed "loop.example/g01161/laws.FnExactGraphText" = some f) (hfn : Tryd.pinned.checked.prog.funcs[f]? = some fn) :
    Rows.fnExactGraphTextCard.stood.looks = Tryd.pinned.checked.prog.looks [] ∧ ∀ (j : Nat) t, fn.params[j]? = some t → Tryd.pinned.checked.prog.wantsStandIn t = false := by
  obtain rfl : f = 5 := Option.some.inj ((show Tryd.prog.funcNamed "loop.example/g01161/laws.FnExactGraphText" = some 5 by kernel_rfl).symm.trans hf) |>.symm
  obtain rfl : fn = Tryd.f5 := (Option.some.inj (Tryd.func5.symm.trans hfn)).symm
  refine ⟨by kernel_rfl, fun j t ht => ?_⟩
  rw [Tryd.params5] at ht
  have hm : t ∈ [29] := by simpa using Array.mem_of_getElem? ht
  have hall : ([29].all fun u => !Tryd.prog.wantsStandIn u) = true := by kernel_rfl
  exact (show Tryd.prog.wantsStandIn t = false by simpa using List.all_eq_true.1 hall t hm)

theorem proved : Rows.FnExactGraphTextCardSaid :=
  Claim7.holds_tied_plain_at .later [] _ _ _ _ over (fun _ h => by cases h) (by kernel_rfl) (fun _ h => by cases h) fnExactGraphText_row_tie rfl ⟨rfl, rfl⟩ (by kernel_rfl) rfl plain (by kernel_rfl)
#print axioms proved
end Go.Proofs.YtdhjchibhlcchaaDoor.fnExactGraphText
