/- Walks: WordText. -/
import Derived.Test.YtlcepokenaiggabDoorWt1
import Derived.Test.YtlcepokenaiggabDoorIn
import Derived.Test.YtlcepokenaiggabDoorWd1
import Derived.Test.YtlcepokenaiggabDoorShelfJoin
import Derived.Test.YtlcepokenaiggabDoorRegT
import Derived.Test.YtlcepokenaiggabDoorRowS
import Derived.Test.YtlcepokenaiggabDoorHeldW
import Derived.Deep.AppendLies
namespace Go.Proofs.YtlcepokenaiggabDoor
open Go.RowKit

theorem one_strW (m : ByteArray) : ∀ u ∈ [Value.string m], u.oneCell' = true := by
  intro u hu
  simp at hu
  subst hu
  rfl
theorem ownS_snocW {base : Nat} {w : World} {v : Value} {xs : List ByteArray} {m : ByteArray} (h : w.ownsRow base 9 1 v (xs.length + 1) (xs.map Value.string ++ [Value.string m])) : OwnS base w v (xs ++ [m]) := by
  unfold OwnS
  rw [List.length_append, List.map_append]
  exact h
set_option maxRecDepth 100000 in
theorem letterText_any (x : Int) (w : World) (hT : Tab w) (h0 : x ≠ 0) (h1 : -100 ≤ x) (h2 : x ≤ 100) :
    Calls Tryd.prog 28 #[.int .i64 x] w (Gives (.string (letB x)) w) := by
  have hN := fun w => numberOf_any x w (by omega) (by omega)
  obtain ⟨y, hy⟩ : ∃ y : Nat, num x = (y : Int) := ⟨(num x).toNat, by unfold num; split <;> omega⟩
  have hy9 : y ≤ 9999 := by unfold num at hy; split at hy <;> omega
  have hny : (num x).toNat = y := by omega
  have hA := itoa_any y w hT hy9
  have hnz := numT_size y hy9
  have hle : letB x = if x < 0 then (⟨#[120]⟩ ++ numT y) ++ ⟨#[39]⟩ else ⟨#[120]⟩ ++ numT y := by unfold letB; rw [hny]
  rw [hy] at hN
  rw [hle]
  generalize numT y = N at *
  have a1 : ¬ (9223372036854775807 < (⟨#[120]⟩ : ByteArray).size + N.size) := by rw [s120]; omega
  have a1' : ¬ (9223372036854775807 < 1 + N.size) := by omega
  have a2 : ¬ (9223372036854775807 < (⟨#[120]⟩ ++ N).size + (⟨#[39]⟩ : ByteArray).size) := by rw [ByteArray.size_append, s120, s39]; omega
  have a2' : ¬ (9223372036854775807 < 1 + N.size + 1) := by omega
  clear hny hle hT hy hy9 hnz
  by_cases hx0 : x < 0
  · rw [if_pos hx0]
    go_enter Tryd.func28, Tryd.ntmps28
    go_wp2_with fail
    refine (hN _).mono ?_; rintro e w1 ⟨rfl, rfl⟩
    go_wp2_with fail
    refine hA.mono ?_; rintro e w2 ⟨rfl, hb2⟩
    go_wp2_with fail
    go_ret
    exact ⟨rfl, hb2⟩
  · rw [if_neg hx0]
    go_enter Tryd.func28, Tryd.ntmps28
    go_wp2_with fail
    refine (hN _).mono ?_; rintro e w1 ⟨rfl, rfl⟩
    go_wp2_with fail
    refine hA.mono ?_; rintro e w2 ⟨rfl, hb2⟩
    go_wp2_with fail
    go_ret
    exact ⟨rfl, hb2⟩

set_option maxRecDepth 100000 in
set_option maxHeartbeats 2000000 in
theorem specWordText_any (v : Value) (b1 : Nat) (L : List Int) (w : World) (hv : CellsI b1 w v L) (_hz : ∀ s ∈ L, -9223372036854775808 ≤ s ∧ s ≤ 9223372036854775807) :
    Calls Tryd.prog 13 #[v] w (Gives (ans2 (WordText_o L)) w) := by
  have hG := wdGood_any v b1 L w hv
  unfold WordText_o
  cases hg : goodW L with
  | false =>
    rw [hg] at hG
    rw [if_neg (by simp)]
    clear hg hv _hz
    go_enter Tryd.func13, Tryd.ntmps13
    go_wp2_with fail
    refine hG.mono ?_; rintro e w1 ⟨rfl, rfl⟩
    go_wp2_with fail
    go_ret2
    exact ⟨rfl, Below.refl _ _⟩
  | true =>
    rw [hg] at hG
    rw [if_pos rfl]
    have hg2 := goodW_iff.1 hg
    have hX := wdText_any v b1 L w hv (by omega) (fun x hx => by have := hg2.2 x hx; omega)
    generalize (if L.length = 0 then (⟨#[49]⟩ : ByteArray) else wtJ L L.length) = R at *
    clear hg hv _hz hg2
    go_enter Tryd.func13, Tryd.ntmps13
    go_wp2_with fail
    refine hG.mono ?_; rintro e w1 ⟨rfl, rfl⟩
    go_wp2_with fail
    refine hX.mono ?_; rintro e w2 ⟨rfl, hb2⟩
    go_wp2_with fail
    go_ret2
    exact ⟨rfl, hb2⟩
set_option maxRecDepth 100000 in
set_option maxHeartbeats 4000000 in
theorem implWordText_any (v : Value) (b1 : Nat) (L : List Int) (w : World) (hT : Tab w) (hv : CellsI b1 w v L) (_hz : ∀ s ∈ L, -9223372036854775808 ≤ s ∧ s ≤ 9223372036854775807) :
    Calls Tryd.prog 15 #[v] w (Gives (ans2 (WordText_o L)) w) := by
  have hG := implIsWord_any v b1 L w hv
  unfold WordText_o
  cases hg : goodW L with
  | false =>
    rw [hg] at hG
    rw [if_neg (by simp)]
    clear hT
    clear hg hv _hz
    go_enter Tryd.func15, Tryd.ntmps15
    go_wp2_with fail
    refine hG.mono ?_; rintro e w1 ⟨rfl, rfl⟩
    go_wp2_with fail
    go_ret2
    exact ⟨rfl, Below.refl _ _⟩
  | true =>
    rw [hg] at hG
    rw [if_pos rfl]
    have hg2 := goodW_iff.1 hg
    obtain ⟨oa, cap, rfl, hcl, hcm, hcc⟩ := hv.form
    unfold maxLen at hcm
    by_cases hn0 : L.length = 0
    · rw [if_pos hn0]
      rw [hn0] at hG ⊢
      clear hg hv _hz hg2 hT hcc
      go_enter Tryd.func15, Tryd.ntmps15
      go_wp2_with fail
      refine hG.mono ?_; rintro e w1 ⟨rfl, rfl⟩
      go_wp2_with fail
      go_ret2
      exact ⟨rfl, Below.refl _ _⟩
    · rw [if_neg hn0]
      have hgs := (wtJ_size (L := L) (fun x hx => by have := hg2.2 x hx; omega) L.length (Nat.le_refl _)).1
      have hjn : Lib.join ((L.map letB).map (·.data.toList)) [46] = (wtJ L L.length).data.toList := by
        obtain ⟨k, hk⟩ : ∃ k, L.length = k + 1 := ⟨L.length - 1, by omega⟩
        have := join_wtJ L k (by omega)
        rw [← hk, List.take_length] at this
        exact this
      obtain ⟨R, hR⟩ : ∃ R, R = wtJ L L.length := ⟨_, rfl⟩
      rw [← hR] at hjn hgs ⊢
      have hgs' : R.size ≤ 140 := by have := hg2.1; omega
      have HC := Lib.hid hcc
      have HL := Lib.hid hg2.2
      have hLn := hg2.1
      obtain ⟨i0, hi, hz0, hz1, hz2⟩ := info_parts info_str
      obtain ⟨n, hn⟩ : ∃ n, n = L.length := ⟨_, rfl⟩
      rw [← hn] at hG hLn hn0 hcl ⊢
      have hn0' : ((n : Int) == 0) = false := by rw [beq_eq_false_iff_ne]; omega
      have HN := Lib.hid hn
      have HJ := Lib.hid hjn
      have HGS := Lib.hid hgs'
      clear hg hv _hz hg2 hcc hR hjn hgs hgs' hn
      go_enter Tryd.func15, Tryd.ntmps15
      go_wp2_with fail
      refine hG.mono ?_; rintro e w1 ⟨rfl, rfl⟩
      go_wp2_with fail
      go_loopw [4, 15] (fun u i wr => ∃ j : Nat, j ≤ n ∧ i = .int .i64 j ∧ OwnS w.heap.size wr u ((L.take j).map letB) ∧ Below w.heap.size w wr) (fun _ i _ => n - (intOf i).toNat)
      case atStart => exact ⟨0, Nat.zero_le _, rfl, OwnS.nil _ _, Below.refl _ _⟩
      case round =>
        obtain ⟨j, hj, rfl, hown, hbw⟩ := hrel
        by_cases hlt : j < n
        · have hlt' : (j : Int) < (n : Int) := by omega
          have hjl : j < L.length := by have := HN.out; omega
          obtain ⟨g, rfl, _, hgl, c1⟩ := HC.out j hjl
          replace c1 := (hbw.cell (p := ⟨g, j, none⟩) hgl).trans c1
          have hxm := HL.out _ (getD_mem hjl)
          have hnext := take_let hjl
          have hll : ((L.take j).map letB).length = j := by simp; omega
          obtain ⟨ts, hts⟩ : ∃ ts, ts = (L.take j).map letB := ⟨_, rfl⟩
          rw [← hts] at hown hnext hll
          generalize L.getD j 0 = x at *
          have hLT := fun w hT => letterText_any x w hT hxm.1 (by omega) (by omega)
          generalize letB x = T at *
          have HNX := Lib.hid hnext
          have hll9 : ts.length ≤ 20 := by omega
          have hTr := hT.keep hbw
          clear hnext hts hll hxm
          go_wp2_with fail
          refine (hLT _ hTr).mono ?_; rintro e w3 ⟨rfl, hb3⟩
          have hb3n := nx hbw hb3
          have hown4 := hown.keep hb3
          have hbs := hb3n.size
          go_wp2_with (at_builtin; refine wpList_append_own _ rfl _ _ 47 rfl w.heap.size 9 i0 (.string ⟨#[]⟩) 1 16 Tryd.underlying47 hi hz0 hz1 hz2 rfl (by decide) _ _ _ rfl (hown4.alloc _) ⟨w3.heap.size, 0, none⟩ 1 1 [.string T] rfl rfl (new1 _ _ _) (one_strW _) (by unfold maxLen; omega) (by omega) (by simp; omega) ?_; intro v' w9 hown' hgrow hnn)
          have hbw9 := (nxAlloc hb3n (.cells #[.string T] 9 (0, 0))).grown hgrow (by simp; omega) (fun k hk => ownsRow_ge hown4 k hk)
          have hown1 := ownS_snocW hown'
          clear hown hown4 hown' hgrow hnn hb3 hb3n
          go_wp2_with fail
          go_roundw
          case rel => exact ⟨j + 1, by omega, by go_num, by rw [HNX.out]; exact hown1, hbw9⟩
          case measure => simp [intOf]; omega
        · obtain rfl : j = n := by omega
          have hjn := HJ.out
          have hlen : ((L.take j).map letB).length = j := by have := HN.out; simp; omega
          have htk : L.take j = L := by rw [HN.out, List.take_length]
          rw [htk] at hown hlen
          generalize L.map letB = ts at *
          rcases hown.cells with ⟨_, h0⟩ | ⟨g, cap, rfl, _, hg, q1, q2, hx, _⟩
          · rw [h0] at hlen; simp at hlen; omega
          have hJ := Tryd.strings_Join g 0 cap ts ⟨#[46]⟩ wr (fun k x hk => by
            have hk' := (List.getElem?_eq_some_iff.1 hk).1
            rw [Nat.zero_add, hx k hk']
            rw [List.getD_eq_getElem?_getD, hk]
            rfl) hg (by omega) q1 (by
              show (Lib.join _ [46]).length ≤ _
              rw [hjn]
              have := HGS.out
              show R.size ≤ _
              omega)
          change Calls _ _ _ wr (fun e w' => e = .returned (.string ⟨(Lib.join (ts.map (·.data.toList)) [46]).toArray⟩) ∧ Below wr.heap.size wr w') at hJ
          rw [hjn, hlen] at hJ
          change Calls _ _ _ wr (fun e w' => e = .returned (.string R) ∧ Below wr.heap.size wr w') at hJ
          rw [hlen]
          clear hx hown hjn HJ HGS HN HC HL htk hlen
          go_wp2_with fail
          refine hJ.mono ?_; rintro e w9 ⟨rfl, hb9⟩
          go_wp2_with fail
          go_ret2
          exact ⟨rfl, nx hbw hb9⟩
end Go.Proofs.YtlcepokenaiggabDoor
