/- The walk of laws.FnExactAllTrees. -/
import Derived.Test.YtgmjchpcpocpoabWTreeAt
import Derived.Test.YtgmjchpcpocpoabTailS
namespace Go.Proofs.Ytgmjchpcpocpoab
open Go.RowKit

theorem ownsRow_far {w w2 : World} {base : Nat} {e : TypeId} {size : Nat} {v : Value} {n : Nat} {xs : List Value} {o : Obj} (h : w.ownsRow base e size v n xs) (hg : (w.alloc o).grownBy w2 (some w.heap.size)) : w2.ownsRow base e size v n xs := by
  obtain ⟨h1, h2⟩ := h
  refine ⟨h1, ?_⟩
  rcases h2 with h2 | ⟨g, cap, cur, hv, hb, hh, r⟩
  · exact .inl h2
  · have hl := lt_of_block hh
    refine .inr ⟨g, cap, cur, hv, hb, ?_, r⟩
    rw [hg.block g (by simp; omega) (fun e => by injection e with e; omega), (World.grownBy_alloc w o none).block g hl (fun e => by cases e)]
    exact hh
def AllTrees_o (n : Int) : Option (List ByteArray) := if 0 ≤ n ∧ n ≤ 5 then some (trTexts n.toNat) else none
theorem AllTrees_len (n : Int) : ((AllTrees_o n).getD []).length ≤ 1000000000 := by
  unfold AllTrees_o
  split
  · next h =>
    have := treesN_small n.toNat (by omega)
    simp [trTexts]; omega
  · simp
theorem specAllTrees_any (n : Int) (w : World) (lo0 : -9223372036854775808 ≤ n) (hi0 : n ≤ 9223372036854775807) :
    Calls Try.prog 21 #[.int .i64 n] w (AnsSs (AllTrees_o n) w) := by
  unfold AllTrees_o
  by_cases h : 0 ≤ n ∧ n ≤ 5
  · rw [if_pos h]
    obtain ⟨k, rfl⟩ : ∃ k : Nat, n = k := ⟨n.toNat, by omega⟩
    rw [Int.toNat_natCast]
    have hT := fun w => trList_any k (by omega) w
    have h1 : (0 : Int) ≤ k := by omega
    have h2 : (k : Int) ≤ 5 := by omega
    clear h
    go_enter Try.func21, Try.ntmps21
    go_wp2_with fail
    refine (l1In_yes k 0 5 _ h1 h2).mono ?_; rintro e w1 ⟨rfl, rfl⟩
    go_wp2_with fail
    refine (hT _).mono ?_; rintro e w1 ⟨g, cap, own, hb1, rfl⟩
    go_wp2_with fail
    go_ret2
    exact ⟨_, own, hb1, rfl⟩
  · rw [if_neg h]
    have HN : Hid (n < 0 ∨ 5 < n) := show _ ∨ _ by omega
    clear h
    go_enter Try.func21, Try.ntmps21
    go_wp2_with fail
    refine (l1In_no n 0 5 _ HN.out).mono ?_; rintro e w1 ⟨rfl, rfl⟩
    go_wp2_with fail
    go_ret2
    exact ⟨_, OwnS.nil _ _, Below.refl _ _, rfl⟩

/-- The first trees of a list, by their ranks. -/
def firstT (k q : Nat) : List ByteArray := (List.range q).map fun r => (treeAt k r).str
theorem firstT_succ (k q : Nat) : firstT k (q + 1) = firstT k q ++ [(treeAt k q).str] := by simp [firstT, List.range_succ]
theorem firstT_all (k : Nat) (h : k ≤ 8) : firstT k (listsN 1 k) = trTexts k := by
  unfold firstT trTexts
  rw [treesN_eq k h, List.map_map]; rfl

set_option maxRecDepth 100000 in
set_option maxHeartbeats 2000000 in
theorem implAllTrees_any (n : Int) (w : World) (lo0 : -9223372036854775808 ≤ n) (hi0 : n ≤ 9223372036854775807) :
    Calls Try.prog 22 #[.int .i64 n] w (AnsSs (AllTrees_o n) w) := by
  obtain ⟨i0, hi, hz0, hz1, hz2⟩ := info_parts info_str
  unfold AllTrees_o
  by_cases h0 : n < 0
  · rw [if_neg (by omega)]
    have hd1 : decide (n < 0) = true := by simpa using h0
    clear h0
    go_enter Try.func22, Try.ntmps22
    go_wp2_with fail
    go_ret2
    exact ⟨_, OwnS.nil _ _, Below.refl _ _, rfl⟩
  · have hd1 : decide (n < 0) = false := by simpa using h0
    by_cases h5 : 5 < n
    · rw [if_neg (by omega)]
      clear h0
      go_enter Try.func22, Try.ntmps22
      go_wp2_with fail
      go_ret2
      exact ⟨_, OwnS.nil _ _, Below.refl _ _, rfl⟩
    · rw [if_pos (by omega)]
      obtain ⟨k, rfl⟩ : ∃ k : Nat, n = k := ⟨n.toNat, by omega⟩
      rw [Int.toNat_natCast]
      have h5' : k ≤ 5 := by omega
      have hC := fun w => countLists_any 1 k w (by omega) (by omega) (by omega)
      obtain ⟨M, hM⟩ : ∃ M, M = listsN 1 k := ⟨_, rfl⟩
      have hM8 : M ≤ 8000 := by rw [hM]; exact lists_small 1 k (by omega) (by omega)
      have hN : ∀ q, q < M → ∀ b w, WkAt w b 1 k q → Calls Try.prog 57 #[.pointer (some ⟨b, 0, none⟩)] w (NextOk b (nextF (2 * k + 1) 1 k q).2.1 (nextF (2 * k + 1) 1 k q).2.2.1 (nextF (2 * k + 1) 1 k q).2.2.2 (treeAt k q) w) := by
        intro q hq b w h
        obtain ⟨us, hget⟩ : ∃ us, (enum 1 k)[q]? = some us := ⟨_, List.getElem?_eq_getElem (by rw [enum_length (by omega) (by omega) (by omega), ← hM]; exact hq)⟩
        exact next_any (2 * k + 1) b 1 k q us w h (Nat.le_refl _) (Nat.le_refl _) (by omega) (by omega) (by omega) hget
      have hcar : ∀ q, q < M → (treeAt k q).carets = k := fun q hq => treeAt_carets (by omega) (by rw [← hM]; exact hq)
      have hend := firstT_all k (by omega)
      rw [← hM] at hend hC
      have HN := Lib.hid hN
      have HC := Lib.hid hcar
      have HE := Lib.hid hend
      clear hN hcar hend hM h0
      go_enter Try.func22, Try.ntmps22
      go_wp2_with fail
      refine (hC _).mono ?_; rintro e w1 ⟨rfl, rfl⟩
      clear hC
      go_wp2_with fail
      go_loopw [4, 15] (fun v i wr => ∃ (q : Nat) (xs : List ByteArray), i = .int .i64 q ∧ q ≤ M ∧ OwnS w.heap.size wr v xs ∧ xs.length = q ∧ Below w.heap.size w wr ∧ Hid (xs = firstT k q)) (fun _ i _ => M - (intOf i).toNat)
      case atStart => exact ⟨0, [], rfl, Nat.zero_le _, OwnS.nil _ _, rfl, Below.refl _ _, rfl⟩
      case round =>
        obtain ⟨q, xs, rfl, hq, hown, hxl, hbw, he⟩ := hrel
        by_cases hlt : q < M
        · have hlt' : (q : Int) < (M : Int) := by omega
          have hN := HN.out q hlt
          have hcar := HC.out q hlt
          have hstep := firstT_succ k q
          rw [← he.out] at hstep
          generalize treeAt k q = T at *
          have HS := Lib.hid hstep
          have HT := Lib.hid hcar
          have HNq := Lib.hid hN
          have HX := Lib.hid hxl
          clear hstep hcar hN he
          go_wp2_with fail
          have hk : WkAt (wr.alloc (.cells #[.int .i64 1, .int .i64 k, .int .i64 q] 67 (0, 0))) wr.heap.size 1 k q := heap_alloc_at _ _
          have hb2 := nxAlloc hbw (.cells #[.int .i64 1, .int .i64 k, .int .i64 q] 67 (0, 0))
          have ho2 := hown.keep (nxAlloc (Below.refl wr.heap.size wr) (.cells #[.int .i64 1, .int .i64 k, .int .i64 q] 67 (0, 0)))
          have hs1 := hbw.size
          refine (HNq.out _ _ hk).mono ?_; rintro e w2 ⟨g, rfl, hu, _, hg⟩
          have hb3 : Below w.heap.size w w2 := Below.grown hb2 hg hb2.size (fun j hj => by injection hj with hj; omega)
          have ho3 : OwnS w.heap.size w2 _ xs := ownsRow_far hown hg
          have hT := fun w h => text_any T g w h (by rw [HT.out]; omega)
          have HU := Lib.hid hu.at
          have hts : T.str.size ≤ 100 := by have := T.str_size; have := HT.out; omega
          clear hk hb2 hg hu ho2 hown hbw
          go_wp2_with fail
          refine (hT _ HU.out).mono ?_; rintro e w3 ⟨rfl, d3, rfl⟩
          have hb4 := drewB hb3 d3
          have ho4 : World.ownsRow (w2.drewN d3) w.heap.size 9 1 _ xs.length (xs.map Value.string) := ho3
          clear ho3 hb3
          go_wp2_with (at_builtin; refine wpList_append_own _ rfl _ _ 36 rfl w.heap.size 9 i0 (.string ⟨#[]⟩) 1 16 Try.underlying36 hi hz0 hz1 hz2 rfl (by decide) _ _ _ rfl (ho4.alloc _) ⟨(w2.drewN d3).heap.size, 0, none⟩ 1 1 [.string T.str] rfl rfl (new1 _ _ _) (oneS1 _) (by unfold maxLen; omega) (by omega) (size_al hb4 _) ?_; intro v' w9 hown' hgrow hnn)
          have hbw' := below_app hb4 ho4 (Nat.le_refl _) hgrow
          have hown1 := OwnS.snoc hown'
          clear hown' ho4 hgrow hnn hb4
          go_wp2_with fail
          go_roundw
          case rel => exact ⟨q + 1, _, by go_num, by omega, hown1, by have := HX.out; simp; omega, hbw', HS.out.symm⟩
          case measure => simp [intOf]; omega
        · obtain rfl : q = M := by omega
          have hx := he.out
          rw [HE.out] at hx
          have HX := Lib.hid hx
          clear he hx
          go_wp2_with fail
          go_ret2
          exact ⟨_, by rw [show (some (trTexts k)).getD [] = xs by rw [HX.out]; rfl]; exact hown, hbw, rfl⟩

set_option maxRecDepth 100000 in
set_option maxHeartbeats 1000000 in
theorem fnExactAllTrees_walk (a : Int) (ha : (Lit.int .i64 a).wf = true) (w : World) :
    Calls Try.prog 6 #[.int .i64 a] w fun e w' => e = .returned (.bool true) ∧ Below w.heap.size w w' := by
  obtain ⟨loa, hia⟩ := i64_bounds ha
  have hS := fun w => specAllTrees_any a w  loa hia
  have hI := fun w => implAllTrees_any a w  loa hia
  have hn9 := AllTrees_len a
  obtain ⟨o, ho⟩ : ∃ o, o = AllTrees_o a := ⟨_, rfl⟩
  rw [← ho] at hn9
  simp only [← ho] at hS hI
  clear ho
  obtain ⟨xs, ok, hx, hk⟩ : ∃ xs ok, xs = o.getD [] ∧ ok = o.isSome := ⟨_, _, rfl, rfl⟩
  have hS' : ∀ w, Calls Try.prog 21 #[.int .i64 a] w (AnsS2 xs ok w) := by rw [hx, hk]; exact hS
  have hI' : ∀ w, Calls Try.prog 22 #[.int .i64 a] w (AnsS2 xs ok w) := by rw [hx, hk]; exact hI
  rw [← hx] at hn9
  clear hS hI hx hk
  go_enter Try.func6, Try.ntmps6
  go_wp2_with fail
  refine (hS' _).mono ?_; rintro e w1 ⟨v0, own0, hb1, rfl⟩
  go_wp2_with fail
  refine (hI' _).mono ?_; rintro e w2 ⟨v1, own1, hb2, rfl⟩
  go_wp2_with fail
  refine (eqStringS_any _ _ v1 v0 xs _ own1.cells (own0.keep hb2).cells).mono ?_; rintro e w3 ⟨rfl, n3, hw3⟩
  have hb3 : Below w2.heap.size w2 w3 := by rw [hw3]; exact drewB (Below.refl _ _) n3
  clear hw3
  go_wp2_with fail
  refine (markStringS_1 w1.heap.size v1 xs _ hn9 (hb2.trans (hb3.mono hb2.size)).size (own1.keep hb3)).mono ?_; rintro e w4 ⟨rfl, own4, hb4⟩
  have hb14 : Below w1.heap.size w1 w4 := (hb2.trans (hb3.mono hb2.size)).trans hb4
  have own04 := own0.keep hb14
  go_wp2_with fail
  refine (heldStringS_1 w1.heap.size v1 xs.length _ hn9 own4.cells).mono ?_; rintro e w5 ⟨rfl, hb5⟩
  go_wp2_with fail
  refine (hI' _).mono ?_; rintro e w6 ⟨v2, own6, hb6, rfl⟩
  have hb46 : Below w4.heap.size w4 w6 := nx hb5 hb6
  go_wp2_with fail
  refine (eqStringS_any _ _ v2 v0 xs _ own6.cells (own04.keep hb46).cells).mono ?_; rintro e w7 ⟨rfl, n7, hw7⟩
  have hb7 : Below w6.heap.size w6 w7 := by rw [hw7]; exact drewB (Below.refl _ _) n7
  clear hw7
  go_wp2_with fail
  refine (heldStringS_1 w1.heap.size v1 xs.length _ hn9 (own4.keep (nx hb46 hb7)).cells).mono ?_; rintro e w8 ⟨rfl, hb8⟩
  go_wp2_with fail
  go_ret
  exact ⟨rfl, nx (nx (nx (nx hb1 hb14) hb46) hb7) hb8⟩
end Go.Proofs.Ytgmjchpcpocpoab
