/- The walk of laws.FnExactSlopesOf. -/
import Derived.Test.YtbmegkphmifokaaFp1
import Derived.Test.YtbmegkphmifokaaIsPair
import Derived.Test.YtbmegkphmifokaaTail
import Derived.Test.YtbmegkphmifokaaFt4
namespace Go.Proofs.Ytbmegkphmifokaa
open Go.RowKit

theorem slopesL_pcs : ∀ (l m : List ByteArray), (pcsL l m).map (fun x => x.2.2) = slopesL l m := by
  intro l
  induction l with
  | nil => intro m; cases m <;> rfl
  | cons a l ih => intro m; cases m with
    | nil => rfl
    | cons b m => simp [pcsL, slopesL, ih m]
theorem slopes_pcs (p : Pr) : (pcs p).map (fun x => x.2.2) = slopes p := slopesL_pcs _ _
def SlopesOf_o (a b : ByteArray) : Option (List Int) := (pairOf a b).bind fun p => some (slopes p)
theorem SlopesOf_len (a b : ByteArray) : ((SlopesOf_o a b).getD []).length ≤ 1000000000 := by
  unfold SlopesOf_o
  cases h : pairOf a b with
  | none => simp
  | some p =>
    obtain ⟨_, _, hok, hc1, hc2⟩ := pairOf_some h
    have l1 := addrs_length p.1 ⟨#[]⟩
    have l2 := addrs_length p.2 ⟨#[]⟩
    have hok' : p.1.carets = p.2.carets := hok
    have := slopesL_length (p.1.addrs ⟨#[]⟩) (p.2.addrs ⟨#[]⟩) (by omega)
    show (slopesL (p.1.addrs ⟨#[]⟩) (p.2.addrs ⟨#[]⟩)).length ≤ 1000000000
    omega

set_option maxRecDepth 100000 in
set_option maxHeartbeats 2000000 in
theorem mpSlopes_any (p : Pr) (w : World) (h1 : p.1.carets ≤ 8) (h2 : p.2.carets ≤ 8) (he : p.1.carets = p.2.carets) :
    Calls Try.prog 63 #[.agg #[.string p.1.str, .string p.2.str]] w (GivesInts (slopes p) w) := by
  obtain ⟨i0, hi, hz0, hz1, hz2⟩ := info_parts info_int
  have A1 := fun w => trAddresses_any p.1 ⟨#[]⟩ w (by omega) (by show 0 + p.1.carets ≤ 1000; omega)
  have A2 := fun w => trAddresses_any p.2 ⟨#[]⟩ w (by omega) (by show 0 + p.2.carets ≤ 1000; omega)
  have l1 := addrs_length p.1 ⟨#[]⟩
  have l2 := addrs_length p.2 ⟨#[]⟩
  have o1 := addrs_ok p.1 h1
  have o2 := addrs_ok p.2 h2
  unfold slopes
  generalize p.1.addrs ⟨#[]⟩ = xs at *
  generalize p.2.addrs ⟨#[]⟩ = ys at *
  obtain ⟨n, hn⟩ : ∃ n, n = xs.length := ⟨_, rfl⟩
  have hny : ys.length = n := by omega
  have hn9 : n ≤ 9 := by omega
  have hxy : xs.length = ys.length := by omega
  have pl := slopesL_length xs ys hxy
  have pg := slopesL_get xs ys hxy
  have hO : Hid (∀ k, k < n → okAd (xs.getD k ⟨#[]⟩) ∧ okAd (ys.getD k ⟨#[]⟩)) := by
    intro k hk
    have hk1 : k < xs.length := by omega
    have hk2 : k < ys.length := by omega
    exact ⟨o1 _ (by simp [hk1]), o2 _ (by simp [hk2])⟩
  have A1' : ∀ w, Calls Try.prog 76 #[.string p.1.str, .string ⟨#[]⟩] w fun e w' => ∃ g cap : Nat, OwnS w.heap.size w' (.slice (some ⟨g, 0, none⟩) n cap) xs ∧ Below w.heap.size w w' ∧ e = .returned (.slice (some ⟨g, 0, none⟩) n cap) := by
    intro w
    have := A1 w
    unfold GivesTexts at this
    rw [← hn] at this
    exact this
  have A2' : ∀ w, Calls Try.prog 76 #[.string p.2.str, .string ⟨#[]⟩] w fun e w' => ∃ g cap : Nat, OwnS w.heap.size w' (.slice (some ⟨g, 0, none⟩) n cap) ys ∧ Below w.heap.size w w' ∧ e = .returned (.slice (some ⟨g, 0, none⟩) n cap) := by
    intro w
    have := A2 w
    unfold GivesTexts at this
    rw [hny] at this
    exact this
  clear A1 A2
  rw [← hn] at pl pg
  have hX := hn.symm
  clear hn
  generalize slopesL xs ys = ps at *
  have PG := Lib.hid pg
  have PL := Lib.hid pl
  have HX := Lib.hid hX
  have HY := Lib.hid hny
  clear pg pl o1 o2 hxy l1 l2 hX hny
  go_enter Try.func63, Try.ntmps63
  go_wp2_with fail
  have hb0 : Below w.heap.size w (w.alloc (.cells #[.string p.1.str, .string p.2.str] 45 (0, 0))) := nxAlloc (Below.refl _ _) _
  have hx0 := heap_alloc_at w (.cells #[.string p.1.str, .string p.2.str] 45 (0, 0))
  generalize (w.alloc (.cells #[.string p.1.str, .string p.2.str] 45 (0, 0))) = w0 at *
  obtain ⟨hx0a, hx0b, hx0c⟩ := two_facts hx0
  obtain ⟨hx0f, hx0g⟩ := two_frozen hx0
  refine (A2' _).mono ?_; rintro e w1 ⟨g2, cap2, own2, hb1, rfl⟩
  have hbw1 := nx hb0 hb1
  replace hx0 := heap_keep hb1 hx0
  clear hx0a hx0b hx0c hx0f hx0g
  obtain ⟨hx0a, hx0b, hx0c⟩ := two_facts hx0
  obtain ⟨hx0f, hx0g⟩ := two_frozen hx0
  clear hb1 hb0
  go_wp2_with fail
  refine (A1' _).mono ?_; rintro e w2 ⟨g1, cap1, own1, hb2, rfl⟩
  have hbw2 := nx hbw1 hb2
  replace own2 := own2.keep hb2
  clear hb2 hbw1 hx0 hx0a hx0b hx0c hx0f hx0g A1' A2'
  go_wp2_with fail
  rcases own1.cells with ⟨h0, _⟩ | ⟨g1', cap1', hv1, _, hg1, hc1, hc2, hcell1, _⟩
  · simp at h0
  rcases own2.cells with ⟨h0, _⟩ | ⟨g2', cap2', hv2, _, hg2, hc3, hc4, hcell2, _⟩
  · simp at h0
  simp only [Value.slice.injEq, Option.some.injEq, Addr.mk.injEq, and_true] at hv1 hv2
  obtain ⟨rfl, e1, rfl⟩ := hv1
  obtain ⟨rfl, e2, rfl⟩ := hv2
  clear e1 e2
  have HC1 := Lib.hid hcell1
  have HC2 := Lib.hid hcell2
  unfold maxLen at hc2 hc4
  clear hcell1 hcell2 own1 own2
  go_loopw [3, 14] (fun v i wr => ∃ k : Nat, k ≤ n ∧ i = .int .i64 k ∧ OwnI w2.heap.size wr v (ps.take k) ∧ Below w2.heap.size w2 wr) (fun _ i _ => n - (intOf i).toNat)
  case atStart => exact ⟨0, Nat.zero_le _, rfl, OwnI.nil _ _, Below.refl _ _⟩
  case round =>
    obtain ⟨k, hk, rfl, hown, hbw⟩ := hrel
    by_cases hlt : k < n
    · have hlt' : (k : Int) < (n : Int) := by omega
      have hX := HX.out
      have hY := HY.out
      have c1 := (hbw.cell (p := ⟨g1, k, none⟩) hg1).trans (HC1.out k (by omega))
      have c2 := (hbw.cell (p := ⟨g2, k, none⟩) hg2).trans (HC2.out k (by omega))
      obtain ⟨ok1, ok2⟩ := hO.out k hlt
      have hpl := PL.out
      have hnext : ps.take (k + 1) = ps.take k ++ [ps.getD k 0] := by
        have : k < ps.length := by omega
        rw [List.take_succ_eq_append_getElem this]; simp [this]
      have hlen : (ps.take k).length = k := by simp; omega
      rw [PG.out k (by omega)] at hnext
      generalize ps.take k = qs at hown hlen hnext
      generalize xs.getD k ⟨#[]⟩ = a at *
      generalize ys.getD k ⟨#[]⟩ = b at *
      have sa := ok1.1
      have sb := ok2.1
      have hi3 : IntKind.i64.wrap ((a.size : Int) - (b.size : Int)) = (a.size : Int) - (b.size : Int) := by rw [IntKind.wrap_i64] <;> omega
      have HN := Lib.hid hnext
      have hq9 : qs.length ≤ 9 := by omega
      clear hnext hX hY ok1 ok2 hpl hlen
      go_wp2_with (at_builtin; refine wpList_append_own _ rfl _ _ 49 rfl w2.heap.size 3 i0 (.int .i64 0) 1 8 Try.underlying49 hi hz0 hz1 hz2 rfl (by decide) _ _ _ rfl (hown.alloc _) ⟨wr.heap.size, 0, none⟩ 1 1 [.int .i64 ((a.size : Int) - (b.size : Int))] rfl rfl (new1 _ _ _) (one1 _) (by unfold maxLen; omega) (by omega) (size_al hbw _) ?_; intro v' w3 hown' hgrow hnn)
      have hbw' := below_app hbw hown (Nat.le_refl _) hgrow
      have hown1 := OwnI.snoc hown'
      clear hown hown' hgrow hbw hnn
      go_wp2_with fail
      go_roundw
      case rel => exact ⟨k + 1, by omega, by go_num, by rw [HN.out]; exact hown1, hbw'⟩
      case measure => simp [intOf]; omega
    · obtain rfl : k = n := by omega
      have hpl := PL.out
      rw [List.take_of_length_le (by omega)] at hown
      go_wp2_with fail
      go_ret
      exact ⟨_, hown.mono hbw2.size, nx hbw2 hbw, rfl⟩

set_option maxHeartbeats 1000000 in
theorem specSlopesOf_any (a b : ByteArray) (w : World) (ha : a.size ≤ 9223372036854775806) (hb : b.size ≤ 9223372036854775806) :
    Calls Try.prog 30 #[.agg #[.string a, .string b]] w (AnsIs (SlopesOf_o a b) w) := by
  unfold SlopesOf_o
  have hg := fun w => prGood_any a b w ha hb
  cases h : pairOf a b with
  | none =>
    rw [h] at hg
    clear h
    go_enter Try.func30, Try.ntmps30
    go_wp2_with fail
    have hb0 : Below w.heap.size w (w.alloc (.cells #[.string a, .string b] 45 (0, 0))) := nxAlloc (Below.refl _ _) _
    have hx0 := heap_alloc_at w (.cells #[.string a, .string b] 45 (0, 0))
    generalize (w.alloc (.cells #[.string a, .string b] 45 (0, 0))) = w0 at *
    obtain ⟨hx0a, hx0b, hx0c⟩ := two_facts hx0
    obtain ⟨hx0f, hx0g⟩ := two_frozen hx0
    refine (hg _).mono ?_; rintro e w1 ⟨rfl, hb1⟩
    have hbw1 := nx hb0 hb1
    replace hx0 := heap_keep hb1 hx0
    clear hx0a hx0b hx0c hx0f hx0g
    obtain ⟨hx0a, hx0b, hx0c⟩ := two_facts hx0
    obtain ⟨hx0f, hx0g⟩ := two_frozen hx0
    clear hb1 hb0
    go_wp2_with fail
    go_ret2
    exact ⟨_, OwnI.nil _ _, hbw1, rfl⟩
  | some p =>
    rw [h] at hg
    obtain ⟨rfl, rfl, hok, hc1, hc2⟩ := pairOf_some h
    have hM := fun w => mpSlopes_any p w hc1 hc2 hok
    clear h
    show Calls _ _ _ _ (AnsI2 (slopes p) true w)
    generalize slopes p = ps at *
    go_enter Try.func30, Try.ntmps30
    go_wp2_with fail
    have hb0 : Below w.heap.size w (w.alloc (.cells #[.string p.1.str, .string p.2.str] 45 (0, 0))) := nxAlloc (Below.refl _ _) _
    have hx0 := heap_alloc_at w (.cells #[.string p.1.str, .string p.2.str] 45 (0, 0))
    generalize (w.alloc (.cells #[.string p.1.str, .string p.2.str] 45 (0, 0))) = w0 at *
    obtain ⟨hx0a, hx0b, hx0c⟩ := two_facts hx0
    obtain ⟨hx0f, hx0g⟩ := two_frozen hx0
    refine (hg _).mono ?_; rintro e w1 ⟨rfl, hb1⟩
    have hbw1 := nx hb0 hb1
    replace hx0 := heap_keep hb1 hx0
    clear hx0a hx0b hx0c hx0f hx0g
    obtain ⟨hx0a, hx0b, hx0c⟩ := two_facts hx0
    obtain ⟨hx0f, hx0g⟩ := two_frozen hx0
    clear hb1 hb0
    go_wp2_with fail
    refine (hM _).mono ?_; rintro e w2 ⟨v, own, hb2, rfl⟩
    go_wp2_with fail
    go_ret2
    exact ⟨_, own.mono hbw1.size, nx hbw1 hb2, rfl⟩

theorem newsAt (w : World) (n : Nat) (v : Value) (e : TypeId) (h : n = w.heap.size) : ∀ (j : Nat) (u : Value), [v][j]? = some u → (w.alloc (.cells #[v] e)).cell? ((⟨n, 0, none⟩ : Addr).add j) = some u := by
  subst h; exact new1 w v e
set_option maxRecDepth 100000 in
set_option maxHeartbeats 2000000 in
theorem implSlopesOf_any (a b : ByteArray) (w : World) (ha : a.size ≤ 9223372036854775806) (hb : b.size ≤ 9223372036854775806) :
    Calls Try.prog 31 #[.agg #[.string a, .string b]] w (AnsIs (SlopesOf_o a b) w) := by
  unfold SlopesOf_o
  have hg := fun w => isPair_any a b w ha hb
  cases h : pairOf a b with
  | none =>
    rw [h] at hg
    clear h
    go_enter Try.func31, Try.ntmps31
    go_wp2_with fail
    have hb0 : Below w.heap.size w (w.alloc (.cells #[.string a, .string b] 45 (0, 0))) := nxAlloc (Below.refl _ _) _
    have hx0 := heap_alloc_at w (.cells #[.string a, .string b] 45 (0, 0))
    generalize (w.alloc (.cells #[.string a, .string b] 45 (0, 0))) = w0 at *
    obtain ⟨hx0a, hx0b, hx0c⟩ := two_facts hx0
    obtain ⟨hx0f, hx0g⟩ := two_frozen hx0
    refine (hg _).mono ?_; rintro e w1 ⟨rfl, hb1⟩
    have hbw1 := nx hb0 hb1
    replace hx0 := heap_keep hb1 hx0
    clear hx0a hx0b hx0c hx0f hx0g
    obtain ⟨hx0a, hx0b, hx0c⟩ := two_facts hx0
    obtain ⟨hx0f, hx0g⟩ := two_frozen hx0
    clear hb1 hb0
    go_wp2_with fail
    go_ret2
    exact ⟨_, OwnI.nil _ _, hbw1, rfl⟩
  | some p =>
    rw [h] at hg
    obtain ⟨rfl, rfl, hok, hc1, hc2⟩ := pairOf_some h
    have hM := fun w => leafPieces_any p w hc1 hc2 hok
    have hl : (pcs p).length ≤ 9 := by
      have l1 := addrs_length p.1 ⟨#[]⟩
      have l2 := addrs_length p.2 ⟨#[]⟩
      have hok' : p.1.carets = p.2.carets := hok
      have := pcsL_length (p.1.addrs ⟨#[]⟩) (p.2.addrs ⟨#[]⟩) (by omega)
      show (pcsL (p.1.addrs ⟨#[]⟩) (p.2.addrs ⟨#[]⟩)).length ≤ 9
      omega
    clear h
    show Calls _ _ _ _ (AnsI2 (slopes p) true w)
    rw [← slopes_pcs]
    obtain ⟨i0, hi, hz0, hz1, hz2⟩ := info_parts info_int
    generalize pcs p = ps at *
    go_enter Try.func31, Try.ntmps31
    go_wp2_with fail
    have hb0 : Below w.heap.size w (w.alloc (.cells #[.string p.1.str, .string p.2.str] 45 (0, 0))) := nxAlloc (Below.refl _ _) _
    have hx0 := heap_alloc_at w (.cells #[.string p.1.str, .string p.2.str] 45 (0, 0))
    generalize (w.alloc (.cells #[.string p.1.str, .string p.2.str] 45 (0, 0))) = w0 at *
    obtain ⟨hx0a, hx0b, hx0c⟩ := two_facts hx0
    obtain ⟨hx0f, hx0g⟩ := two_frozen hx0
    refine (hg _).mono ?_; rintro e w1 ⟨rfl, hb1⟩
    have hbw1 := nx hb0 hb1
    replace hx0 := heap_keep hb1 hx0
    clear hx0a hx0b hx0c hx0f hx0g
    obtain ⟨hx0a, hx0b, hx0c⟩ := two_facts hx0
    obtain ⟨hx0f, hx0g⟩ := two_frozen hx0
    clear hb1 hb0
    go_wp2_with fail
    refine (hM _).mono ?_; rintro e w2 ⟨v, own, hb2, rfl⟩
    have hbw2 := nx hbw1 hb2
    clear hx0 hx0a hx0b hx0c hx0f hx0g hM hg hb2 hbw1
    rcases own.cells with ⟨rfl, h0⟩ | ⟨g, cap, rfl, _, hg1, hc3, hc4, hcell, _⟩
    · obtain rfl : ps = [] := List.length_eq_zero_iff.1 h0
      go_wp2_with fail
      go_loopw [4, 13] (fun v i wr => v = .slice none 0 0 ∧ i = .int .i64 0 ∧ wr = w2) (fun _ _ _ => 0)
      case atStart => exact ⟨rfl, rfl, rfl⟩
      case round =>
        obtain ⟨rfl, rfl, rfl⟩ := hrel
        go_wp2_with fail
        go_ret2
        exact ⟨_, OwnI.nil _ _, hbw2, rfl⟩
    · have HC := Lib.hid hcell
      unfold maxLen at hc4
      clear hcell own
      obtain ⟨n, hn⟩ : ∃ n, ps.length = n := ⟨_, rfl⟩
      rw [hn] at hl hc3 HC ⊢
      have HNN := Lib.hid hn
      clear hn
      go_wp2_with fail
      go_loopw [4, 13] (fun v i wr => ∃ k : Nat, k ≤ n ∧ i = .int .i64 k ∧ OwnI w2.heap.size wr v ((ps.take k).map fun x => x.2.2) ∧ Below w2.heap.size w2 wr) (fun _ i _ => n - (intOf i).toNat)
      case atStart => exact ⟨0, Nat.zero_le _, rfl, OwnI.nil _ _, Below.refl _ _⟩
      case round =>
        obtain ⟨k, hk, rfl, hown, hbw⟩ := hrel
        by_cases hlt : k < n
        · have hlt' : (k : Int) < (n : Int) := by omega
          have hN := HNN.out
          have fg := flatP_get ps k (by omega)
          have c1 := (hbw.cell (p := ⟨g, k * 3, none⟩) hg1).trans (HC.out (k * 3) (by omega))
          have c2 := (hbw.cell (p := ⟨g, k * 3 + 1, none⟩) hg1).trans (HC.out (k * 3 + 1) (by omega))
          have c3 := (hbw.cell (p := ⟨g, k * 3 + 2, none⟩) hg1).trans (HC.out (k * 3 + 2) (by omega))
          rw [fg.1] at c1
          rw [fg.2.1] at c2
          rw [fg.2.2] at c3
          have hnext : (ps.take (k + 1)).map (fun x => x.2.2) = (ps.take k).map (fun x => x.2.2) ++ [(ps.getD k (0, 0, 0)).2.2] := by
            have : k < ps.length := by omega
            rw [List.take_succ_eq_append_getElem this, List.map_append]; simp [this]
          have hlen : ((ps.take k).map (fun x => x.2.2)).length = k := by simp; omega
          generalize (ps.take k).map (fun x => x.2.2) = qs at hown hlen hnext
          generalize (ps.getD k (0, 0, 0)).2.2 = z at *
          generalize (ps.getD k (0, 0, 0)).2.1 = y at *
          generalize (ps.getD k (0, 0, 0)).1 = x at *
          have HN := Lib.hid hnext
          have hq9 : qs.length ≤ 9 := by omega
          clear hnext hlen fg hN
          have hbb := nxAlloc hbw (.cells #[.int .i64 x, .int .i64 y, .int .i64 z] 78 (0, 0))
          have hown2 : OwnI w2.heap.size (wr.alloc (.cells #[.int .i64 x, .int .i64 y, .int .i64 z] 78 (0, 0))) _ qs := hown.alloc _
          go_wp2_with (at_builtin; refine wpList_append_own _ rfl _ _ 49 rfl w2.heap.size 3 i0 (.int .i64 0) 1 8 Try.underlying49 hi hz0 hz1 hz2 rfl (by decide) _ _ _ rfl (hown2.alloc _) ⟨wr.heap.size + 1, 0, none⟩ 1 1 [.int .i64 z] rfl rfl (newsAt _ _ _ _ (by simp)) (one1 _) (by unfold maxLen; omega) (by omega) (size_al hbb _) ?_; intro v' w3 hown' hgrow hnn)
          have hbw' := below_app hbb hown2 (Nat.le_refl _) hgrow
          have hown1 := OwnI.snoc hown'
          clear hown hown' hgrow hbw hnn hbb hown2
          go_wp2_with fail
          go_roundw
          case rel => exact ⟨k + 1, by omega, by go_num, by rw [HN.out]; exact hown1, hbw'⟩
          case measure => simp [intOf]; omega
        · obtain rfl : k = n := by omega
          have hN := HNN.out
          rw [List.take_of_length_le (by omega)] at hown
          go_wp2_with fail
          go_ret2
          exact ⟨_, hown.mono hbw2.size, nx hbw2 hbw, rfl⟩

set_option maxRecDepth 100000 in
set_option maxHeartbeats 1000000 in
theorem fnExactSlopesOf_walk (a : ByteArray) (ha : a.size ≤ maxLen) (b : ByteArray) (hb : b.size ≤ maxLen) (w : World) :
    Calls Try.prog 8 #[.agg #[.string a, .string b]] w fun e w' => e = .returned (.bool true) ∧ Below w.heap.size w w' := by
  unfold maxLen at ha hb
  have hsz := fun w => szPair_any a b w (by omega) (by omega) 1048576 (by omega) (by omega)
  by_cases hz : (a.size : Int) + b.size ≤ 1048576
  rotate_left
  · simp only [if_neg hz] at hsz
    go_enter Try.func8, Try.ntmps8
    go_wp2_with fail
    have hb0 : Below w.heap.size w (w.alloc (.cells #[.string a, .string b] 41 (0, 0))) := nxAlloc (Below.refl _ _) _
    have hx := heap_alloc_at w (.cells #[.string a, .string b] 41 (0, 0))
    generalize w.alloc (.cells #[.string a, .string b] 41 (0, 0)) = w0 at *
    obtain ⟨ka, kb, kc⟩ := two_facts hx
    refine (hsz _).mono ?_; rintro e w1 ⟨rfl, hb1⟩
    go_wp2_with fail
    go_ret
    exact ⟨rfl, nx hb0 hb1⟩
  simp only [if_pos hz] at hsz
  have hS := fun w => specSlopesOf_any a b w (by omega) (by omega)
  have hI := fun w => implSlopesOf_any a b w (by omega) (by omega)
  have hn9 := SlopesOf_len a b
  obtain ⟨o, ho⟩ : ∃ o, o = SlopesOf_o a b := ⟨_, rfl⟩
  rw [← ho] at hn9
  simp only [← ho] at hS hI
  clear ho
  obtain ⟨xs, ok, hx9, hk9⟩ : ∃ xs ok, xs = o.getD [] ∧ ok = o.isSome := ⟨_, _, rfl, rfl⟩
  have hS' : ∀ w, Calls Try.prog 30 #[.agg #[.string a, .string b]] w (AnsI2 xs ok w) := by rw [hx9, hk9]; exact hS
  have hI' : ∀ w, Calls Try.prog 31 #[.agg #[.string a, .string b]] w (AnsI2 xs ok w) := by rw [hx9, hk9]; exact hI
  rw [← hx9] at hn9
  clear hS hI hx9 hk9 o
  go_enter Try.func8, Try.ntmps8
  go_wp2_with fail
  have hb0 : Below w.heap.size w (w.alloc (.cells #[.string a, .string b] 41 (0, 0))) := nxAlloc (Below.refl _ _) _
  have hx := heap_alloc_at w (.cells #[.string a, .string b] 41 (0, 0))
  generalize w.alloc (.cells #[.string a, .string b] 41 (0, 0)) = w0 at *
  obtain ⟨ka, kb, kc⟩ := two_facts hx
  refine (hsz _).mono ?_; rintro e w1 ⟨rfl, hb1⟩
  have hbw1 := nx hb0 hb1
  replace hx := heap_keep hb1 hx
  clear ka kb kc
  obtain ⟨ka, kb, kc⟩ := two_facts hx
  go_wp2_with fail
  refine (toPair_any a b _).mono ?_; rintro e w2 ⟨rfl, hb2⟩
  have hbw2 := nx hbw1 hb2
  replace hx := heap_keep hb2 hx
  clear ka kb kc
  obtain ⟨ka, kb, kc⟩ := two_facts hx
  go_wp2_with fail
  refine (hS' _).mono ?_; rintro e w3 ⟨v0, own0, hb3, rfl⟩
  have hbw3 := nx hbw2 hb3
  replace hx := heap_keep hb3 hx
  clear ka kb kc
  obtain ⟨ka, kb, kc⟩ := two_facts hx
  go_wp2_with fail
  refine (toPair_any a b _).mono ?_; rintro e w4 ⟨rfl, hb4⟩
  have hbw4 := nx hbw3 hb4
  replace hx := heap_keep hb4 hx
  clear ka kb kc
  obtain ⟨ka, kb, kc⟩ := two_facts hx
  replace own0 := own0.keep hb4
  go_wp2_with fail
  have own04 := own0
  have hx4 := hx
  refine (hI' _).mono ?_; rintro e w5 ⟨v1, own1, hb5, rfl⟩
  have hbw5 := nx hbw4 hb5
  replace hx := heap_keep hb5 hx
  clear ka kb kc
  obtain ⟨ka, kb, kc⟩ := two_facts hx
  replace own0 := own0.keep hb5
  go_wp2_with fail
  refine (eqIntS_any _ _ v1 v0 xs _ own1.cells own0.cells).mono ?_; rintro e w6 ⟨rfl, n6, hw6⟩
  have hb6 : Below w5.heap.size w5 w6 := by rw [hw6]; exact drewB (Below.refl _ _) n6
  clear hw6
  have hbw6 := nx hbw5 hb6
  replace hx := heap_keep hb6 hx
  clear ka kb kc
  obtain ⟨ka, kb, kc⟩ := two_facts hx
  replace own0 := own0.keep hb6
  replace own1 := own1.keep hb6
  go_wp2_with fail
  refine (markIntS_any w4.heap.size v1 xs xs.length rfl 1 _ (by omega) (by omega) hn9 own1).mono ?_; rintro e w7 ⟨rfl, own7, hb7⟩
  have hb47 : Below w4.heap.size w4 w7 := (hb5.trans (hb6.mono hb5.size)).trans hb7
  have hbw7 := nx hbw4 hb47
  clear own0 own1
  have own0 := own04.keep hb47
  clear hx ka kb kc
  have hx := heap_keep hb47 hx4
  clear hx4
  obtain ⟨ka, kb, kc⟩ := two_facts hx
  clear own04 hb47 hb7
  go_wp2_with fail
  refine (heldIntS_any w4.heap.size v1 xs.length 1 _ (by omega) (by omega) hn9 own7.cells).mono ?_; rintro e w8 ⟨rfl, n8, hw8⟩
  have hb8 : Below w7.heap.size w7 w8 := by rw [hw8]; exact drewB (Below.refl _ _) n8
  clear hw8
  have hbw8 := nx hbw7 hb8
  replace hx := heap_keep hb8 hx
  clear ka kb kc
  obtain ⟨ka, kb, kc⟩ := two_facts hx
  replace own0 := own0.keep hb8
  replace own7 := own7.keep hb8
  go_wp2_with fail
  refine (toPair_any a b _).mono ?_; rintro e w9 ⟨rfl, hb9⟩
  have hbw9 := nx hbw8 hb9
  replace hx := heap_keep hb9 hx
  clear ka kb kc
  obtain ⟨ka, kb, kc⟩ := two_facts hx
  replace own0 := own0.keep hb9
  replace own7 := own7.keep hb9
  go_wp2_with fail
  refine (hI' _).mono ?_; rintro e w10 ⟨v2, own2, hb10, rfl⟩
  have hbw10 := nx hbw9 hb10
  replace hx := heap_keep hb10 hx
  clear ka kb kc
  obtain ⟨ka, kb, kc⟩ := two_facts hx
  replace own0 := own0.keep hb10
  replace own7 := own7.keep hb10
  go_wp2_with fail
  refine (eqIntS_any _ _ v2 v0 xs _ own2.cells own0.cells).mono ?_; rintro e w11 ⟨rfl, n11, hw11⟩
  have hb11 : Below w10.heap.size w10 w11 := by rw [hw11]; exact drewB (Below.refl _ _) n11
  clear hw11
  have hbw11 := nx hbw10 hb11
  replace hx := heap_keep hb11 hx
  clear ka kb kc
  obtain ⟨ka, kb, kc⟩ := two_facts hx
  replace own7 := own7.keep hb11
  go_wp2_with fail
  refine (heldIntS_any w4.heap.size v1 xs.length 1 _ (by omega) (by omega) hn9 own7.cells).mono ?_; rintro e w12 ⟨rfl, n12, hw12⟩
  have hb12 : Below w11.heap.size w11 w12 := by rw [hw12]; exact drewB (Below.refl _ _) n12
  clear hw12
  have hbw12 := nx hbw11 hb12
  replace hx := heap_keep hb12 hx
  clear ka kb kc
  obtain ⟨ka, kb, kc⟩ := two_facts hx
  go_wp2_with fail
  go_ret
  exact ⟨rfl, hbw12⟩
end Go.Proofs.Ytbmegkphmifokaa
