/- FnExactRootsOf: for every input the law returns true and leaves its arguments as they were. No conditions. -/
import Derived.Test.YtkpganpojdboeaaMgRootsOf3
import Derived.ProofKit
import Derived.OpenShut
import Derived.ShutString
import Derived.ChangeOld
import Derived.Below
import Derived.Lib.SmallJoins
/-! Sm2 -/
namespace Go.Proofs.Ytkpganpojdboeaa
open Go.RowKit

def prS (p : Pr) : ByteArray := p.1.str ++ ⟨#[62]⟩ ++ p.2.str
theorem prText_any (p : Pr) (w : World) (h1 : p.1.carets ≤ 1000) (h2 : p.2.carets ≤ 1000) :
    Calls Try.prog 70 #[.agg #[.string p.1.str, .string p.2.str]] w (Gives (.string (prS p)) w) := by
  have s1 := p.1.str_size
  have s2 := p.2.str_size
  go_enter Try.func70, Try.ntmps70
  go_wp2_with fail
  go_ret
  exact ⟨rfl, nxAlloc (Below.refl _ _) _⟩


theorem text_no62s (t : Tr) : ∀ c ∈ t.text, c ≠ 62 := by
  induction t with
  | lf => intro c hc; simp [Tr.text] at hc; subst hc; decide
  | nd l r ihl ihr =>
    intro c hc
    simp only [Tr.text, List.mem_cons, List.mem_append, List.not_mem_nil, or_false] at hc
    rcases hc with rfl | hc | hc | rfl
    · decide
    · exact ihl c hc
    · exact ihr c hc
    · decide
theorem cut_pTx {p : Pr} (hp : okP p) (hc : p.1.carets ≤ 8) : cutP (pTx p) = some p := by
  have hl := pTx_list p
  have hk : idxB (pTx p) 62 = (p.1.text.length : Int) := by
    have h62 : (pTx p).data.toList[p.1.text.length]? = some 62 := by rw [hl]; simp
    have hlow : ∀ j, j < p.1.text.length → (pTx p).data.toList[j]? ≠ some 62 := by
      intro j hj e
      rw [hl, List.getElem?_append_left hj] at e
      exact text_no62s p.1 62 (List.mem_of_getElem? e) rfl
    rcases idxB_spec (pTx p) 62 with ⟨_, h⟩ | ⟨k, h1, h2, h3, h4⟩
    · exact absurd h62 (h _)
    · rw [h1]
      rcases Nat.lt_trichotomy k p.1.text.length with h | h | h
      · exact absurd h3 (hlow k h)
      · rw [h]
      · exact absurd h62 (h4 _ h)
  unfold cutP
  rw [hk, if_pos (by omega)]
  have e1 : (pTx p).extract 0 (p.1.text.length : Int).toNat = p.1.str := by
    apply ba_ext
    rw [Lib.extract_data, hl, Tr.str_list]
    simp
  have e2 : (pTx p).extract ((p.1.text.length : Int).toNat + 1) (pTx p).size = p.2.str := by
    apply ba_ext
    rw [Lib.extract_data, hl, Tr.str_list]
    have hz : (pTx p).size = p.1.text.length + 1 + p.2.text.length := by rw [Lib.size_eq, hl]; simp; omega
    have e3 : p.1.text ++ 62 :: p.2.text = (p.1.text ++ [62]) ++ p.2.text := by simp
    rw [hz, e3, Int.toNat_natCast, List.drop_left' (by simp), List.take_of_length_le (by omega)]
  rw [e1, e2]
  exact pairOf_str hp hc
theorem inc_reds (k : Nat) : IncS ((redsN k).map pTx) := by
  intro i j hij hj
  rw [List.length_map] at hj
  have h := List.pairwise_iff_getElem.1 (redsN_inc k) i j (by omega) hj hij
  have e1 : ((redsN k).map pTx).getD i ⟨#[]⟩ = pTx (redsN k)[i] := by simp [List.getD_eq_getElem?_getD, show i < (redsN k).length by omega]
  have e2 : ((redsN k).map pTx).getD j ⟨#[]⟩ = pTx (redsN k)[j] := by simp [List.getD_eq_getElem?_getD, hj]
  rw [e1, e2, Lib.toList_data, Lib.toList_data, pTx_less]
  exact h
theorem FarQ.start2 {base : Nat} {w0 w1 : World} {g : Nat} {v : Value} {e : TypeId} {size n : Nat} {xs : List Value} (h : w0.ownsRow base e size v n xs) (hg : w0.heap.size ≤ g) : FarQ w1 w1 g v :=
  ⟨rfl, Nat.le_refl _, fun e => by have := (World.ownsRow.lt h g e.symm).2; omega⟩
theorem both_empty_len (p : Pr) : ((both p).length = 0) ↔ (both p).isEmpty = true := by rw [List.isEmpty_iff, List.length_eq_zero_iff]
theorem prS_pTx (p : Pr) : prS p = pTx p := rfl
theorem prBoth_tr7 (p : Pr) (w : World) (k1 : p.1.carets ≤ 200) (k2 : p.2.carets ≤ 200) : Calls Try.prog 92 #[.agg #[.string p.1.str, .string p.2.str]] w (GivesInts (both p) w) := by
  have := prBoth_any p.1.str p.2.str w (by have := p.1.str_size; omega) (by have := p.2.str_size; omega)
  rwa [bothL_str] at this
theorem OwnS.snoc7 {base : Nat} {w : World} {v : Value} {xs : List ByteArray} {m : ByteArray} (h : w.ownsRow base 9 1 v (xs.length + 1) (xs.map Value.string ++ [Value.string m])) : OwnS base w v (xs ++ [m]) := by
  unfold OwnS
  rw [List.map_append, List.length_append]
  exact h
theorem pickN_one (k : Nat) (a : Tr) (j : Nat) (h : j < (treesN k).length) : pickN (fun _ => true) k a (j + 1) = pickN (fun _ => true) k a j ++ (if (both (a, (treesN k).getD j .lf)).isEmpty = true then [(a, (treesN k).getD j .lf)] else []) := by
  rw [pickN_succ _ a h]
  simp
theorem pickN_len5 (want : Pr → Bool) (k : Nat) (a : Tr) (j : Nat) : (pickN want k a j).length ≤ j := by
  unfold pickN
  rw [List.length_map]
  exact Nat.le_trans (List.length_filter_le _ _) (by rw [List.length_take]; omega)

set_option maxRecDepth 100000 in
set_option maxHeartbeats 4000000 in
theorem cjSmall_any (n : Nat) (hn3 : n ≤ 3) (w : World) : Calls Try.prog 66 #[.int .i64 n] w (GivesQ (smallN (n + 1)) w) := by
  obtain ⟨i0, hi, hz0, hz1, hz2⟩ := info_parts info_pair7
  obtain ⟨j0, hj, hy0, hy1, hy2⟩ := info_parts info_str
  go_enter Try.func66, Try.ntmps66
  go_wp2_with fail
  go_loopw [3, 4] (fun u c wr => ∃ (k : Nat) (xs : List Pr), k ≤ n + 1 ∧ c = .int .i64 k ∧ OwnQ w.heap.size wr u xs ∧ xs.length ≤ k * 25 ∧ Hid (xs = smallN k) ∧ Below w.heap.size w wr) (fun _ c _ => n + 1 - (intOf c).toNat)
  case atStart => exact ⟨0, [], Nat.zero_le _, rfl, OwnX.nil _ _ _ _, Nat.zero_le _, rfl, Below.refl _ _⟩
  case round =>
    obtain ⟨k, xs, hk, rfl, hown, hxl, hxs, hbw⟩ := hrel
    by_cases hlt : k ≤ n
    · have hlt' : (k : Int) ≤ (n : Int) := by omega
      have hk3 : k ≤ 3 := by omega
      have hT := fun w => trList_any k (by omega) w
      have hN5 := treesN_sm7 hk3
      have hsz0 := hbw.size
      go_wp2_with fail
      refine (hT _).mono ?_; rintro e w1 ⟨g, cap, own1, hb1, rfl⟩
      rcases own1.cells with ⟨h0, _⟩ | ⟨g', cap', h0, hgb, hg, q1, q2, hc, _⟩
      · simp at h0
      simp only [Value.slice.injEq, Option.some.injEq, Addr.mk.injEq, and_true, true_and] at h0
      obtain ⟨rfl, rfl⟩ := h0
      rw [trTexts_len] at q1 hc ⊢
      unfold maxLen at q2
      have HC := Lib.hid hc
      replace hown := OwnQ.keep hown hb1
      replace hbw := nx hbw hb1
      have hsz1 := hbw.size
      obtain ⟨N, hN⟩ : ∃ N, N = (treesN k).length := ⟨_, rfl⟩
      have HN := Lib.hid hN
      rw [← hN] at hN5 q1 ⊢
      clear own1 hc hb1 hN
      go_wp2_with fail
      go_loopw [5, 23] (fun u c wr => ∃ (i : Nat) (ts : List ByteArray), i ≤ N ∧ c = .int .i64 i ∧ OwnS w1.heap.size wr u ts ∧ ts.length ≤ i * 5 ∧ Hid (ts = (pickK (fun _ => true) k i).map pTx) ∧ Below w1.heap.size w1 wr) (fun _ c _ => N - (intOf c).toNat)
      case atStart => exact ⟨0, [], Nat.zero_le _, rfl, OwnS.nil _ _, Nat.zero_le _, by show _ = _; simp [pickK], Below.refl _ _⟩
      case round =>
        obtain ⟨i, ts, hi', rfl, hown2, hyl, hys, hbw2⟩ := hrel
        by_cases hlt2 : i < N
        · have hlt2' : (i : Int) < (N : Int) := by omega
          have hiT : i < (treesN k).length := by rw [← HN.out]; exact hlt2
          have c1 := (hbw2.cell (p := ⟨g, i, none⟩) hg).trans (HC.out i hiT)
          rw [trTexts_get hiT] at c1
          have hac := treesN_at hiT
          have hpk := pickK_succ (fun _ => true) hiT
          obtain ⟨a, ha⟩ : ∃ a, a = (treesN k).getD i .lf := ⟨_, rfl⟩
          rw [← ha] at c1 hac hpk
          have HPK := Lib.hid hpk
          have hsz2 := hbw2.size
          clear ha hpk hiT
          go_wp2_with fail
          refine (hT _).mono ?_; rintro e w2 ⟨g2, cap2, own2, hb2, rfl⟩
          rcases own2.cells with ⟨h0, _⟩ | ⟨g', cap', h0, hgb2, hg2, q3, q4, hc2, _⟩
          · simp at h0
          simp only [Value.slice.injEq, Option.some.injEq, Addr.mk.injEq, and_true, true_and] at h0
          obtain ⟨rfl, rfl⟩ := h0
          have hfar : FarQ w2 w2 g2 u5 := FarQ.start2 (show wr.ownsRow _ _ _ _ _ _ from hown2) hgb2
          rw [trTexts_len, ← HN.out] at q3 ⊢
          unfold maxLen at q4
          have HC2 := Lib.hid hc2
          replace hown2 := OwnS.keep hown2 hb2
          replace hbw2 := nx hbw2 hb2
          have hsz3 := hbw2.size
          clear own2 hc2 hb2 c1
          go_wp2_with fail
          go_loopw [5, 30] (fun u c wr => ∃ (j : Nat) (us : List ByteArray), j ≤ N ∧ c = .int .i64 j ∧ OwnS w1.heap.size wr u us ∧ us.length ≤ i * 5 + j ∧ Hid (us = ts ++ (pickN (fun _ => true) k a j).map pTx) ∧ Below w1.heap.size w1 wr ∧ FarQ w2 wr g2 u) (fun _ c _ => N - (intOf c).toNat)
          case atStart => exact ⟨0, ts, Nat.zero_le _, rfl, hown2, by omega, by show _ = _; simp [pickN], hbw2, hfar⟩
          case round =>
            clear hown2 hbw2 hfar
            obtain ⟨j, us, hj', rfl, hown3, hzl, hzs, hbw3, hfar3⟩ := hrel
            by_cases hlt3 : j < N
            · have hlt3' : (j : Int) < (N : Int) := by omega
              have hjT : j < (treesN k).length := by rw [← HN.out]; exact hlt3
              have d1 := hfar3.cell (HC2.out j (by rw [trTexts_len]; exact hjT))
              rw [trTexts_get hjT] at d1
              have hbc := treesN_at hjT
              have hpn := pickN_one k a j hjT
              obtain ⟨b, hb⟩ : ∃ b, b = (treesN k).getD j .lf := ⟨_, rfl⟩
              rw [← hb] at d1 hbc hpn
              have HPN := Lib.hid hpn
              have hsz4 := hbw3.size
              have PB := fun w => prBoth_tr7 (a, b) w (by show a.carets ≤ 200; omega) (by show b.carets ≤ 200; omega)
              have PX := fun w => prText_any (a, b) w (by show a.carets ≤ 1000; omega) (by show b.carets ≤ 1000; omega)
              rw [prS_pTx] at PX
              clear hb hpn hjT
              go_wp2_with fail
              have hbw4 := nxAlloc hbw3 (.cells #[.string a.str, .string b.str] 25 (0, 0))
              have hown4 := OwnS.keep hown3 (nxAlloc (Below.refl _ _) (.cells #[.string a.str, .string b.str] 25 (0, 0)))
              have hfar4 := hfar3.keep hg2 (nxAlloc (Below.refl _ _) (.cells #[.string a.str, .string b.str] 25 (0, 0)))
              have hx := heap_alloc_at wr (.cells #[.string a.str, .string b.str] 25 (0, 0))
              generalize wr.alloc (.cells #[.string a.str, .string b.str] 25 (0, 0)) = w4 at *
              obtain ⟨hxa, hxb, hxc⟩ := two_facts hx
              clear hbw3 hown3 hfar3 d1
              go_wp2_with fail
              refine (PB _).mono ?_; rintro e w5 ⟨v5, own5, hb5, rfl⟩
              have hx5 := heap_keep hb5 hx
              have hbw5 := nx hbw4 hb5
              have hown5 := OwnS.keep hown4 hb5
              have hfar5 := hfar4.keep hg2 hb5
              obtain ⟨oa5, cap5, rfl, _⟩ := own5.cells.form
              clear hx hxa hxb hxc hbw4 hown4 hfar4 hb5 own5
              obtain ⟨hxa, hxb, hxc⟩ := two_facts hx5
              have hsz5 := hbw5.size
              have hbe := both_empty_len (a, b)
              have HBE := Lib.hid hbe
              clear hbe
              by_cases hl0 : (both (a, b)).length = 0
              · have hem := HBE.out.1 hl0
                have HEM := Lib.hid hem
                have hl1 : ((both (a, b)).length : Int) = 0 := by omega
                clear hem HBE
                generalize (both (a, b)).length = bl at *
                subst hl0
                go_wp2_with fail
                refine (PX _).mono ?_; rintro e w6 ⟨rfl, hb6⟩
                have hbw6 := nx hbw5 hb6
                have hown6 := OwnS.keep hown5 hb6
                have hfar6 := hfar5.keep hg2 hb6
                have hsz6 := hbw6.size
                clear hbw5 hown5 hfar5 hb6 hx5 hxa hxb hxc
                unfold OwnS at hown6
                go_wp2_with (at_builtin; go_loud (refine wpList_append_own_at _ rfl _ _ 99 rfl w1.heap.size 9 j0 (.string ⟨#[]⟩) 1 16 Try.underlying99 hj hy0 hy1 hy2 rfl (by decide) _ _ _ rfl (hown6.alloc _) ⟨w6.heap.size, 0, none⟩ 1 1 [.string (pTx (a, b))] rfl rfl (new1 _ _ _) (one_str7 _) (by unfold maxLen; omega) (by omega) (by simp; omega) ?_); intro v' w9 hown' hgrow hnn hob)
                have hba := nxAlloc (Below.refl w6.heap.size w6) (.cells #[.string (pTx (a, b))] 9 (0, 0))
                have hfar9 := (hfar6.keep hg2 hba).grown hg2 hgrow hob
                have hbw9 := (nxAlloc hbw6 (.cells #[.string (pTx (a, b))] 9 (0, 0))).grown hgrow (by simp; omega) (fun k hk => ownsRow_ge hown6 k hk)
                have hown9 : OwnS w1.heap.size w9 v' (us ++ [pTx (a, b)]) := OwnS.snoc7 hown'
                have hfin : us ++ [pTx (a, b)] = ts ++ (pickN (fun _ => true) k a (j + 1)).map pTx := by rw [HPN.out, if_pos HEM.out, hzs.out, List.map_append, List.append_assoc]; rfl
                have HX := Lib.hid hfin
                clear hown6 hown' hgrow hba hfar6 hbw6 hnn hob hfin
                go_wp2_with fail
                go_roundw
                case rel => exact ⟨j + 1, _, by omega, by go_num, hown9, by simp; omega, HX, hbw9, hfar9⟩
                case measure => simp [intOf]; omega
              · have hl1 : ¬ ((both (a, b)).length : Int) = 0 := by omega
                have hem : ¬ (both (a, b)).isEmpty = true := fun h => hl0 (HBE.out.2 h)
                have hfin : us = ts ++ (pickN (fun _ => true) k a (j + 1)).map pTx := by rw [HPN.out, if_neg hem, hzs.out]; simp
                have HX := Lib.hid hfin
                clear hfin hem HBE
                generalize (both (a, b)).length = bl at *
                go_wp2_with fail
                go_roundw
                case rel => exact ⟨j + 1, us, by omega, by go_num, hown5, by omega, HX, hbw5, hfar5⟩
                case measure => simp [intOf]; omega
            · obtain rfl : j = N := by omega
              have h2 : us = (pickK (fun _ => true) k (i + 1)).map pTx := by rw [HPK.out, List.map_append, ← hys.out, hzs.out, HN.out]
              have HX := Lib.hid h2
              clear h2 hzs
              go_wp2_with fail
              go_roundw
              case rel => exact ⟨i + 1, us, by omega, by go_num, hown3, by omega, HX, hbw3⟩
              case measure => simp [intOf]; omega
        · obtain rfl : i = N := by omega
          have h2 : ts = (redsN k).map pTx := by rw [hys.out, HN.out, pickK_all]; exact congrArg _ (List.filter_eq_self.2 (fun _ _ => rfl))
          have hbs := hbw2.size
          have LS := fun v w hb h => lnSorted_any w1.heap.size ts.length ts rfl (by omega) (by rw [h2]; exact inc_reds k) v w hb h
          have hrd := hown2.cells.read
          have hownP := OwnQ.keep hown hbw2
          have hbwP := nx hbw hbw2
          have hM : ts.length = (redsN k).length := by rw [h2, List.length_map]
          have H2 := Lib.hid h2
          have HM := Lib.hid hM
          clear h2 hys hown2 hM
          go_wp2_with fail
          refine (LS _ _ hbs hrd).mono ?_; rintro e w7 ⟨v7, rd7, hb7, rfl⟩
          obtain ⟨oa7, cap7, rfl, r1, r2, r3⟩ := rd7
          unfold maxLen at r2
          replace hownP := OwnQ.keep hownP hb7
          replace hbwP := nx hbwP hb7
          have hfar7 : ∀ g7 q7, oa7 = some ⟨g7, q7, none⟩ → w1.heap.size ≤ g7 → g7 < w7.heap.size → FarQ w7 w7 g7 u3 := fun g7 q7 _ hk _ => FarQ.start2 (show w1.ownsRow _ _ _ _ _ _ from hown) hk
          have HR := Lib.hid r3
          generalize hMM : ts.length = M at *
          clear hMM r3 hb7 LS hrd hbs hown hbw hbw2
          go_wp2_with fail
          go_loopw [3, 51] (fun u c wr => ∃ (m : Nat) (ps : List Pr), m ≤ M ∧ c = .int .i64 m ∧ OwnQ w.heap.size wr u ps ∧ ps.length ≤ k * 25 + m ∧ Hid (ps = smallN k ++ (redsN k).take m) ∧ Below w.heap.size w wr ∧ Hid (∀ g7 q7, oa7 = some ⟨g7, q7, none⟩ → w1.heap.size ≤ g7 → g7 < w7.heap.size → FarQ w7 wr g7 u)) (fun _ c _ => M - (intOf c).toNat)
          case atStart => exact ⟨0, xs, Nat.zero_le _, rfl, hownP, by omega, by show _ = _; rw [hxs.out]; simp, hbwP, hfar7⟩
          case round =>
            clear hownP hbwP hfar7
            obtain ⟨m, ps, hm', rfl, hown8, hpl, hps, hbw8, hfar8⟩ := hrel
            by_cases hlt4 : m < M
            · have hlt4' : (m : Int) < (M : Int) := by omega
              obtain ⟨g7, q7, e7, hk7, hg7, c7⟩ := HR.out m hlt4
              have far := hfar8.out g7 q7 e7 hk7 hg7
              have hmR : m < (redsN k).length := by rw [← HM.out]; exact hlt4
              obtain ⟨p, hp⟩ : ∃ p, p = (redsN k)[m] := ⟨_, rfl⟩
              have hgt : ts.getD m ⟨#[]⟩ = pTx p := by rw [H2.out, hp]; simp [List.getD_eq_getElem?_getD, hmR]
              have hpm := mem_redsN.1 (show p ∈ redsN k by rw [hp]; exact List.getElem_mem hmR)
              have htk : (redsN k).take (m + 1) = (redsN k).take m ++ [p] := by rw [List.take_succ_eq_append_getElem hmR, hp]
              have hz1 := p.1.text_len
              have hz2' := p.2.text_len
              have hz3 : (pTx p).size = p.1.text.length + 1 + p.2.text.length := by rw [Lib.size_eq, pTx_list]; simp; omega
              have PP := fun w => prParse_any (pTx p) w (by omega)
              rw [cut_pTx (show p.1.carets = p.2.carets by omega) (by omega)] at PP
              have PP' : ∀ w, Calls Try.prog 99 #[.string (pTx p)] w (Gives (.tuple #[.agg #[.string p.1.str, .string p.2.str], .bool true]) w) := PP
              have c1 := far.cell c7
              rw [hgt] at c1
              have HTK := Lib.hid htk
              have hsz8 := hbw8.size
              have E7 := Lib.hid e7
              clear htk hz1 hz2' hz3 PP hpm hgt hp hmR far c7
              rw [E7.out]
              go_wp2_with fail
              refine (PP' _).mono ?_; rintro e w10 ⟨rfl, hb10⟩
              have hbw10 := nxAlloc (nx hbw8 hb10) (.cells #[.string p.1.str, .string p.2.str] 25 (0, 0))
              have hown10 := OwnQ.keep (OwnQ.keep hown8 hb10) (nxAlloc (Below.refl w10.heap.size w10) (.cells #[.string p.1.str, .string p.2.str] 25 (0, 0)))
              have hfar10 : ∀ g7 q7, oa7 = some ⟨g7, q7, none⟩ → w1.heap.size ≤ g7 → g7 < w7.heap.size → FarQ w7 (w10.alloc (.cells #[.string p.1.str, .string p.2.str] 25 (0, 0))) g7 u3 := fun a b c d e => ((hfar8.out a b c d e).keep e hb10).keep e (nxAlloc (Below.refl w10.heap.size w10) (.cells #[.string p.1.str, .string p.2.str] 25 (0, 0)))
              have hxx := heap_alloc_at w10 (.cells #[.string p.1.str, .string p.2.str] 25 (0, 0))
              obtain ⟨hxa, hxb, hxc⟩ := two_facts hxx
              have hsz10 := hbw10.size
              have H10 := Lib.hid hfar10
              clear hbw8 hown8 hfar8 hb10 hfar10 c1
              have hnw : ∀ (j : Nat) (u : Value), [Value.string p.1.str, Value.string p.2.str][j]? = some u → ((w10.alloc (.cells #[.string p.1.str, .string p.2.str] 25 (0, 0))).alloc (.cells #[.string p.1.str, .string p.2.str] 25 (0, 0))).cell? ((⟨w10.heap.size + 1, 0, none⟩ : Addr).add j) = some u := by
                have h := newsQ (w10.alloc (.cells #[.string p.1.str, .string p.2.str] 25 (0, 0))) #[.string p.1.str, .string p.2.str] 25
                have es : (w10.alloc (.cells #[.string p.1.str, .string p.2.str] 25 (0, 0))).heap.size = w10.heap.size + 1 := by simp
                rw [es] at h
                exact h
              unfold OwnQ OwnX at hown10
              go_wp2_with (at_builtin; go_loud (refine wpList_append_own_at _ rfl _ _ 43 rfl w.heap.size 25 i0 (.agg #[.string ⟨#[]⟩, .string ⟨#[]⟩]) 2 32 Try.underlying43 hi hz0 hz1 hz2 rfl (by decide) _ _ _ rfl (hown10.alloc _) ⟨w10.heap.size + 1, 0, none⟩ 1 1 [.string p.1.str, .string p.2.str] rfl rfl hnw (pr_one _ _) (by unfold maxLen; omega) (by omega) (by simp at *; omega) ?_); intro v' w9 hown' hgrow hnn hob)
              have hfar9 : ∀ g7 q7, oa7 = some ⟨g7, q7, none⟩ → w1.heap.size ≤ g7 → g7 < w7.heap.size → FarQ w7 w9 g7 v' := fun a b c d e => ((H10.out a b c d e).keep e (nxAlloc (Below.refl _ _) (.cells #[.string p.1.str, .string p.2.str] 25 (0, 0)))).grown e hgrow hob
              have hbw9 := (nxAlloc hbw10 (.cells #[.string p.1.str, .string p.2.str] 25 (0, 0))).grown hgrow (by simp at *; omega) (fun k hk => ownsRow_ge hown10 k hk)
              have hown9 : OwnQ w.heap.size w9 v' (ps ++ [p]) := OwnQ.snoc7 hown'
              have hfin : ps ++ [p] = smallN k ++ (redsN k).take (m + 1) := by rw [HTK.out, ← List.append_assoc, ← hps.out]
              have HX := Lib.hid hfin
              have HF9 := Lib.hid hfar9
              clear hown10 hown' hgrow hbw10 hnn hob hfin hps H10 hnw hxx hxa hxb hxc hfar9
              go_wp2_with fail
              rw [← E7.out]
              go_roundw
              case rel => exact ⟨m + 1, _, by omega, by go_num, hown9, by simp; omega, HX, hbw9, HF9⟩
              case measure => simp [intOf]; omega
            · obtain rfl : m = M := by omega
              have h2 : ps = smallN (k + 1) := by rw [hps.out, HM.out, List.take_length, smallN_succ]
              have HX := Lib.hid h2
              clear h2 hps hfar8
              go_wp2_with fail
              go_roundw
              case rel => exact ⟨k + 1, ps, by omega, by go_num, hown8, by omega, HX, hbw8⟩
              case measure => simp [intOf]; omega
    · obtain rfl : k = n + 1 := by omega
      have hgt' : ¬ ((n : Int) + 1 ≤ (n : Int)) := by omega
      have HX := Lib.hid hxs.out
      clear hxs
      go_wp2_with fail
      go_ret
      exact ⟨_, by rw [← HX.out]; exact hown, hbw, rfl⟩
end Go.Proofs.Ytkpganpojdboeaa

/-! Sm3 -/
namespace Go.Proofs.Ytkpganpojdboeaa
open Go.RowKit

theorem heldPairS_1 (b1 : Nat) (v1 : Value) (n : Nat) (w : World) (hn9 : n ≤ 100000000) (h1 : CellsX 2 b1 w v1 n (marksS 1 (n * 2))) :
    Calls Try.prog 35 #[v1, .int .i64 1] w (Gives (.int .i64 ((1 + n * 2 : Nat) : Int)) w) :=
  heldPairS_any b1 v1 n 1 w (by decide) (by decide) hn9 h1
theorem markPairS_1 (base : Nat) (v : Value) (xs : List Pr) (w : World) (hn9 : xs.length ≤ 100000000) (hbase : base ≤ w.heap.size) (h : OwnQ base w v xs) :
    Calls Try.prog 34 #[v, .int .i64 1] w (MarkedQ base ((1 + xs.length * 2 : Nat) : Int) v xs.length (marksS 1 (xs.length * 2)) w) :=
  markPairS_any base v xs 1 w (by decide) (by decide) hn9 hbase h
def SmallPairs_o (n : Int) : Option (List Pr) := if 0 ≤ n ∧ n ≤ 3 then some (smallN (n.toNat + 1)) else none
theorem redsN_len {k : Nat} (h : k ≤ 3) : (redsN k).length ≤ 25 := by
  have h5 := treesN_sm7 h
  have e : redsN k = pickK (fun _ => true) k (treesN k).length := by rw [pickK_all]; exact (List.filter_eq_self.2 (fun _ _ => rfl)).symm
  have hs : ∀ i, i ≤ (treesN k).length → (pickK (fun _ => true) k i).length ≤ i * 5 := by
    intro i
    induction i with
    | zero => intro _; simp [pickK]
    | succ i ih =>
      intro hi
      have h1 := ih (by omega)
      have h2 := pickN_len (fun _ => true) k ((treesN k).getD i .lf) (treesN k).length
      rw [pickK_succ _ (by omega), List.length_append]
      omega
  have := hs _ (Nat.le_refl _)
  rw [e]
  omega
theorem smallN_len {n : Nat} (h : n ≤ 4) : (smallN n).length ≤ n * 25 := by
  induction n with
  | zero => simp [smallN]
  | succ n ih =>
    have h1 := ih (by omega)
    have h2 := redsN_len (k := n) (by omega)
    rw [smallN_succ, List.length_append]
    omega
theorem SmallPairs_len (n : Int) : ((SmallPairs_o n).getD []).length ≤ 100000000 := by
  unfold SmallPairs_o
  split
  · next h => have := smallN_len (n := n.toNat + 1) (by omega); simp only [Option.getD_some]; omega
  · simp

theorem always_any (p : Pr) (w : World) : Calls Try.prog 68 #[.agg #[.string p.1.str, .string p.2.str]] w (Gives (.bool true) w) := by
  go_enter Try.func68, Try.ntmps68
  go_wp2_with fail
  go_ret
  exact ⟨rfl, nxAlloc (Below.refl _ _) _⟩

set_option maxHeartbeats 1000000 in
theorem specSmallPairs_any (n : Int) (w : World) (lo : -9223372036854775808 ≤ n) (hi : n ≤ 9223372036854775807) :
    Calls Try.prog 31 #[.int .i64 n] w (AnsQs (SmallPairs_o n) w) := by
  unfold SmallPairs_o
  by_cases h : 0 ≤ n ∧ n ≤ 3
  · rw [if_pos h]
    obtain ⟨m, rfl⟩ : ∃ m : Nat, n = (m : Int) := ⟨n.toNat, by omega⟩
    rw [Int.toNat_natCast]
    have C := fun w => cjSmall_any m (by omega) w
    have I : ∀ w, Calls Try.prog 65 #[.int .i64 (m : Int), .int .i64 0, .int .i64 3] w fun e w' => e = .returned (.bool true) ∧ w = w' := fun w => l1In_yes (m : Int) 0 3 w (by omega) (by omega)
    show Calls _ _ _ _ (AnsQ2 (smallN (m + 1)) true w)
    generalize smallN (m + 1) = X at *
    clear h
    go_enter Try.func31, Try.ntmps31
    go_wp2_with fail
    refine (I _).mono ?_; rintro e w1 ⟨rfl, rfl⟩
    go_wp2_with fail
    refine (C _).mono ?_; rintro e w2 ⟨v1, own1, hb1, rfl⟩
    go_wp2_with fail
    go_ret2
    exact ⟨_, own1, hb1, rfl⟩
  · rw [if_neg h]
    have I : ∀ w, Calls Try.prog 65 #[.int .i64 n, .int .i64 0, .int .i64 3] w fun e w' => e = .returned (.bool false) ∧ w = w' := fun w => l1In_no n 0 3 w (by omega)
    show Calls _ _ _ _ (AnsQ2 [] false w)
    clear h
    go_enter Try.func31, Try.ntmps31
    go_wp2_with fail
    refine (I _).mono ?_; rintro e w1 ⟨rfl, rfl⟩
    go_wp2_with fail
    go_ret2
    exact ⟨_, OwnX.nil _ _ _ _, Below.refl _ _, rfl⟩

set_option maxHeartbeats 1000000 in
theorem implSmallPairs_any (n : Int) (w : World) (lo : -9223372036854775808 ≤ n) (hi : n ≤ 9223372036854775807) :
    Calls Try.prog 32 #[.int .i64 n] w (AnsQs (SmallPairs_o n) w) := by
  unfold SmallPairs_o
  by_cases h : 0 ≤ n ∧ n ≤ 3
  · rw [if_pos h]
    obtain ⟨m, rfl⟩ : ∃ m : Nat, n = (m : Int) := ⟨n.toNat, by omega⟩
    rw [Int.toNat_natCast]
    have C := fun w => smallPairsOne_any (fun _ => true) m (by omega) w (fun p w' _ _ _ _ => always_any p w')
    rw [show (smallN (m + 1)).filter (fun _ => true) = smallN (m + 1) from List.filter_eq_self.2 (fun _ _ => rfl)] at C
    have h0 : ¬ (m : Int) < 0 := by omega
    have h3 : ¬ (3 : Int) < (m : Int) := by omega
    show Calls _ _ _ _ (AnsQ2 (smallN (m + 1)) true w)
    generalize smallN (m + 1) = X at *
    clear h
    go_enter Try.func32, Try.ntmps32
    go_wp2_with fail
    refine (C _).mono ?_; rintro e w1 ⟨v1, own1, hb1, rfl⟩
    go_wp2_with fail
    go_ret2
    exact ⟨_, own1, hb1, rfl⟩
  · rw [if_neg h]
    show Calls _ _ _ _ (AnsQ2 [] false w)
    by_cases h0 : n < 0
    · clear h
      go_enter Try.func32, Try.ntmps32
      go_wp2_with fail
      go_ret2
      exact ⟨_, OwnX.nil _ _ _ _, Below.refl _ _, rfl⟩
    · have h3 : (3 : Int) < n := by omega
      clear h
      go_enter Try.func32, Try.ntmps32
      go_wp2_with fail
      go_ret2
      exact ⟨_, OwnX.nil _ _ _ _, Below.refl _ _, rfl⟩
end Go.Proofs.Ytkpganpojdboeaa

/-! Sm4 -/
namespace Go.Proofs.Ytkpganpojdboeaa
open Go.RowKit

set_option maxRecDepth 100000 in
set_option maxHeartbeats 4000000 in
theorem smallPairsCom_any (want : Pr → Bool) (n : Nat) (hn3 : n ≤ 3) (bp : Nat) (w : World)
    (hF : ∀ (p : Pr) (w' : World), okP p → p.1.carets ≤ 3 → both p = [] → Below w.heap.size w w' → Calls Try.prog 74 #[.agg #[.string p.1.str, .string p.2.str], .pointer (some ⟨bp, 0, none⟩)] w' (Gives (.bool (want p)) w')) :
    Calls Try.prog 67 #[.int .i64 n, (.func (Fn.func 74) #[] #[.pointer (some ⟨bp, 0, none⟩)])] w (GivesQ ((smallN (n + 1)).filter want) w) := by
  obtain ⟨i0, hi, hz0, hz1, hz2⟩ := info_parts info_pair7
  have hcall : ∀ (args : Array Value) (w : World), (callFunc 74 args).run Try.prog w = .ok (.enter 74 args) w := fun _ _ => by kernel_rfl
  have HF := Lib.hid hF
  clear hF
  go_enter Try.func67, Try.ntmps67
  go_wp2_with fail
  go_loopw [5, 16] (fun u c wr => ∃ (k : Nat) (xs : List Pr), k ≤ n + 1 ∧ c = .int .i64 k ∧ OwnQ w.heap.size wr u xs ∧ xs.length ≤ k * 25 ∧ Hid (xs = (smallN k).filter want) ∧ Below w.heap.size w wr) (fun _ c _ => n + 1 - (intOf c).toNat)
  case atStart => exact ⟨0, [], Nat.zero_le _, rfl, OwnX.nil _ _ _ _, Nat.zero_le _, rfl, Below.refl _ _⟩
  case round =>
    obtain ⟨k, xs, hk, rfl, hown, hxl, hxs, hbw⟩ := hrel
    by_cases hlt : k < n + 1
    · have hlt' : (k : Int) < (n : Int) + 1 := by omega
      have hA := fun w => implAllTrees_any (k : Int) w (by omega) (by omega)
      have hAo : AllTrees_o (k : Int) = some (trTexts k) := by unfold AllTrees_o; rw [if_pos (by omega)]; rfl
      rw [hAo] at hA
      have hA' : ∀ w, Calls Try.prog 100 #[.int .i64 k] w (AnsS2 (trTexts k) true w) := hA
      have hk3 : k ≤ 3 := by omega
      have hN5 := treesN_sm7 hk3
      clear hAo hA
      go_wp2_with fail
      refine (hA' _).mono ?_; rintro e w1 ⟨v1, own1, hb1, rfl⟩
      rcases own1.cells with ⟨_, h0⟩ | ⟨g, cap, rfl, hgb, hg, q1, q2, hc, _⟩
      · have := trTexts_pos k (by omega); rw [h0] at this; simp at this
      rw [trTexts_len] at q1 hc ⊢
      unfold maxLen at q2
      have HC := Lib.hid hc
      have hown0 := hown
      have hge : wr.heap.size ≤ g := hgb
      replace hown := OwnQ.keep hown hb1
      replace hbw := nx hbw hb1
      obtain ⟨N, hN⟩ : ∃ N, N = (treesN k).length := ⟨_, rfl⟩
      have HN := Lib.hid hN
      rw [← hN] at hN5 q1 ⊢
      have hfar : FarQ w1 w1 g u5 := FarQ.start hown0 hge
      clear own1 hc hA' hb1 hN hown0 hge
      go_wp2_with fail
      go_loopw [5, 26] (fun u c wr => ∃ (i : Nat) (ys : List Pr), i ≤ N ∧ c = .int .i64 i ∧ OwnQ w.heap.size wr u ys ∧ ys.length ≤ k * 25 + i * 5 ∧ Hid (ys = xs ++ pickK want k i) ∧ Below w.heap.size w wr ∧ FarQ w1 wr g u) (fun _ c _ => N - (intOf c).toNat)
      case atStart => exact ⟨0, xs, Nat.zero_le _, rfl, hown, by omega, by show _ = _; simp [pickK], hbw, hfar⟩
      case round =>
        clear hown hbw hfar
        obtain ⟨i, ys, hi', rfl, hown2, hyl, hys, hbw2, hfar2⟩ := hrel
        by_cases hlt2 : i < N
        · have hlt2' : (i : Int) < (N : Int) := by omega
          have hiT : i < (treesN k).length := by rw [← HN.out]; exact hlt2
          have c1 := hfar2.cell (HC.out i hiT)
          rw [trTexts_get hiT] at c1
          have hac := treesN_at hiT
          have hpk := pickK_succ want hiT
          obtain ⟨a, ha⟩ : ∃ a, a = (treesN k).getD i .lf := ⟨_, rfl⟩
          rw [← ha] at c1 hac hpk
          have HPK := Lib.hid hpk
          clear ha hpk hiT
          go_wp2_with fail
          go_loopw [5, 32] (fun u c wr => ∃ (j : Nat) (zs : List Pr), j ≤ N ∧ c = .int .i64 j ∧ OwnQ w.heap.size wr u zs ∧ zs.length ≤ k * 25 + i * 5 + j ∧ Hid (zs = ys ++ pickN want k a j) ∧ Below w.heap.size w wr ∧ FarQ w1 wr g u) (fun _ c _ => N - (intOf c).toNat)
          case atStart => exact ⟨0, ys, Nat.zero_le _, rfl, hown2, by omega, by show _ = _; simp [pickN], hbw2, hfar2⟩
          case round =>
            clear hown2 hbw2 hfar2 c1
            obtain ⟨j, zs, hj', rfl, hown3, hzl, hzs, hbw3, hfar3⟩ := hrel
            by_cases hlt3 : j < N
            · have hlt3' : (j : Int) < (N : Int) := by omega
              have hjT : j < (treesN k).length := by rw [← HN.out]; exact hlt3
              have d1 := hfar3.cell (HC.out j hjT)
              rw [trTexts_get hjT] at d1
              have hbc := treesN_at hjT
              have hpn := pickN_succ want a hjT
              obtain ⟨b, hb⟩ : ∃ b, b = (treesN k).getD j .lf := ⟨_, rfl⟩
              rw [← hb] at d1 hbc hpn
              have HPN := Lib.hid hpn
              have hsz3 := hbw3.size
              have RB := fun w => reducedBy_first (a, b) w (by show a.carets ≤ 200; omega) (by show b.carets ≤ 200; omega)
              have hrs := red_self (a, b)
              have HFP : both (a, b) = [] → ∀ w', Below w.heap.size w w' → Calls Try.prog 74 #[.agg #[.string a.str, .string b.str], .pointer (some ⟨bp, 0, none⟩)] w' (Gives (.bool (want (a, b))) w') := fun hz w' hb' => HF.out (a, b) w' (show a.carets = b.carets by omega) (show a.carets ≤ 3 by omega) hz hb'
              obtain ⟨R, hR⟩ : ∃ R, R = red (a, b) := ⟨_, rfl⟩
              rw [← hR] at RB hrs
              have HRS := Lib.hid hrs
              obtain ⟨W1, hW1⟩ : ∃ b1, b1 = want (a, b) := ⟨_, rfl⟩
              rw [← hW1] at HFP
              have HW1 := Lib.hid hW1
              clear hb hpn hjT hR hrs hW1
              rcases eq_cases R (a, b) with ⟨e1, _⟩ | ⟨e1, e2, _⟩ | ⟨e1, _⟩
              · subst e1
                have HFQ := HFP (HRS.out.1 rfl)
                clear HFP
                have hbe : (both (a, b)).isEmpty = true := by rw [HRS.out.1 rfl]; rfl
                have HBE := Lib.hid hbe
                clear hbe HRS
                have RB' : ∀ w, Calls Try.prog 88 #[.agg #[.string a.str, .string b.str], .func (Fn.func 89) #[] #[]] w (Gives (.agg #[.string a.str, .string b.str]) w) := RB
                clear RB
                cases hWc : W1 with
                | true =>
                  subst hWc
                  go_wp2_with fail
                  have hbw4 := nxAlloc hbw3 (.cells #[.string a.str, .string b.str] 25 (0, 0))
                  have hown4 := OwnQ.keep hown3 (nxAlloc (Below.refl _ _) (.cells #[.string a.str, .string b.str] 25 (0, 0)))
                  have hfar4 := hfar3.keep hg (nxAlloc (Below.refl _ _) (.cells #[.string a.str, .string b.str] 25 (0, 0)))
                  have hx := heap_alloc_at wr (.cells #[.string a.str, .string b.str] 25 (0, 0))
                  generalize wr.alloc (.cells #[.string a.str, .string b.str] 25 (0, 0)) = w4 at *
                  obtain ⟨hxa, hxb, hxc⟩ := two_facts hx
                  clear hbw3 hown3 hfar3 d1
                  refine wp_region_cls (by kernel_rfl) (by kernel_rfl) ?_
                  repeat (
                    refine wpQuiet_step (fun K hK => ?_)
                    go_simp
                    first
                      | (refine hK _ ?_; clear hK K)
                      | (refine ⟨_, fun _ _ => rfl, hK _ ?_⟩; clear hK K)
                      | (apply Exists.intro
                         refine ⟨fun w' hw' => ?_, hK _ ?_⟩
                         · first
                             | (go_at_call 88; exact hw'.call (RB' _))
                             | (go_at_call 74; exact hw'.call (HFQ _ (nx hbw4 hw')))
                             | (rw [hw'.cell hxc hxa]; dsimp only [Result.andThen]; rw [hw'.cell hxc hxb]; exact ⟨rfl, rfl⟩)
                         clear hK K))
                  refine wpQuiet_nil ?_
                  intro w' hw'
                  have hx5 := heap_keep hw' hx
                  obtain ⟨hya, hyb, hyc⟩ := two_facts hx5
                  have hbw5 := nx hbw4 hw'
                  have hown5 := OwnQ.keep hown4 hw'
                  have hfar5 := hfar4.keep hg hw'
                  have hsz5 := hbw5.size
                  clear hx hx5 hxa hxb hxc hbw4 hown4 hfar4 hw'
                  generalize w' = w5 at *
                  unfold OwnQ OwnX at hown5
                  go_wp2_with (at_builtin; go_loud (refine wpList_append_own_at _ rfl _ _ 43 rfl w.heap.size 25 i0 (.agg #[.string ⟨#[]⟩, .string ⟨#[]⟩]) 2 32 Try.underlying43 hi hz0 hz1 hz2 rfl (by decide) _ _ _ rfl (hown5.alloc _) ⟨w5.heap.size, 0, none⟩ 1 1 [.string a.str, .string b.str] rfl rfl (newsQ _ #[.string a.str, .string b.str] _) (pr_one _ _) (by unfold maxLen; omega) (by omega) (by simp; omega) ?_); intro v' w9 hown' hgrow hnn hob)
                  have hba := nxAlloc (Below.refl w5.heap.size w5) (.cells #[.string a.str, .string b.str] 25 (0, 0))
                  have hfar9 := (hfar5.keep hg hba).grown hg hgrow hob
                  have hbw9 := (nxAlloc hbw5 (.cells #[.string a.str, .string b.str] 25 (0, 0))).grown hgrow (by simp; omega) (fun k hk => ownsRow_ge hown5 k hk)
                  have hown9 : OwnQ w.heap.size w9 v' (zs ++ [(a, b)]) := OwnQ.snoc7 hown'
                  have hfin : zs ++ [(a, b)] = ys ++ pickN want k a (j + 1) := by rw [HPN.out, HBE.out, ← HW1.out, hzs.out, List.append_assoc]; rfl
                  have HX := Lib.hid hfin
                  clear hown5 hown' hgrow hba hfar5 hbw5 hnn hob hfin
                  go_wp2_with fail
                  go_roundw
                  case rel => exact ⟨j + 1, _, by omega, by go_num, hown9, by simp; omega, HX, hbw9, hfar9⟩
                  case measure => simp [intOf]; omega
                | false =>
                  subst hWc
                  go_wp2_with fail
                  have hbw4 := nxAlloc hbw3 (.cells #[.string a.str, .string b.str] 25 (0, 0))
                  have hown4 := OwnQ.keep hown3 (nxAlloc (Below.refl _ _) (.cells #[.string a.str, .string b.str] 25 (0, 0)))
                  have hfar4 := hfar3.keep hg (nxAlloc (Below.refl _ _) (.cells #[.string a.str, .string b.str] 25 (0, 0)))
                  have hx := heap_alloc_at wr (.cells #[.string a.str, .string b.str] 25 (0, 0))
                  generalize wr.alloc (.cells #[.string a.str, .string b.str] 25 (0, 0)) = w4 at *
                  obtain ⟨hxa, hxb, hxc⟩ := two_facts hx
                  clear hbw3 hown3 hfar3 d1
                  refine wp_region_cls (by kernel_rfl) (by kernel_rfl) ?_
                  repeat (
                    refine wpQuiet_step (fun K hK => ?_)
                    go_simp
                    first
                      | (refine hK _ ?_; clear hK K)
                      | (refine ⟨_, fun _ _ => rfl, hK _ ?_⟩; clear hK K)
                      | (apply Exists.intro
                         refine ⟨fun w' hw' => ?_, hK _ ?_⟩
                         · first
                             | (go_at_call 88; exact hw'.call (RB' _))
                             | (go_at_call 74; exact hw'.call (HFQ _ (nx hbw4 hw')))
                             | (rw [hw'.cell hxc hxa]; dsimp only [Result.andThen]; rw [hw'.cell hxc hxb]; exact ⟨rfl, rfl⟩)
                         clear hK K))
                  refine wpQuiet_nil ?_
                  intro w' hw'
                  have hx5 := heap_keep hw' hx
                  obtain ⟨hya, hyb, hyc⟩ := two_facts hx5
                  have hbw5 := nx hbw4 hw'
                  have hown5 := OwnQ.keep hown4 hw'
                  have hfar5 := hfar4.keep hg hw'
                  have hsz5 := hbw5.size
                  clear hx hx5 hxa hxb hxc hbw4 hown4 hfar4 hw'
                  generalize w' = w5 at *
                  have hfin : zs = ys ++ pickN want k a (j + 1) := by rw [HPN.out, HBE.out, ← HW1.out, hzs.out]; simp
                  have HX := Lib.hid hfin
                  clear hfin
                  go_wp2_with fail
                  go_roundw
                  case rel => exact ⟨j + 1, zs, by omega, by go_num, hown5, by omega, HX, hbw5, hfar5⟩
                  case measure => simp [intOf]; omega
              · clear HFP
                have hbe : (both (a, b)).isEmpty = false := by
                  cases h : both (a, b) with
                  | nil => exact absurd (HRS.out.2 h) (fun e => e2 (by rw [e]))
                  | cons _ _ => rfl
                have HBE := Lib.hid hbe
                clear hbe HRS
                have e1' : R.1.str = a.str := by rw [e1]
                have e2' : ¬ R.2.str.toList = b.str.toList := e2
                have e3' : ¬ b.str.toList = R.2.str.toList := fun e => e2' e.symm
                have RB' : ∀ w, Calls Try.prog 88 #[.agg #[.string a.str, .string b.str], .func (Fn.func 89) #[] #[]] w (Gives (.agg #[.string a.str, .string R.2.str]) w) := fun w => by have h9 := RB w; rw [e1'] at h9; exact h9
                clear RB e1 e2 e1'
                go_wp2_with fail
                have hbw4 := nxAlloc hbw3 (.cells #[.string a.str, .string b.str] 25 (0, 0))
                have hown4 := OwnQ.keep hown3 (nxAlloc (Below.refl _ _) (.cells #[.string a.str, .string b.str] 25 (0, 0)))
                have hfar4 := hfar3.keep hg (nxAlloc (Below.refl _ _) (.cells #[.string a.str, .string b.str] 25 (0, 0)))
                have hx := heap_alloc_at wr (.cells #[.string a.str, .string b.str] 25 (0, 0))
                generalize wr.alloc (.cells #[.string a.str, .string b.str] 25 (0, 0)) = w4 at *
                obtain ⟨hxa, hxb, hxc⟩ := two_facts hx
                clear hbw3 hown3 hfar3 d1
                refine wp_region_cls (by kernel_rfl) (by kernel_rfl) ?_
                repeat (
                  refine wpQuiet_step (fun K hK => ?_)
                  go_simp
                  first
                    | (refine hK _ ?_; clear hK K)
                    | (refine ⟨_, fun _ _ => rfl, hK _ ?_⟩; clear hK K)
                    | (apply Exists.intro
                       refine ⟨fun w' hw' => ?_, hK _ ?_⟩
                       · first
                           | (go_at_call 88; exact hw'.call (RB' _))
                           | (go_at_call 74; exact hw'.call (HFQ _ (nx hbw4 hw')))
                           | (rw [hw'.cell hxc hxa]; dsimp only [Result.andThen]; rw [hw'.cell hxc hxb]; exact ⟨rfl, rfl⟩)
                       clear hK K))
                refine wpQuiet_nil ?_
                intro w' hw'
                have hx5 := heap_keep hw' hx
                obtain ⟨hya, hyb, hyc⟩ := two_facts hx5
                have hbw5 := nx hbw4 hw'
                have hown5 := OwnQ.keep hown4 hw'
                have hfar5 := hfar4.keep hg hw'
                have hsz5 := hbw5.size
                clear hx hx5 hxa hxb hxc hbw4 hown4 hfar4 hw'
                generalize w' = w5 at *
                have hfin : zs = ys ++ pickN want k a (j + 1) := by rw [HPN.out, HBE.out, hzs.out]; simp
                have HX := Lib.hid hfin
                clear hfin
                go_wp2_with fail
                go_roundw
                case rel => exact ⟨j + 1, zs, by omega, by go_num, hown5, by omega, HX, hbw5, hfar5⟩
                case measure => simp [intOf]; omega
              · clear HFP
                have hbe : (both (a, b)).isEmpty = false := by
                  cases h : both (a, b) with
                  | nil => exact absurd (HRS.out.2 h) (fun e => e1 (by rw [e]))
                  | cons _ _ => rfl
                have HBE := Lib.hid hbe
                clear hbe HRS
                have e2' : ¬ R.1.str.toList = a.str.toList := e1
                have e3' : ¬ a.str.toList = R.1.str.toList := fun e => e2' e.symm
                have RB' : ∀ w, Calls Try.prog 88 #[.agg #[.string a.str, .string b.str], .func (Fn.func 89) #[] #[]] w (Gives (.agg #[.string R.1.str, .string R.2.str]) w) := RB
                clear RB e1
                go_wp2_with fail
                have hbw4 := nxAlloc hbw3 (.cells #[.string a.str, .string b.str] 25 (0, 0))
                have hown4 := OwnQ.keep hown3 (nxAlloc (Below.refl _ _) (.cells #[.string a.str, .string b.str] 25 (0, 0)))
                have hfar4 := hfar3.keep hg (nxAlloc (Below.refl _ _) (.cells #[.string a.str, .string b.str] 25 (0, 0)))
                have hx := heap_alloc_at wr (.cells #[.string a.str, .string b.str] 25 (0, 0))
                generalize wr.alloc (.cells #[.string a.str, .string b.str] 25 (0, 0)) = w4 at *
                obtain ⟨hxa, hxb, hxc⟩ := two_facts hx
                clear hbw3 hown3 hfar3 d1
                refine wp_region_cls (by kernel_rfl) (by kernel_rfl) ?_
                repeat (
                  refine wpQuiet_step (fun K hK => ?_)
                  go_simp
                  first
                    | (refine hK _ ?_; clear hK K)
                    | (refine ⟨_, fun _ _ => rfl, hK _ ?_⟩; clear hK K)
                    | (apply Exists.intro
                       refine ⟨fun w' hw' => ?_, hK _ ?_⟩
                       · first
                           | (go_at_call 88; exact hw'.call (RB' _))
                           | (go_at_call 74; exact hw'.call (HFQ _ (nx hbw4 hw')))
                           | (rw [hw'.cell hxc hxa]; dsimp only [Result.andThen]; rw [hw'.cell hxc hxb]; exact ⟨rfl, rfl⟩)
                       clear hK K))
                refine wpQuiet_nil ?_
                intro w' hw'
                have hx5 := heap_keep hw' hx
                obtain ⟨hya, hyb, hyc⟩ := two_facts hx5
                have hbw5 := nx hbw4 hw'
                have hown5 := OwnQ.keep hown4 hw'
                have hfar5 := hfar4.keep hg hw'
                have hsz5 := hbw5.size
                clear hx hx5 hxa hxb hxc hbw4 hown4 hfar4 hw'
                generalize w' = w5 at *
                have hfin : zs = ys ++ pickN want k a (j + 1) := by rw [HPN.out, HBE.out, hzs.out]; simp
                have HX := Lib.hid hfin
                clear hfin
                go_wp2_with fail
                go_roundw
                case rel => exact ⟨j + 1, zs, by omega, by go_num, hown5, by omega, HX, hbw5, hfar5⟩
                case measure => simp [intOf]; omega
            · obtain rfl : j = N := by omega
              have hy2 := hys.out
              have h2 : zs = xs ++ pickK want k (i + 1) := by rw [HPK.out, ← List.append_assoc, ← hy2, hzs.out, HN.out]
              have HX := Lib.hid h2
              clear hy2 h2 hzs
              go_wp2_with fail
              go_roundw
              case rel => exact ⟨i + 1, zs, by omega, by go_num, hown3, by omega, HX, hbw3, hfar3⟩
              case measure => simp [intOf]; omega
        · obtain rfl : i = N := by omega
          have h2 : ys = (smallN (k + 1)).filter want := by rw [hys.out, HN.out, pickK_all, smallN_succ, List.filter_append, ← hxs.out]
          have HX := Lib.hid h2
          clear h2 hys
          go_wp2_with fail
          go_roundw
          case rel => exact ⟨k + 1, ys, by omega, by go_num, hown2, by omega, HX, hbw2⟩
          case measure => simp [intOf]; omega
    · obtain rfl : k = n + 1 := by omega
      have HX := Lib.hid hxs.out
      clear hxs
      go_wp2_with fail
      go_ret
      exact ⟨_, by rw [← HX.out]; exact hown, hbw, rfl⟩
end Go.Proofs.Ytkpganpojdboeaa

/-! Sm6 -/
namespace Go.Proofs.Ytkpganpojdboeaa
open Go.RowKit

theorem pTx_ne {p q : Pr} (h : ¬ p = q) : ((pTx p).toList == (pTx q).toList) = false := by
  apply beq_false_of_ne
  intro e
  rw [Lib.toList_data, Lib.toList_data, pTx_list, pTx_list] at e
  obtain ⟨h1, h2⟩ := Tr.text_inj (r := 62 :: p.2.text) (q := 62 :: q.2.text) e
  injection h2 with _ h2
  exact h (Prod.ext h1 (Tr.text_inj (r := []) (q := []) (by simpa using h2)).1)
/-- Is the product of both the same both ways? -/
noncomputable def comB (p q : Pr) : Bool := eqPr (mulP p q) (mulP q p)

set_option maxRecDepth 100000 in
set_option maxHeartbeats 2000000 in
theorem commutes_any (p q : Pr) (bp : Nat) (w : World) (hok1 : okP p) (hok2 : okP q) (hp : p.1.carets ≤ 8) (hq : q.1.carets ≤ 3) (hx : w.heap[bp]? = some (.cells #[.string p.1.str, .string p.2.str] 25 (0, 0))) :
    Calls Try.prog 74 #[.agg #[.string q.1.str, .string q.2.str], .pointer (some ⟨bp, 0, none⟩)] w (Gives (.bool (comB p q)) w) := by
  have U : ∀ w, Calls Try.prog 75 #[.agg #[.string p.1.str, .string p.2.str], .agg #[.string q.1.str, .string q.2.str]] w (Gives (.agg #[.string (mulP p q).1.str, .string (mulP p q).2.str]) w) := fun w => product_any p q w hok1 hok2 (by omega) (by omega)
  have V : ∀ w, Calls Try.prog 75 #[.agg #[.string q.1.str, .string q.2.str], .agg #[.string p.1.str, .string p.2.str]] w (Gives (.agg #[.string (mulP q p).1.str, .string (mulP q p).2.str]) w) := fun w => product_any q p w hok2 hok1 (by omega) (by omega)
  unfold comB
  generalize mulP p q = R at *
  generalize mulP q p = S at *
  clear hok1 hok2 hp hq
  have X : (.cells #[.string q.1.str, .string q.2.str] 25 (0, 0) : Obj) = (.cells #[.string q.1.str, .string q.2.str] 25 (0, 0)) := rfl
  clear X
  rcases eq_cases R S with ⟨e1, e3⟩ | ⟨e1, e2, e3⟩ | ⟨e1, e3⟩
  · subst e1
    rw [e3]
    clear e3
    go_enter Try.func74, Try.ntmps74
    go_wp2_with fail
    have hb0 := nxAlloc (Below.refl w.heap.size w) (.cells #[.string q.1.str, .string q.2.str] 25 (0, 0))
    have hy := heap_alloc_at w (.cells #[.string q.1.str, .string q.2.str] 25 (0, 0))
    have hx0 := heap_keep (nxAlloc (Below.refl w.heap.size w) (.cells #[.string q.1.str, .string q.2.str] 25 (0, 0))) hx
    generalize w.alloc (.cells #[.string q.1.str, .string q.2.str] 25 (0, 0)) = w0 at *
    obtain ⟨xa, xb, xc⟩ := two_facts hx0
    obtain ⟨ya, yb, yc⟩ := two_facts hy
    refine wp_region_cls (by kernel_rfl) (by kernel_rfl) ?_
    repeat (
      refine wpQuiet_step (fun K hK => ?_)
      go_simp
      first
        | (refine hK _ ?_; clear hK K)
        | (refine ⟨_, fun _ _ => rfl, hK _ ?_⟩; clear hK K)
        | (apply Exists.intro
           refine ⟨fun w' hw' => ?_, hK _ ?_⟩
           · first
               | (go_at_call 75; first | (with_reducible exact hw'.call (U _)) | (with_reducible exact hw'.call (V _)))
               | (rw [hw'.cell xc xa]; dsimp only [Result.andThen]; rw [hw'.cell xc xb]; exact ⟨rfl, rfl⟩)
               | (rw [hw'.cell yc ya]; dsimp only [Result.andThen]; rw [hw'.cell yc yb]; exact ⟨rfl, rfl⟩)
           clear hK K))
    refine wpQuiet_nil ?_
    intro w' hw'
    have hbw := nx hb0 hw'
    go_wp2_with fail
    go_ret
    exact ⟨rfl, hbw⟩
  · rw [e3]
    rw [e1] at U
    have e4 : ¬ S.2.str.toList = R.2.str.toList := fun e => e2 e.symm
    clear e3 e1
    go_enter Try.func74, Try.ntmps74
    go_wp2_with fail
    have hb0 := nxAlloc (Below.refl w.heap.size w) (.cells #[.string q.1.str, .string q.2.str] 25 (0, 0))
    have hy := heap_alloc_at w (.cells #[.string q.1.str, .string q.2.str] 25 (0, 0))
    have hx0 := heap_keep (nxAlloc (Below.refl w.heap.size w) (.cells #[.string q.1.str, .string q.2.str] 25 (0, 0))) hx
    generalize w.alloc (.cells #[.string q.1.str, .string q.2.str] 25 (0, 0)) = w0 at *
    obtain ⟨xa, xb, xc⟩ := two_facts hx0
    obtain ⟨ya, yb, yc⟩ := two_facts hy
    refine wp_region_cls (by kernel_rfl) (by kernel_rfl) ?_
    repeat (
      refine wpQuiet_step (fun K hK => ?_)
      go_simp
      first
        | (refine hK _ ?_; clear hK K)
        | (refine ⟨_, fun _ _ => rfl, hK _ ?_⟩; clear hK K)
        | (apply Exists.intro
           refine ⟨fun w' hw' => ?_, hK _ ?_⟩
           · first
               | (go_at_call 75; first | (with_reducible exact hw'.call (U _)) | (with_reducible exact hw'.call (V _)))
               | (rw [hw'.cell xc xa]; dsimp only [Result.andThen]; rw [hw'.cell xc xb]; exact ⟨rfl, rfl⟩)
               | (rw [hw'.cell yc ya]; dsimp only [Result.andThen]; rw [hw'.cell yc yb]; exact ⟨rfl, rfl⟩)
           clear hK K))
    refine wpQuiet_nil ?_
    intro w' hw'
    have hbw := nx hb0 hw'
    go_wp2_with fail
    go_ret
    exact ⟨rfl, hbw⟩
  · rw [e3]
    have e4 : ¬ S.1.str.toList = R.1.str.toList := fun e => e1 e.symm
    clear e3
    go_enter Try.func74, Try.ntmps74
    go_wp2_with fail
    have hb0 := nxAlloc (Below.refl w.heap.size w) (.cells #[.string q.1.str, .string q.2.str] 25 (0, 0))
    have hy := heap_alloc_at w (.cells #[.string q.1.str, .string q.2.str] 25 (0, 0))
    have hx0 := heap_keep (nxAlloc (Below.refl w.heap.size w) (.cells #[.string q.1.str, .string q.2.str] 25 (0, 0))) hx
    generalize w.alloc (.cells #[.string q.1.str, .string q.2.str] 25 (0, 0)) = w0 at *
    obtain ⟨xa, xb, xc⟩ := two_facts hx0
    obtain ⟨ya, yb, yc⟩ := two_facts hy
    refine wp_region_cls (by kernel_rfl) (by kernel_rfl) ?_
    repeat (
      refine wpQuiet_step (fun K hK => ?_)
      go_simp
      first
        | (refine hK _ ?_; clear hK K)
        | (refine ⟨_, fun _ _ => rfl, hK _ ?_⟩; clear hK K)
        | (apply Exists.intro
           refine ⟨fun w' hw' => ?_, hK _ ?_⟩
           · first
               | (go_at_call 75; first | (with_reducible exact hw'.call (U _)) | (with_reducible exact hw'.call (V _)))
               | (rw [hw'.cell xc xa]; dsimp only [Result.andThen]; rw [hw'.cell xc xb]; exact ⟨rfl, rfl⟩)
               | (rw [hw'.cell yc ya]; dsimp only [Result.andThen]; rw [hw'.cell yc yb]; exact ⟨rfl, rfl⟩)
           clear hK K))
    refine wpQuiet_nil ?_
    intro w' hw'
    have hbw := nx hb0 hw'
    go_wp2_with fail
    go_ret
    exact ⟨rfl, hbw⟩
end Go.Proofs.Ytkpganpojdboeaa

/-! Sm7 -/
namespace Go.Proofs.Ytkpganpojdboeaa
open Go.RowKit

noncomputable def CommutingWith_o (a b : ByteArray) (n : Int) : Option (List Pr) := (pairOf a b).bind fun p => if 0 ≤ n ∧ n ≤ 3 then some ((smallN (n.toNat + 1)).filter (comB p)) else none
theorem CommutingWith_len (a b : ByteArray) (n : Int) : ((CommutingWith_o a b n).getD []).length ≤ 100000000 := by
  unfold CommutingWith_o
  cases pairOf a b with
  | none => simp
  | some p =>
    show ((if 0 ≤ n ∧ n ≤ 3 then some ((smallN (n.toNat + 1)).filter (comB p)) else none).getD []).length ≤ _
    split
    · next h => have h1 := smallN_len (n := n.toNat + 1) (by omega); have h2 := List.length_filter_le (comB p) (smallN (n.toNat + 1)); simp only [Option.getD_some]; omega
    · simp
theorem eqPr_true {r s : Pr} (h : r = s) : eqPr r s = true := by unfold eqPr; simp [h]
theorem eqPr_false {r s : Pr} (h : ¬ r = s) : eqPr r s = false := by unfold eqPr; simp [h]
theorem filter_take {want : Pr → Bool} {L : List Pr} {j : Nat} (h : j < L.length) : (L.take (j + 1)).filter want = (L.take j).filter want ++ (if want (L.getD j (.lf, .lf)) = true then [L.getD j (.lf, .lf)] else []) := by
  rw [List.take_succ_eq_append_getElem h, List.filter_append]
  have e : L.getD j (.lf, .lf) = L[j] := by simp [List.getD_eq_getElem?_getD, h]
  rw [e]
  by_cases hb : want L[j] = true
  · simp [hb]
  · simp [hb]

set_option maxRecDepth 100000 in
set_option maxHeartbeats 2000000 in
theorem implCommutingWith_any (a b : ByteArray) (n : Int) (w : World) (ha : a.size ≤ 9223372036854775806) (hb : b.size ≤ 9223372036854775806) (lo : -9223372036854775808 ≤ n) (hi : n ≤ 9223372036854775807) :
    Calls Try.prog 39 #[.agg #[.string a, .string b], .int .i64 n] w (AnsQs (CommutingWith_o a b n) w) := by
  have hg := fun w => isPair_any a b w ha hb
  unfold CommutingWith_o
  cases h : pairOf a b with
  | none =>
    rw [h] at hg
    clear h
    go_enter Try.func39, Try.ntmps39
    go_wp2_with fail
    have hb0 : Below w.heap.size w (w.alloc (.cells #[.string a, .string b] 25 (0, 0))) := nxAlloc (Below.refl _ _) _
    have hx0 := heap_alloc_at w (.cells #[.string a, .string b] 25 (0, 0))
    generalize (w.alloc (.cells #[.string a, .string b] 25 (0, 0))) = w0 at *
    obtain ⟨hx0a, hx0b, hx0c⟩ := two_facts hx0
    obtain ⟨hx0f, hx0g⟩ := two_frozen hx0
    refine (hg _).mono ?_; rintro e w1 ⟨rfl, hb1⟩
    have hbw1 := nx hb0 hb1
    replace hx0 := heap_keep hb1 hx0
    clear hx0a hx0b hx0c hx0f hx0g
    obtain ⟨hx0a, hx0b, hx0c⟩ := two_facts hx0
    obtain ⟨hx0f, hx0g⟩ := two_frozen hx0
    clear hb1 hb0
    go_wp2_with fail
    all_goals go_ret2
    all_goals exact ⟨_, OwnX.nil _ _ _ _, hbw1, rfl⟩
  | some p =>
    rw [h] at hg
    obtain ⟨rfl, rfl, hok, hc1, hc2⟩ := pairOf_some h
    clear h
    show Calls _ _ _ _ (AnsQs (if 0 ≤ n ∧ n ≤ 3 then some ((smallN (n.toNat + 1)).filter (comB p)) else none) w)
    by_cases h : 0 ≤ n ∧ n ≤ 3
    · rw [if_pos h]
      obtain ⟨m, rfl⟩ : ∃ m : Nat, n = (m : Int) := ⟨n.toNat, by omega⟩
      rw [Int.toNat_natCast]
      have h0 : ¬ (m : Int) < 0 := by omega
      have h3 : ¬ (3 : Int) < (m : Int) := by omega
      have C := fun bp w hF => smallPairsCom_any (comB p) m (by omega) bp w hF
      have CO := fun (q : Pr) bp w h2 hq hx => commutes_any p q bp w hok h2 hc1 hq hx
      show Calls _ _ _ _ (AnsQ2 ((smallN (m + 1)).filter (comB p)) true w)
      generalize (smallN (m + 1)).filter (comB p) = XS at *
      clear h
      go_enter Try.func39, Try.ntmps39
      go_wp2_with fail
      have hb0 : Below w.heap.size w (w.alloc (.cells #[.string p.1.str, .string p.2.str] 25 (0, 0))) := nxAlloc (Below.refl _ _) _
      have hx0 := heap_alloc_at w (.cells #[.string p.1.str, .string p.2.str] 25 (0, 0))
      generalize (w.alloc (.cells #[.string p.1.str, .string p.2.str] 25 (0, 0))) = w0 at *
      obtain ⟨hx0a, hx0b, hx0c⟩ := two_facts hx0
      obtain ⟨hx0f, hx0g⟩ := two_frozen hx0
      refine (hg _).mono ?_; rintro e w1 ⟨rfl, hb1⟩
      have hbw1 := nx hb0 hb1
      replace hx0 := heap_keep hb1 hx0
      clear hx0a hx0b hx0c hx0f hx0g
      obtain ⟨hx0a, hx0b, hx0c⟩ := two_facts hx0
      obtain ⟨hx0f, hx0g⟩ := two_frozen hx0
      clear hb1 hb0
      have HFF : ∀ (q : Pr) (w' : World), okP q → q.1.carets ≤ 3 → both q = [] → Below w1.heap.size w1 w' → Calls Try.prog 74 #[.agg #[.string q.1.str, .string q.2.str], .pointer (some ⟨w.heap.size, 0, none⟩)] w' (Gives (.bool (comB p q)) w') := fun q w' h2 hq _ hb9 => CO q w.heap.size w' h2 hq (heap_keep hb9 hx0)
      have CC := C w.heap.size w1 HFF
      clear C CO HFF
      go_wp2_with fail
      refine CC.mono ?_; rintro e w9 ⟨v9, own9, hb9, rfl⟩
      have hlow := hbw1.size
      have hbw9 := nx hbw1 hb9
      go_wp2_with fail
      go_ret2
      exact ⟨_, OwnQ.mono own9 hlow, hbw9, rfl⟩
    · rw [if_neg h]
      show Calls _ _ _ _ (AnsQ2 [] false w)
      by_cases h0 : n < 0
      · clear h
        go_enter Try.func39, Try.ntmps39
        go_wp2_with fail
        have hb0 : Below w.heap.size w (w.alloc (.cells #[.string p.1.str, .string p.2.str] 25 (0, 0))) := nxAlloc (Below.refl _ _) _
        have hx0 := heap_alloc_at w (.cells #[.string p.1.str, .string p.2.str] 25 (0, 0))
        generalize (w.alloc (.cells #[.string p.1.str, .string p.2.str] 25 (0, 0))) = w0 at *
        obtain ⟨hx0a, hx0b, hx0c⟩ := two_facts hx0
        obtain ⟨hx0f, hx0g⟩ := two_frozen hx0
        refine (hg _).mono ?_; rintro e w1 ⟨rfl, hb1⟩
        have hbw1 := nx hb0 hb1
        replace hx0 := heap_keep hb1 hx0
        clear hx0a hx0b hx0c hx0f hx0g
        obtain ⟨hx0a, hx0b, hx0c⟩ := two_facts hx0
        obtain ⟨hx0f, hx0g⟩ := two_frozen hx0
        clear hb1 hb0
        go_wp2_with fail
        go_ret2
        exact ⟨_, OwnX.nil _ _ _ _, hbw1, rfl⟩
      · have h3 : (3 : Int) < n := by omega
        clear h
        go_enter Try.func39, Try.ntmps39
        go_wp2_with fail
        have hb0 : Below w.heap.size w (w.alloc (.cells #[.string p.1.str, .string p.2.str] 25 (0, 0))) := nxAlloc (Below.refl _ _) _
        have hx0 := heap_alloc_at w (.cells #[.string p.1.str, .string p.2.str] 25 (0, 0))
        generalize (w.alloc (.cells #[.string p.1.str, .string p.2.str] 25 (0, 0))) = w0 at *
        obtain ⟨hx0a, hx0b, hx0c⟩ := two_facts hx0
        obtain ⟨hx0f, hx0g⟩ := two_frozen hx0
        refine (hg _).mono ?_; rintro e w1 ⟨rfl, hb1⟩
        have hbw1 := nx hb0 hb1
        replace hx0 := heap_keep hb1 hx0
        clear hx0a hx0b hx0c hx0f hx0g
        obtain ⟨hx0a, hx0b, hx0c⟩ := two_facts hx0
        obtain ⟨hx0f, hx0g⟩ := two_frozen hx0
        clear hb1 hb0
        go_wp2_with fail
        go_ret2
        exact ⟨_, OwnX.nil _ _ _ _, hbw1, rfl⟩

set_option maxRecDepth 100000 in
set_option maxHeartbeats 4000000 in
theorem specCommutingWith_any (a b : ByteArray) (n : Int) (w : World) (ha : a.size ≤ 9223372036854775806) (hb : b.size ≤ 9223372036854775806) (lo : -9223372036854775808 ≤ n) (hi : n ≤ 9223372036854775807) :
    Calls Try.prog 38 #[.agg #[.string a, .string b], .int .i64 n] w (AnsQs (CommutingWith_o a b n) w) := by
  obtain ⟨i0, hi0, hz0, hz1, hz2⟩ := info_parts info_pair7
  have hg := fun w => prGood_any a b w ha hb
  unfold CommutingWith_o
  cases h : pairOf a b with
  | none =>
    rw [h] at hg
    clear h
    go_enter Try.func38, Try.ntmps38
    go_wp2_with fail
    have hb0 : Below w.heap.size w (w.alloc (.cells #[.string a, .string b] 25 (0, 0))) := nxAlloc (Below.refl _ _) _
    have hx0 := heap_alloc_at w (.cells #[.string a, .string b] 25 (0, 0))
    generalize (w.alloc (.cells #[.string a, .string b] 25 (0, 0))) = w0 at *
    obtain ⟨hx0a, hx0b, hx0c⟩ := two_facts hx0
    obtain ⟨hx0f, hx0g⟩ := two_frozen hx0
    refine (hg _).mono ?_; rintro e w1 ⟨rfl, hb1⟩
    have hbw1 := nx hb0 hb1
    replace hx0 := heap_keep hb1 hx0
    clear hx0a hx0b hx0c hx0f hx0g
    obtain ⟨hx0a, hx0b, hx0c⟩ := two_facts hx0
    obtain ⟨hx0f, hx0g⟩ := two_frozen hx0
    clear hb1 hb0
    go_wp2_with fail
    all_goals go_ret2
    all_goals exact ⟨_, OwnX.nil _ _ _ _, hbw1, rfl⟩
  | some p =>
    rw [h] at hg
    obtain ⟨rfl, rfl, hok, hc1, hc2⟩ := pairOf_some h
    clear h
    show Calls _ _ _ _ (AnsQs (if 0 ≤ n ∧ n ≤ 3 then some ((smallN (n.toNat + 1)).filter (comB p)) else none) w)
    by_cases h : 0 ≤ n ∧ n ≤ 3
    rotate_left
    · rw [if_neg h]
      have I : ∀ w, Calls Try.prog 65 #[.int .i64 n, .int .i64 0, .int .i64 3] w fun e w' => e = .returned (.bool false) ∧ w = w' := fun w => l1In_no n 0 3 w (by omega)
      show Calls _ _ _ _ (AnsQ2 [] false w)
      clear h
      go_enter Try.func38, Try.ntmps38
      go_wp2_with fail
      have hb0 : Below w.heap.size w (w.alloc (.cells #[.string p.1.str, .string p.2.str] 25 (0, 0))) := nxAlloc (Below.refl _ _) _
      have hx0 := heap_alloc_at w (.cells #[.string p.1.str, .string p.2.str] 25 (0, 0))
      generalize (w.alloc (.cells #[.string p.1.str, .string p.2.str] 25 (0, 0))) = w0 at *
      obtain ⟨hx0a, hx0b, hx0c⟩ := two_facts hx0
      obtain ⟨hx0f, hx0g⟩ := two_frozen hx0
      refine (hg _).mono ?_; rintro e w1 ⟨rfl, hb1⟩
      have hbw1 := nx hb0 hb1
      replace hx0 := heap_keep hb1 hx0
      clear hx0a hx0b hx0c hx0f hx0g
      obtain ⟨hx0a, hx0b, hx0c⟩ := two_facts hx0
      obtain ⟨hx0f, hx0g⟩ := two_frozen hx0
      clear hb1 hb0
      go_wp2_with fail
      refine (I _).mono ?_; rintro e wc ⟨rfl, rfl⟩
      go_wp2_with fail
      go_ret2
      exact ⟨_, OwnX.nil _ _ _ _, hbw1, rfl⟩
    rw [if_pos h]
    obtain ⟨m, rfl⟩ : ∃ m : Nat, n = (m : Int) := ⟨n.toNat, by omega⟩
    rw [Int.toNat_natCast]
    have I : ∀ w, Calls Try.prog 65 #[.int .i64 (m : Int), .int .i64 0, .int .i64 3] w fun e w' => e = .returned (.bool true) ∧ w = w' := fun w => l1In_yes (m : Int) 0 3 w (by omega) (by omega)
    have C := fun w => cjSmall_any m (by omega) w
    have hmem : ∀ j, j < (smallN (m + 1)).length → okP ((smallN (m + 1)).getD j (.lf, .lf)) ∧ ((smallN (m + 1)).getD j (.lf, .lf)).1.carets ≤ 3 := fun j hj => by
      have h9 := mem_smallN.1 (show (smallN (m + 1)).getD j (.lf, .lf) ∈ smallN (m + 1) by rw [List.getD_eq_getElem?_getD, List.getElem?_eq_getElem hj]; exact List.getElem_mem hj)
      exact ⟨h9.2.1, by omega⟩
    have hlen := smallN_len (n := m + 1) (by omega)
    have hln : (smallN (m + 1)).length ≤ 100 := by omega
    show Calls _ _ _ _ (AnsQ2 ((smallN (m + 1)).filter (comB p)) true w)
    generalize smallN (m + 1) = L at *
    have HM := Lib.hid hmem
    clear h hmem hlen
    go_enter Try.func38, Try.ntmps38
    go_wp2_with fail
    have hb0 : Below w.heap.size w (w.alloc (.cells #[.string p.1.str, .string p.2.str] 25 (0, 0))) := nxAlloc (Below.refl _ _) _
    have hx0 := heap_alloc_at w (.cells #[.string p.1.str, .string p.2.str] 25 (0, 0))
    generalize (w.alloc (.cells #[.string p.1.str, .string p.2.str] 25 (0, 0))) = w0 at *
    obtain ⟨hx0a, hx0b, hx0c⟩ := two_facts hx0
    obtain ⟨hx0f, hx0g⟩ := two_frozen hx0
    refine (hg _).mono ?_; rintro e w1 ⟨rfl, hb1⟩
    have hbw1 := nx hb0 hb1
    replace hx0 := heap_keep hb1 hx0
    clear hx0a hx0b hx0c hx0f hx0g
    obtain ⟨hx0a, hx0b, hx0c⟩ := two_facts hx0
    obtain ⟨hx0f, hx0g⟩ := two_frozen hx0
    clear hb1 hb0
    go_wp2_with fail
    refine (I _).mono ?_; rintro e wc ⟨rfl, rfl⟩
    go_wp2_with fail
    refine (C _).mono ?_; rintro e w9 ⟨v9, own9, hb9, rfl⟩
    have hbw9 := nx hbw1 hb9
    have hx9 := heap_keep hb9 hx0
    have hcl := own9.cells
    clear C own9 hb9 hbw1 hx0 hx0a hx0b hx0c hx0f hx0g
    obtain ⟨N, hN⟩ : ∃ N, N = L.length := ⟨_, rfl⟩
    rw [← hN] at hcl hln
    have HN := Lib.hid hN
    have hszw := hbw9.size
    clear hN
    rcases hcl with ⟨rfl, hn0⟩ | ⟨g, cap, rfl, hgb, hgl, hc1', hm1, hc, _⟩
    · go_wp2_with fail
      go_loopw [6, 20] (fun u c wr => ∃ (j : Nat) (ys : List Pr), j ≤ N ∧ c = .int .i64 j ∧ OwnQ w9.heap.size wr u ys ∧ ys.length ≤ j ∧ Hid (ys = (L.take j).filter (comB p)) ∧ Below w9.heap.size w9 wr) (fun _ c _ => N - (intOf c).toNat)
      case atStart => exact ⟨0, [], Nat.zero_le _, rfl, OwnX.nil _ _ _ _, Nat.zero_le _, rfl, Below.refl _ _⟩
      case round =>
        obtain ⟨j, ys, hj, rfl, hown, hyl, hys, hbw⟩ := hrel
        obtain rfl : j = N := by omega
        have hn1 : ¬ (j : Int) < 0 := by omega
        have h1 := hys.out
        rw [HN.out, List.take_length] at h1
        have HX := Lib.hid h1
        have hbf := nx hbw9 hbw
        clear h1 hys
        go_wp2_with fail
        go_ret2
        exact ⟨_, by rw [← HX.out]; exact OwnQ.mono hown hszw, hbf, rfl⟩
    · have HC := Lib.hid hc
      unfold maxLen at hm1
      clear hc
      go_wp2_with fail
      go_loopw [6, 20] (fun u c wr => ∃ (j : Nat) (ys : List Pr), j ≤ N ∧ c = .int .i64 j ∧ OwnQ w9.heap.size wr u ys ∧ ys.length ≤ j ∧ Hid (ys = (L.take j).filter (comB p)) ∧ Below w9.heap.size w9 wr) (fun _ c _ => N - (intOf c).toNat)
      case atStart => exact ⟨0, [], Nat.zero_le _, rfl, OwnX.nil _ _ _ _, Nat.zero_le _, rfl, Below.refl _ _⟩
      case round =>
        obtain ⟨j, ys, hj, rfl, hown, hyl, hys, hbw⟩ := hrel
        by_cases hlt : j < N
        · have hlt' : (j : Int) < (N : Int) := by omega
          have hjL : j < L.length := by rw [← HN.out]; exact hlt
          have d1 := (hbw.cell (p := ⟨g, j * 2, none⟩) hgl).trans (HC.out (j * 2) (by omega))
          have d2 := (hbw.cell (p := ⟨g, j * 2 + 1, none⟩) hgl).trans (HC.out (j * 2 + 1) (by omega))
          rw [(flatQ_get L j hjL).1] at d1
          rw [(flatQ_get L j hjL).2] at d2
          obtain ⟨hqo, hq3⟩ := HM.out j hjL
          have hft := filter_take (want := comB p) hjL
          obtain ⟨q, hq⟩ : ∃ q, q = L.getD j (.lf, .lf) := ⟨_, rfl⟩
          rw [← hq] at d1 d2 hqo hq3 hft
          have HFT := Lib.hid hft
          have hsz3 := hbw.size
          have hx3 := heap_keep hbw hx9
          have TU := fun w => prTimes_any p q w hok hqo (by omega) (by omega)
          have TV := fun w => prTimes_any q p w hqo hok (by omega) (by omega)
          have ru := mulP_carets hok hqo
          have rv := mulP_carets hqo hok
          have ou : (mulP p q).1.carets = (mulP p q).2.carets := mulP_ok hok hqo
          have ov : (mulP q p).1.carets = (mulP q p).2.carets := mulP_ok hqo hok
          have oq : q.1.carets = q.2.carets := hqo
          have XU := fun w => prText_any (mulP p q) w (by omega) (by omega)
          have XV := fun w => prText_any (mulP q p) w (by omega) (by omega)
          rw [prS_pTx] at XU XV
          have hcb : comB p q = eqPr (mulP p q) (mulP q p) := rfl
          have hbe : ((pTx (mulP p q)).toList == (pTx (mulP q p)).toList) = comB p q := by
            rw [hcb]
            by_cases e : mulP p q = mulP q p
            · rw [eqPr_true e, e]; simp
            · rw [eqPr_false e, pTx_ne e]
          obtain ⟨cb, hcb2⟩ : ∃ cb, cb = comB p q := ⟨_, rfl⟩
          rw [← hcb2] at hbe
          have HCB := Lib.hid hcb2
          generalize mulP p q = R at *
          generalize mulP q p = S at *
          clear hq hft hjL ru rv ou ov oq hcb hcb2
          go_wp2_with fail
          have hbw4 := nxAlloc hbw (.cells #[.string q.1.str, .string q.2.str] 25 (0, 0))
          have hown4 := OwnQ.keep hown (nxAlloc (Below.refl _ _) (.cells #[.string q.1.str, .string q.2.str] 25 (0, 0)))
          have hx4 := heap_keep (nxAlloc (Below.refl _ _) (.cells #[.string q.1.str, .string q.2.str] 25 (0, 0))) hx3
          have hy4 := heap_alloc_at wr (.cells #[.string q.1.str, .string q.2.str] 25 (0, 0))
          generalize wr.alloc (.cells #[.string q.1.str, .string q.2.str] 25 (0, 0)) = w4 at *
          obtain ⟨xa, xb, xc⟩ := two_facts hx4
          obtain ⟨ya, yb, yc⟩ := two_facts hy4
          clear hbw hown hx3 d1 d2
          refine wp_region_cls (by kernel_rfl) (by kernel_rfl) ?_
          repeat (
            refine wpQuiet_step (fun K hK => ?_)
            go_simp
            first
              | (refine hK _ ?_; clear hK K)
              | (refine ⟨_, fun _ _ => rfl, hK _ ?_⟩; clear hK K)
              | (apply Exists.intro
                 refine ⟨fun w' hw' => ?_, hK _ ?_⟩
                 · first
                     | (go_at_call 71; first | (with_reducible exact hw'.call (TU _)) | (with_reducible exact hw'.call (TV _)))
                     | (go_at_call 70; first | (with_reducible exact hw'.call (XU _)) | (with_reducible exact hw'.call (XV _)))
                     | (rw [hw'.cell xc xa]; dsimp only [Result.andThen]; rw [hw'.cell xc xb]; exact ⟨rfl, rfl⟩)
                     | (rw [hw'.cell yc ya]; dsimp only [Result.andThen]; rw [hw'.cell yc yb]; exact ⟨rfl, rfl⟩)
                 clear hK K))
          refine wpQuiet_nil ?_
          intro w' hw'
          have hy5 := heap_keep hw' hy4
          have hbw5 := nx hbw4 hw'
          have hown5 := OwnQ.keep hown4 hw'
          have hsz5 := hbw5.size
          clear hbw4 hown4 hx4 hy4 xa xb xc ya yb yc hw'
          generalize w' = w5 at *
          obtain ⟨ya, yb, yc⟩ := two_facts hy5
          cases hcc : cb with
          | true =>
            rw [hcc] at hbe HCB
            unfold OwnQ OwnX at hown5
            clear hcc
            go_wp2_with (at_builtin; go_loud (refine wpList_append_own _ rfl _ _ 43 rfl w9.heap.size 25 i0 (.agg #[.string ⟨#[]⟩, .string ⟨#[]⟩]) 2 32 Try.underlying43 hi0 hz0 hz1 hz2 rfl (by decide) _ _ _ rfl (hown5.alloc _) ⟨w5.heap.size, 0, none⟩ 1 1 [.string q.1.str, .string q.2.str] rfl rfl (newsQ _ #[.string q.1.str, .string q.2.str] _) (pr_one _ _) (by unfold maxLen; omega) (by omega) (by simp; omega) ?_); intro v' w6 hown' hgrow hnn)
            have hbw6 := (nxAlloc hbw5 (.cells #[.string q.1.str, .string q.2.str] 25 (0, 0))).grown hgrow (by simp; omega) (fun k hk => ownsRow_ge hown5 k hk)
            have hown6 : OwnQ w9.heap.size w6 v' (ys ++ [q]) := OwnQ.snoc7 hown'
            have hfin : ys ++ [q] = (L.take (j + 1)).filter (comB p) := by rw [HFT.out, ← HCB.out, if_pos rfl, hys.out]
            have HX := Lib.hid hfin
            clear hown5 hown' hgrow hbw5 hnn hfin
            go_wp2_with fail
            go_roundw
            case rel => exact ⟨j + 1, _, by omega, by go_num, hown6, by simp; omega, HX, hbw6⟩
            case measure => simp [intOf]; omega
          | false =>
            rw [hcc] at hbe HCB
            have hfin : ys = (L.take (j + 1)).filter (comB p) := by rw [HFT.out, ← HCB.out, hys.out]; simp
            have HX := Lib.hid hfin
            clear hcc hfin
            go_wp2_with fail
            go_roundw
            case rel => exact ⟨j + 1, ys, by omega, by go_num, hown5, by omega, HX, hbw5⟩
            case measure => simp [intOf]; omega
        · obtain rfl : j = N := by omega
          have h1 := hys.out
          rw [HN.out, List.take_length] at h1
          have HX := Lib.hid h1
          have hbf := nx hbw9 hbw
          clear h1 hys
          go_wp2_with fail
          go_ret2
          exact ⟨_, by rw [← HX.out]; exact OwnQ.mono hown hszw, hbf, rfl⟩
end Go.Proofs.Ytkpganpojdboeaa

/-! Sm9 -/
namespace Go.Proofs.Ytkpganpojdboeaa
open Go.RowKit

noncomputable def RootsOf_o (a b : ByteArray) (n : Int) : Option (List Pr) := (pairOf a b).bind fun p => if 2 ≤ n ∧ n ≤ 4 then some ((smallN 4).filter fun q => eqPr (pwU q n.toNat) (red p)) else none
theorem RootsOf_len (a b : ByteArray) (n : Int) : ((RootsOf_o a b n).getD []).length ≤ 100000000 := by
  unfold RootsOf_o
  cases pairOf a b with
  | none => simp
  | some p =>
    show ((if 2 ≤ n ∧ n ≤ 4 then some ((smallN 4).filter fun q => eqPr (pwU q n.toNat) (red p)) else none).getD []).length ≤ _
    split
    · have h1 := smallN_len (n := 4) (by omega); have h2 := List.length_filter_le (fun q => eqPr (pwU q n.toNat) (red p)) (smallN 4); simp only [Option.getD_some]; omega
    · simp

set_option maxRecDepth 100000 in
set_option maxHeartbeats 2000000 in
theorem implRootsOf_any (a b : ByteArray) (n : Int) (w : World) (ha : a.size ≤ 9223372036854775806) (hb : b.size ≤ 9223372036854775806) (lo : -9223372036854775808 ≤ n) (hi : n ≤ 9223372036854775807) :
    Calls Try.prog 37 #[.agg #[.string a, .string b], .int .i64 n] w (AnsQs (RootsOf_o a b n) w) := by
  have hg := fun w => implReducePair_any a b w ha hb
  unfold RootsOf_o
  cases h : pairOf a b with
  | none =>
    rw [h] at hg
    have hg' : ∀ w, Calls Try.prog 62 #[.agg #[.string a, .string b]] w (Gives (.tuple #[.agg #[.string ⟨#[]⟩, .string ⟨#[]⟩], .bool false]) w) := hg
    show Calls _ _ _ _ (AnsQ2 [] false w)
    clear h hg
    go_enter Try.func37, Try.ntmps37
    go_wp2_with fail
    have hb0 := nxAlloc (nxAlloc (Below.refl w.heap.size w) (.cells #[.string a, .string b] 25 (0, 0))) (.cells #[.int .i64 n] 3 (0, 0))
    have hx0 := heap_keep (nxAlloc (Below.refl _ _) (.cells #[.int .i64 n] 3 (0, 0))) (heap_alloc_at w (.cells #[.string a, .string b] 25 (0, 0)))
    have hk0 := heap_alloc_at (w.alloc (.cells #[.string a, .string b] 25 (0, 0))) (.cells #[.int .i64 n] 3 (0, 0))
    have es : (w.alloc (.cells #[.string a, .string b] 25 (0, 0))).heap.size = w.heap.size + 1 := by simp
    rw [es] at hk0
    clear es
    generalize (w.alloc (.cells #[.string a, .string b] 25 (0, 0))).alloc (.cells #[.int .i64 n] 3 (0, 0)) = w0 at *
    obtain ⟨xa, xb, xc⟩ := two_facts hx0
    refine (hg' _).mono ?_; rintro e w1 ⟨rfl, hb1⟩
    have hbw1 := nx hb0 hb1
    replace hx0 := heap_keep hb1 hx0
    replace hk0 := heap_keep hb1 hk0
    clear xa xb xc hb0 hb1
    obtain ⟨xa, xb, xc⟩ := two_facts hx0
    obtain ⟨xf, xg⟩ := two_frozen hx0
    have kc1 := one_cell hk0
    go_wp2_with fail
    have hs0 := set_two (.string ⟨#[]⟩) (.string ⟨#[]⟩) hx0
    have hsk := (Below.heap_setCell (w1.setCell ⟨w.heap.size, 0, none⟩ (.string ⟨#[]⟩)) ⟨w.heap.size, 1, none⟩ (.string ⟨#[]⟩) (w.heap.size + 1) (by show ¬ w.heap.size + 1 = w.heap.size; omega)).trans ((Below.heap_setCell w1 ⟨w.heap.size, 0, none⟩ (.string ⟨#[]⟩) (w.heap.size + 1) (by show ¬ w.heap.size + 1 = w.heap.size; omega)).trans hk0)
    have hbs := (hbw1.setCell (p := ⟨w.heap.size, 0, none⟩) (Nat.le_refl _) (.string ⟨#[]⟩)).setCell (p := ⟨w.heap.size, 1, none⟩) (Nat.le_refl _) (.string ⟨#[]⟩)
    generalize (w1.setCell ⟨w.heap.size, 0, none⟩ (.string ⟨#[]⟩)).setCell ⟨w.heap.size, 1, none⟩ (.string ⟨#[]⟩) = ws at *
    clear hx0 hk0 xa xb xc xf xg hbw1 kc1
    have kc := one_cell hsk
    go_wp2_with fail
    all_goals go_ret2
    all_goals exact ⟨_, OwnX.nil _ _ _ _, hbs, rfl⟩
  | some p =>
    rw [h] at hg
    have hg' : ∀ w, Calls Try.prog 62 #[.agg #[.string a, .string b]] w (Gives (.tuple #[.agg #[.string (red p).1.str, .string (red p).2.str], .bool true]) w) := hg
    obtain ⟨ea, eb, hok, hc1, hc2⟩ := pairOf_some h
    subst ea eb
    clear h hg
    show Calls _ _ _ _ (AnsQs (if 2 ≤ n ∧ n ≤ 4 then some ((smallN 4).filter fun q => eqPr (pwU q n.toNat) (red p)) else none) w)
    have hrc : (red p).1.carets ≤ 8 := Nat.le_trans (redBy_carets p []).1 hc1
    generalize red p = R at *
    by_cases h : 2 ≤ n ∧ n ≤ 4
    · rw [if_pos h]
      obtain ⟨k, rfl⟩ : ∃ k : Nat, n = (k : Int) := ⟨n.toNat, by omega⟩
      rw [Int.toNat_natCast]
      have h0 : ¬ (k : Int) < 2 := by omega
      have h3 : ¬ (4 : Int) < (k : Int) := by omega
      have C := fun bk bp w hF => smallPairsRts_any (fun q => eqPr (pwU q k) R) 3 (by omega) bk bp w hF
      have CO := fun (q : Pr) bk bp w hq hxk hxp => roots_any R q k bk bp w (by omega) hq hrc hxk hxp
      show Calls _ _ _ _ (AnsQ2 ((smallN 4).filter fun q => eqPr (pwU q k) R) true w)
      have C' : ∀ bk bp w, (∀ (q : Pr) (w' : World), okP q → q.1.carets ≤ 3 → both q = [] → Below w.heap.size w w' → Calls Try.prog 72 #[.agg #[.string q.1.str, .string q.2.str], .pointer (some ⟨bk, 0, none⟩), .pointer (some ⟨bp, 0, none⟩)] w' (Gives (.bool (eqPr (pwU q k) R)) w')) → Calls Try.prog 67 #[.int .i64 3, .func (Fn.func 72) #[] #[.pointer (some ⟨bk, 0, none⟩), .pointer (some ⟨bp, 0, none⟩)]] w (GivesQ ((smallN 4).filter fun q => eqPr (pwU q k) R) w) := C
      clear h C
      go_enter Try.func37, Try.ntmps37
      go_wp2_with fail
      have hb0 := nxAlloc (nxAlloc (Below.refl w.heap.size w) (.cells #[.string p.1.str, .string p.2.str] 25 (0, 0))) (.cells #[.int .i64 (k : Int)] 3 (0, 0))
      have hx0 := heap_keep (nxAlloc (Below.refl _ _) (.cells #[.int .i64 (k : Int)] 3 (0, 0))) (heap_alloc_at w (.cells #[.string p.1.str, .string p.2.str] 25 (0, 0)))
      have hk0 := heap_alloc_at (w.alloc (.cells #[.string p.1.str, .string p.2.str] 25 (0, 0))) (.cells #[.int .i64 (k : Int)] 3 (0, 0))
      have es : (w.alloc (.cells #[.string p.1.str, .string p.2.str] 25 (0, 0))).heap.size = w.heap.size + 1 := by simp
      rw [es] at hk0
      clear es
      generalize (w.alloc (.cells #[.string p.1.str, .string p.2.str] 25 (0, 0))).alloc (.cells #[.int .i64 (k : Int)] 3 (0, 0)) = w0 at *
      obtain ⟨xa, xb, xc⟩ := two_facts hx0
      refine (hg' _).mono ?_; rintro e w1 ⟨rfl, hb1⟩
      have hbw1 := nx hb0 hb1
      replace hx0 := heap_keep hb1 hx0
      replace hk0 := heap_keep hb1 hk0
      clear xa xb xc hb0 hb1
      obtain ⟨xa, xb, xc⟩ := two_facts hx0
      obtain ⟨xf, xg⟩ := two_frozen hx0
      have kc1 := one_cell hk0
      go_wp2_with fail
      have hs0 := set_two (.string R.1.str) (.string R.2.str) hx0
      have hsk := (Below.heap_setCell (w1.setCell ⟨w.heap.size, 0, none⟩ (.string R.1.str)) ⟨w.heap.size, 1, none⟩ (.string R.2.str) (w.heap.size + 1) (by show ¬ w.heap.size + 1 = w.heap.size; omega)).trans ((Below.heap_setCell w1 ⟨w.heap.size, 0, none⟩ (.string R.1.str) (w.heap.size + 1) (by show ¬ w.heap.size + 1 = w.heap.size; omega)).trans hk0)
      have hbs := (hbw1.setCell (p := ⟨w.heap.size, 0, none⟩) (Nat.le_refl _) (.string R.1.str)).setCell (p := ⟨w.heap.size, 1, none⟩) (Nat.le_refl _) (.string R.2.str)
      generalize (w1.setCell ⟨w.heap.size, 0, none⟩ (.string R.1.str)).setCell ⟨w.heap.size, 1, none⟩ (.string R.2.str) = ws at *
      clear hx0 hk0 xa xb xc xf xg hbw1 kc1
      have kc := one_cell hsk
      have HFF := fun (q : Pr) (w' : World) (h2 : okP q) (h3' : q.1.carets ≤ 3) (hrd : both q = []) (hb9 : Below ws.heap.size ws w') => CO q (w.heap.size + 1) w.heap.size w' (mem_smallN.2 ⟨by omega, h2, hrd⟩) (heap_keep hb9 hsk) (heap_keep hb9 hs0)
      clear CO
      go_wp2_with fail
      refine (C' _ _ _ HFF).mono ?_; rintro e w9 ⟨v9, own9, hb9, rfl⟩
      have hlow := hbs.size
      have hbw9 := nx hbs hb9
      go_wp2_with fail
      go_ret2
      exact ⟨_, OwnQ.mono own9 hlow, hbw9, rfl⟩
    · rw [if_neg h]
      show Calls _ _ _ _ (AnsQ2 [] false w)
      by_cases h0 : n < 2
      · clear h
        go_enter Try.func37, Try.ntmps37
        go_wp2_with fail
        have hb0 := nxAlloc (nxAlloc (Below.refl w.heap.size w) (.cells #[.string p.1.str, .string p.2.str] 25 (0, 0))) (.cells #[.int .i64 n] 3 (0, 0))
        have hx0 := heap_keep (nxAlloc (Below.refl _ _) (.cells #[.int .i64 n] 3 (0, 0))) (heap_alloc_at w (.cells #[.string p.1.str, .string p.2.str] 25 (0, 0)))
        have hk0 := heap_alloc_at (w.alloc (.cells #[.string p.1.str, .string p.2.str] 25 (0, 0))) (.cells #[.int .i64 n] 3 (0, 0))
        have es : (w.alloc (.cells #[.string p.1.str, .string p.2.str] 25 (0, 0))).heap.size = w.heap.size + 1 := by simp
        rw [es] at hk0
        clear es
        generalize (w.alloc (.cells #[.string p.1.str, .string p.2.str] 25 (0, 0))).alloc (.cells #[.int .i64 n] 3 (0, 0)) = w0 at *
        obtain ⟨xa, xb, xc⟩ := two_facts hx0
        refine (hg' _).mono ?_; rintro e w1 ⟨rfl, hb1⟩
        have hbw1 := nx hb0 hb1
        replace hx0 := heap_keep hb1 hx0
        replace hk0 := heap_keep hb1 hk0
        clear xa xb xc hb0 hb1
        obtain ⟨xa, xb, xc⟩ := two_facts hx0
        obtain ⟨xf, xg⟩ := two_frozen hx0
        have kc1 := one_cell hk0
        go_wp2_with fail
        have hs0 := set_two (.string R.1.str) (.string R.2.str) hx0
        have hsk := (Below.heap_setCell (w1.setCell ⟨w.heap.size, 0, none⟩ (.string R.1.str)) ⟨w.heap.size, 1, none⟩ (.string R.2.str) (w.heap.size + 1) (by show ¬ w.heap.size + 1 = w.heap.size; omega)).trans ((Below.heap_setCell w1 ⟨w.heap.size, 0, none⟩ (.string R.1.str) (w.heap.size + 1) (by show ¬ w.heap.size + 1 = w.heap.size; omega)).trans hk0)
        have hbs := (hbw1.setCell (p := ⟨w.heap.size, 0, none⟩) (Nat.le_refl _) (.string R.1.str)).setCell (p := ⟨w.heap.size, 1, none⟩) (Nat.le_refl _) (.string R.2.str)
        generalize (w1.setCell ⟨w.heap.size, 0, none⟩ (.string R.1.str)).setCell ⟨w.heap.size, 1, none⟩ (.string R.2.str) = ws at *
        clear hx0 hk0 xa xb xc xf xg hbw1 kc1
        have kc := one_cell hsk
        go_wp2_with fail
        go_ret2
        exact ⟨_, OwnX.nil _ _ _ _, hbs, rfl⟩
      · have h3 : (4 : Int) < n := by omega
        clear h
        go_enter Try.func37, Try.ntmps37
        go_wp2_with fail
        have hb0 := nxAlloc (nxAlloc (Below.refl w.heap.size w) (.cells #[.string p.1.str, .string p.2.str] 25 (0, 0))) (.cells #[.int .i64 n] 3 (0, 0))
        have hx0 := heap_keep (nxAlloc (Below.refl _ _) (.cells #[.int .i64 n] 3 (0, 0))) (heap_alloc_at w (.cells #[.string p.1.str, .string p.2.str] 25 (0, 0)))
        have hk0 := heap_alloc_at (w.alloc (.cells #[.string p.1.str, .string p.2.str] 25 (0, 0))) (.cells #[.int .i64 n] 3 (0, 0))
        have es : (w.alloc (.cells #[.string p.1.str, .string p.2.str] 25 (0, 0))).heap.size = w.heap.size + 1 := by simp
        rw [es] at hk0
        clear es
        generalize (w.alloc (.cells #[.string p.1.str, .string p.2.str] 25 (0, 0))).alloc (.cells #[.int .i64 n] 3 (0, 0)) = w0 at *
        obtain ⟨xa, xb, xc⟩ := two_facts hx0
        refine (hg' _).mono ?_; rintro e w1 ⟨rfl, hb1⟩
        have hbw1 := nx hb0 hb1
        replace hx0 := heap_keep hb1 hx0
        replace hk0 := heap_keep hb1 hk0
        clear xa xb xc hb0 hb1
        obtain ⟨xa, xb, xc⟩ := two_facts hx0
        obtain ⟨xf, xg⟩ := two_frozen hx0
        have kc1 := one_cell hk0
        go_wp2_with fail
        have hs0 := set_two (.string R.1.str) (.string R.2.str) hx0
        have hsk := (Below.heap_setCell (w1.setCell ⟨w.heap.size, 0, none⟩ (.string R.1.str)) ⟨w.heap.size, 1, none⟩ (.string R.2.str) (w.heap.size + 1) (by show ¬ w.heap.size + 1 = w.heap.size; omega)).trans ((Below.heap_setCell w1 ⟨w.heap.size, 0, none⟩ (.string R.1.str) (w.heap.size + 1) (by show ¬ w.heap.size + 1 = w.heap.size; omega)).trans hk0)
        have hbs := (hbw1.setCell (p := ⟨w.heap.size, 0, none⟩) (Nat.le_refl _) (.string R.1.str)).setCell (p := ⟨w.heap.size, 1, none⟩) (Nat.le_refl _) (.string R.2.str)
        generalize (w1.setCell ⟨w.heap.size, 0, none⟩ (.string R.1.str)).setCell ⟨w.heap.size, 1, none⟩ (.string R.2.str) = ws at *
        clear hx0 hk0 xa xb xc xf xg hbw1 kc1
        have kc := one_cell hsk
        go_wp2_with fail
        go_ret2
        exact ⟨_, OwnX.nil _ _ _ _, hbs, rfl⟩

set_option maxRecDepth 100000 in
set_option maxHeartbeats 4000000 in
theorem specRootsOf_any (a b : ByteArray) (n : Int) (w : World) (ha : a.size ≤ 9223372036854775806) (hb : b.size ≤ 9223372036854775806) (lo : -9223372036854775808 ≤ n) (hi : n ≤ 9223372036854775807) :
    Calls Try.prog 36 #[.agg #[.string a, .string b], .int .i64 n] w (AnsQs (RootsOf_o a b n) w) := by
  obtain ⟨i0, hi0, hz0, hz1, hz2⟩ := info_parts info_pair7
  have hg := fun w => prGood_any a b w ha hb
  unfold RootsOf_o
  cases h : pairOf a b with
  | none =>
    rw [h] at hg
    clear h
    show Calls _ _ _ _ (AnsQ2 [] false w)
    go_enter Try.func36, Try.ntmps36
    go_wp2_with fail
    have hb0 : Below w.heap.size w (w.alloc (.cells #[.string a, .string b] 25 (0, 0))) := nxAlloc (Below.refl _ _) _
    have hx0 := heap_alloc_at w (.cells #[.string a, .string b] 25 (0, 0))
    generalize (w.alloc (.cells #[.string a, .string b] 25 (0, 0))) = w0 at *
    obtain ⟨hx0a, hx0b, hx0c⟩ := two_facts hx0
    obtain ⟨hx0f, hx0g⟩ := two_frozen hx0
    refine (hg _).mono ?_; rintro e w1 ⟨rfl, hb1⟩
    have hbw1 := nx hb0 hb1
    replace hx0 := heap_keep hb1 hx0
    clear hx0a hx0b hx0c hx0f hx0g
    obtain ⟨hx0a, hx0b, hx0c⟩ := two_facts hx0
    obtain ⟨hx0f, hx0g⟩ := two_frozen hx0
    clear hb1 hb0
    go_wp2_with fail
    all_goals go_ret2
    all_goals exact ⟨_, OwnX.nil _ _ _ _, hbw1, rfl⟩
  | some p =>
    rw [h] at hg
    obtain ⟨rfl, rfl, hok, hc1, hc2⟩ := pairOf_some h
    clear h
    show Calls _ _ _ _ (AnsQs (if 2 ≤ n ∧ n ≤ 4 then some ((smallN 4).filter fun q => eqPr (pwU q n.toNat) (red p)) else none) w)
    by_cases h : 2 ≤ n ∧ n ≤ 4
    rotate_left
    · rw [if_neg h]
      have I : ∀ w, Calls Try.prog 65 #[.int .i64 n, .int .i64 2, .int .i64 4] w fun e w' => e = .returned (.bool false) ∧ w = w' := fun w => l1In_no n 2 4 w (by omega)
      show Calls _ _ _ _ (AnsQ2 [] false w)
      clear h
      go_enter Try.func36, Try.ntmps36
      go_wp2_with fail
      have hb0 : Below w.heap.size w (w.alloc (.cells #[.string p.1.str, .string p.2.str] 25 (0, 0))) := nxAlloc (Below.refl _ _) _
      have hx0 := heap_alloc_at w (.cells #[.string p.1.str, .string p.2.str] 25 (0, 0))
      generalize (w.alloc (.cells #[.string p.1.str, .string p.2.str] 25 (0, 0))) = w0 at *
      obtain ⟨hx0a, hx0b, hx0c⟩ := two_facts hx0
      obtain ⟨hx0f, hx0g⟩ := two_frozen hx0
      refine (hg _).mono ?_; rintro e w1 ⟨rfl, hb1⟩
      have hbw1 := nx hb0 hb1
      replace hx0 := heap_keep hb1 hx0
      clear hx0a hx0b hx0c hx0f hx0g
      obtain ⟨hx0a, hx0b, hx0c⟩ := two_facts hx0
      obtain ⟨hx0f, hx0g⟩ := two_frozen hx0
      clear hb1 hb0
      go_wp2_with fail
      refine (I _).mono ?_; rintro e wc ⟨rfl, rfl⟩
      go_wp2_with fail
      go_ret2
      exact ⟨_, OwnX.nil _ _ _ _, hbw1, rfl⟩
    rw [if_pos h]
    obtain ⟨k, rfl⟩ : ∃ k : Nat, n = (k : Int) := ⟨n.toNat, by omega⟩
    rw [Int.toNat_natCast]
    have hk4 : k ≤ 4 := by omega
    have I : ∀ w, Calls Try.prog 65 #[.int .i64 (k : Int), .int .i64 2, .int .i64 4] w fun e w' => e = .returned (.bool true) ∧ w = w' := fun w => l1In_yes (k : Int) 2 4 w (by omega) (by omega)
    have C : ∀ w, Calls Try.prog 66 #[.int .i64 3] w (GivesQ (smallN 4) w) := fun w => cjSmall_any 3 (by omega) w
    have RD := fun w => prReduce_any p (.slice none 0 0) [] 0 w (by omega) (by omega) (.inl ⟨rfl, rfl⟩) (fun c hc => by simp at hc)
    have hmem : ∀ j, j < (smallN 4).length → okP ((smallN 4).getD j (.lf, .lf)) ∧ ((smallN 4).getD j (.lf, .lf)).1.carets ≤ 3 := fun j hj => by
      have h9 := mem_smallN.1 (show (smallN 4).getD j (.lf, .lf) ∈ smallN 4 by rw [List.getD_eq_getElem?_getD, List.getElem?_eq_getElem hj]; exact List.getElem_mem hj)
      exact ⟨h9.2.1, by omega⟩
    have hlen := smallN_len (n := 4) (by omega)
    have hln : (smallN 4).length ≤ 100 := by omega
    have hrc := redBy_carets p []
    have hrc1 : (red p).1.carets ≤ 8 := Nat.le_trans hrc.1 hc1
    have hrc2 : (red p).2.carets ≤ 8 := Nat.le_trans hrc.2.1 hc2
    show Calls _ _ _ _ (AnsQ2 ((smallN 4).filter fun q => eqPr (pwU q k) (red p)) true w)
    generalize smallN 4 = L at *
    have RD' : ∀ w, Calls Try.prog 55 #[.agg #[.string p.1.str, .string p.2.str], .slice none 0 0] w (Gives (.agg #[.string (red p).1.str, .string (red p).2.str]) w) := RD
    clear RD hrc
    generalize red p = R at *
    have XR := fun w => prText_any R w (by omega) (by omega)
    rw [prS_pTx] at XR
    obtain ⟨want, hw⟩ : ∃ want : Pr → Bool, want = fun q => eqPr (pwU q k) R := ⟨_, rfl⟩
    rw [← hw]
    have hwant : ∀ q, want q = eqPr (pwU q k) R := fun q => by rw [hw]
    have HW := Lib.hid hwant
    have HM := Lib.hid hmem
    clear h hmem hlen hw hwant
    go_enter Try.func36, Try.ntmps36
    go_wp2_with fail
    have hb0 : Below w.heap.size w (w.alloc (.cells #[.string p.1.str, .string p.2.str] 25 (0, 0))) := nxAlloc (Below.refl _ _) _
    have hx0 := heap_alloc_at w (.cells #[.string p.1.str, .string p.2.str] 25 (0, 0))
    generalize (w.alloc (.cells #[.string p.1.str, .string p.2.str] 25 (0, 0))) = w0 at *
    obtain ⟨hx0a, hx0b, hx0c⟩ := two_facts hx0
    obtain ⟨hx0f, hx0g⟩ := two_frozen hx0
    refine (hg _).mono ?_; rintro e w1 ⟨rfl, hb1⟩
    have hbw1 := nx hb0 hb1
    replace hx0 := heap_keep hb1 hx0
    clear hx0a hx0b hx0c hx0f hx0g
    obtain ⟨hx0a, hx0b, hx0c⟩ := two_facts hx0
    obtain ⟨hx0f, hx0g⟩ := two_frozen hx0
    clear hb1 hb0
    go_wp2_with fail
    refine (I _).mono ?_; rintro e wc ⟨rfl, rfl⟩
    go_wp2_with fail
    refine (RD' _).mono ?_; rintro e w2 ⟨rfl, hb2⟩
    have hbw2 := nx hbw1 hb2
    replace hx0 := heap_keep hb2 hx0
    clear hx0a hx0b hx0c hx0f hx0g
    obtain ⟨hx0a, hx0b, hx0c⟩ := two_facts hx0
    obtain ⟨hx0f, hx0g⟩ := two_frozen hx0
    clear hb2 hbw1
    go_wp2_with fail
    refine (XR _).mono ?_; rintro e w3 ⟨rfl, hb3⟩
    have hbw3 := nx hbw2 hb3
    replace hx0 := heap_keep hb3 hx0
    clear hx0a hx0b hx0c hx0f hx0g
    obtain ⟨hx0a, hx0b, hx0c⟩ := two_facts hx0
    obtain ⟨hx0f, hx0g⟩ := two_frozen hx0
    clear hb3 hbw2
    go_wp2_with fail
    refine (C _).mono ?_; rintro e w9 ⟨v9, own9, hb9, rfl⟩
    have hbw9 := nx hbw3 hb9
    have hcl := own9.cells
    clear C RD' XR I hg own9 hb9 hbw3 hx0 hx0a hx0b hx0c hx0f hx0g
    obtain ⟨N, hN⟩ : ∃ N, N = L.length := ⟨_, rfl⟩
    rw [← hN] at hcl hln
    have HN := Lib.hid hN
    have hszw := hbw9.size
    clear hN
    rcases hcl with ⟨rfl, hn0⟩ | ⟨g, cap, rfl, hgb, hgl, hc1', hm1, hc, _⟩
    · go_wp2_with fail
      go_loopw [7, 25] (fun u c wr => ∃ (j : Nat) (ys : List Pr), j ≤ N ∧ c = .int .i64 j ∧ OwnQ w9.heap.size wr u ys ∧ ys.length ≤ j ∧ Hid (ys = (L.take j).filter want) ∧ Below w9.heap.size w9 wr) (fun _ c _ => N - (intOf c).toNat)
      case atStart => exact ⟨0, [], Nat.zero_le _, rfl, OwnX.nil _ _ _ _, Nat.zero_le _, rfl, Below.refl _ _⟩
      case round =>
        obtain ⟨j, ys, hj, rfl, hown, hyl, hys, hbw⟩ := hrel
        obtain rfl : j = N := by omega
        have hn1 : ¬ (j : Int) < 0 := by omega
        have h1 := hys.out
        rw [HN.out, List.take_length] at h1
        have HX := Lib.hid h1
        have hbf := nx hbw9 hbw
        clear h1 hys
        go_wp2_with fail
        go_ret2
        exact ⟨_, by rw [← HX.out]; exact OwnQ.mono hown hszw, hbf, rfl⟩
    · have HC := Lib.hid hc
      unfold maxLen at hm1
      clear hc
      go_wp2_with fail
      go_loopw [7, 25] (fun u c wr => ∃ (j : Nat) (ys : List Pr), j ≤ N ∧ c = .int .i64 j ∧ OwnQ w9.heap.size wr u ys ∧ ys.length ≤ j ∧ Hid (ys = (L.take j).filter want) ∧ Below w9.heap.size w9 wr) (fun _ c _ => N - (intOf c).toNat)
      case atStart => exact ⟨0, [], Nat.zero_le _, rfl, OwnX.nil _ _ _ _, Nat.zero_le _, rfl, Below.refl _ _⟩
      case round =>
        obtain ⟨j, ys, hj, rfl, hown, hyl, hys, hbw⟩ := hrel
        by_cases hlt : j < N
        · obtain ⟨wq, rfl⟩ : ∃ wq, wq = wr := ⟨wr, rfl⟩
          have hlt' : (j : Int) < (N : Int) := by omega
          have hjL : j < L.length := by rw [← HN.out]; exact hlt
          have d1 := (hbw.cell (p := ⟨g, j * 2, none⟩) hgl).trans (HC.out (j * 2) (by omega))
          have d2 := (hbw.cell (p := ⟨g, j * 2 + 1, none⟩) hgl).trans (HC.out (j * 2 + 1) (by omega))
          rw [(flatQ_get L j hjL).1] at d1
          rw [(flatQ_get L j hjL).2] at d2
          obtain ⟨hqo, hq3⟩ := HM.out j hjL
          have hft := filter_take (want := want) hjL
          obtain ⟨q, hq⟩ : ∃ q, q = L.getD j (.lf, .lf) := ⟨_, rfl⟩
          rw [← hq] at d1 d2 hqo hq3 hft
          have HFT := Lib.hid hft
          have hwq := HW.out q
          clear hq hft hjL
          go_wp2_with fail
          have hbn := nxAlloc (Below.refl wq.heap.size wq) (.cells #[.string q.1.str, .string q.2.str] 25 (0, 0))
          have hy := heap_alloc_at wq (.cells #[.string q.1.str, .string q.2.str] 25 (0, 0))
          generalize wq.alloc (.cells #[.string q.1.str, .string q.2.str] 25 (0, 0)) = w4 at *
          have hg4 : wq.heap.size < w4.heap.size := lt_of_block hy
          refine (prUnit_any _).mono ?_; rintro e wu ⟨rfl, hbu⟩
          replace hbn := nxAlloc (nx hbn hbu) (.cells #[.string Tr.lf.str, .string Tr.lf.str] 25 (0, 0))
          replace hy := heap_keep (nxAlloc (Below.refl wu.heap.size wu) (.cells #[.string Tr.lf.str, .string Tr.lf.str] 25 (0, 0))) (heap_keep hbu hy)
          have hz := heap_alloc_at wu (.cells #[.string Tr.lf.str, .string Tr.lf.str] 25 (0, 0))
          have hgg : wq.heap.size < wu.heap.size := by have := hbu.size; omega
          clear hbu d1 d2
          go_wp2_with fail
          go_loopw [11] (fun c wi => ∃ i : Nat, i ≤ k ∧ c = .int .i64 i ∧ wi.heap[wq.heap.size]? = some (.cells #[.string q.1.str, .string q.2.str] 25 (0, 0)) ∧ wi.heap[wu.heap.size]? = some (.cells #[.string (pwU q i).1.str, .string (pwU q i).2.str] 25 (0, 0)) ∧ Below wq.heap.size wq wi) (fun c _ => k - (intOf c).toNat)
          case atStart => exact ⟨0, Nat.zero_le _, rfl, hy, hz, hbn⟩
          case round =>
            clear hy hz hbn
            obtain ⟨i, hi, rfl, hy, hz, hbn⟩ := hrel
            obtain ⟨ya, yb, yc⟩ := two_facts hy
            obtain ⟨za, zb, zc⟩ := two_facts hz
            obtain ⟨zf, zg⟩ := two_frozen hz
            have hpo := pwU_ok hqo i
            have hpc := pwU_carets hqo i
            have hpc2 := Nat.mul_le_mul (Nat.le_trans hi hk4) hq3
            by_cases hik : i < k
            · have hik' : (i : Int) < (k : Int) := by omega
              have TU := fun w => prTimes_any (pwU q i) q w hpo hqo (by omega) (by omega)
              have epw : mulP (pwU q i) q = pwU q (i + 1) := rfl
              rw [epw] at TU
              clear epw
              obtain ⟨S, hS⟩ : ∃ S, S = pwU q (i + 1) := ⟨_, rfl⟩
              rw [← hS] at TU
              have HS := Lib.hid hS
              clear hS
              generalize pwU q i = T at *
              go_wp2_with fail
              refine (TU _).mono ?_; rintro e w2 ⟨rfl, hb2⟩
              replace hy := heap_keep hb2 hy
              replace hz := heap_keep hb2 hz
              replace hbn := nx hbn hb2
              clear ya yb yc za zb zc zf zg hb2
              obtain ⟨zf, zg⟩ := two_frozen hz
              have hz2 := set_two (.string S.1.str) (.string S.2.str) hz
              have hy2 := (Below.heap_setCell (w2.setCell ⟨wu.heap.size, 0, none⟩ (.string S.1.str)) ⟨wu.heap.size, 1, none⟩ (.string S.2.str) wq.heap.size (by show ¬ wq.heap.size = wu.heap.size; omega)).trans ((Below.heap_setCell w2 ⟨wu.heap.size, 0, none⟩ (.string S.1.str) wq.heap.size (by show ¬ wq.heap.size = wu.heap.size; omega)).trans hy)
              have hb3 := (hbn.setCell (p := ⟨wu.heap.size, 0, none⟩) (by show wq.heap.size ≤ wu.heap.size; omega) (.string S.1.str)).setCell (p := ⟨wu.heap.size, 1, none⟩) (by show wq.heap.size ≤ wu.heap.size; omega) (.string S.2.str)
              obtain ⟨za, zb, zc⟩ := two_facts hz
              go_wp2_with fail
              go_roundw
              case rel => exact ⟨i + 1, by omega, by go_num, hy2, by rw [← HS.out]; exact hz2, hb3⟩
              case measure => simp [intOf]; omega
            · obtain rfl : i = k := by omega
              have hown5 := OwnQ.keep hown hbn
              have hbw5 := nx hbw hbn
              have XT := fun w => prText_any (pwU q i) w (by omega) (by have : (pwU q i).1.carets = (pwU q i).2.carets := hpo; omega)
              rw [prS_pTx] at XT
              have hbe : ((pTx (pwU q i)).toList == (pTx R).toList) = want q := by
                rw [hwq]
                by_cases e : pwU q i = R
                · rw [eqPr_true e, e]; simp
                · rw [eqPr_false e, pTx_ne e]
              obtain ⟨cb, hcb2⟩ : ∃ cb, cb = want q := ⟨_, rfl⟩
              rw [← hcb2] at hbe
              have HCB := Lib.hid hcb2
              clear hcb2 hwq hown hbw hbn
              generalize pwU q i = T at *
              go_wp2_with fail
              refine (XT _).mono ?_; rintro e w5 ⟨rfl, hb5⟩
              replace hy := heap_keep hb5 hy
              replace hown5 := OwnQ.keep hown5 hb5
              replace hbw5 := nx hbw5 hb5
              have hsz5 := hbw5.size
              clear ya yb yc za zb zc zf zg hz hb5
              obtain ⟨ya, yb, yc⟩ := two_facts hy
              cases hcc : cb with
              | true =>
                rw [hcc] at hbe HCB
                unfold OwnQ OwnX at hown5
                clear hcc
                go_wp2_with (at_builtin; go_loud (refine wpList_append_own _ rfl _ _ 43 rfl w9.heap.size 25 i0 (.agg #[.string ⟨#[]⟩, .string ⟨#[]⟩]) 2 32 Try.underlying43 hi0 hz0 hz1 hz2 rfl (by decide) _ _ _ rfl (hown5.alloc _) ⟨w5.heap.size, 0, none⟩ 1 1 [.string q.1.str, .string q.2.str] rfl rfl (newsQ _ #[.string q.1.str, .string q.2.str] _) (pr_one _ _) (by unfold maxLen; omega) (by omega) (by simp; omega) ?_); intro v' w6 hown' hgrow hnn)
                have hbw6 := (nxAlloc hbw5 (.cells #[.string q.1.str, .string q.2.str] 25 (0, 0))).grown hgrow (by simp; omega) (fun k hk => ownsRow_ge hown5 k hk)
                have hown6 : OwnQ w9.heap.size w6 v' (ys ++ [q]) := OwnQ.snoc7 hown'
                have hfin : ys ++ [q] = (L.take (j + 1)).filter want := by rw [HFT.out, ← HCB.out, if_pos rfl, hys.out]
                have HX := Lib.hid hfin
                clear hown5 hown' hgrow hbw5 hnn hfin
                go_wp2_with fail
                go_roundw
                case rel => exact ⟨j + 1, _, by omega, by go_num, hown6, by simp; omega, HX, hbw6⟩
                case measure => simp [intOf]; omega
              | false =>
                rw [hcc] at hbe HCB
                have hfin : ys = (L.take (j + 1)).filter want := by rw [HFT.out, ← HCB.out, hys.out]; simp
                have HX := Lib.hid hfin
                clear hcc hfin
                go_wp2_with fail
                go_roundw
                case rel => exact ⟨j + 1, ys, by omega, by go_num, hown5, by omega, HX, hbw5⟩
                case measure => simp [intOf]; omega
        · obtain rfl : j = N := by omega
          have h1 := hys.out
          rw [HN.out, List.take_length] at h1
          have HX := Lib.hid h1
          have hbf := nx hbw9 hbw
          clear h1 hys
          go_wp2_with fail
          go_ret2
          exact ⟨_, by rw [← HX.out]; exact OwnQ.mono hown hszw, hbf, rfl⟩
end Go.Proofs.Ytkpganpojdboeaa

/-! WRootsOf -/
namespace Go.Proofs.Ytkpganpojdboeaa
open Go.RowKit

set_option maxRecDepth 100000 in
set_option maxHeartbeats 1000000 in
theorem fnExactRootsOf_walk (a : ByteArray) (ha : a.size ≤ maxLen) (b : ByteArray) (hb : b.size ≤ maxLen) (n : Int) (hn : (Lit.int .i64 n).wf = true) (w : World) :
    Calls Try.prog 10 #[.agg #[.string a, .string b], .int .i64 n] w fun e w' => e = .returned (.bool true) ∧ Below w.heap.size w w' := by
  unfold maxLen at ha hb
  obtain ⟨lon, hin⟩ := i64_bounds hn
  clear hn
  have hsz := fun w => szPair_any a b w (by omega) (by omega) 1048576 (by omega) (by omega)
  by_cases hz : (a.size : Int) + b.size ≤ 1048576
  rotate_left
  · simp only [if_neg hz] at hsz
    go_enter Try.func10, Try.ntmps10
    go_wp2_with fail
    have hb0 : Below w.heap.size w (w.alloc (.cells #[.string a, .string b] 23 (0, 0))) := nxAlloc (Below.refl _ _) _
    have hx := heap_alloc_at w (.cells #[.string a, .string b] 23 (0, 0))
    generalize w.alloc (.cells #[.string a, .string b] 23 (0, 0)) = w0 at *
    obtain ⟨ka, kb, kc⟩ := two_facts hx
    refine (hsz _).mono ?_; rintro e w1 ⟨rfl, hb1⟩
    go_wp2_with fail
    go_ret
    exact ⟨rfl, nx hb0 hb1⟩
  simp only [if_pos hz] at hsz
  have hS := fun w => specRootsOf_any a b n w (by omega) (by omega) lon hin
  have hI := fun w => implRootsOf_any a b n w (by omega) (by omega) lon hin
  have hn9 := RootsOf_len a b n
  obtain ⟨o, ho⟩ : ∃ o, o = RootsOf_o a b n := ⟨_, rfl⟩
  rw [← ho] at hn9
  simp only [← ho] at hS hI
  clear ho
  obtain ⟨xs, ok, hx9, hk9⟩ : ∃ xs ok, xs = o.getD [] ∧ ok = o.isSome := ⟨_, _, rfl, rfl⟩
  have hS' : ∀ w, Calls Try.prog 36 #[.agg #[.string a, .string b], .int .i64 n] w (AnsQ2 xs ok w) := by rw [hx9, hk9]; exact hS
  have hI' : ∀ w, Calls Try.prog 37 #[.agg #[.string a, .string b], .int .i64 n] w (AnsQ2 xs ok w) := by rw [hx9, hk9]; exact hI
  rw [← hx9] at hn9
  clear hS hI hx9 hk9 o lon hin
  go_enter Try.func10, Try.ntmps10
  go_wp2_with fail
  have hb0 : Below w.heap.size w (w.alloc (.cells #[.string a, .string b] 23 (0, 0))) := nxAlloc (Below.refl _ _) _
  have hx := heap_alloc_at w (.cells #[.string a, .string b] 23 (0, 0))
  generalize w.alloc (.cells #[.string a, .string b] 23 (0, 0)) = w0 at *
  obtain ⟨ka, kb, kc⟩ := two_facts hx
  refine (hsz _).mono ?_; rintro e w1 ⟨rfl, hb1⟩
  have hbw1 := nx hb0 hb1
  replace hx := heap_keep hb1 hx
  clear ka kb kc
  obtain ⟨ka, kb, kc⟩ := two_facts hx
  go_wp2_with fail
  refine (toPair_any a b _).mono ?_; rintro e w2 ⟨rfl, hb2⟩
  have hbw2 := nx hbw1 hb2
  replace hx := heap_keep hb2 hx
  clear ka kb kc
  obtain ⟨ka, kb, kc⟩ := two_facts hx
  go_wp2_with fail
  refine (hS' _).mono ?_; rintro e w3 ⟨v0, own0, hb3, rfl⟩
  have hbw3 := nx hbw2 hb3
  replace hx := heap_keep hb3 hx
  clear ka kb kc
  obtain ⟨ka, kb, kc⟩ := two_facts hx
  go_wp2_with fail
  refine (toPair_any a b _).mono ?_; rintro e w4 ⟨rfl, hb4⟩
  have hbw4 := nx hbw3 hb4
  replace hx := heap_keep hb4 hx
  clear ka kb kc
  obtain ⟨ka, kb, kc⟩ := two_facts hx
  replace own0 := own0.keep hb4
  go_wp2_with fail
  have own04 := own0
  have hx4 := hx
  refine (hI' _).mono ?_; rintro e w5 ⟨v1, own1, hb5, rfl⟩
  have hbw5 := nx hbw4 hb5
  replace hx := heap_keep hb5 hx
  clear ka kb kc
  obtain ⟨ka, kb, kc⟩ := two_facts hx
  replace own0 := own0.keep hb5
  go_wp2_with fail
  refine (eqPairS_any _ _ v1 v0 xs _ own1.cells own0.cells).mono ?_; rintro e w6 ⟨rfl, hb6⟩
  have hbw6 := nx hbw5 hb6
  replace hx := heap_keep hb6 hx
  clear ka kb kc
  obtain ⟨ka, kb, kc⟩ := two_facts hx
  replace own0 := own0.keep hb6
  replace own1 := own1.keep hb6
  go_wp2_with fail
  refine (markPairS_1 w4.heap.size v1 xs _ hn9 (hb5.trans (hb6.mono hb5.size)).size own1).mono ?_; rintro e w7 ⟨rfl, own7, hb7⟩
  have hb47 : Below w4.heap.size w4 w7 := (hb5.trans (hb6.mono hb5.size)).trans hb7
  have hbw7 := nx hbw4 hb47
  clear own0 own1
  have own0 := own04.keep hb47
  clear hx ka kb kc
  have hx := heap_keep hb47 hx4
  clear hx4
  obtain ⟨ka, kb, kc⟩ := two_facts hx
  clear own04 hb47 hb7
  go_wp2_with fail
  refine (heldPairS_1 w4.heap.size v1 xs.length _ hn9 own7.cells).mono ?_; rintro e w8 ⟨rfl, hb8⟩
  have hbw8 := nx hbw7 hb8
  replace hx := heap_keep hb8 hx
  clear ka kb kc
  obtain ⟨ka, kb, kc⟩ := two_facts hx
  replace own0 := own0.keep hb8
  replace own7 := own7.keep hb8
  go_wp2_with fail
  refine (toPair_any a b _).mono ?_; rintro e w9 ⟨rfl, hb9⟩
  have hbw9 := nx hbw8 hb9
  replace hx := heap_keep hb9 hx
  clear ka kb kc
  obtain ⟨ka, kb, kc⟩ := two_facts hx
  replace own0 := own0.keep hb9
  replace own7 := own7.keep hb9
  go_wp2_with fail
  refine (hI' _).mono ?_; rintro e w10 ⟨v2, own2, hb10, rfl⟩
  have hbw10 := nx hbw9 hb10
  replace hx := heap_keep hb10 hx
  clear ka kb kc
  obtain ⟨ka, kb, kc⟩ := two_facts hx
  replace own0 := own0.keep hb10
  replace own7 := own7.keep hb10
  go_wp2_with fail
  refine (eqPairS_any _ _ v2 v0 xs _ own2.cells own0.cells).mono ?_; rintro e w11 ⟨rfl, hb11⟩
  have hbw11 := nx hbw10 hb11
  replace hx := heap_keep hb11 hx
  clear ka kb kc
  obtain ⟨ka, kb, kc⟩ := two_facts hx
  replace own7 := own7.keep hb11
  go_wp2_with fail
  refine (heldPairS_1 w4.heap.size v1 xs.length _ hn9 own7.cells).mono ?_; rintro e w12 ⟨rfl, hb12⟩
  have hbw12 := nx hbw11 hb12
  replace hx := heap_keep hb12 hx
  clear ka kb kc
  obtain ⟨ka, kb, kc⟩ := two_facts hx
  go_wp2_with fail
  go_ret
  exact ⟨rfl, hbw12⟩
end Go.Proofs.Ytkpganpojdboeaa

/-! LFnExactRootsOf -/
namespace Go.Proofs.Ytkpganpojdboeaa.fnExactRootsOf
open Go.ChangeShapes Go.WideShapes Go.ChangeAt Go.RowKit
open Go.ChangeMaps (open_string shut_string)
open Go.Joins (open_agg2 shut_agg2)
set_option linter.unusedVariables false

theorem cellsPair : Try.prog.cellsOf 23 = 2 := by kernel_rfl
theorem own : ownKnob Try.prog.godebug = none := by kernel_rfl
theorem laidOut : laidOutB Try.prog = true := by kernel_rfl

set_option maxRecDepth 100000 in
theorem lifted (os : Os) (started : os.Started) (H : Type) (enc : TypeId × Value → H) :
    ReturnsInHanded {} Try.checked os 10 .any (Rows.fnExactRootsOfSpec.pre6 enc Try.prog Try.f10 Rows.fnExactRootsOfRow.domain false) (Rows.fnExactRootsOfSpec.post enc Try.prog Try.f10 false true false false) := by
  refine returnsInHanded_of_change (C := Try.checked) own started (by kernel_rfl) Try.func10
    (ChangeSpec.witness6 (enc := enc) (C := Try.checked) false ⟨#[], #[.agg #[.string ByteArray.empty, .string ByteArray.empty], .int .i64 0], []⟩ 8 (by kernel_rfl) (by kernel_rfl) (by kernel_rfl) (by kernel_rfl)) ?_
  intro W base args ds gs before hval0 hW hcnd _
  have hval : ∀ (j : Nat) t v, Try.f10.params[j]? = some t → args[j]? = some v → Value.okWide Try.prog W .any base t v := hval0
  have hW' := hW
  obtain ⟨p, q, hA0, hV, rfl, hfz, hnd⟩ := hW
  have hA : DataW.TrodAll enc Try.prog W 0 (fun _ => true) true Try.f10.params.toList args.toList ds p := hA0
  rw [Try.params10] at hA hval
  obtain ⟨v0, vs0, d0, ds0, p0, q0, hargs, rfl, rfl, h0, r0⟩ := trodAll_cons hA
  obtain ⟨v1, vs1, d1, ds1, p1, q1, rfl, rfl, rfl, h1, r1⟩ := trodAll_cons r0
  obtain ⟨rfl, rfl, rfl⟩ := trodAll_nil r1
  obtain rfl : args = #[v0, v1] := by cases args; simp_all
  obtain ⟨rfl, rfl⟩ := trodVars_none hV
  obtain ⟨c0a, c0b, y0a, y0b, m0, rfl, rfl, rfl, hy0a, hy0b⟩ := open_agg2 Try.underlying23 (by kernel_rfl) cellsPair (hval 0 23 v0 rfl rfl) h0
  obtain ⟨a0a, e0a, rfl, w0a⟩ := DataW.trod_string Try.underlying9 hy0a
  obtain ⟨a0b, e0b, rfl, w0b⟩ := DataW.trod_string Try.underlying9 hy0b
  simp at e0a e0b
  subst e0a e0b
  obtain ⟨a1, rfl, rfl, rfl, w1⟩ := open_int Try.underlying3 (hval 1 3 v1 rfl rfl) h1
  clear hA0 hval0
  simp only [List.append_nil] at hW'
  refine (fnExactRootsOf_walk a0a w0a a0b w0b a1 w1 W).mono fun e W' ⟨he, bel⟩ => ?_
  subst he
  exact ⟨_, rfl, _, _, _, [], _, [], hW', trodAll_mk1 (shut_bool Try.underlying4 _), (trodAll_cons_mk (shut_agg2 (y0 := (.lit (.string a0a.data.toList), [])) (y1 := (.lit (.string a0b.data.toList), [])) Try.underlying23 (by kernel_rfl) cellsPair (Go.Deep.shut_string_cell Try.underlying9 w0a) (Go.Deep.shut_string_cell Try.underlying9 w0b)) (trodAll_cons_mk (shut_int Try.underlying3 w1) trodAll_mk0)), rfl, bel.frame _, fun h => by cases h⟩

theorem over : Rows.fnExactRootsOfRow.holds Try.pinned (OpenSpec.ofChange Rows.fnExactRootsOfSpec) :=
  OpenClaim.holds_of_wide 10 Try.f10 rfl rfl rfl rfl rfl rfl rfl ⟨rfl, rfl, rfl, rfl, rfl⟩ rfl rfl rfl rfl rfl (by kernel_rfl) Try.func10 (by kernel_rfl)
    (of_decide_eq_true (by kernel_rfl)) (by unfold Func.isWrapper; first | (rw [if_pos (by decide +kernel)]; kernel_rfl) | (rw [if_neg (by decide +kernel)]; exact ⟨rfl, rfl⟩))
    (fun os started H enc _ => lifted os started H enc)

theorem proved : Rows.FnExactRootsOfSaid := over
#print axioms proved
end Go.Proofs.Ytkpganpojdboeaa.fnExactRootsOf
