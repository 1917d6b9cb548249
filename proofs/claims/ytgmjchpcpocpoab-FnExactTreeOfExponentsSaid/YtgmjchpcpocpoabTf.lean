/- Walk: spec.wdForest. -/
import Derived.Test.YtgmjchpcpocpoabTeS
import Derived.Test.YtgmjchpcpocpoabQuiet
namespace Go.Proofs.Ytgmjchpcpocpoab
open Go.RowKit

theorem app_below {wq w1 w2 : World} {o : Obj} {e : TypeId} {size : Nat} {v : Value} {n : Nat} {xs : List Value} (h : Below wq.heap.size wq w1) (hown : (w1.alloc o).ownsRow wq.heap.size e size v n xs) (hg : (w1.alloc o).grownBy w2 v.ownBlock) : Below wq.heap.size wq w2 :=
  (h.alloc h.size o).grown hg (by have := h.size; simp; omega) (fun k hk => ownsRow_ge hown k hk)
theorem toN_take {L : List Int} {k : Nat} (h : k < L.length) : (toN (L.take (k + 1))).sum = (toN (L.take k)).sum + (L.getD k 0).toNat := by
  unfold toN
  rw [List.take_succ_eq_append_getElem h, List.map_append, List.sum_append]
  simp [h]
theorem toN_drop {L : List Int} {k : Nat} (h : k < L.length) : (toN L).drop k = (L.getD k 0).toNat :: (toN L).drop (k + 1) := by
  unfold toN
  rw [← List.map_drop, ← List.map_drop, List.drop_eq_getElem_cons h, List.map_cons]
  simp [h]
theorem sum_drop_le (L : List Nat) (k : Nat) : (L.drop k).sum ≤ L.sum := by
  have := congrArg List.sum (List.take_append_drop k L)
  rw [List.sum_append] at this; omega
theorem leaf_strs (n : Nat) : strs (List.replicate n Tr.lf) = List.replicate n ⟨#[46]⟩ := by simp [strs, Tr.str, Tr.text]

/-- One join of the model. -/
theorem round_list (k a : Nat) (S : List Tr) (ha : a + 1 < (Tr.lf :: S).length) : ∃ t u r, joinJ a (Tr.lf :: S) = t :: u :: r ∧
    (List.replicate k Tr.lf ++ joinJ a (Tr.lf :: S))[k]? = some t ∧ (List.replicate k Tr.lf ++ joinJ a (Tr.lf :: S))[k + 1]? = some u ∧
    (List.replicate k Tr.lf ++ joinJ a (Tr.lf :: S)).take k = List.replicate k Tr.lf ∧ (List.replicate k Tr.lf ++ joinJ a (Tr.lf :: S)).drop (k + 2) = r ∧
    List.replicate k Tr.lf ++ joinJ (a + 1) (Tr.lf :: S) = List.replicate k Tr.lf ++ .nd t u :: r := by
  have hl := joinJ_length a (Tr.lf :: S) (by omega)
  match hj : joinJ a (Tr.lf :: S) with
  | [] => rw [hj] at hl; simp at hl ha; omega
  | [x] => rw [hj] at hl; simp at hl ha; omega
  | t :: u :: r =>
    refine ⟨t, u, r, rfl, by simp, by rw [List.getElem?_append_right (by simp)]; simp, by simp, ?_, ?_⟩
    · rw [List.drop_append]; simp
    · rw [joinJ_succ a _ t u r hj (by omega)]

/-- The model's trees on its way: k leaves ahead of what the exponents behind them tell. -/
def fT (L : List Int) (S k : Nat) : List Tr := List.replicate k Tr.lf ++ stackD (S + 1) ((toN L).drop k)
def gT (k : Nat) (R : List Tr) (a : Nat) : List Tr := List.replicate k Tr.lf ++ joinJ a (Tr.lf :: R)

set_option maxRecDepth 100000 in
set_option maxHeartbeats 4000000 in
theorem wdForest_any (v : Value) (b1 : Nat) (L : List Int) (w : World) (hv : CellsI b1 w v L) (hp : ∀ x ∈ L, 0 ≤ x ∧ x ≤ 8) (hn : L.length ≤ 9) :
    Calls Try.prog 49 #[v] w (GivesTexts (strs (stackD ((toN L).sum + 1) (toN L))) w) := by
  obtain ⟨i0, hi, hz0, hz1, hz2⟩ := info_parts info_str
  have hsum := toN_sum hp
  obtain ⟨oa, cap, rfl, hcl, hcm, hcc⟩ := hv.form
  unfold maxLen at hcm
  clear hv
  have HC := Lib.hid hcc
  have HP := Lib.hid hp
  obtain ⟨S, hS⟩ : ∃ S, S = (toN L).sum := ⟨_, rfl⟩
  rw [← hS] at hsum ⊢
  have HS := Lib.hid hS
  clear hcc hp hS
  go_enter Try.func49, Try.ntmps49
  go_wp2_with fail
  go_loop [4, 17] (fun n i => ∃ k : Nat, i = .int .i64 k ∧ k ≤ L.length ∧ n = .int .i64 ((L.length + 1 + (toN (L.take k)).sum : Nat) : Int) ∧ (toN (L.take k)).sum ≤ 8 * k) (fun _ i => L.length - (intOf i).toNat)
  case atStart => exact ⟨0, rfl, Nat.zero_le _, by simp [toN], by simp [toN]⟩
  case round =>
    obtain ⟨k, rfl, hk, rfl, hsk⟩ := hrel
    by_cases hlt : k < L.length
    · have hlt' : (k : Int) < (L.length : Int) := by omega
      obtain ⟨g, rfl, _, _, c1⟩ := HC.out k hlt
      have hxm : L.getD k 0 ∈ L := by rw [List.getD_eq_getElem?_getD, List.getElem?_eq_getElem hlt]; exact List.getElem_mem _
      obtain ⟨hx1, hx2⟩ := HP.out _ hxm
      have hstep := toN_take hlt
      generalize L.getD k 0 = x at c1 hx1 hx2 hstep
      obtain ⟨y, rfl⟩ : ∃ y : Nat, x = y := ⟨x.toNat, by omega⟩
      rw [Int.toNat_natCast] at hstep
      have HT := Lib.hid hstep
      generalize (toN (L.take k)).sum = s at *
      clear hxm hstep
      go_wp2_with fail
      go_round
      case rel => exact ⟨k + 1, by go_num, by omega, by rw [HT.out]; go_num, by rw [HT.out]; omega⟩
      case measure => simp [intOf]; omega
    · obtain rfl : k = L.length := by omega
      rw [List.take_length, ← HS.out]
      clear hsk hlt hk
      obtain ⟨M, hM⟩ : ∃ M, M = L.length + 1 + S := ⟨_, rfl⟩
      have hM2 : M ≤ 100 := by omega
      rw [← hM]
      have HM := Lib.hid hM
      clear hM
      go_wp2_with fail
      go_loopw [3, 7] (fun t i wr => ∃ k : Nat, i = .int .i64 k ∧ k ≤ M ∧ OwnS w.heap.size wr t (List.replicate k ⟨#[46]⟩) ∧ Below w.heap.size w wr) (fun _ i _ => M - (intOf i).toNat)
      case atStart => exact ⟨0, rfl, Nat.zero_le _, OwnS.nil _ _, Below.refl _ _⟩
      case round =>
        obtain ⟨k, rfl, hk, hown, hbw⟩ := hrel
        by_cases hlt : k < M
        · have hlt' : (k : Int) < (M : Int) := by omega
          unfold OwnS at hown
          rw [List.length_replicate] at hown
          go_wp2_with (at_builtin; refine wpList_append_own _ rfl _ _ 36 rfl w.heap.size 9 i0 (.string ⟨#[]⟩) 1 16 Try.underlying36 hi hz0 hz1 hz2 rfl (by decide) _ _ _ rfl (hown.alloc _) ⟨wr.heap.size, 0, none⟩ 1 1 [.string ⟨#[46]⟩] rfl rfl (new1 _ _ _) (oneS1 _) (by unfold maxLen; omega) (by omega) (size_al hbw _) ?_; intro v' w1 hown' hgrow hnn)
          have hbw' := below_app hbw hown (Nat.le_refl _) hgrow
          have hown1 : OwnS w.heap.size w1 v' (List.replicate (k + 1) ⟨#[46]⟩) := by
            unfold OwnS
            rw [List.replicate_succ', List.length_append, List.length_replicate, List.map_append]
            exact hown'
          clear hown hown' hgrow hbw hnn
          go_wp2_with fail
          go_roundw
          case rel => exact ⟨k + 1, by go_num, by omega, hown1, hbw'⟩
          case measure => simp [intOf]; omega
        · have hkM : ¬ ((k : Int) < (M : Int)) := by omega
          obtain rfl : k = M := by omega
          rw [← leaf_strs] at hown
          have h0 : List.replicate k Tr.lf = fT L S L.length := by
            unfold fT
            rw [List.drop_of_length_le (by rw [toN_length]; exact Nat.le_refl _)]
            show _ = List.replicate L.length Tr.lf ++ List.replicate (S + 1) Tr.lf
            rw [List.replicate_append_replicate, HM.out, Nat.add_assoc, Nat.add_comm 1 S]
          rw [h0] at hown
          obtain ⟨g, cap2, hv⟩ := hown.shape (by rw [strs_length, ← h0]; have := HM.out; simp; omega)
          rw [strs_length] at hv
          subst hv
          clear h0 hM2 hk
          go_wp2_with fail
          go_loopw [3, 8] (fun t i wr => ∃ (k g cap : Nat), i = .int .i64 ((k : Int) - 1) ∧ k ≤ L.length ∧ t = .slice (some ⟨g, 0, none⟩) (fT L S k).length cap ∧ OwnS w.heap.size wr (.slice (some ⟨g, 0, none⟩) (fT L S k).length cap) (strs (fT L S k)) ∧ Below w.heap.size w wr) (fun _ i _ => (intOf i + 1).toNat)
          case atStart => exact ⟨L.length, g, cap2, rfl, Nat.le_refl _, rfl, hown, hbw⟩
          case round =>
            clear hown hbw
            obtain ⟨k, g, cap3, rfl, hk, rfl, hown, hbw⟩ := hrel
            cases k with
            | zero =>
              rw [show ((0 : Nat) : Int) - 1 = -1 from rfl]
              have hf : fT L S 0 = stackD (S + 1) (toN L) := rfl
              rw [hf] at hown ⊢
              have hlen : (stackD (S + 1) (toN L)).length = (strs (stackD (S + 1) (toN L))).length := (strs_length _).symm
              have HF : Hid (GivesTexts (strs (stackD (S + 1) (toN L))) w (.returned (.slice (some ⟨g, 0, none⟩) (stackD (S + 1) (toN L)).length cap3)) wr) := ⟨g, cap3, by rw [← hlen]; exact hown, hbw, by rw [← hlen]⟩
              clear hf hlen hown hbw
              go_wp2_with fail
              go_ret
              exact HF.out
            | succ k =>
              rw [show ((k + 1 : Nat) : Int) - 1 = (k : Int) by omega]
              have hd1 : (0 : Int) ≤ (k : Int) := by omega
              have hkl : k < L.length := by omega
              have hkl' : (k : Int) < (L.length : Int) := by omega
              obtain ⟨gL, rfl, _, hgl, c1⟩ := HC.out k hkl
              have hxm : L.getD k 0 ∈ L := by rw [List.getD_eq_getElem?_getD, List.getElem?_eq_getElem hkl]; exact List.getElem_mem _
              obtain ⟨hx1, hx2⟩ := HP.out _ hxm
              have hdr := toN_drop hkl
              have hS2 : ((toN L).drop k).sum ≤ S := by have := sum_drop_le (toN L) k; rw [← HS.out] at this; exact this
              generalize L.getD k 0 = x at c1 hx1 hx2 hdr
              obtain ⟨y, rfl⟩ : ∃ y : Nat, x = y := ⟨x.toNat, by omega⟩
              rw [Int.toNat_natCast] at hdr
              obtain ⟨R, hR⟩ : ∃ R, R = stackD (S + 1) ((toN L).drop (k + 1)) := ⟨_, rfl⟩
              have hRl : R.length + ((toN L).drop (k + 1)).sum = S + 1 + (L.length - (k + 1)) := by
                have h9 := stackD_length (S + 1) ((toN L).drop (k + 1)) (by rw [hdr, List.sum_cons] at hS2; omega)
                rw [← hR, List.length_drop, toN_length] at h9
                exact h9
              have hRs : sumT R ≤ 100 := by
                rw [hR, sumT_stack _ _ (by rw [hdr, List.sum_cons] at hS2; omega)]
                rw [hdr, List.sum_cons] at hS2; omega
              rw [hdr, List.sum_cons] at hS2
              have hgo : fT L S (k + 1) = gT k R 0 := by
                unfold fT gT
                rw [← hR, joinJ, List.replicate_succ', List.append_assoc]; rfl
              have hend : gT k R y = fT L S k := by
                unfold fT gT
                rw [hdr, stackD, ← hR]
              have hylt : y < R.length := by omega
              have hR100 : R.length ≤ 100 := by omega
              rw [hgo] at hown ⊢
              have HEND := Lib.hid hend
              clear hxm hdr hS2 hR hRl hgo hend
              go_wp2_with fail
              go_loopw [3, 9] (fun t i wr => ∃ (a g cap : Nat), i = .int .i64 a ∧ a ≤ y ∧ t = .slice (some ⟨g, 0, none⟩) (gT k R a).length cap ∧ OwnS w.heap.size wr (.slice (some ⟨g, 0, none⟩) (gT k R a).length cap) (strs (gT k R a)) ∧ Below w.heap.size w wr) (fun _ i _ => y - (intOf i).toNat)
              case atStart => exact ⟨0, g, cap3, rfl, Nat.zero_le _, rfl, hown, hbw⟩
              case round =>
                clear hown hbw
                obtain ⟨a, g, cap4, rfl, ha, rfl, hown, hbw⟩ := hrel
                have cL := (hbw.cell (p := ⟨gL, k, none⟩) hgl).trans c1
                by_cases hlt : a < y
                · have hlt' : (a : Int) < (y : Int) := by omega
                  obtain ⟨t, u, r, hj, h1, h2, h3, h4, h5⟩ := round_list k a R (by simp; omega)
                  have hlen0 := joinJ_length a (Tr.lf :: R) (by simp; omega)
                  have hgl2 : (gT k R a).length = k + (joinJ a (Tr.lf :: R)).length := by simp [gT]
                  have hsm := sumT_join a (Tr.lf :: R) (by simp; omega)
                  rw [sumT_cons] at hsm
                  rw [hj] at hsm
                  rw [sumT_cons, sumT_cons] at hsm
                  simp only [Tr.carets] at hsm
                  have hO := fun w => trOf_any t u w (by omega)
                  obtain ⟨T, hT⟩ : ∃ T, T = gT k R a := ⟨_, rfl⟩
                  have hfin : gT k R (a + 1) = List.replicate k Tr.lf ++ Tr.nd t u :: r := h5
                  rw [← show T = List.replicate k Tr.lf ++ joinJ a (Tr.lf :: R) from hT] at h1 h2 h3 h4
                  rw [← hT] at hgl2 hown ⊢
                  have hTl : T.length = k + (r.length + 2) := by rw [hgl2, hj]; simp
                  have hTb : T.length ≤ 300 := by simp at hlen0; omega
                  have k1 := CellsS.at1 hown.cells (i := k) (t := t.str) (by unfold strs; rw [List.getElem?_map, h1]; rfl)
                  have k2 := CellsS.at1 hown.cells (i := k + 1) (t := u.str) (by unfold strs; rw [List.getElem?_map, h2]; rfl)
                  have hrow : wr.ownsRow w.heap.size 9 1 (.slice (some ⟨g, 0, none⟩) T.length cap4) T.length ((strs T).map Value.string) := by
                    have h9 := hown
                    unfold OwnS at h9
                    rwa [strs_length] at h9
                  have hcap : T.length ≤ cap4 ∧ cap4 ≤ maxLen := by
                    rcases hown.cells with ⟨h9, _⟩ | ⟨g', cap', h9, _, _, h10, h11, _⟩
                    · cases h9
                    · injection h9 with _ _ h9; subst h9; rw [strs_length] at h10; exact ⟨h10, h11⟩
                  obtain ⟨hcap1, hcap2⟩ := hcap
                  unfold maxLen at hcap2
                  have e1 : IntKind.i64.wrap ((k : Int) + 1) = (k : Int) + 1 := by rw [IntKind.wrap_i64] <;> omega
                  have e2 : (k : Int) < (T.length : Int) := by omega
                  have e3 : (k : Int) + 1 < (T.length : Int) := by omega
                  have tA : ((strs T).map Value.string).take k = (strs (List.replicate k Tr.lf)).map Value.string := by
                    rw [← h3]; simp [strs]
                  have tC : ((strs T).map Value.string).drop (k + 2) = (strs r).map Value.string := by
                    rw [← h4]; simp [strs]
                  have HFIN := Lib.hid hfin
                  have HTL := Lib.hid hTl
                  have hrl : r.length ≤ 300 := by omega
                  have hk2 : k + 2 ≤ cap4 := by omega
                  have HROW := Lib.hid hrow
                  have HA := Lib.hid tA
                  have HCC := Lib.hid tC
                  have hTk : k + 2 ≤ T.length := by omega
                  generalize T.length = m at *
                  clear hj h1 h2 h3 h4 h5 hlen0 hgl2 hsm hT hfin hTl hown hrow tA tC
                  go_wp2_with fail
                  go_quiet ((go_at_call 86; exact quiet_eq (hO _)))
                  obtain ⟨wq, hwq⟩ : ∃ wq, wq = wr.drewN nq := ⟨_, rfl⟩
                  rw [← hwq]
                  have hbq : Below w.heap.size w wq := by rw [hwq]; exact drewB hbw _
                  have hrq : wq.ownsRow w.heap.size 9 1 (.slice (some ⟨g, 0, none⟩) m cap4) m ((strs T).map Value.string) := by rw [hwq]; exact HROW.out
                  clear hwq hbw HROW k1 k2 e1 hO cL c1
                  have hE := ownsRow_empty wq 9
                  have hbE := nxAlloc (Below.refl wq.heap.size wq) (.cells #[] 9 (0, 0))
                  have sA := (src_take hrq k (by omega) cap4).keep hbE
                  rw [HA.out] at sA
                  have hone1 := oneStrs (strs (List.replicate k Tr.lf))
                  have hone2 := oneStrs (strs r)
                  have hl1 : ((strs (List.replicate k Tr.lf)).map Value.string).length = k := by simp [strs]
                  have hl2 : ((strs r).map Value.string).length = r.length := by simp [strs]
                  obtain ⟨J, hJ⟩ : ∃ J, J = (Tr.nd t u).str := ⟨_, rfl⟩
                  rw [← hJ]
                  have HJ := Lib.hid hJ
                  clear hJ
                  by_cases hcap : cap4 = k + 2
                  · have sC : SrcV wq (.slice (some ⟨g, 0, none⟩) (k + 2 - (k + 2)) (k + 2 - (k + 2))) ((strs r).map Value.string) := by
                      have hr0 : r = [] := List.length_eq_zero_iff.1 (by have := HTL.out; omega)
                      rw [hr0, Nat.sub_self]
                      exact src_end _ _ (fun h => by cases h)
                    obtain rfl : m = k + 2 := by omega
                    subst hcap
                    have hya : ∃ YA, YA = (strs (List.replicate k Tr.lf)).map Value.string := ⟨_, rfl⟩
                    obtain ⟨YA, hya⟩ := hya
                    have hyc : ∃ YC, YC = (strs r).map Value.string := ⟨_, rfl⟩
                    obtain ⟨YC, hyc⟩ := hyc
                    rw [← hya] at sA hone1 hl1
                    rw [← hyc] at sC hone2 hl2
                    have HYA : Hid ((strs (List.replicate k Tr.lf)).map Value.string = YA) := hya.symm
                    have HYC : Hid ((strs r).map Value.string = YC) := hyc.symm
                    clear hya hyc
                    go_wp2_with (first | (at_builtin; refine wpList_appSrc rfl (.tmp 58) (.tmp 61) 36 rfl wq.heap.size 9 i0 (.string ⟨#[]⟩) 16 Try.underlying36 hi hz0 hz1 hz2 rfl _ 0 _ rfl hE _ _ rfl sA hone1 (by unfold maxLen; omega) (by omega) (by simp) ?_; intro v1 w1 o1 b1 n1; have b01 := hbE.trans b1; have z1 := b01.size) | (at_builtin; refine wpList_append_own _ rfl (.tmp 62) (.tmp 64) 36 rfl wq.heap.size 9 i0 (.string ⟨#[]⟩) 1 16 Try.underlying36 hi hz0 hz1 hz2 rfl (by decide) _ _ _ rfl (o1.alloc _) ⟨w1.heap.size, 0, none⟩ 1 1 [.string J] rfl rfl (new1 _ _ _) (oneS1 _) (by unfold maxLen; omega) (by omega) (by simp; omega) ?_; intro v2 w2 o2 g2 n2; have b2 := app_below b01 (o1.alloc _) g2; have sC2 := sC.keep b2; have z2 := b2.size) | (at_builtin; refine wpList_appSrc rfl (.tmp 66) (.tmp 70) 36 rfl wq.heap.size 9 i0 (.string ⟨#[]⟩) 16 Try.underlying36 hi hz0 hz1 hz2 rfl _ _ _ rfl o2 _ _ rfl sC2 hone2 (by unfold maxLen; omega) (by omega) z2 ?_; intro v3 w3 o3 b3 n3))
                    have hfin : ∃ g9 cap9, v3 = .slice (some ⟨g9, 0, none⟩) (gT k R (a + 1)).length cap9 ∧ OwnS w.heap.size w3 (.slice (some ⟨g9, 0, none⟩) (gT k R (a + 1)).length cap9) (strs (gT k R (a + 1))) := by
                      obtain ⟨g9, cap9, rfl, _⟩ := row_shape o3 (fun h => by have := (n2.1 (n3 h)).1; have := n1 this; cases this)
                      have hlen : (gT k R (a + 1)).length = 0 + YA.length + 1 + YC.length := by rw [HFIN.out, hl1, hl2]; simp; omega
                      refine ⟨g9, cap9, by rw [hlen], ?_⟩
                      unfold OwnS
                      rw [strs_length, hlen]
                      have hm : (strs (gT k R (a + 1))).map Value.string = [] ++ YA ++ [.string J] ++ YC := by
                        rw [HFIN.out, HJ.out, ← HYA.out, ← HYC.out]; simp [strs]
                      rw [hm]
                      exact ownsRow_mono o3 hbq.size
                    obtain ⟨g9, cap9, hv9, ho9⟩ := hfin
                    have hb9 : Below w.heap.size w w3 := nx hbq (b2.trans b3)
                    clear o3 b3 n3 o2 n2 g2 o1 n1 b1 sC2 sC sA hE hbE b01 b2 hrq hbq
                    subst hv9
                    go_wp2_with fail
                    go_roundw
                    case rel => exact ⟨a + 1, g9, cap9, by go_num, by omega, rfl, ho9, hb9⟩
                    case measure => first | (simp [intOf]; done) | (simp [intOf]; omega)
                  · have sC := src_drop hrq (k + 2) hTk (cap4 - (k + 2))
                    rw [HCC.out] at sC
                    have hya : ∃ YA, YA = (strs (List.replicate k Tr.lf)).map Value.string := ⟨_, rfl⟩
                    obtain ⟨YA, hya⟩ := hya
                    have hyc : ∃ YC, YC = (strs r).map Value.string := ⟨_, rfl⟩
                    obtain ⟨YC, hyc⟩ := hyc
                    rw [← hya] at sA hone1 hl1
                    rw [← hyc] at sC hone2 hl2
                    have HYA : Hid ((strs (List.replicate k Tr.lf)).map Value.string = YA) := hya.symm
                    have HYC : Hid ((strs r).map Value.string = YC) := hyc.symm
                    clear hya hyc
                    go_wp2_with (first | (at_builtin; refine wpList_appSrc rfl (.tmp 58) (.tmp 61) 36 rfl wq.heap.size 9 i0 (.string ⟨#[]⟩) 16 Try.underlying36 hi hz0 hz1 hz2 rfl _ 0 _ rfl hE _ _ rfl sA hone1 (by unfold maxLen; omega) (by omega) (by simp) ?_; intro v1 w1 o1 b1 n1; have b01 := hbE.trans b1; have z1 := b01.size) | (at_builtin; refine wpList_append_own _ rfl (.tmp 62) (.tmp 64) 36 rfl wq.heap.size 9 i0 (.string ⟨#[]⟩) 1 16 Try.underlying36 hi hz0 hz1 hz2 rfl (by decide) _ _ _ rfl (o1.alloc _) ⟨w1.heap.size, 0, none⟩ 1 1 [.string J] rfl rfl (new1 _ _ _) (oneS1 _) (by unfold maxLen; omega) (by omega) (by simp; omega) ?_; intro v2 w2 o2 g2 n2; have b2 := app_below b01 (o1.alloc _) g2; have sC2 := sC.keep b2; have z2 := b2.size) | (at_builtin; refine wpList_appSrc rfl (.tmp 66) (.tmp 70) 36 rfl wq.heap.size 9 i0 (.string ⟨#[]⟩) 16 Try.underlying36 hi hz0 hz1 hz2 rfl _ _ _ rfl o2 _ _ rfl sC2 hone2 (by unfold maxLen; omega) (by omega) z2 ?_; intro v3 w3 o3 b3 n3))
                    have hfin : ∃ g9 cap9, v3 = .slice (some ⟨g9, 0, none⟩) (gT k R (a + 1)).length cap9 ∧ OwnS w.heap.size w3 (.slice (some ⟨g9, 0, none⟩) (gT k R (a + 1)).length cap9) (strs (gT k R (a + 1))) := by
                      obtain ⟨g9, cap9, rfl, _⟩ := row_shape o3 (fun h => by have := (n2.1 (n3 h)).1; have := n1 this; cases this)
                      have hlen : (gT k R (a + 1)).length = 0 + YA.length + 1 + YC.length := by rw [HFIN.out, hl1, hl2]; simp; omega
                      refine ⟨g9, cap9, by rw [hlen], ?_⟩
                      unfold OwnS
                      rw [strs_length, hlen]
                      have hm : (strs (gT k R (a + 1))).map Value.string = [] ++ YA ++ [.string J] ++ YC := by
                        rw [HFIN.out, HJ.out, ← HYA.out, ← HYC.out]; simp [strs]
                      rw [hm]
                      exact ownsRow_mono o3 hbq.size
                    obtain ⟨g9, cap9, hv9, ho9⟩ := hfin
                    have hb9 : Below w.heap.size w w3 := nx hbq (b2.trans b3)
                    clear o3 b3 n3 o2 n2 g2 o1 n1 b1 sC2 sC sA hE hbE b01 b2 hrq hbq
                    subst hv9
                    go_wp2_with fail
                    go_roundw
                    case rel => exact ⟨a + 1, g9, cap9, by go_num, by omega, rfl, ho9, hb9⟩
                    case measure => first | (simp [intOf]; done) | (simp [intOf]; omega)
                · obtain rfl : a = y := by omega
                  rw [HEND.out] at hown ⊢
                  go_wp2_with fail
                  go_roundw
                  case rel => exact ⟨k, g, cap4, rfl, by omega, rfl, hown, hbw⟩
                  case measure => first | (simp [intOf]; done) | (simp [intOf]; omega)
end Go.Proofs.Ytgmjchpcpocpoab
