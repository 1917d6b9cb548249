/- Walk: spec.trList, the trees as they are made (before they are sorted). -/
import Derived.Test.YtgmjchpcpocpoabParseI
import Derived.Test.YtgmjchpcpocpoabOrdP
import Derived.Test.YtgmjchpcpocpoabSpecTr
import Derived.Maps.AppendAt
import Derived.Test.YtgmjchpcpocpoabTailS
namespace Go.Proofs.Ytgmjchpcpocpoab
open Go.RowKit

def trTexts (n : Nat) : List ByteArray := (treesN n).map Tr.str
theorem trTexts_pos (n : Nat) (h : n ≤ 8) : 0 < (trTexts n).length := by
  obtain ⟨t, ht⟩ : ∃ t : Tr, t.carets = n := ⟨treeAt n 0, by
    have hp : 0 < listsN 1 n := by
      have : ∀ n, n ≤ 8 → 0 < listsN 1 n := by decide
      exact this n h
    have := treesN_get n 0 h hp
    exact (mem_treesN n _).1 (List.mem_of_getElem? this)⟩
  have := (mem_treesN n t).2 ht
  unfold trTexts
  rw [List.length_map]
  exact List.length_pos_of_mem this

/-- The trees with a left tree l, as they are made. -/
def rowG (l : Tr) (rs : List Tr) : List Tr := rs.map fun r => .nd l r
def rowF (m i : Nat) : List Tr := (treesN i).flatMap fun l => rowG l (treesN (m - i))
theorem rawT_rows (m : Nat) : rawT m = (List.range' 0 (m + 1)).flatMap (rowF m) := by
  rw [← List.range_eq_range']; rfl
theorem rowF_at {m i : Nat} (k : Nat) {t : Tr} (h : (treesN i)[k]? = some t) : ((treesN i).drop k).flatMap (fun l => rowG l (treesN (m - i))) = rowG t (treesN (m - i)) ++ ((treesN i).drop (k + 1)).flatMap fun l => rowG l (treesN (m - i)) := by
  obtain ⟨hk, rfl⟩ := List.getElem?_eq_some_iff.1 h
  rw [List.drop_eq_getElem_cons hk, List.flatMap_cons]

theorem treesN_small (n : Nat) (h : n ≤ 8) : (treesN n).length ≤ 5000 := by
  rw [treesN_length _ h]
  have : ∀ n, n ≤ 8 → listsN 1 n ≤ 5000 := by decide
  exact this _ h
theorem rawT_small : ∀ m, m ≤ 7 → (rawT m).length ≤ 5000 := by
  intro m hm
  have hp : (rawT m).length = (treesN (m + 1)).length := by
    refine List.Perm.length_eq ((List.perm_ext_iff_of_nodup (rawT_nodup m) (treesN_nodup (m + 1))).2 fun t => ?_)
    rw [mem_rawT, mem_treesN]
  rw [hp]
  exact treesN_small _ (by omega)

theorem rawT_length (m : Nat) (hm : m ≤ 7) : (rawT m).length = (treesN (m + 1)).length := by
  refine List.Perm.length_eq ((List.perm_ext_iff_of_nodup (rawT_nodup m) (treesN_nodup (m + 1))).2 fun t => ?_)
  have := hm
  rw [mem_rawT, mem_treesN]
/-- The trees, the first k of them sorted. -/
def SortK (m k : Nat) (L : List Tr) : Prop := L.Perm (rawT m) ∧ (L.take k).Pairwise fun a b => a.lt b = true
theorem sort_done {m N : Nat} {L : List Tr} (hl : L.length = N) (h : SortK m N L) : L = treesN (m + 1) := by
  obtain ⟨h1, h2⟩ := h
  rw [List.take_of_length_le (by omega)] at h2
  exact sorted_eq h2 h1

theorem lt_trans' (a b c : Tr) (h1 : a.lt b = true) (h2 : b.lt c = true) : a.lt c = true := by
  induction a generalizing b c with
  | lf => cases b <;> simp [Tr.lt] at h1
  | nd l r ihl ihr =>
    cases b with
    | lf => cases c <;> simp [Tr.lt] at h2
    | nd l2 r2 =>
      cases c with
      | lf => simp [Tr.lt]
      | nd l3 r3 =>
        simp only [Tr.lt, Bool.or_eq_true, Bool.and_eq_true, eqB_iff] at h1 h2 ⊢
        rcases h1 with h1 | ⟨rfl, h1⟩
        · rcases h2 with h2 | ⟨rfl, h2⟩
          · exact .inl (ihl _ _ h1 h2)
          · exact .inl h1
        · rcases h2 with h2 | ⟨rfl, h2⟩
          · exact .inl h2
          · exact .inr ⟨rfl, ihr _ _ h1 h2⟩

theorem sort_round {m k : Nat} {A1 A2 C : List Tr} {t : Tr} (h : SortK m k (A1 ++ A2 ++ t :: C)) (hk : A1.length + A2.length = k) (h2 : ∀ y ∈ A2, t.lt y = true) (h1 : A1 = [] ∨ ∃ A y, A1 = A ++ [y] ∧ t.lt y = false) :
    SortK m (k + 1) (A1 ++ t :: (A2 ++ C)) := by
  obtain ⟨hp, hs⟩ := h
  have hnd : (A1 ++ A2 ++ t :: C).Nodup := hp.nodup_iff.2 (rawT_nodup m)
  have hp' : (A1 ++ t :: (A2 ++ C)).Perm (A1 ++ A2 ++ t :: C) := by
    rw [List.append_assoc]
    exact List.Perm.append_left A1 List.perm_middle.symm
  refine ⟨hp'.trans hp, ?_⟩
  rw [List.take_append_of_le_length (by simp; omega), List.take_of_length_le (by simp; omega)] at hs
  rw [show A1 ++ t :: (A2 ++ C) = (A1 ++ t :: A2) ++ C by simp, List.take_append_of_le_length (by simp; omega), List.take_of_length_le (by simp; omega)]
  rw [List.pairwise_append] at hs ⊢
  obtain ⟨s1, s2, s3⟩ := hs
  refine ⟨s1, List.pairwise_cons.2 ⟨h2, s2⟩, fun a ha b hb => ?_⟩
  have key : a.lt t = true := by
    rcases h1 with rfl | ⟨A, y, rfl, hy⟩
    · simp at ha
    · have hyt : y.lt t = true := by
        rcases lt_total y t with h | h | h
        · exact h
        · subst h
          exfalso
          rw [List.append_assoc, List.append_assoc, List.nodup_append] at hnd
          simp at hnd
        · rw [h] at hy; cases hy
      rcases List.mem_append.1 ha with ha | ha
      · exact lt_trans' _ _ _ ((List.pairwise_append.1 s1).2.2 a ha y (by simp)) hyt
      · rw [List.mem_singleton.1 ha]; exact hyt
  rcases List.mem_cons.1 hb with rfl | hb
  · exact key
  · exact s3 a ha b hb

theorem CellsS.at {base : Nat} {w : World} {g n cap i : Nat} {ss : List ByteArray} {t : ByteArray} (h : CellsS base w (.slice (some ⟨g, 0, none⟩) n cap) ss) (ht : ss[i]? = some t) : w.cell? ⟨g, i, none⟩ = some (.string t) := by
  obtain ⟨hi, rfl⟩ := List.getElem?_eq_some_iff.1 ht
  rcases h with ⟨h, _⟩ | ⟨g', cap', h, _, _, _, _, hc, _⟩
  · cases h
  · cases h
    rw [hc i hi, List.getD_eq_getElem?_getD, List.getElem?_eq_getElem hi]; rfl

theorem lt_asymm' (a b : Tr) (h : a.lt b = true) : b.lt a = false := by
  cases hh : b.lt a with
  | false => rfl
  | true =>
    have := lt_trans' _ _ _ h hh
    rw [lt_irrefl] at this
    cases this
theorem gt_text (t y : Tr) : (!(Go.Op.bytesLess y.str.toList t.str.toList || y.str.toList == t.str.toList)) = t.lt y := by
  rw [bytesLess_str]
  rcases lt_total y t with h | h | h
  · rw [h, lt_asymm' _ _ h]; rfl
  · subst h; simp [lt_irrefl]
  · have h3 : (y.str.toList == t.str.toList) = false := by
      rw [beq_eq_false_iff_ne]
      intro e
      have h4 := bytesLess_str t y
      rw [e, bytesLess_str, lt_irrefl, h] at h4
      cases h4
    rw [h, h3, lt_asymm' _ _ h]; rfl

/-- Two blocks are as they were, and v lies in neither. -/
def Far (w2 wr : World) (g1 g2 : Nat) (v : Value) : Prop := wr.heap[g1]? = w2.heap[g1]? ∧ wr.heap[g2]? = w2.heap[g2]? ∧ w2.heap.size ≤ wr.heap.size ∧ some g1 ≠ v.ownBlock ∧ some g2 ≠ v.ownBlock
theorem own_lt {base : Nat} {w : World} {v : Value} {ss : List ByteArray} (h : OwnS base w v ss) {b : Nat} (hb : some b = v.ownBlock) : b < w.heap.size := by
  rcases h.cells with ⟨rfl, _⟩ | ⟨g, cap, rfl, _, hg, _⟩
  · simp [Value.ownBlock] at hb
  · simp [Value.ownBlock] at hb; omega
theorem Far.start {base : Nat} {wr w2 : World} {g1 g2 : Nat} {v : Value} {ss : List ByteArray} (h : OwnS base wr v ss) (h1 : wr.heap.size ≤ g1) (h2 : wr.heap.size ≤ g2) : Far w2 w2 g1 g2 v :=
  ⟨rfl, rfl, Nat.le_refl _, fun e => by have := own_lt h e; omega, fun e => by have := own_lt h e; omega⟩
theorem Far.app {w2 wr w' : World} {g1 g2 : Nat} {v v' : Value} {x : Obj} (h : Far w2 wr g1 g2 v) (h1 : g1 < w2.heap.size) (h2 : g2 < w2.heap.size) (hg : (wr.alloc x).grownBy w' v.ownBlock) (ho : v'.ownBlock = v.ownBlock ∨ v'.ownBlock = some (wr.alloc x).heap.size) : Far w2 w' g1 g2 v' := by
  obtain ⟨p1, p2, p3, p4, p5⟩ := h
  have hs : (wr.alloc x).heap.size = wr.heap.size + 1 := by simp
  have hb := nxAlloc (Below.refl wr.heap.size wr) x
  refine ⟨(hg.block g1 (by omega) p4).trans ((hb.block g1 (by omega)).trans p1), (hg.block g2 (by omega) p5).trans ((hb.block g2 (by omega)).trans p2), ?_, ?_, ?_⟩
  · have := hg.size; omega
  · rcases ho with ho | ho <;> rw [ho]
    · exact p4
    · intro e; injection e with e; omega
  · rcases ho with ho | ho <;> rw [ho]
    · exact p5
    · intro e; injection e with e; omega

/-- What is asked of the sort that follows. -/
def GivesList (n : Nat) (w : World) (e : Ending) (w' : World) : Prop := GivesTexts (trTexts n) w e w'

set_option maxRecDepth 100000 in
set_option maxHeartbeats 4000000 in
theorem trList_any (n : Nat) : n ≤ 8 → ∀ w : World, Calls Try.prog 55 #[.int .i64 n] w (GivesTexts (trTexts n) w) := by
  obtain ⟨i0, hi, hz0, hz1, hz2⟩ := info_parts info_str
  induction n using Nat.strongRecOn with
  | _ n IH =>
    intro hn w
    cases n with
    | zero =>
      show Calls Try.prog 55 #[.int .i64 0] w (GivesTexts [Tr.lf.str] w)
      clear IH
      go_enter Try.func55, Try.ntmps55
      go_wp2_with fail
      go_ret
      exact ⟨_, _, OwnS.one w _, nxAlloc (Below.refl _ _) _, rfl⟩
    | succ m =>
      have hcast : (((m + 1 : Nat) : Int)) = (m : Int) + 1 := by omega
      have hmz : ((m : Int) + 1 == 0) = false := by rw [beq_eq_false_iff_ne]; omega
      have hm64 : (m : Int) ≤ 7 := by omega
      have hfull := rawT_small m (by omega)
      have hIH : ∀ i, i ≤ m → ∀ w, Calls Try.prog 55 #[.int .i64 i] w (GivesTexts (trTexts i) w) := fun i hi w => IH i (by omega) (by omega) w
      have HI := Lib.hid hIH
      rw [hcast]
      clear IH hIH hcast
      go_enter Try.func55, Try.ntmps55
      go_wp2_with fail
      go_loopw [3, 4] (fun v i wr => ∃ (k : Nat) (xs : List Tr), i = .int .i64 k ∧ k ≤ m + 1 ∧ OwnS w.heap.size wr v (xs.map Tr.str) ∧ Below w.heap.size w wr ∧ Hid (rawT m = xs ++ (List.range' k (m + 1 - k)).flatMap (rowF m))) (fun _ i _ => m + 1 - (intOf i).toNat)
      case atStart => exact ⟨0, [], rfl, Nat.zero_le _, OwnS.nil _ _, Below.refl _ _, by show _ = _; rw [rawT_rows]; rfl⟩
      case round =>
        obtain ⟨k, xs, rfl, hk, hown, hbw, he⟩ := hrel
        by_cases hlt : k < m + 1
        · have hlt' : (k : Int) < (m : Int) + 1 := by omega
          have e1 : IntKind.i64.wrap ((m : Int) + 1 - 1) = ((m : Nat) : Int) := by rw [IntKind.wrap_i64] <;> omega
          have e2 : IntKind.i64.wrap ((m : Int) - (k : Int)) = (((m - k : Nat)) : Int) := by rw [IntKind.wrap_i64] <;> omega
          have C1 := fun w => HI.out k (by omega) w
          have C2 := fun w => HI.out (m - k) (by omega) w
          go_wp2_with fail
          refine (C1 _).mono ?_; rintro e w1 ⟨g1, cap1, own1, hb1, rfl⟩
          have hbw1 := nx hbw hb1
          have hown1 := hown.keep hb1
          have hs1 := hb1.size
          have hfar : ∀ g1 g2 w2, wr.heap.size ≤ g1 → wr.heap.size ≤ g2 → Far w2 w2 g1 g2 u3 := fun g1 g2 w2 h1 h2 => Far.start hown h1 h2
          have HF := Lib.hid hfar
          clear hown hbw C1 hfar
          go_wp2_with fail
          refine (C2 _).mono ?_; rintro e w2 ⟨g2, cap2, own2, hb2, rfl⟩
          have hbw2 := nx hbw1 hb2
          have hown2 := hown1.keep hb2
          have own1' := own1.keep hb2
          clear hown1 hbw1 C2
          have hc1 := own1'.cells
          have hc2 := own2.cells
          clear own1 own2 own1' hb1 hb2 e1 e2
          rcases hc1 with ⟨h, _⟩ | ⟨g1', cap1', h, hgb1, hg1, hl1, hm1, hcell1, _⟩
          · cases h
          rcases hc2 with ⟨h', _⟩ | ⟨g2', cap2', h', hgb2, hg2, hl2, hm2, hcell2, _⟩
          · cases h'
          cases h
          cases h'
          have HC1 := Lib.hid hcell1
          have HC2 := Lib.hid hcell2
          clear hcell1 hcell2
          have hfar := HF.out g1 g2 w2 hgb1 (by omega)
          clear HF hs1
          have he' := he.out
          rw [show m + 1 - k = (m - k) + 1 by omega, List.range'_succ, List.flatMap_cons, rowF] at he'
          obtain ⟨rest, hrest⟩ : ∃ rest, rest = (List.range' (k + 1) (m - k)).flatMap (rowF m) := ⟨_, rfl⟩
          rw [← hrest] at he'
          have HE := Lib.hid he'
          have HR := Lib.hid hrest
          clear he he' hrest
          have hn1 : (trTexts k).length = (treesN k).length := by simp [trTexts]
          have hn2 : (trTexts (m - k)).length = (treesN (m - k)).length := by simp [trTexts]
          rw [hn1, hn2]
          have hL1 := treesN_small k (by omega)
          have hL2 := treesN_small (m - k) (by omega)
          have HN1 := Lib.hid hn1
          have HN2 := Lib.hid hn2
          clear hn1 hn2
          go_wp2_with fail
          go_loopw [3, 31] (fun v i wr2 => ∃ (a : Nat) (ys : List Tr), i = .int .i64 a ∧ a ≤ (treesN k).length ∧ OwnS w.heap.size wr2 v (ys.map Tr.str) ∧ Below w.heap.size w wr2 ∧ Far w2 wr2 g1 g2 v ∧ Hid (rawT m = ys ++ (((treesN k).drop a).flatMap (fun l => rowG l (treesN (m - k))) ++ rest))) (fun _ i _ => (treesN k).length - (intOf i).toNat)
          case atStart => exact ⟨0, xs, rfl, Nat.zero_le _, hown2, hbw2, hfar, HE⟩
          case round =>
            obtain ⟨a, ys, rfl, ha, hown3, hbw3, hbx3, he3⟩ := hrel
            by_cases hlta : a < (treesN k).length
            · have hlta' : (a : Int) < ((treesN k).length : Int) := by omega
              obtain ⟨t, ht⟩ : ∃ t, (treesN k)[a]? = some t := ⟨_, List.getElem?_eq_getElem hlta⟩
              have c1 := (World.cell?_of_block (a := ⟨g1, a, none⟩) hbx3.1).trans (HC1.out a (by rw [HN1.out]; exact hlta))
              rw [show (trTexts k).getD a ⟨#[]⟩ = t.str by simp [trTexts, List.getD_eq_getElem?_getD, ht]] at c1
              have htc : t.carets = k := (mem_treesN k t).1 (List.mem_of_getElem? ht)
              have he3' := he3.out
              rw [rowF_at a ht] at he3'
              obtain ⟨rest2, hrest2⟩ : ∃ rest2, rest2 = ((treesN k).drop (a + 1)).flatMap (fun l => rowG l (treesN (m - k))) ++ rest := ⟨_, rfl⟩
              rw [List.append_assoc, ← hrest2] at he3'
              have HE3 := Lib.hid he3'
              have HR2 := Lib.hid hrest2
              clear he3 he3' hrest2 ht
              go_wp2_with fail
              go_loopw [3, 37] (fun v i wr3 => ∃ (b : Nat) (zs : List Tr), i = .int .i64 b ∧ b ≤ (treesN (m - k)).length ∧ OwnS w.heap.size wr3 v (zs.map Tr.str) ∧ Below w.heap.size w wr3 ∧ Far w2 wr3 g1 g2 v ∧ Hid (rawT m = zs ++ (rowG t ((treesN (m - k)).drop b) ++ rest2))) (fun _ i _ => (treesN (m - k)).length - (intOf i).toNat)
              case atStart => exact ⟨0, ys, rfl, Nat.zero_le _, hown3, hbw3, hbx3, HE3⟩
              case round =>
                clear hown3 hbw3 hbx3 HE3 c1
                obtain ⟨b, zs, rfl, hb, hown4, hbw4, hbx4, he4⟩ := hrel
                have he4' := he4.out
                by_cases hltb : b < (treesN (m - k)).length
                · have hltb' : (b : Int) < ((treesN (m - k)).length : Int) := by omega
                  obtain ⟨r, hr⟩ : ∃ r, (treesN (m - k))[b]? = some r := ⟨_, List.getElem?_eq_getElem hltb⟩
                  have c2 := (World.cell?_of_block (a := ⟨g2, b, none⟩) hbx4.2.1).trans (HC2.out b (by rw [HN2.out]; exact hltb))
                  rw [show (trTexts (m - k)).getD b ⟨#[]⟩ = r.str by simp [trTexts, List.getD_eq_getElem?_getD, hr]] at c2
                  have hrc : r.carets = m - k := (mem_treesN _ r).1 (List.mem_of_getElem? hr)
                  have hsplit : rowG t ((treesN (m - k)).drop b) = .nd t r :: rowG t ((treesN (m - k)).drop (b + 1)) := by
                    obtain ⟨hk', rfl⟩ := List.getElem?_eq_some_iff.1 hr
                    rw [List.drop_eq_getElem_cons hk']; rfl
                  rw [hsplit] at he4'
                  have hzl : zs.length ≤ 5000 := by
                    have := congrArg List.length he4'
                    rw [List.length_append] at this
                    omega
                  have he5 : rawT m = (zs ++ [Tr.nd t r]) ++ (rowG t ((treesN (m - k)).drop (b + 1)) ++ rest2) := by rw [he4']; simp
                  have HE5 := Lib.hid he5
                  have hO := fun w => trOf_any t r w (by omega)
                  obtain ⟨qs, hqs⟩ : ∃ qs, qs = zs.map Tr.str := ⟨_, rfl⟩
                  have hql : qs.length ≤ 5000 := by rw [hqs, List.length_map]; exact hzl
                  rw [← hqs] at hown4
                  have HQ := Lib.hid hqs
                  clear hqs
                  clear he4 he4' he5 hsplit hr
                  go_wp2_with fail
                  refine (hO _).mono ?_; rintro e w3 ⟨rfl, rfl⟩
                  go_wp2_with (at_builtin; refine wpList_append_own_at _ rfl _ _ 36 rfl w.heap.size 9 i0 (.string ⟨#[]⟩) 1 16 Try.underlying36 hi hz0 hz1 hz2 rfl (by decide) _ _ _ rfl (hown4.alloc _) ⟨wr.heap.size, 0, none⟩ 1 1 [.string (Tr.nd t r).str] rfl rfl (new1 _ _ _) (oneS1 _) (by unfold maxLen; omega) (by omega) (size_al hbw4 _) ?_; intro v' w1 hown' hgrow hnn hob)
                  have hbw' := below_app hbw4 hown4 (Nat.le_refl _) hgrow
                  have hbx' := hbx4.app hg1 hg2 hgrow hob
                  have hown1 := OwnS.snoc hown'
                  have hq' : qs ++ [(Tr.nd t r).str] = (zs ++ [Tr.nd t r]).map Tr.str := by rw [HQ.out]; simp
                  rw [hq'] at hown1
                  clear hown' hown4 hgrow hob hnn hbw4 hbx4 HQ hq' hql
                  go_wp2_with fail
                  go_roundw
                  case rel => exact ⟨b + 1, zs ++ [Tr.nd t r], by go_num, by omega, hown1, hbw', hbx', HE5⟩
                  case measure => simp [intOf]; omega
                · obtain rfl : b = (treesN (m - k)).length := by omega
                  rw [List.drop_length] at he4'
                  have he5 : rawT m = zs ++ rest2 := he4'
                  rw [HR2.out] at he5
                  have HE5 := Lib.hid he5
                  clear he4 he4' he5
                  go_wp2_with fail
                  go_roundw
                  case rel => exact ⟨a + 1, zs, by go_num, by omega, hown4, hbw4, hbx4, HE5⟩
                  case measure => simp [intOf]; omega
            · obtain rfl : a = (treesN k).length := by omega
              have he3' := he3.out
              rw [List.drop_length] at he3'
              have he5 : rawT m = ys ++ rest := he3'
              rw [HR.out] at he5
              have HE5 := Lib.hid he5
              clear he3 he3' he5
              go_wp2_with fail
              go_roundw
              case rel => exact ⟨k + 1, ys, by go_num, by omega, hown3, hbw3, by rw [show m + 1 - (k + 1) = m - k by omega]; exact HE5⟩
              case measure => simp [intOf]; omega
        · obtain rfl : k = m + 1 := by omega
          have he' := he.out
          rw [Nat.sub_self] at he'
          have hx : rawT m = xs := by rw [he']; simp
          have hN : 0 < xs.length := by
            rw [← hx, rawT_length m (by omega)]
            have := trTexts_pos (m + 1) hn
            simpa [trTexts] using this
          have hN5 : xs.length ≤ 5000 := by rw [← hx]; exact hfull
          obtain ⟨g, cap, rfl⟩ := hown.shape (by simpa using hN)
          have hgb : w.heap.size ≤ g := by
            rcases hown.cells with ⟨h, _⟩ | ⟨g', cap', h, hb, _⟩
            · cases h
            · cases h; exact hb
          have hS : SortK m 1 xs := ⟨by rw [hx], by cases xs with
            | nil => simp at hN
            | cons a l => simp⟩
          rw [List.length_map] at hown ⊢
          obtain ⟨N, hNe⟩ : ∃ N, N = xs.length := ⟨_, rfl⟩
          rw [← hNe] at hown hN hN5 ⊢
          have HS : Hid (xs.length = N ∧ SortK m 1 xs) := ⟨hNe.symm, hS⟩
          clear he he' hx hS hNe hk hlt hfull
          go_wp2_with fail
          go_loopw [11] (fun i wr => ∃ (k : Nat) (L : List Tr), i = .int .i64 k ∧ 1 ≤ k ∧ k ≤ N ∧ OwnS w.heap.size wr (.slice (some ⟨g, 0, none⟩) N cap) (L.map Tr.str) ∧ Below w.heap.size w wr ∧ Hid (L.length = N ∧ SortK m k L)) (fun i _ => N - (intOf i).toNat)
          case atStart => exact ⟨1, xs, rfl, Nat.le_refl _, hN, hown, hbw, HS⟩
          case round =>
            clear hown hbw HS
            obtain ⟨k, L, rfl, hk1, hkN, hown, hbw, hs⟩ := hrel
            have hlen : (L.map Tr.str).length = N := by rw [List.length_map]; exact hs.out.1
            by_cases hlt : k < N
            · have hlt' : (k : Int) < (N : Int) := by omega
              obtain ⟨hL, hK⟩ := hs.out
              obtain ⟨t, ht⟩ : ∃ t, L[k]? = some t := ⟨_, List.getElem?_eq_getElem (by omega)⟩
              have hsplit : L = L.take k ++ t :: L.drop (k + 1) := by
                obtain ⟨hk', rfl⟩ := List.getElem?_eq_some_iff.1 ht
                rw [List.getElem_cons_drop, List.take_append_drop]
              obtain ⟨A, hA⟩ : ∃ A, A = L.take k := ⟨_, rfl⟩
              obtain ⟨C, hC⟩ : ∃ C, C = L.drop (k + 1) := ⟨_, rfl⟩
              have hAl : A.length = k := by rw [hA, List.length_take]; omega
              rw [← hA, ← hC] at hsplit
              clear hA hC
              subst hsplit
              have hcell := CellsS.at hown.cells (i := k) (t := t.str) (by rw [List.getElem?_map, ht]; rfl)
              have HK := Lib.hid hK
              have HL := Lib.hid hL
              clear ht hs hlen hK hL
              go_wp2_with fail
              go_loopw [13] (fun j wr => ∃ (q : Nat) (A1 A2 : List Tr) (x : Tr), j = .int .i64 q ∧ A1.length = q ∧ OwnS w.heap.size wr (.slice (some ⟨g, 0, none⟩) N cap) ((A1 ++ x :: (A2 ++ C)).map Tr.str) ∧ Below w.heap.size w wr ∧ Hid (A = A1 ++ A2 ∧ ∀ y ∈ A2, t.lt y = true)) (fun j _ => (intOf j).toNat)
              case atStart => exact ⟨k, A, [], t, rfl, hAl, hown, hbw, by show _ ∧ _; simp⟩
              case round =>
                clear hown hbw hcell
                obtain ⟨q, A1, A2, x, rfl, hq, hown, hbw, hs⟩ := hrel
                have hqk : q ≤ k := by
                  have := congrArg List.length hs.out.1
                  simp at this; omega
                have hnl : ((A1 ++ x :: (A2 ++ C)).map Tr.str).length = N := by
                  have h1 := HL.out
                  rw [hs.out.1] at h1
                  simp at h1 ⊢; omega
                have hcx := CellsS.at hown.cells (i := q) (t := x.str) (by subst hq; simp)
                have hfz : wr.frozen? ⟨g, q, none⟩ = false := by
                  rcases hown.cells with ⟨h, _⟩ | ⟨g', cap', h, _, _, _, _, _, hf⟩
                  · cases h
                  · cases h; exact hf q
                have hqN : q ≤ 5000 := by omega
                rcases List.eq_nil_or_concat A1 with hnil | ⟨B, y, hB⟩
                · have hq0 : q = 0 := by rw [← hq, hnil]; rfl
                  have hS' := sort_round (A1 := A1) (A2 := A2) (C := C) (t := t) (m := m) (k := k) (by rw [← hs.out.1]; exact HK.out) (by have := congrArg List.length hs.out.1; simp at this; omega) hs.out.2 (.inl hnil)
                  have hl2 : (A1 ++ t :: (A2 ++ C)).length = N := by have h1 := HL.out; rw [hs.out.1] at h1; simp at h1 ⊢; omega
                  have hown1 := OwnS.set hnl hown q t.str
                  have hset : ((A1 ++ x :: (A2 ++ C)).map Tr.str).set q t.str = (A1 ++ t :: (A2 ++ C)).map Tr.str := by subst hq; simp
                  rw [hset] at hown1
                  have hbw1 : Below w.heap.size w (wr.setCell ⟨g, q, none⟩ (.string t.str)) := Below.setCell hbw hgb _
                  have HS1 : Hid ((A1 ++ t :: (A2 ++ C)).length = N ∧ SortK m (k + 1) (A1 ++ t :: (A2 ++ C))) := ⟨hl2, hS'⟩
                  clear hS' hl2 hset hnl hs
                  subst hq0
                  clear hown hbw hnil
                  go_wp2_with fail
                  go_roundw
                  case rel => exact ⟨k + 1, _, by go_num, by omega, by omega, hown1, hbw1, HS1⟩
                  case measure => simp [intOf]; omega
                · rw [List.concat_eq_append] at hB
                  have hqB : q = B.length + 1 := by rw [← hq, hB]; simp
                  have hcy := CellsS.at hown.cells (i := B.length) (t := y.str) (by rw [hB]; simp)
                  have e1 : IntKind.i64.wrap ((q : Int) - 1) = ((B.length : Nat) : Int) := by rw [IntKind.wrap_i64] <;> omega
                  have e0 : (0 : Int) < (q : Int) := by omega
                  have e2 : ((B.length : Nat) : Int) < (N : Int) := by omega
                  have e3 : (q : Int) < (N : Int) := by omega
                  have HqB := Lib.hid hqB
                  have hcmp := gt_text t y
                  have hgt : (binOp BinOp.gtr 9 (.string y.str) (.string t.str)).run Try.prog wr = .ok (.bool (!(Go.Op.bytesLess y.str.toList t.str.toList || y.str.toList == t.str.toList))) wr := rfl
                  cases hty : t.lt y with
                  | true =>
                    rw [hcmp, hty] at hgt
                    clear hcmp
                    have hown1 := OwnS.set hnl hown q y.str
                    have hset : ((A1 ++ x :: (A2 ++ C)).map Tr.str).set q y.str = (B ++ y :: ((y :: A2) ++ C)).map Tr.str := by subst hq; rw [hB]; simp
                    rw [hset] at hown1
                    have hbw1 : Below w.heap.size w (wr.setCell ⟨g, q, none⟩ (.string y.str)) := Below.setCell hbw hgb _
                    have HS1 : Hid (A = B ++ (y :: A2) ∧ ∀ z ∈ y :: A2, t.lt z = true) := ⟨by rw [hs.out.1, hB]; simp, by
                      intro z hz
                      rcases List.mem_cons.1 hz with rfl | hz
                      · exact hty
                      · exact hs.out.2 z hz⟩
                    clear hown hbw hs hset hnl hB hqB hq hty
                    go_wp2_with fail
                    go_roundw
                    case rel =>
                      (repeat apply Exists.intro)
                      refine ⟨?_, rfl⟩
                      exact ⟨B.length, B, y :: A2, y, by first | rfl | (have := HqB.out; go_num), rfl, hown1, hbw1, HS1⟩
                    case measure => have := HqB.out; simp [intOf]; omega
                  | false =>
                    rw [hcmp, hty] at hgt
                    clear hcmp
                    have hS' := sort_round (A1 := A1) (A2 := A2) (C := C) (t := t) (m := m) (k := k) (by rw [← hs.out.1]; exact HK.out) (by have := congrArg List.length hs.out.1; simp at this; omega) hs.out.2 (.inr ⟨B, y, hB, hty⟩)
                    have hl2 : (A1 ++ t :: (A2 ++ C)).length = N := by have h1 := HL.out; rw [hs.out.1] at h1; simp at h1 ⊢; omega
                    have hown1 := OwnS.set hnl hown q t.str
                    have hset : ((A1 ++ x :: (A2 ++ C)).map Tr.str).set q t.str = (A1 ++ t :: (A2 ++ C)).map Tr.str := by subst hq; simp
                    rw [hset] at hown1
                    have hbw1 : Below w.heap.size w (wr.setCell ⟨g, q, none⟩ (.string t.str)) := Below.setCell hbw hgb _
                    have HS1 : Hid ((A1 ++ t :: (A2 ++ C)).length = N ∧ SortK m (k + 1) (A1 ++ t :: (A2 ++ C))) := ⟨hl2, hS'⟩
                    clear hS' hl2 hset hnl hs
                    clear hown hbw hB hqB hq hty
                    go_wp2_with fail
                    go_roundw
                    case rel =>
                      (repeat apply Exists.intro)
                      refine ⟨?_, rfl⟩
                      exact ⟨k + 1, _, by go_num, by omega, by omega, hown1, hbw1, HS1⟩
                    case measure => simp [intOf]; omega
            · obtain rfl : k = N := by omega
              have hfin := sort_done hs.out.1 hs.out.2
              go_wp2_with fail
              go_ret
              exact ⟨g, cap, by rw [trTexts, ← hfin, hlen]; exact hown, hbw, by rw [trTexts, ← hfin, hlen]; rfl⟩
end Go.Proofs.Ytgmjchpcpocpoab
