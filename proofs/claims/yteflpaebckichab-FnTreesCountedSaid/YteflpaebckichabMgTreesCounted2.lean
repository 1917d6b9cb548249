/- Texts that the claim needs, part 3. -/
import Derived.Test.YteflpaebckichabMgTreesCounted1
import Derived.Maps.AppendAt
import Derived.Lib.SmallJoins
/-! TrList -/
namespace Go.Proofs.Yteflpaebckichab
open Go.RowKit

def trTexts (n : Nat) : List ByteArray := (treesN n).map Tr.str
theorem trTexts_pos (n : Nat) (h : n ≤ 8) : 0 < (trTexts n).length := by
  obtain ⟨t, ht⟩ : ∃ t : Tr, t.carets = n := ⟨treeAt n 0, by
    have hp : 0 < listsN 1 n := by
      have : ∀ n, n ≤ 8 → 0 < listsN 1 n := by decide
      exact this n h
    have := treesN_get n 0 h hp
    exact (mem_treesN n _).1 (List.mem_of_getElem? this)⟩
  have := (mem_treesN n t).2 ht
  unfold trTexts
  rw [List.length_map]
  exact List.length_pos_of_mem this

/-- The trees with a left tree l, as they are made. -/
def rowG (l : Tr) (rs : List Tr) : List Tr := rs.map fun r => .nd l r
def rowF (m i : Nat) : List Tr := (treesN i).flatMap fun l => rowG l (treesN (m - i))
theorem rawT_rows (m : Nat) : rawT m = (List.range' 0 (m + 1)).flatMap (rowF m) := by
  rw [← List.range_eq_range']; rfl
theorem rowF_at {m i : Nat} (k : Nat) {t : Tr} (h : (treesN i)[k]? = some t) : ((treesN i).drop k).flatMap (fun l => rowG l (treesN (m - i))) = rowG t (treesN (m - i)) ++ ((treesN i).drop (k + 1)).flatMap fun l => rowG l (treesN (m - i)) := by
  obtain ⟨hk, rfl⟩ := List.getElem?_eq_some_iff.1 h
  rw [List.drop_eq_getElem_cons hk, List.flatMap_cons]

theorem treesN_small (n : Nat) (h : n ≤ 8) : (treesN n).length ≤ 5000 := by
  rw [treesN_length _ h]
  have : ∀ n, n ≤ 8 → listsN 1 n ≤ 5000 := by decide
  exact this _ h
theorem rawT_small : ∀ m, m ≤ 7 → (rawT m).length ≤ 5000 := by
  intro m hm
  have hp : (rawT m).length = (treesN (m + 1)).length := by
    refine List.Perm.length_eq ((List.perm_ext_iff_of_nodup (rawT_nodup m) (treesN_nodup (m + 1))).2 fun t => ?_)
    rw [mem_rawT, mem_treesN]
  rw [hp]
  exact treesN_small _ (by omega)

theorem rawT_length (m : Nat) (hm : m ≤ 7) : (rawT m).length = (treesN (m + 1)).length := by
  refine List.Perm.length_eq ((List.perm_ext_iff_of_nodup (rawT_nodup m) (treesN_nodup (m + 1))).2 fun t => ?_)
  have := hm
  rw [mem_rawT, mem_treesN]
/-- The trees, the first k of them sorted. -/
def SortK (m k : Nat) (L : List Tr) : Prop := L.Perm (rawT m) ∧ (L.take k).Pairwise fun a b => a.lt b = true
theorem sort_done {m N : Nat} {L : List Tr} (hl : L.length = N) (h : SortK m N L) : L = treesN (m + 1) := by
  obtain ⟨h1, h2⟩ := h
  rw [List.take_of_length_le (by omega)] at h2
  exact sorted_eq h2 h1

theorem lt_trans' (a b c : Tr) (h1 : a.lt b = true) (h2 : b.lt c = true) : a.lt c = true := by
  induction a generalizing b c with
  | lf => cases b <;> simp [Tr.lt] at h1
  | nd l r ihl ihr =>
    cases b with
    | lf => cases c <;> simp [Tr.lt] at h2
    | nd l2 r2 =>
      cases c with
      | lf => simp [Tr.lt]
      | nd l3 r3 =>
        simp only [Tr.lt, Bool.or_eq_true, Bool.and_eq_true, eqB_iff] at h1 h2 ⊢
        rcases h1 with h1 | ⟨rfl, h1⟩
        · rcases h2 with h2 | ⟨rfl, h2⟩
          · exact .inl (ihl _ _ h1 h2)
          · exact .inl h1
        · rcases h2 with h2 | ⟨rfl, h2⟩
          · exact .inl h2
          · exact .inr ⟨rfl, ihr _ _ h1 h2⟩

theorem sort_round {m k : Nat} {A1 A2 C : List Tr} {t : Tr} (h : SortK m k (A1 ++ A2 ++ t :: C)) (hk : A1.length + A2.length = k) (h2 : ∀ y ∈ A2, t.lt y = true) (h1 : A1 = [] ∨ ∃ A y, A1 = A ++ [y] ∧ t.lt y = false) :
    SortK m (k + 1) (A1 ++ t :: (A2 ++ C)) := by
  obtain ⟨hp, hs⟩ := h
  have hnd : (A1 ++ A2 ++ t :: C).Nodup := hp.nodup_iff.2 (rawT_nodup m)
  have hp' : (A1 ++ t :: (A2 ++ C)).Perm (A1 ++ A2 ++ t :: C) := by
    rw [List.append_assoc]
    exact List.Perm.append_left A1 List.perm_middle.symm
  refine ⟨hp'.trans hp, ?_⟩
  rw [List.take_append_of_le_length (by simp; omega), List.take_of_length_le (by simp; omega)] at hs
  rw [show A1 ++ t :: (A2 ++ C) = (A1 ++ t :: A2) ++ C by simp, List.take_append_of_le_length (by simp; omega), List.take_of_length_le (by simp; omega)]
  rw [List.pairwise_append] at hs ⊢
  obtain ⟨s1, s2, s3⟩ := hs
  refine ⟨s1, List.pairwise_cons.2 ⟨h2, s2⟩, fun a ha b hb => ?_⟩
  have key : a.lt t = true := by
    rcases h1 with rfl | ⟨A, y, rfl, hy⟩
    · simp at ha
    · have hyt : y.lt t = true := by
        rcases lt_total y t with h | h | h
        · exact h
        · subst h
          exfalso
          rw [List.append_assoc, List.append_assoc, List.nodup_append] at hnd
          simp at hnd
        · rw [h] at hy; cases hy
      rcases List.mem_append.1 ha with ha | ha
      · exact lt_trans' _ _ _ ((List.pairwise_append.1 s1).2.2 a ha y (by simp)) hyt
      · rw [List.mem_singleton.1 ha]; exact hyt
  rcases List.mem_cons.1 hb with rfl | hb
  · exact key
  · exact s3 a ha b hb

theorem CellsS.at {base : Nat} {w : World} {g n cap i : Nat} {ss : List ByteArray} {t : ByteArray} (h : CellsS base w (.slice (some ⟨g, 0, none⟩) n cap) ss) (ht : ss[i]? = some t) : w.cell? ⟨g, i, none⟩ = some (.string t) := by
  obtain ⟨hi, rfl⟩ := List.getElem?_eq_some_iff.1 ht
  rcases h with ⟨h, _⟩ | ⟨g', cap', h, _, _, _, _, hc, _⟩
  · cases h
  · cases h
    rw [hc i hi, List.getD_eq_getElem?_getD, List.getElem?_eq_getElem hi]; rfl

theorem lt_asymm' (a b : Tr) (h : a.lt b = true) : b.lt a = false := by
  cases hh : b.lt a with
  | false => rfl
  | true =>
    have := lt_trans' _ _ _ h hh
    rw [lt_irrefl] at this
    cases this
theorem gt_text (t y : Tr) : (!(Go.Op.bytesLess y.str.toList t.str.toList || y.str.toList == t.str.toList)) = t.lt y := by
  rw [bytesLess_str]
  rcases lt_total y t with h | h | h
  · rw [h, lt_asymm' _ _ h]; rfl
  · subst h; simp [lt_irrefl]
  · have h3 : (y.str.toList == t.str.toList) = false := by
      rw [beq_eq_false_iff_ne]
      intro e
      have h4 := bytesLess_str t y
      rw [e, bytesLess_str, lt_irrefl, h] at h4
      cases h4
    rw [h, h3, lt_asymm' _ _ h]; rfl

/-- Two blocks are as they were, and v lies in neither. -/
def Far (w2 wr : World) (g1 g2 : Nat) (v : Value) : Prop := wr.heap[g1]? = w2.heap[g1]? ∧ wr.heap[g2]? = w2.heap[g2]? ∧ w2.heap.size ≤ wr.heap.size ∧ some g1 ≠ v.ownBlock ∧ some g2 ≠ v.ownBlock
theorem own_lt {base : Nat} {w : World} {v : Value} {ss : List ByteArray} (h : OwnS base w v ss) {b : Nat} (hb : some b = v.ownBlock) : b < w.heap.size := by
  rcases h.cells with ⟨rfl, _⟩ | ⟨g, cap, rfl, _, hg, _⟩
  · simp [Value.ownBlock] at hb
  · simp [Value.ownBlock] at hb; omega
theorem Far.start {base : Nat} {wr w2 : World} {g1 g2 : Nat} {v : Value} {ss : List ByteArray} (h : OwnS base wr v ss) (h1 : wr.heap.size ≤ g1) (h2 : wr.heap.size ≤ g2) : Far w2 w2 g1 g2 v :=
  ⟨rfl, rfl, Nat.le_refl _, fun e => by have := own_lt h e; omega, fun e => by have := own_lt h e; omega⟩
theorem Far.app {w2 wr w' : World} {g1 g2 : Nat} {v v' : Value} {x : Obj} (h : Far w2 wr g1 g2 v) (h1 : g1 < w2.heap.size) (h2 : g2 < w2.heap.size) (hg : (wr.alloc x).grownBy w' v.ownBlock) (ho : v'.ownBlock = v.ownBlock ∨ v'.ownBlock = some (wr.alloc x).heap.size) : Far w2 w' g1 g2 v' := by
  obtain ⟨p1, p2, p3, p4, p5⟩ := h
  have hs : (wr.alloc x).heap.size = wr.heap.size + 1 := by simp
  have hb := nxAlloc (Below.refl wr.heap.size wr) x
  refine ⟨(hg.block g1 (by omega) p4).trans ((hb.block g1 (by omega)).trans p1), (hg.block g2 (by omega) p5).trans ((hb.block g2 (by omega)).trans p2), ?_, ?_, ?_⟩
  · have := hg.size; omega
  · rcases ho with ho | ho <;> rw [ho]
    · exact p4
    · intro e; injection e with e; omega
  · rcases ho with ho | ho <;> rw [ho]
    · exact p5
    · intro e; injection e with e; omega

/-- What is asked of the sort that follows. -/
def GivesList (n : Nat) (w : World) (e : Ending) (w' : World) : Prop := GivesTexts (trTexts n) w e w'

set_option maxRecDepth 100000 in
set_option maxHeartbeats 4000000 in
theorem trList_any (n : Nat) : n ≤ 8 → ∀ w : World, Calls Try.prog 119 #[.int .i64 n] w (GivesTexts (trTexts n) w) := by
  obtain ⟨i0, hi, hz0, hz1, hz2⟩ := info_parts info_str
  induction n using Nat.strongRecOn with
  | _ n IH =>
    intro hn w
    cases n with
    | zero =>
      show Calls Try.prog 119 #[.int .i64 0] w (GivesTexts [Tr.lf.str] w)
      clear IH
      go_enter Try.func119, Try.ntmps119
      go_wp2_with fail
      go_ret
      exact ⟨_, _, OwnS.one w _, nxAlloc (Below.refl _ _) _, rfl⟩
    | succ m =>
      have hcast : (((m + 1 : Nat) : Int)) = (m : Int) + 1 := by omega
      have hmz : ((m : Int) + 1 == 0) = false := by rw [beq_eq_false_iff_ne]; omega
      have hm64 : (m : Int) ≤ 7 := by omega
      have hfull := rawT_small m (by omega)
      have hIH : ∀ i, i ≤ m → ∀ w, Calls Try.prog 119 #[.int .i64 i] w (GivesTexts (trTexts i) w) := fun i hi w => IH i (by omega) (by omega) w
      have HI := Lib.hid hIH
      rw [hcast]
      clear IH hIH hcast
      go_enter Try.func119, Try.ntmps119
      go_wp2_with fail
      go_loopw [3, 4] (fun v i wr => ∃ (k : Nat) (xs : List Tr), i = .int .i64 k ∧ k ≤ m + 1 ∧ OwnS w.heap.size wr v (xs.map Tr.str) ∧ Below w.heap.size w wr ∧ Hid (rawT m = xs ++ (List.range' k (m + 1 - k)).flatMap (rowF m))) (fun _ i _ => m + 1 - (intOf i).toNat)
      case atStart => exact ⟨0, [], rfl, Nat.zero_le _, OwnS.nil _ _, Below.refl _ _, by show _ = _; rw [rawT_rows]; rfl⟩
      case round =>
        obtain ⟨k, xs, rfl, hk, hown, hbw, he⟩ := hrel
        by_cases hlt : k < m + 1
        · have hlt' : (k : Int) < (m : Int) + 1 := by omega
          have e1 : IntKind.i64.wrap ((m : Int) + 1 - 1) = ((m : Nat) : Int) := by rw [IntKind.wrap_i64] <;> omega
          have e2 : IntKind.i64.wrap ((m : Int) - (k : Int)) = (((m - k : Nat)) : Int) := by rw [IntKind.wrap_i64] <;> omega
          have C1 := fun w => HI.out k (by omega) w
          have C2 := fun w => HI.out (m - k) (by omega) w
          go_wp2_with fail
          refine (C1 _).mono ?_; rintro e w1 ⟨g1, cap1, own1, hb1, rfl⟩
          have hbw1 := nx hbw hb1
          have hown1 := hown.keep hb1
          have hs1 := hb1.size
          have hfar : ∀ g1 g2 w2, wr.heap.size ≤ g1 → wr.heap.size ≤ g2 → Far w2 w2 g1 g2 u3 := fun g1 g2 w2 h1 h2 => Far.start hown h1 h2
          have HF := Lib.hid hfar
          clear hown hbw C1 hfar
          go_wp2_with fail
          refine (C2 _).mono ?_; rintro e w2 ⟨g2, cap2, own2, hb2, rfl⟩
          have hbw2 := nx hbw1 hb2
          have hown2 := hown1.keep hb2
          have own1' := own1.keep hb2
          clear hown1 hbw1 C2
          have hc1 := own1'.cells
          have hc2 := own2.cells
          clear own1 own2 own1' hb1 hb2 e1 e2
          rcases hc1 with ⟨h, _⟩ | ⟨g1', cap1', h, hgb1, hg1, hl1, hm1, hcell1, _⟩
          · cases h
          rcases hc2 with ⟨h', _⟩ | ⟨g2', cap2', h', hgb2, hg2, hl2, hm2, hcell2, _⟩
          · cases h'
          cases h
          cases h'
          have HC1 := Lib.hid hcell1
          have HC2 := Lib.hid hcell2
          clear hcell1 hcell2
          have hfar := HF.out g1 g2 w2 hgb1 (by omega)
          clear HF hs1
          have he' := he.out
          rw [show m + 1 - k = (m - k) + 1 by omega, List.range'_succ, List.flatMap_cons, rowF] at he'
          obtain ⟨rest, hrest⟩ : ∃ rest, rest = (List.range' (k + 1) (m - k)).flatMap (rowF m) := ⟨_, rfl⟩
          rw [← hrest] at he'
          have HE := Lib.hid he'
          have HR := Lib.hid hrest
          clear he he' hrest
          have hn1 : (trTexts k).length = (treesN k).length := by simp [trTexts]
          have hn2 : (trTexts (m - k)).length = (treesN (m - k)).length := by simp [trTexts]
          rw [hn1, hn2]
          have hL1 := treesN_small k (by omega)
          have hL2 := treesN_small (m - k) (by omega)
          have HN1 := Lib.hid hn1
          have HN2 := Lib.hid hn2
          clear hn1 hn2
          go_wp2_with fail
          go_loopw [3, 31] (fun v i wr2 => ∃ (a : Nat) (ys : List Tr), i = .int .i64 a ∧ a ≤ (treesN k).length ∧ OwnS w.heap.size wr2 v (ys.map Tr.str) ∧ Below w.heap.size w wr2 ∧ Far w2 wr2 g1 g2 v ∧ Hid (rawT m = ys ++ (((treesN k).drop a).flatMap (fun l => rowG l (treesN (m - k))) ++ rest))) (fun _ i _ => (treesN k).length - (intOf i).toNat)
          case atStart => exact ⟨0, xs, rfl, Nat.zero_le _, hown2, hbw2, hfar, HE⟩
          case round =>
            obtain ⟨a, ys, rfl, ha, hown3, hbw3, hbx3, he3⟩ := hrel
            by_cases hlta : a < (treesN k).length
            · have hlta' : (a : Int) < ((treesN k).length : Int) := by omega
              obtain ⟨t, ht⟩ : ∃ t, (treesN k)[a]? = some t := ⟨_, List.getElem?_eq_getElem hlta⟩
              have c1 := (World.cell?_of_block (a := ⟨g1, a, none⟩) hbx3.1).trans (HC1.out a (by rw [HN1.out]; exact hlta))
              rw [show (trTexts k).getD a ⟨#[]⟩ = t.str by simp [trTexts, List.getD_eq_getElem?_getD, ht]] at c1
              have htc : t.carets = k := (mem_treesN k t).1 (List.mem_of_getElem? ht)
              have he3' := he3.out
              rw [rowF_at a ht] at he3'
              obtain ⟨rest2, hrest2⟩ : ∃ rest2, rest2 = ((treesN k).drop (a + 1)).flatMap (fun l => rowG l (treesN (m - k))) ++ rest := ⟨_, rfl⟩
              rw [List.append_assoc, ← hrest2] at he3'
              have HE3 := Lib.hid he3'
              have HR2 := Lib.hid hrest2
              clear he3 he3' hrest2 ht
              go_wp2_with fail
              go_loopw [3, 37] (fun v i wr3 => ∃ (b : Nat) (zs : List Tr), i = .int .i64 b ∧ b ≤ (treesN (m - k)).length ∧ OwnS w.heap.size wr3 v (zs.map Tr.str) ∧ Below w.heap.size w wr3 ∧ Far w2 wr3 g1 g2 v ∧ Hid (rawT m = zs ++ (rowG t ((treesN (m - k)).drop b) ++ rest2))) (fun _ i _ => (treesN (m - k)).length - (intOf i).toNat)
              case atStart => exact ⟨0, ys, rfl, Nat.zero_le _, hown3, hbw3, hbx3, HE3⟩
              case round =>
                clear hown3 hbw3 hbx3 HE3 c1
                obtain ⟨b, zs, rfl, hb, hown4, hbw4, hbx4, he4⟩ := hrel
                have he4' := he4.out
                by_cases hltb : b < (treesN (m - k)).length
                · have hltb' : (b : Int) < ((treesN (m - k)).length : Int) := by omega
                  obtain ⟨r, hr⟩ : ∃ r, (treesN (m - k))[b]? = some r := ⟨_, List.getElem?_eq_getElem hltb⟩
                  have c2 := (World.cell?_of_block (a := ⟨g2, b, none⟩) hbx4.2.1).trans (HC2.out b (by rw [HN2.out]; exact hltb))
                  rw [show (trTexts (m - k)).getD b ⟨#[]⟩ = r.str by simp [trTexts, List.getD_eq_getElem?_getD, hr]] at c2
                  have hrc : r.carets = m - k := (mem_treesN _ r).1 (List.mem_of_getElem? hr)
                  have hsplit : rowG t ((treesN (m - k)).drop b) = .nd t r :: rowG t ((treesN (m - k)).drop (b + 1)) := by
                    obtain ⟨hk', rfl⟩ := List.getElem?_eq_some_iff.1 hr
                    rw [List.drop_eq_getElem_cons hk']; rfl
                  rw [hsplit] at he4'
                  have hzl : zs.length ≤ 5000 := by
                    have := congrArg List.length he4'
                    rw [List.length_append] at this
                    omega
                  have he5 : rawT m = (zs ++ [Tr.nd t r]) ++ (rowG t ((treesN (m - k)).drop (b + 1)) ++ rest2) := by rw [he4']; simp
                  have HE5 := Lib.hid he5
                  have hO := fun w => trOf_any t r w (by omega)
                  obtain ⟨qs, hqs⟩ : ∃ qs, qs = zs.map Tr.str := ⟨_, rfl⟩
                  have hql : qs.length ≤ 5000 := by rw [hqs, List.length_map]; exact hzl
                  rw [← hqs] at hown4
                  have HQ := Lib.hid hqs
                  clear hqs
                  clear he4 he4' he5 hsplit hr
                  go_wp2_with fail
                  refine (hO _).mono ?_; rintro e w3 ⟨rfl, rfl⟩
                  go_wp2_with (at_builtin; refine wpList_append_own_at _ rfl _ _ 25 rfl w.heap.size 9 i0 (.string ⟨#[]⟩) 1 16 Try.underlying25 hi hz0 hz1 hz2 rfl (by decide) _ _ _ rfl (hown4.alloc _) ⟨wr.heap.size, 0, none⟩ 1 1 [.string (Tr.nd t r).str] rfl rfl (new1 _ _ _) (oneS1 _) (by unfold maxLen; omega) (by omega) (size_al hbw4 _) ?_; intro v' w1 hown' hgrow hnn hob)
                  have hbw' := below_app hbw4 hown4 (Nat.le_refl _) hgrow
                  have hbx' := hbx4.app hg1 hg2 hgrow hob
                  have hown1 := OwnS.snoc hown'
                  have hq' : qs ++ [(Tr.nd t r).str] = (zs ++ [Tr.nd t r]).map Tr.str := by rw [HQ.out]; simp
                  rw [hq'] at hown1
                  clear hown' hown4 hgrow hob hnn hbw4 hbx4 HQ hq' hql
                  go_wp2_with fail
                  go_roundw
                  case rel => exact ⟨b + 1, zs ++ [Tr.nd t r], by go_num, by omega, hown1, hbw', hbx', HE5⟩
                  case measure => simp [intOf]; omega
                · obtain rfl : b = (treesN (m - k)).length := by omega
                  rw [List.drop_length] at he4'
                  have he5 : rawT m = zs ++ rest2 := he4'
                  rw [HR2.out] at he5
                  have HE5 := Lib.hid he5
                  clear he4 he4' he5
                  go_wp2_with fail
                  go_roundw
                  case rel => exact ⟨a + 1, zs, by go_num, by omega, hown4, hbw4, hbx4, HE5⟩
                  case measure => simp [intOf]; omega
            · obtain rfl : a = (treesN k).length := by omega
              have he3' := he3.out
              rw [List.drop_length] at he3'
              have he5 : rawT m = ys ++ rest := he3'
              rw [HR.out] at he5
              have HE5 := Lib.hid he5
              clear he3 he3' he5
              go_wp2_with fail
              go_roundw
              case rel => exact ⟨k + 1, ys, by go_num, by omega, hown3, hbw3, by rw [show m + 1 - (k + 1) = m - k by omega]; exact HE5⟩
              case measure => simp [intOf]; omega
        · obtain rfl : k = m + 1 := by omega
          have he' := he.out
          rw [Nat.sub_self] at he'
          have hx : rawT m = xs := by rw [he']; simp
          have hN : 0 < xs.length := by
            rw [← hx, rawT_length m (by omega)]
            have := trTexts_pos (m + 1) hn
            simpa [trTexts] using this
          have hN5 : xs.length ≤ 5000 := by rw [← hx]; exact hfull
          obtain ⟨g, cap, rfl⟩ := hown.shape (by simpa using hN)
          have hgb : w.heap.size ≤ g := by
            rcases hown.cells with ⟨h, _⟩ | ⟨g', cap', h, hb, _⟩
            · cases h
            · cases h; exact hb
          have hS : SortK m 1 xs := ⟨by rw [hx], by cases xs with
            | nil => simp at hN
            | cons a l => simp⟩
          rw [List.length_map] at hown ⊢
          obtain ⟨N, hNe⟩ : ∃ N, N = xs.length := ⟨_, rfl⟩
          rw [← hNe] at hown hN hN5 ⊢
          have HS : Hid (xs.length = N ∧ SortK m 1 xs) := ⟨hNe.symm, hS⟩
          clear he he' hx hS hNe hk hlt hfull
          go_wp2_with fail
          go_loopw [11] (fun i wr => ∃ (k : Nat) (L : List Tr), i = .int .i64 k ∧ 1 ≤ k ∧ k ≤ N ∧ OwnS w.heap.size wr (.slice (some ⟨g, 0, none⟩) N cap) (L.map Tr.str) ∧ Below w.heap.size w wr ∧ Hid (L.length = N ∧ SortK m k L)) (fun i _ => N - (intOf i).toNat)
          case atStart => exact ⟨1, xs, rfl, Nat.le_refl _, hN, hown, hbw, HS⟩
          case round =>
            clear hown hbw HS
            obtain ⟨k, L, rfl, hk1, hkN, hown, hbw, hs⟩ := hrel
            have hlen : (L.map Tr.str).length = N := by rw [List.length_map]; exact hs.out.1
            by_cases hlt : k < N
            · have hlt' : (k : Int) < (N : Int) := by omega
              obtain ⟨hL, hK⟩ := hs.out
              obtain ⟨t, ht⟩ : ∃ t, L[k]? = some t := ⟨_, List.getElem?_eq_getElem (by omega)⟩
              have hsplit : L = L.take k ++ t :: L.drop (k + 1) := by
                obtain ⟨hk', rfl⟩ := List.getElem?_eq_some_iff.1 ht
                rw [List.getElem_cons_drop, List.take_append_drop]
              obtain ⟨A, hA⟩ : ∃ A, A = L.take k := ⟨_, rfl⟩
              obtain ⟨C, hC⟩ : ∃ C, C = L.drop (k + 1) := ⟨_, rfl⟩
              have hAl : A.length = k := by rw [hA, List.length_take]; omega
              rw [← hA, ← hC] at hsplit
              clear hA hC
              subst hsplit
              have hcell := CellsS.at hown.cells (i := k) (t := t.str) (by rw [List.getElem?_map, ht]; rfl)
              have HK := Lib.hid hK
              have HL := Lib.hid hL
              clear ht hs hlen hK hL
              go_wp2_with fail
              go_loopw [13] (fun j wr => ∃ (q : Nat) (A1 A2 : List Tr) (x : Tr), j = .int .i64 q ∧ A1.length = q ∧ OwnS w.heap.size wr (.slice (some ⟨g, 0, none⟩) N cap) ((A1 ++ x :: (A2 ++ C)).map Tr.str) ∧ Below w.heap.size w wr ∧ Hid (A = A1 ++ A2 ∧ ∀ y ∈ A2, t.lt y = true)) (fun j _ => (intOf j).toNat)
              case atStart => exact ⟨k, A, [], t, rfl, hAl, hown, hbw, by show _ ∧ _; simp⟩
              case round =>
                clear hown hbw hcell
                obtain ⟨q, A1, A2, x, rfl, hq, hown, hbw, hs⟩ := hrel
                have hqk : q ≤ k := by
                  have := congrArg List.length hs.out.1
                  simp at this; omega
                have hnl : ((A1 ++ x :: (A2 ++ C)).map Tr.str).length = N := by
                  have h1 := HL.out
                  rw [hs.out.1] at h1
                  simp at h1 ⊢; omega
                have hcx := CellsS.at hown.cells (i := q) (t := x.str) (by subst hq; simp)
                have hfz : wr.frozen? ⟨g, q, none⟩ = false := by
                  rcases hown.cells with ⟨h, _⟩ | ⟨g', cap', h, _, _, _, _, _, hf⟩
                  · cases h
                  · cases h; exact hf q
                have hqN : q ≤ 5000 := by omega
                rcases List.eq_nil_or_concat A1 with hnil | ⟨B, y, hB⟩
                · have hq0 : q = 0 := by rw [← hq, hnil]; rfl
                  have hS' := sort_round (A1 := A1) (A2 := A2) (C := C) (t := t) (m := m) (k := k) (by rw [← hs.out.1]; exact HK.out) (by have := congrArg List.length hs.out.1; simp at this; omega) hs.out.2 (.inl hnil)
                  have hl2 : (A1 ++ t :: (A2 ++ C)).length = N := by have h1 := HL.out; rw [hs.out.1] at h1; simp at h1 ⊢; omega
                  have hown1 := OwnS.set hnl hown q t.str
                  have hset : ((A1 ++ x :: (A2 ++ C)).map Tr.str).set q t.str = (A1 ++ t :: (A2 ++ C)).map Tr.str := by subst hq; simp
                  rw [hset] at hown1
                  have hbw1 : Below w.heap.size w (wr.setCell ⟨g, q, none⟩ (.string t.str)) := Below.setCell hbw hgb _
                  have HS1 : Hid ((A1 ++ t :: (A2 ++ C)).length = N ∧ SortK m (k + 1) (A1 ++ t :: (A2 ++ C))) := ⟨hl2, hS'⟩
                  clear hS' hl2 hset hnl hs
                  subst hq0
                  clear hown hbw hnil
                  go_wp2_with fail
                  go_roundw
                  case rel => exact ⟨k + 1, _, by go_num, by omega, by omega, hown1, hbw1, HS1⟩
                  case measure => simp [intOf]; omega
                · rw [List.concat_eq_append] at hB
                  have hqB : q = B.length + 1 := by rw [← hq, hB]; simp
                  have hcy := CellsS.at hown.cells (i := B.length) (t := y.str) (by rw [hB]; simp)
                  have e1 : IntKind.i64.wrap ((q : Int) - 1) = ((B.length : Nat) : Int) := by rw [IntKind.wrap_i64] <;> omega
                  have e0 : (0 : Int) < (q : Int) := by omega
                  have e2 : ((B.length : Nat) : Int) < (N : Int) := by omega
                  have e3 : (q : Int) < (N : Int) := by omega
                  have HqB := Lib.hid hqB
                  have hcmp := gt_text t y
                  have hgt : (binOp BinOp.gtr 9 (.string y.str) (.string t.str)).run Try.prog wr = .ok (.bool (!(Go.Op.bytesLess y.str.toList t.str.toList || y.str.toList == t.str.toList))) wr := rfl
                  cases hty : t.lt y with
                  | true =>
                    rw [hcmp, hty] at hgt
                    clear hcmp
                    have hown1 := OwnS.set hnl hown q y.str
                    have hset : ((A1 ++ x :: (A2 ++ C)).map Tr.str).set q y.str = (B ++ y :: ((y :: A2) ++ C)).map Tr.str := by subst hq; rw [hB]; simp
                    rw [hset] at hown1
                    have hbw1 : Below w.heap.size w (wr.setCell ⟨g, q, none⟩ (.string y.str)) := Below.setCell hbw hgb _
                    have HS1 : Hid (A = B ++ (y :: A2) ∧ ∀ z ∈ y :: A2, t.lt z = true) := ⟨by rw [hs.out.1, hB]; simp, by
                      intro z hz
                      rcases List.mem_cons.1 hz with rfl | hz
                      · exact hty
                      · exact hs.out.2 z hz⟩
                    clear hown hbw hs hset hnl hB hqB hq hty
                    go_wp2_with fail
                    go_roundw
                    case rel =>
                      (repeat apply Exists.intro)
                      refine ⟨?_, rfl⟩
                      exact ⟨B.length, B, y :: A2, y, by first | rfl | (have := HqB.out; go_num), rfl, hown1, hbw1, HS1⟩
                    case measure => have := HqB.out; simp [intOf]; omega
                  | false =>
                    rw [hcmp, hty] at hgt
                    clear hcmp
                    have hS' := sort_round (A1 := A1) (A2 := A2) (C := C) (t := t) (m := m) (k := k) (by rw [← hs.out.1]; exact HK.out) (by have := congrArg List.length hs.out.1; simp at this; omega) hs.out.2 (.inr ⟨B, y, hB, hty⟩)
                    have hl2 : (A1 ++ t :: (A2 ++ C)).length = N := by have h1 := HL.out; rw [hs.out.1] at h1; simp at h1 ⊢; omega
                    have hown1 := OwnS.set hnl hown q t.str
                    have hset : ((A1 ++ x :: (A2 ++ C)).map Tr.str).set q t.str = (A1 ++ t :: (A2 ++ C)).map Tr.str := by subst hq; simp
                    rw [hset] at hown1
                    have hbw1 : Below w.heap.size w (wr.setCell ⟨g, q, none⟩ (.string t.str)) := Below.setCell hbw hgb _
                    have HS1 : Hid ((A1 ++ t :: (A2 ++ C)).length = N ∧ SortK m (k + 1) (A1 ++ t :: (A2 ++ C))) := ⟨hl2, hS'⟩
                    clear hS' hl2 hset hnl hs
                    clear hown hbw hB hqB hq hty
                    go_wp2_with fail
                    go_roundw
                    case rel =>
                      (repeat apply Exists.intro)
                      refine ⟨?_, rfl⟩
                      exact ⟨k + 1, _, by go_num, by omega, by omega, hown1, hbw1, HS1⟩
                    case measure => simp [intOf]; omega
            · obtain rfl : k = N := by omega
              have hfin := sort_done hs.out.1 hs.out.2
              go_wp2_with fail
              go_ret
              exact ⟨g, cap, by rw [trTexts, ← hfin, hlen]; exact hown, hbw, by rw [trTexts, ← hfin, hlen]; rfl⟩
end Go.Proofs.Yteflpaebckichab

/-! Next1 -/
namespace Go.Proofs.Yteflpaebckichab
open Go.RowKit

/-- Block b is a walk: trees, carets, rank. -/
def WkAt (w : World) (b m c r : Nat) : Prop := w.heap[b]? = some (.cells #[.int .i64 m, .int .i64 c, .int .i64 r] 113 (0, 0))
theorem WkAt.cells {w : World} {b m c r : Nat} (h : WkAt w b m c r) : w.cell? ⟨b, 0, none⟩ = some (.int .i64 m) ∧ w.cell? ⟨b, 1, none⟩ = some (.int .i64 c) ∧ w.cell? ⟨b, 2, none⟩ = some (.int .i64 r) ∧ w.frozen? ⟨b, 0, none⟩ = false ∧ w.frozen? ⟨b, 1, none⟩ = false ∧ w.frozen? ⟨b, 2, none⟩ = false := by
  unfold WkAt at h
  simp [World.cell?, World.frozen?, h]
theorem WkAt.set0 {w : World} {b m c r : Nat} (h : WkAt w b m c r) (n : Nat) : WkAt (w.setCell ⟨b, 0, none⟩ (.int .i64 n)) b n c r := Joins.block_setCell h _
theorem WkAt.set1 {w : World} {b m c r : Nat} (h : WkAt w b m c r) (n : Nat) : WkAt (w.setCell ⟨b, 1, none⟩ (.int .i64 n)) b m n r := Joins.block_setCell h _
theorem WkAt.set2 {w : World} {b m c r : Nat} (h : WkAt w b m c r) (n : Nat) : WkAt (w.setCell ⟨b, 2, none⟩ (.int .i64 n)) b m c n := Joins.block_setCell h _
theorem WkAt.keep {w w' : World} {b m c r : Nat} (hb : Below w.heap.size w w') (h : WkAt w b m c r) : WkAt w' b m c r := (hb.block b (lt_of_block h)).trans h
theorem grown_set (w : World) (b i : Nat) (v : Value) : w.grownBy (w.setCell ⟨b, i, none⟩ v) (some b) :=
  ⟨rfl, rfl, rfl, by simp, fun k _ hk => heap_setCell_other w ⟨b, i, none⟩ k v (fun e => hk (by rw [e]))⟩
theorem grownR (w : World) (r : Option Nat) : w.grownBy w r := ⟨rfl, rfl, rfl, Nat.le_refl _, fun _ _ _ => rfl⟩
theorem grownT {a b c : World} {r : Option Nat} (h : a.grownBy b r) (k : b.grownBy c r) : a.grownBy c r :=
  ⟨k.os.trans h.os, k.tape.trans h.tape, k.output.trans h.output, Nat.le_trans h.size k.size, fun i hi hn => (k.block i (Nat.lt_of_lt_of_le hi h.size) hn).trans (h.block i hi hn)⟩
theorem grownB {a b c : World} {r : Option Nat} (h : a.grownBy b r) (k : Below b.heap.size b c) : a.grownBy c r :=
  ⟨k.os.trans h.os, k.tape.trans h.tape, k.output.trans h.output, Nat.le_trans h.size k.size, fun i hi hn => (k.block i (Nat.lt_of_lt_of_le hi h.size)).trans (h.block i hi hn)⟩

theorem grownD {w w' : World} {n : Nat} {r : Option Nat} (h : (w.drewN n).grownBy w' r) : w.grownBy w' r := ⟨h.os, h.tape, h.output, h.size, h.block⟩

/-- Nodes in blocks from n0 on. -/
def NodeUp (n0 : Nat) (w : World) : Tr → Nat → Prop
  | .lf, b => n0 ≤ b ∧ w.heap[b]? = some (.cells #[.pointer none, .pointer none] 134 (0, 0))
  | .nd l r, b => n0 ≤ b ∧ ∃ bl br, w.heap[b]? = some (.cells #[.pointer (some ⟨bl, 0, none⟩), .pointer (some ⟨br, 0, none⟩)] 134 (0, 0)) ∧ NodeUp n0 w l bl ∧ NodeUp n0 w r br
theorem NodeUp.at {n0 : Nat} {w : World} : ∀ {t : Tr} {b : Nat}, NodeUp n0 w t b → NodeAt w t b := by
  intro t
  induction t with
  | lf => intro b h; exact h.2
  | nd l r ihl ihr => intro b h; obtain ⟨_, bl, br, h, h1, h2⟩ := h; exact ⟨bl, br, h, ihl h1, ihr h2⟩
theorem NodeUp.kept {n0 b0 : Nat} {w w' : World} (hg : w.grownBy w' (some b0)) (hb : b0 < n0) : ∀ {t : Tr} {b : Nat}, NodeUp n0 w t b → NodeUp n0 w' t b := by
  intro t
  induction t with
  | lf => intro b h; exact ⟨h.1, (hg.block b (lt_of_block h.2) (fun e => by injection e with e; have := h.1; omega)).trans h.2⟩
  | nd l r ihl ihr =>
    intro b h
    obtain ⟨hn, bl, br, h, h1, h2⟩ := h
    exact ⟨hn, bl, br, (hg.block b (lt_of_block h) (fun e => by injection e with e; omega)).trans h, ihl h1, ihr h2⟩
theorem NodeUp.mono {n0 n1 : Nat} (hn : n1 ≤ n0) {w : World} : ∀ {t : Tr} {b : Nat}, NodeUp n0 w t b → NodeUp n1 w t b := by
  intro t
  induction t with
  | lf => intro b h; exact ⟨by have := h.1; omega, h.2⟩
  | nd l r ihl ihr => intro b h; obtain ⟨hk, bl, br, h, h1, h2⟩ := h; exact ⟨by omega, bl, br, h, ihl h1, ihr h2⟩
theorem NodeUp.keepB {n0 : Nat} {w w' : World} (hb : Below w.heap.size w w') : ∀ {t : Tr} {b : Nat}, NodeUp n0 w t b → NodeUp n0 w' t b := by
  intro t
  induction t with
  | lf => intro b h; exact ⟨h.1, (hb.block b (lt_of_block h.2)).trans h.2⟩
  | nd l r ihl ihr =>
    intro b h
    obtain ⟨hn, bl, br, h, h1, h2⟩ := h
    exact ⟨hn, bl, br, (hb.block b (lt_of_block h)).trans h, ihl h1, ihr h2⟩

set_option maxRecDepth 100000 in
theorem inFront_any (b m c r : Nat) (w : World) (h : WkAt w b m c r) (hm : m ≤ 18) (hc : c ≤ 8) :
    Calls Try.prog 126 #[.pointer (some ⟨b, 0, none⟩)] w (Quietly (.int .i64 (frontN m c)) w) := by
  obtain ⟨h0, h1, h2, h3, h4, h5⟩ := h.cells
  unfold frontN
  by_cases hz : c = 0
  · subst hz
    rw [if_pos rfl]
    clear h
    go_enter Try.func126, Try.ntmps126
    go_wp2_with fail
    go_ret
    exact ⟨rfl, 0, rfl⟩
  · rw [if_neg hz]
    obtain ⟨d, rfl⟩ : ∃ d, c = d + 1 := ⟨c - 1, by omega⟩
    rw [Nat.add_sub_cancel]
    have hL : ∀ w, Calls Try.prog 120 #[.int .i64 ((m : Int) + 1), .int .i64 (d : Int)] w fun e w' => e = .returned (.int .i64 (listsN (m + 1) d)) ∧ w = w' := fun w => countLists_any (m + 1) d w (by omega) (by omega) (by omega)
    have e1 : IntKind.i64.wrap ((m : Int) + 1) = (m : Int) + 1 := by rw [IntKind.wrap_i64] <;> omega
    have e2 : IntKind.i64.wrap (d : Int) = (d : Int) := by rw [IntKind.wrap_i64] <;> omega
    have e3 : IntKind.i64.wrap ((d : Int) + 1 - 1) = ((d : Nat) : Int) := by rw [IntKind.wrap_i64] <;> omega
    have ez : ((d : Int) + 1 == 0) = false := by rw [beq_eq_false_iff_ne]; omega
    clear h hz
    go_enter Try.func126, Try.ntmps126
    go_wp2_with fail
    go_quiet ((go_at_call 120; exact quiet_eq (hL _)))
    go_wp2_with fail
    go_ret
    exact ⟨rfl, _, rfl⟩

/-- A step of a walk: nothing else turns. -/
def Steps (b m c r : Nat) (w : World) (e : Ending) (w' : World) : Prop := (∃ v, e = .returned v) ∧ WkAt w' b m c r ∧ w.grownBy w' (some b)
set_option maxRecDepth 100000 in
theorem passLeaf_any (b m c r : Nat) (w : World) (h : WkAt w b (m + 1) c r) (hm : m ≤ 18) :
    Calls Try.prog 127 #[.pointer (some ⟨b, 0, none⟩)] w (Steps b m c r w) := by
  obtain ⟨h0, h1, h2, h3, h4, h5⟩ := h.cells
  have H := Lib.hid h
  clear h
  go_enter Try.func127, Try.ntmps127
  go_wp2_with fail
  go_end0
  exact ⟨⟨_, rfl⟩, H.out.set0 m, grown_set _ _ _ _⟩
set_option maxRecDepth 100000 in
theorem passCaret_any (b m c r : Nat) (w : World) (h : WkAt w b m (c + 1) r) (hm : m ≤ 18) (hc : c ≤ 18) :
    Calls Try.prog 125 #[.pointer (some ⟨b, 0, none⟩)] w (Steps b (m + 1) c r w) := by
  obtain ⟨h0, h1, h2, h3, h4, h5⟩ := h.cells
  have H := Lib.hid h
  have hc2 : (w.setCell ⟨b, 0, none⟩ (.int .i64 ((m : Int) + 1))).cell? ⟨b, 1, none⟩ = some (.int .i64 ((c + 1 : Nat) : Int)) := ((h.set0 (m + 1)).cells).2.1
  clear h
  go_enter Try.func125, Try.ntmps125
  go_wp2_with fail
  go_end0
  exact ⟨⟨_, rfl⟩, (H.out.set0 (m + 1)).set1 c, grownT (grown_set _ _ _ _) (grown_set _ _ _ _)⟩

def NextOk (b m c r : Nat) (t : Tr) (w : World) (e : Ending) (w' : World) : Prop :=
  ∃ g : Nat, e = .returned (.pointer (some ⟨g, 0, none⟩)) ∧ NodeUp w.heap.size w' t g ∧ WkAt w' b m c r ∧ w.grownBy w' (some b)

theorem lists_small0 : ∀ c, c ≤ 8 → ∀ m, m ≤ 18 → 2 * c + m ≤ 18 → listsN m c ≤ 8000 := by decide
theorem lists_small (m c : Nat) (h : c ≤ 8) (k : 2 * c + m ≤ 18) : listsN m c ≤ 8000 := lists_small0 c h m (by omega) k
set_option maxRecDepth 100000 in
set_option maxHeartbeats 4000000 in
theorem next_any (k : Nat) : ∀ (b m c r : Nat) (us : List Tr) (w : World), WkAt w b m c r → 2 * c + m ≤ k → 1 ≤ m → c ≤ 8 → 2 * c + m ≤ 18 → r ≤ 8000 → (enum m c)[r]? = some us →
    Calls Try.prog 117 #[.pointer (some ⟨b, 0, none⟩)] w (NextOk b (nextF k m c r).2.1 (nextF k m c r).2.2.1 (nextF k m c r).2.2.2 (nextF k m c r).1 w) := by
  induction k with
  | zero => intro b m c r us w h hk h1; omega
  | succ k ih =>
    intro b m c r us w h hk h1 h8 h18 hr hget
    obtain ⟨c0, c1, c2, f0, f1, f2⟩ := h.cells
    have hbl := lt_of_block h
    rw [nextF]
    by_cases hf : frontN m c ≤ r
    · rw [if_pos hf]
      obtain ⟨m', rfl⟩ : ∃ m', m = m' + 1 := ⟨m - 1, by omega⟩
      rw [Nat.add_sub_cancel]
      have hI := fun w (h : WkAt w b (m' + 1) c r) => inFront_any b (m' + 1) c r w h (by omega) h8
      obtain ⟨F, hF⟩ : ∃ F, F = frontN (m' + 1) c := ⟨_, rfl⟩
      rw [← hF] at hf ⊢
      simp only [← hF] at hI
      obtain ⟨s, rfl⟩ : ∃ s, r = F + s := ⟨r - F, by omega⟩
      have es : F + s - F = s := by omega
      rw [es]
      have H := Lib.hid h
      have hB := Below.refl w.heap.size w
      clear h hget hF es ih
      go_enter Try.func117, Try.ntmps117
      go_wp2_with fail
      refine (hI _ H.out).mono ?_; rintro e w1 ⟨rfl, d1, rfl⟩
      have hs : WkAt ((w.drewN d1).setCell ⟨b, 2, none⟩ (.int .i64 s)) b (m' + 1) c s := WkAt.set2 (w := w.drewN d1) H.out s
      have hg1 : w.grownBy ((w.drewN d1).setCell ⟨b, 2, none⟩ (.int .i64 s)) (some b) := grownD (grown_set (w.drewN d1) b 2 _)
      have HS := Lib.hid hs
      have ef : (F : Int) + (s : Int) - (F : Int) = (s : Int) := by omega
      clear hs
      go_wp2_with fail
      refine (passLeaf_any b m' c s _ HS.out (by omega)).mono ?_; rintro e w3 ⟨⟨v, rfl⟩, hk3, hg3⟩
      have hg13 := grownT hg1 hg3
      have hb4 := nxAlloc (Below.refl w3.heap.size w3) (.cells #[.pointer none, .pointer none] 134 (0, 0))
      have HK := Lib.hid (hk3.keep hb4)
      have hsz := hg13.size
      have HG := Lib.hid (grownB hg13 hb4)
      clear hk3 hg3 hg1 hg13 HS hb4
      go_wp2_with fail
      go_ret
      exact ⟨_, rfl, ⟨hsz, heap_alloc_at _ _⟩, HK.out, HG.out⟩
    · rw [if_neg hf]
      have hc0 : c ≠ 0 := by
        intro e; apply hf; unfold frontN; rw [if_pos e]; exact Nat.zero_le _
      obtain ⟨c', rfl⟩ : ∃ c', c = c' + 1 := ⟨c - 1, by omega⟩
      rw [Nat.add_sub_cancel]
      have hfl : (enum (m + 1) c').length = frontN m (c' + 1) := by
        have := front_length (m := m) (c := c' + 1) h8 h18
        rw [if_neg (by omega), List.length_map, Nat.add_sub_cancel] at this
        exact this
      have hget1 : ∃ us1, (enum (m + 1) c')[r]? = some us1 := ⟨_, List.getElem?_eq_getElem (by omega)⟩
      obtain ⟨us1, hget1⟩ := hget1
      obtain ⟨ts, hu, hn1, hn2, hn3⟩ := nextF_get k (m + 1) c' r us1 (by omega) (by omega) (by omega) (by omega) hget1
      rw [Nat.add_sub_cancel] at hn3
      have ih1 := fun w h => ih b (m + 1) c' r us1 w h (by omega) (by omega) (by omega) (by omega) hr hget1
      obtain ⟨X, hX⟩ : ∃ X, X = nextF k (m + 1) c' r := ⟨_, rfl⟩
      rw [← hX] at hn1 hn2 hn3 ⊢
      simp only [← hX] at ih1
      obtain ⟨t1, m1, c1, r1⟩ := X
      simp only at hn1 hn2 hn3 ih1 ⊢
      obtain rfl : m1 = m := by omega
      have hr1 : r1 ≤ 8000 := by
        have h9 := (List.getElem?_eq_some_iff.1 hn3).1
        rw [enum_length (by omega) (by omega) h1] at h9
        have h10 : listsN m1 c1 ≤ 8000 := lists_small m1 c1 (by omega) (by omega)
        omega
      have ih2 := fun w h => ih b m1 c1 r1 ts w h (by omega) h1 (by omega) (by omega) hr1 hn3
      obtain ⟨Y, hY⟩ : ∃ Y, Y = nextF k m1 c1 r1 := ⟨_, rfl⟩
      rw [← hY]
      simp only [← hY] at ih2
      obtain ⟨t2, m2, c2', r2⟩ := Y
      simp only at ih2 ⊢
      have hI := fun w (h : WkAt w b m1 (c' + 1) r) => inFront_any b m1 (c' + 1) r w h (by omega) h8
      obtain ⟨F, hF⟩ : ∃ F, F = frontN m1 (c' + 1) := ⟨_, rfl⟩
      rw [← hF] at hf
      simp only [← hF] at hI
      have hf' : (r : Int) < (F : Int) := by omega
      have HI1 := Lib.hid ih1
      have HI2 := Lib.hid ih2
      have H := Lib.hid h
      clear h hget hF hf ih hget1 hu hn1 hn2 hn3 hX hY hfl ih1 ih2 hc0
      go_enter Try.func117, Try.ntmps117
      go_wp2_with fail
      refine (hI _ H.out).mono ?_; rintro e w1 ⟨rfl, d1, rfl⟩
      go_wp2_with fail
      refine (passCaret_any b m1 c' r (w.drewN d1) H.out (by omega) (by omega)).mono ?_; rintro e w2 ⟨⟨v, rfl⟩, hk2, hg2⟩
      have hg2' : w.grownBy w2 (some b) := grownD hg2
      have hs2 := hg2'.size
      clear hg2
      go_wp2_with fail
      refine (HI1.out _ hk2).mono ?_; rintro e w3 ⟨gl, rfl, hl3, hk3, hg3⟩
      have hs3 := hg3.size
      clear hk2
      go_wp2_with fail
      refine (HI2.out _ hk3).mono ?_; rintro e w4 ⟨gr, rfl, hr4, hk4, hg4⟩
      have hl4 := hl3.kept hg4 (by omega)
      have hs4 := hg4.size
      have hb5 := nxAlloc (Below.refl w4.heap.size w4) (.cells #[.pointer (some ⟨gl, 0, none⟩), .pointer (some ⟨gr, 0, none⟩)] 134 (0, 0))
      have HL := Lib.hid ((hl4.keepB hb5).mono (show w.heap.size ≤ w2.heap.size by omega))
      have HR := Lib.hid ((hr4.keepB hb5).mono (show w.heap.size ≤ w3.heap.size by omega))
      have HK := Lib.hid (hk4.keep hb5)
      have HG := Lib.hid (grownB (grownT (grownT hg2' hg3) hg4) hb5)
      clear hk3 hg3 hg4 hl3 hl4 hr4 hk4 hb5 hg2'
      go_wp2_with fail
      go_ret
      exact ⟨_, rfl, ⟨by omega, gl, gr, heap_alloc_at _ _, HL.out, HR.out⟩, HK.out, HG.out⟩
end Go.Proofs.Yteflpaebckichab

/-! WTreeAt -/
namespace Go.Proofs.Yteflpaebckichab
open Go.RowKit

def TreeAt_o (n r : Int) : Option Tr := if 0 ≤ n ∧ n ≤ 8 then if 0 ≤ r ∧ r < (catN n.toNat : Nat) then some (treeAt n.toNat r.toNat) else none else none
theorem treeAt_carets {n r : Nat} (hn : n ≤ 8) (hr : r < listsN 1 n) : (treeAt n r).carets = n := (mem_treesN n _).1 (List.mem_of_getElem? (treesN_get n r hn hr))
set_option maxHeartbeats 1000000 in
theorem specTreeAt_any (n r : Int) (w : World) (lo0 : -9223372036854775808 ≤ n) (hi0 : n ≤ 9223372036854775807) (lo1 : -9223372036854775808 ≤ r) (hi1 : r ≤ 9223372036854775807) :
    Calls Try.prog 44 #[.int .i64 n, .int .i64 r] w (Gives (ansV (TreeAt_o n r)) w) := by
  unfold TreeAt_o
  by_cases h : 0 ≤ n ∧ n ≤ 8
  · rw [if_pos h]
    obtain ⟨k, rfl⟩ : ∃ k : Nat, n = k := ⟨n.toNat, by omega⟩
    have h8 : k ≤ 8 := by omega
    rw [Int.toNat_natCast]
    have hcb := catN_bd k h8
    have hcp : 0 < catN k := by
      have : ∀ k, k ≤ 8 → 0 < catN k := by decide
      exact this k h8
    have hC := fun w => trCount_any k w h8
    clear h
    by_cases hr : 0 ≤ r ∧ r < (catN k : Nat)
    · rw [if_pos hr]
      obtain ⟨q, rfl⟩ : ∃ q : Nat, r = q := ⟨r.toNat, by omega⟩
      rw [Int.toNat_natCast]
      have hq : q < listsN 1 k := by rw [lists_cat k h8]; omega
      have hget := treesN_get k q h8 hq
      have hT := fun w => trList_any k h8 w
      have hq2 : (trTexts k)[q]? = some (treeAt k q).str := by unfold trTexts; rw [List.getElem?_map, hget]; rfl
      have HQ := Lib.hid hq2
      have hr1 : (q : Int) ≤ (catN k : Int) - 1 := by omega
      generalize catN k = Cn at *
      clear hr hq hget hq2 hcp
      go_enter Try.func44, Try.ntmps44
      go_wp2_with fail
      refine (trSize_yes k _ (by omega) (by omega)).mono ?_; rintro e w1 ⟨rfl, rfl⟩
      go_wp2_with fail
      refine (hC _).mono ?_; rintro e w1 ⟨rfl, rfl⟩
      go_wp2_with fail
      refine (l1In_yes q 0 ((Cn : Int) - 1) _ (by omega) hr1).mono ?_; rintro e w1 ⟨rfl, rfl⟩
      go_wp2_with fail
      refine (hT _).mono ?_; rintro e w1 ⟨g, cap, own, hb1, rfl⟩
      have hcell := CellsS.at own.cells HQ.out
      have hlen : q < (trTexts k).length := (List.getElem?_eq_some_iff.1 HQ.out).1
      have hlen' : (q : Int) < ((trTexts k).length : Int) := by omega
      generalize (trTexts k).length = M at *
      clear own
      go_wp2_with fail
      go_ret2
      exact ⟨rfl, hb1⟩
    · rw [if_neg hr]
      have HN : Hid (r < 0 ∨ (catN k : Int) - 1 < r) := show _ ∨ _ by omega
      generalize catN k = Cn at *
      clear hr
      go_enter Try.func44, Try.ntmps44
      go_wp2_with fail
      refine (trSize_yes k _ (by omega) (by omega)).mono ?_; rintro e w1 ⟨rfl, rfl⟩
      go_wp2_with fail
      refine (hC _).mono ?_; rintro e w1 ⟨rfl, rfl⟩
      go_wp2_with fail
      refine (l1In_no r 0 ((Cn : Int) - 1) _ HN.out).mono ?_; rintro e w1 ⟨rfl, rfl⟩
      go_wp2_with fail
      go_ret2
      exact ⟨rfl, Below.refl _ _⟩
  · rw [if_neg h]
    have HN : Hid (n < 0 ∨ 8 < n) := show _ ∨ _ by omega
    clear h
    go_enter Try.func44, Try.ntmps44
    go_wp2_with fail
    refine (trSize_no n _ HN.out).mono ?_; rintro e w1 ⟨rfl, rfl⟩
    go_wp2_with fail
    go_ret2
    exact ⟨rfl, Below.refl _ _⟩

set_option maxRecDepth 100000 in
set_option maxHeartbeats 1000000 in
theorem implTreeAt_any (n r : Int) (w : World) (lo0 : -9223372036854775808 ≤ n) (hi0 : n ≤ 9223372036854775807) (lo1 : -9223372036854775808 ≤ r) (hi1 : r ≤ 9223372036854775807) :
    Calls Try.prog 43 #[.int .i64 n, .int .i64 r] w (Gives (ansV (TreeAt_o n r)) w) := by
  have hC := fun w => implCountTrees_any n w lo0 hi0
  unfold TreeAt_o
  by_cases h : 0 ≤ n ∧ n ≤ 8
  · rw [if_pos h]
    have hco : countO n = some (catN n.toNat) := by unfold countO; rw [if_pos h]
    rw [hco] at hC
    obtain ⟨k, rfl⟩ : ∃ k : Nat, n = k := ⟨n.toNat, by omega⟩
    have h8 : k ≤ 8 := by omega
    rw [Int.toNat_natCast] at hC ⊢
    have hcb := catN_bd k h8
    unfold ansN at hC
    simp only [Option.getD_some, Option.isSome_some] at hC
    clear h hco
    by_cases hr : 0 ≤ r ∧ r < (catN k : Nat)
    · rw [if_pos hr]
      obtain ⟨q, rfl⟩ : ∃ q : Nat, r = q := ⟨r.toNat, by omega⟩
      rw [Int.toNat_natCast]
      have hq : q < listsN 1 k := by rw [lists_cat k h8]; omega
      obtain ⟨us, hget⟩ : ∃ us, (enum 1 k)[q]? = some us := ⟨_, List.getElem?_eq_getElem (by rw [enum_length h8 (by omega) (by omega)]; exact hq)⟩
      have hN := fun b w h => next_any (2 * k + 1) b 1 k q us w h (Nat.le_refl _) (Nat.le_refl _) h8 (by omega) (by have := catN_bd k h8; omega) hget
      have hcar := treeAt_carets h8 hq
      have ht : (nextF (2 * k + 1) 1 k q).1 = treeAt k q := rfl
      rw [ht] at hN
      have hd1 : decide ((q : Int) < 0) = false := by simp
      have hd2 : (q : Int) < (catN k : Int) := by omega
      have HN := Lib.hid hN
      have HC := Lib.hid hcar
      generalize treeAt k q = T at *
      generalize catN k = Cn at *
      clear hr hq hget hN hcar ht
      go_enter Try.func43, Try.ntmps43
      go_wp2_with fail
      refine (hC _).mono ?_; rintro e w1 ⟨rfl, hb1⟩
      go_wp2_with fail
      have hk : WkAt (w1.alloc (.cells #[.int .i64 1, .int .i64 k, .int .i64 q] 113 (0, 0))) w1.heap.size 1 k q := heap_alloc_at _ _
      have hb2 := nxAlloc hb1 (.cells #[.int .i64 1, .int .i64 k, .int .i64 q] 113 (0, 0))
      have hs1 := hb1.size
      refine (HN.out _ _ hk).mono ?_; rintro e w2 ⟨g, rfl, hu, _, hg⟩
      have hb3 : Below w.heap.size w w2 := Below.grown hb2 hg hb2.size (fun j hj => by injection hj with hj; omega)
      have hT := fun w h => text_any T g w h (by rw [HC.out]; omega)
      have HU := Lib.hid hu.at
      clear hk hb2 hg hu hC
      go_wp2_with fail
      refine (hT _ HU.out).mono ?_; rintro e w3 ⟨rfl, d3, rfl⟩
      go_wp2_with fail
      go_ret2
      exact ⟨rfl, drewB hb3 _⟩
    · rw [if_neg hr]
      generalize catN k = Cn at *
      by_cases h0 : r < 0
      · have hd1 : decide (r < 0) = true := by simpa using h0
        clear hr h0
        go_enter Try.func43, Try.ntmps43
        go_wp2_with fail
        refine (hC _).mono ?_; rintro e w1 ⟨rfl, hb1⟩
        go_wp2_with fail
        go_ret2
        exact ⟨rfl, hb1⟩
      · have hd1 : decide (r < 0) = false := by simpa using h0
        have hd2 : (Cn : Int) ≤ r := by omega
        clear hr h0
        go_enter Try.func43, Try.ntmps43
        go_wp2_with fail
        refine (hC _).mono ?_; rintro e w1 ⟨rfl, hb1⟩
        go_wp2_with fail
        go_ret2
        exact ⟨rfl, hb1⟩
  · rw [if_neg h]
    have hco : countO n = none := by unfold countO; rw [if_neg h]
    rw [hco] at hC
    unfold ansN at hC
    simp only [Option.getD_none, Option.isSome_none] at hC
    clear hco h
    go_enter Try.func43, Try.ntmps43
    go_wp2_with fail
    refine (hC _).mono ?_; rintro e w1 ⟨rfl, hb1⟩
    go_wp2_with fail
    go_ret2
    exact ⟨rfl, hb1⟩

end Go.Proofs.Yteflpaebckichab

/-! WAllTrees -/
namespace Go.Proofs.Yteflpaebckichab
open Go.RowKit

theorem ownsRow_far {w w2 : World} {base : Nat} {e : TypeId} {size : Nat} {v : Value} {n : Nat} {xs : List Value} {o : Obj} (h : w.ownsRow base e size v n xs) (hg : (w.alloc o).grownBy w2 (some w.heap.size)) : w2.ownsRow base e size v n xs := by
  obtain ⟨h1, h2⟩ := h
  refine ⟨h1, ?_⟩
  rcases h2 with h2 | ⟨g, cap, cur, hv, hb, hh, r⟩
  · exact .inl h2
  · have hl := lt_of_block hh
    refine .inr ⟨g, cap, cur, hv, hb, ?_, r⟩
    rw [hg.block g (by simp; omega) (fun e => by injection e with e; omega), (World.grownBy_alloc w o none).block g hl (fun e => by cases e)]
    exact hh
def AllTrees_o (n : Int) : Option (List ByteArray) := if 0 ≤ n ∧ n ≤ 5 then some (trTexts n.toNat) else none
theorem AllTrees_len (n : Int) : ((AllTrees_o n).getD []).length ≤ 1000000000 := by
  unfold AllTrees_o
  split
  · next h =>
    have := treesN_small n.toNat (by omega)
    simp [trTexts]; omega
  · simp
theorem specAllTrees_any (n : Int) (w : World) (lo0 : -9223372036854775808 ≤ n) (hi0 : n ≤ 9223372036854775807) :
    Calls Try.prog 49 #[.int .i64 n] w (AnsSs (AllTrees_o n) w) := by
  unfold AllTrees_o
  by_cases h : 0 ≤ n ∧ n ≤ 5
  · rw [if_pos h]
    obtain ⟨k, rfl⟩ : ∃ k : Nat, n = k := ⟨n.toNat, by omega⟩
    rw [Int.toNat_natCast]
    have hT := fun w => trList_any k (by omega) w
    have h1 : (0 : Int) ≤ k := by omega
    have h2 : (k : Int) ≤ 5 := by omega
    clear h
    go_enter Try.func49, Try.ntmps49
    go_wp2_with fail
    refine (l1In_yes k 0 5 _ h1 h2).mono ?_; rintro e w1 ⟨rfl, rfl⟩
    go_wp2_with fail
    refine (hT _).mono ?_; rintro e w1 ⟨g, cap, own, hb1, rfl⟩
    go_wp2_with fail
    go_ret2
    exact ⟨_, own, hb1, rfl⟩
  · rw [if_neg h]
    have HN : Hid (n < 0 ∨ 5 < n) := show _ ∨ _ by omega
    clear h
    go_enter Try.func49, Try.ntmps49
    go_wp2_with fail
    refine (l1In_no n 0 5 _ HN.out).mono ?_; rintro e w1 ⟨rfl, rfl⟩
    go_wp2_with fail
    go_ret2
    exact ⟨_, OwnS.nil _ _, Below.refl _ _, rfl⟩

/-- The first trees of a list, by their ranks. -/
def firstT (k q : Nat) : List ByteArray := (List.range q).map fun r => (treeAt k r).str
theorem firstT_succ (k q : Nat) : firstT k (q + 1) = firstT k q ++ [(treeAt k q).str] := by simp [firstT, List.range_succ]
theorem firstT_all (k : Nat) (h : k ≤ 8) : firstT k (listsN 1 k) = trTexts k := by
  unfold firstT trTexts
  rw [treesN_eq k h, List.map_map]; rfl

set_option maxRecDepth 100000 in
set_option maxHeartbeats 2000000 in
theorem implAllTrees_any (n : Int) (w : World) (lo0 : -9223372036854775808 ≤ n) (hi0 : n ≤ 9223372036854775807) :
    Calls Try.prog 48 #[.int .i64 n] w (AnsSs (AllTrees_o n) w) := by
  obtain ⟨i0, hi, hz0, hz1, hz2⟩ := info_parts info_str
  unfold AllTrees_o
  by_cases h0 : n < 0
  · rw [if_neg (by omega)]
    have hd1 : decide (n < 0) = true := by simpa using h0
    clear h0
    go_enter Try.func48, Try.ntmps48
    go_wp2_with fail
    go_ret2
    exact ⟨_, OwnS.nil _ _, Below.refl _ _, rfl⟩
  · have hd1 : decide (n < 0) = false := by simpa using h0
    by_cases h5 : 5 < n
    · rw [if_neg (by omega)]
      clear h0
      go_enter Try.func48, Try.ntmps48
      go_wp2_with fail
      go_ret2
      exact ⟨_, OwnS.nil _ _, Below.refl _ _, rfl⟩
    · rw [if_pos (by omega)]
      obtain ⟨k, rfl⟩ : ∃ k : Nat, n = k := ⟨n.toNat, by omega⟩
      rw [Int.toNat_natCast]
      have h5' : k ≤ 5 := by omega
      have hC := fun w => countLists_any 1 k w (by omega) (by omega) (by omega)
      obtain ⟨M, hM⟩ : ∃ M, M = listsN 1 k := ⟨_, rfl⟩
      have hM8 : M ≤ 8000 := by rw [hM]; exact lists_small 1 k (by omega) (by omega)
      have hN : ∀ q, q < M → ∀ b w, WkAt w b 1 k q → Calls Try.prog 117 #[.pointer (some ⟨b, 0, none⟩)] w (NextOk b (nextF (2 * k + 1) 1 k q).2.1 (nextF (2 * k + 1) 1 k q).2.2.1 (nextF (2 * k + 1) 1 k q).2.2.2 (treeAt k q) w) := by
        intro q hq b w h
        obtain ⟨us, hget⟩ : ∃ us, (enum 1 k)[q]? = some us := ⟨_, List.getElem?_eq_getElem (by rw [enum_length (by omega) (by omega) (by omega), ← hM]; exact hq)⟩
        exact next_any (2 * k + 1) b 1 k q us w h (Nat.le_refl _) (Nat.le_refl _) (by omega) (by omega) (by omega) hget
      have hcar : ∀ q, q < M → (treeAt k q).carets = k := fun q hq => treeAt_carets (by omega) (by rw [← hM]; exact hq)
      have hend := firstT_all k (by omega)
      rw [← hM] at hend hC
      have HN := Lib.hid hN
      have HC := Lib.hid hcar
      have HE := Lib.hid hend
      clear hN hcar hend hM h0
      go_enter Try.func48, Try.ntmps48
      go_wp2_with fail
      refine (hC _).mono ?_; rintro e w1 ⟨rfl, rfl⟩
      clear hC
      go_wp2_with fail
      go_loopw [4, 15] (fun v i wr => ∃ (q : Nat) (xs : List ByteArray), i = .int .i64 q ∧ q ≤ M ∧ OwnS w.heap.size wr v xs ∧ xs.length = q ∧ Below w.heap.size w wr ∧ Hid (xs = firstT k q)) (fun _ i _ => M - (intOf i).toNat)
      case atStart => exact ⟨0, [], rfl, Nat.zero_le _, OwnS.nil _ _, rfl, Below.refl _ _, rfl⟩
      case round =>
        obtain ⟨q, xs, rfl, hq, hown, hxl, hbw, he⟩ := hrel
        by_cases hlt : q < M
        · have hlt' : (q : Int) < (M : Int) := by omega
          have hN := HN.out q hlt
          have hcar := HC.out q hlt
          have hstep := firstT_succ k q
          rw [← he.out] at hstep
          generalize treeAt k q = T at *
          have HS := Lib.hid hstep
          have HT := Lib.hid hcar
          have HNq := Lib.hid hN
          have HX := Lib.hid hxl
          clear hstep hcar hN he
          go_wp2_with fail
          have hk : WkAt (wr.alloc (.cells #[.int .i64 1, .int .i64 k, .int .i64 q] 113 (0, 0))) wr.heap.size 1 k q := heap_alloc_at _ _
          have hb2 := nxAlloc hbw (.cells #[.int .i64 1, .int .i64 k, .int .i64 q] 113 (0, 0))
          have ho2 := hown.keep (nxAlloc (Below.refl wr.heap.size wr) (.cells #[.int .i64 1, .int .i64 k, .int .i64 q] 113 (0, 0)))
          have hs1 := hbw.size
          refine (HNq.out _ _ hk).mono ?_; rintro e w2 ⟨g, rfl, hu, _, hg⟩
          have hb3 : Below w.heap.size w w2 := Below.grown hb2 hg hb2.size (fun j hj => by injection hj with hj; omega)
          have ho3 : OwnS w.heap.size w2 _ xs := ownsRow_far hown hg
          have hT := fun w h => text_any T g w h (by rw [HT.out]; omega)
          have HU := Lib.hid hu.at
          have hts : T.str.size ≤ 100 := by have := T.str_size; have := HT.out; omega
          clear hk hb2 hg hu ho2 hown hbw
          go_wp2_with fail
          refine (hT _ HU.out).mono ?_; rintro e w3 ⟨rfl, d3, rfl⟩
          have hb4 := drewB hb3 d3
          have ho4 : World.ownsRow (w2.drewN d3) w.heap.size 9 1 _ xs.length (xs.map Value.string) := ho3
          clear ho3 hb3
          go_wp2_with (at_builtin; refine wpList_append_own _ rfl _ _ 25 rfl w.heap.size 9 i0 (.string ⟨#[]⟩) 1 16 Try.underlying25 hi hz0 hz1 hz2 rfl (by decide) _ _ _ rfl (ho4.alloc _) ⟨(w2.drewN d3).heap.size, 0, none⟩ 1 1 [.string T.str] rfl rfl (new1 _ _ _) (oneS1 _) (by unfold maxLen; omega) (by omega) (size_al hb4 _) ?_; intro v' w9 hown' hgrow hnn)
          have hbw' := below_app hb4 ho4 (Nat.le_refl _) hgrow
          have hown1 := OwnS.snoc hown'
          clear hown' ho4 hgrow hnn hb4
          go_wp2_with fail
          go_roundw
          case rel => exact ⟨q + 1, _, by go_num, by omega, hown1, by have := HX.out; simp; omega, hbw', HS.out.symm⟩
          case measure => simp [intOf]; omega
        · obtain rfl : q = M := by omega
          have hx := he.out
          rw [HE.out] at hx
          have HX := Lib.hid hx
          clear he hx
          go_wp2_with fail
          go_ret2
          exact ⟨_, by rw [show (some (trTexts k)).getD [] = xs by rw [HX.out]; rfl]; exact hown, hbw, rfl⟩

end Go.Proofs.Yteflpaebckichab

/-! WRankTree -/
namespace Go.Proofs.Yteflpaebckichab
open Go.RowKit

/-- One byte of a text, as the program's walk takes it. -/
def chW (c : UInt8) (s : Nat × Nat × Nat) : Nat × Nat × Nat := if c = 40 then (s.1 + 1, s.2.1 - 1, s.2.2) else if c = 46 then (s.1 - 1, s.2.1, s.2.2 + frontN s.1 s.2.1) else s
def chL (l : List UInt8) (s : Nat × Nat × Nat) : Nat × Nat × Nat := l.foldl (fun s c => chW c s) s
theorem chL_text (t : Tr) : ∀ (q : List UInt8) (s : Nat × Nat × Nat), chL (t.text ++ q) s = chL q (rkT t s) := by
  induction t with
  | lf => intro q s; rfl
  | nd l r ihl ihr =>
    intro q s
    have e : (Tr.nd l r).text ++ q = 40 :: (l.text ++ (r.text ++ (41 :: q))) := by simp [Tr.text]
    rw [e]
    show chL (l.text ++ (r.text ++ (41 :: q))) (chW 40 s) = _
    rw [ihl, ihr]
    rfl
/-- Can a walk go along a text? -/
def okT : List UInt8 → Nat → Nat → Prop
  | [], _, _ => True
  | c :: l, m, k => if c = 40 then 1 ≤ k ∧ okT l (m + 1) (k - 1) else if c = 46 then 1 ≤ m ∧ okT l (m - 1) k else okT l m k
theorem okT_text (t : Tr) : ∀ (q : List UInt8) (m k : Nat), 1 ≤ m → t.carets ≤ k → okT q (m - 1) (k - t.carets) → okT (t.text ++ q) m k := by
  induction t with
  | lf => intro q m k hm hk h; exact ⟨hm, h⟩
  | nd l r ihl ihr =>
    intro q m k hm hk h
    have e : (Tr.nd l r).text ++ q = 40 :: (l.text ++ (r.text ++ (41 :: q))) := by simp [Tr.text]
    rw [e]
    simp only [Tr.carets] at hk h
    refine ⟨by omega, ihl _ _ _ (by omega) (by omega) (ihr _ _ _ (by omega) (by omega) ?_)⟩
    have e1 : m + 1 - 1 - 1 = m - 1 := by omega
    have e2 : k - 1 - l.carets - r.carets = k - (l.carets + r.carets + 1) := by omega
    rw [e1, e2]
    exact h
def RankTree_o (a : ByteArray) : Option Nat :=
  match treeOf a with
  | some t => some (rankT t)
  | none => none

theorem countP_take {l : List Tr} {k : Nat} {p : Tr → Bool} {t : Tr} (h : l[k]? = some t) : (l.take (k + 1)).countP p = (l.take k).countP p + if p t = true then 1 else 0 := by
  obtain ⟨hk, rfl⟩ := List.getElem?_eq_some_iff.1 h
  rw [List.take_succ_eq_append_getElem hk, List.countP_append]
  simp [List.countP_cons]

set_option maxRecDepth 100000 in
set_option maxHeartbeats 1000000 in
theorem specRankTree_any (a : ByteArray) (w : World) (ha : a.size ≤ 9223372036854775806) :
    Calls Try.prog 57 #[.string a] w (Gives (ansN (RankTree_o a)) w) := by
  cases h : treeOf a with
  | none =>
    rw [show RankTree_o a = none by simp [RankTree_o, h]]
    have H := Lib.hid h
    clear h
    go_enter Try.func57, Try.ntmps57
    go_wp2_with fail
    refine (trIs_no a _ ha H.out).mono ?_; rintro e w1 ⟨rfl, rfl⟩
    go_wp2_with fail
    go_ret2
    exact ⟨rfl, Below.refl _ _⟩
  | some t =>
    obtain ⟨rfl, hc⟩ := treeOf_some h
    rw [show RankTree_o t.str = some (rankT t) by simp [RankTree_o, h]]
    clear h
    have hT := fun w => trList_any t.carets hc w
    have hR := countP_sorted (treesN_sorted t.carets) (rankT_get t hc)
    have hM := treesN_small t.carets hc
    have hl : (trTexts t.carets).length = (treesN t.carets).length := by simp [trTexts]
    obtain ⟨L, hL⟩ : ∃ L, L = treesN t.carets := ⟨_, rfl⟩
    have hX : trTexts t.carets = L.map Tr.str := by rw [hL]; rfl
    rw [hX] at hT hl
    rw [← hL] at hR hM hl
    have HR := Lib.hid hR
    have HL := Lib.hid hl
    clear hR hL hX hl
    go_enter Try.func57, Try.ntmps57
    go_wp2_with fail
    refine (trIs_yes t _ hc).mono ?_; rintro e w1 ⟨rfl, rfl⟩
    go_wp2_with fail
    refine (carets_str t _ (by omega)).mono ?_; rintro e w1 ⟨rfl, rfl⟩
    go_wp2_with fail
    refine (hT _).mono ?_; rintro e w1 ⟨g, cap, own, hb1, rfl⟩
    have hcs := own.cells
    rw [HL.out]
    have HC := Lib.hid hcs
    clear own hT hcs
    go_wp2_with fail
    go_loop [4, 14] (fun v i => ∃ (k n : Nat), i = .int .i64 k ∧ v = .int .i64 n ∧ k ≤ L.length ∧ n ≤ k ∧ Hid (n = (L.take k).countP (fun u => u.lt t))) (fun _ i => L.length - (intOf i).toNat)
    case atStart => exact ⟨0, 0, rfl, rfl, Nat.zero_le _, Nat.le_refl _, rfl⟩
    case round =>
      obtain ⟨k, n, rfl, rfl, hk, hn, he⟩ := hrel
      by_cases hlt : k < L.length
      · have hlt' : (k : Int) < (L.length : Int) := by omega
        obtain ⟨u, hu⟩ : ∃ u, L[k]? = some u := ⟨_, List.getElem?_eq_getElem hlt⟩
        have hcell := CellsS.at HC.out (i := k) (t := u.str) (by rw [List.getElem?_map, hu]; rfl)
        have hstep := countP_take (p := fun u => u.lt t) hu
        rw [← he.out] at hstep
        have hless : Go.Op.bytesLess u.str.toList t.str.toList = u.lt t := bytesLess_str u t
        cases hq : u.lt t
        all_goals
          rw [hq] at hless
          simp only [hq, if_true, if_false, reduceCtorEq] at hstep
          have HS := Lib.hid hstep
          clear hstep hq hu he
          go_wp2_with fail
          go_round
          case rel => exact ⟨k + 1, _, by go_num, by first | rfl | go_num, by omega, by omega, HS.out.symm⟩
          case measure => simp [intOf]; omega
      · obtain rfl : k = L.length := by omega
        have he' := he.out
        rw [List.take_length, HR.out] at he'
        have HE := Lib.hid he'
        clear he he'
        go_wp2_with fail
        go_ret2
        exact ⟨by rw [← HE.out]; rfl, hb1⟩

theorem quietG {P : Program} {f : FuncId} {args : Array Value} {w : World} {v : Value} (h : Calls P f args w (Quietly v w)) : Calls P f args w (Gives v w) := h.mono fun _ _ ⟨he, n, hw⟩ => ⟨he, by rw [hw]; exact drewB (Below.refl _ _) n⟩
theorem chW_lp (s : Nat × Nat × Nat) : chW 40 s = (s.1 + 1, s.2.1 - 1, s.2.2) := rfl
theorem chW_dot (s : Nat × Nat × Nat) : chW 46 s = (s.1 - 1, s.2.1, s.2.2 + frontN s.1 s.2.1) := rfl
theorem front_small {m c : Nat} (h : 2 * c + m ≤ 18) : frontN m c ≤ 8000 := by
  unfold frontN
  split
  · omega
  · exact lists_small _ _ (by omega) (by omega)

set_option maxRecDepth 100000 in
set_option maxHeartbeats 4000000 in
theorem implRankTree_any (a : ByteArray) (w : World) (ha : a.size ≤ 9223372036854775806) :
    Calls Try.prog 56 #[.string a] w (Gives (ansN (RankTree_o a)) w) := by
  cases h : treeOf a with
  | none =>
    rw [show RankTree_o a = none by simp [RankTree_o, h]]
    have H := Lib.hid h
    clear h
    go_enter Try.func56, Try.ntmps56
    go_wp2_with fail
    refine (implIsTree_no a _ ha H.out).mono ?_; rintro e w1 ⟨hb1, rfl⟩
    go_wp2_with fail
    go_ret2
    exact ⟨rfl, hb1⟩
  | some t =>
    obtain ⟨rfl, hc⟩ := treeOf_some h
    rw [show RankTree_o t.str = some (rankT t) by simp [RankTree_o, h]]
    clear h
    have hsz := t.str_size
    have hfin := chL_text t [] (1, t.carets, 0)
    rw [List.append_nil] at hfin
    have hok := okT_text t [] 1 t.carets (Nat.le_refl _) (Nat.le_refl _) trivial
    rw [List.append_nil] at hok
    rw [← Tr.str_list] at hfin hok
    have hI := fun w => implIsTree_yes t w hc
    have hK := fun w => countCarets_any t w (by omega)
    generalize t.str = S at *
    have HF : Hid (chL S.data.toList (1, t.carets, 0) = rkT t (1, t.carets, 0)) := hfin
    have HO := Lib.hid hok
    clear hfin hok
    go_enter Try.func56, Try.ntmps56
    go_wp2_with fail
    refine (hI _).mono ?_; rintro e w1 ⟨hb1, rfl⟩
    go_wp2_with fail
    refine (hK _).mono ?_; rintro e w2 ⟨rfl, hb2⟩
    go_wp2_with fail
    have hk0 : WkAt (w2.alloc (.cells #[.int .i64 1, .int .i64 t.carets, .int .i64 0] 113 (0, 0))) w2.heap.size 1 t.carets 0 := heap_alloc_at _ _
    have hb3 := nxAlloc (nx hb1 hb2) (.cells #[.int .i64 1, .int .i64 t.carets, .int .i64 0] 113 (0, 0))
    have hbs : w.heap.size ≤ w2.heap.size := (nx hb1 hb2).size
    generalize w2.alloc (.cells #[.int .i64 1, .int .i64 t.carets, .int .i64 0] 113 (0, 0)) = w3 at *
    generalize w2.heap.size = b at *
    clear hb1 hb2 hI hK
    go_loopw [14] (fun i wr => ∃ (k m c r : Nat), i = .int .i64 k ∧ k ≤ S.size ∧ WkAt wr b m c r ∧ Below w.heap.size w wr ∧ r ≤ 8000 * k ∧ 2 * c + m ≤ 18 ∧ Hid (okT (S.data.toList.drop k) m c ∧ chL S.data.toList (1, t.carets, 0) = chL (S.data.toList.drop k) (m, c, r))) (fun i _ => S.size - (intOf i).toNat)
    case atStart => exact ⟨0, 1, t.carets, 0, rfl, Nat.zero_le _, hk0, hb3, by omega, by omega, ⟨HO.out, rfl⟩⟩
    case round =>
      clear hk0 hb3
      obtain ⟨k, m, c, r, rfl, hk, hw, hbw, hr, hmc, he⟩ := hrel
      have hbl := lt_of_block hw
      obtain ⟨g0, g1, g2, f0, f1, f2⟩ := hw.cells
      have HW := Lib.hid hw
      by_cases hlt : k < S.size
      · have hlt' : (k : Int) < (S.size : Int) := by omega
        obtain ⟨ch, rest, hd, hch, hrest⟩ := drop_of_byteAt hlt
        have hx : ((S[k]'hlt).toNat : Int) = (ch.toNat : Int) := by rw [← hch]; exact (byteAt_eq S k hlt).symm
        obtain ⟨hok, heq⟩ := he.out
        rw [hd, ← hrest] at hok heq
        have h40 : (((S[k]'hlt).toNat : Int) == 40) = decide (ch = 40) := by
          rw [hx, Bool.eq_iff_iff]
          simp only [beq_iff_eq, decide_eq_true_eq]
          exact ⟨fun e => u8_eq (n := 40) (by omega) e, fun e => by rw [e]; rfl⟩
        have h46 : (((S[k]'hlt).toNat : Int) == 46) = decide (ch = 46) := by
          rw [hx, Bool.eq_iff_iff]
          simp only [beq_iff_eq, decide_eq_true_eq]
          exact ⟨fun e => u8_eq (n := 46) (by omega) e, fun e => by rw [e]; rfl⟩
        clear hd hch hrest hx he hw
        by_cases c40 : ch = 40
        · rw [okT, if_pos c40] at hok
          obtain ⟨hc1, hok⟩ := hok
          obtain ⟨c', rfl⟩ : ∃ c', c = c' + 1 := ⟨c - 1, by omega⟩
          rw [c40] at heq
          have heq' : chL S.data.toList (1, t.carets, 0) = chL (S.data.toList.drop (k + 1)) (m + 1, c', r) := heq
          have HE : Hid (okT (S.data.toList.drop (k + 1)) (m + 1) c' ∧ chL S.data.toList (1, t.carets, 0) = chL (S.data.toList.drop (k + 1)) (m + 1, c', r)) := ⟨hok, heq'⟩
          simp only [c40, decide_true] at h40
          clear hok heq heq' h46 c40
          go_wp2_with fail
          refine (passCaret_any b m c' r _ HW.out (by omega) (by omega)).mono ?_; rintro e w4 ⟨⟨v, rfl⟩, hk4, hg4⟩
          have hb4 : Below w.heap.size w w4 := Below.grown hbw hg4 hbw.size (fun j hj => by injection hj with hj; omega)
          have HK := Lib.hid hk4
          clear hk4 hg4 hbw HW
          go_wp2_with fail
          go_roundw
          case rel => exact ⟨k + 1, m + 1, c', r, by go_num, by omega, HK.out, hb4, by omega, by omega, HE⟩
          case measure => simp [intOf]; omega
        · rw [okT, if_neg c40] at hok
          simp only [c40, decide_false] at h40
          by_cases c46 : ch = 46
          · rw [if_pos c46] at hok
            obtain ⟨hm1, hok⟩ := hok
            obtain ⟨m', rfl⟩ : ∃ m', m = m' + 1 := ⟨m - 1, by omega⟩
            rw [c46] at heq
            have heq' : chL S.data.toList (1, t.carets, 0) = chL (S.data.toList.drop (k + 1)) (m', c, r + frontN (m' + 1) c) := heq
            have HE : Hid (okT (S.data.toList.drop (k + 1)) m' c ∧ chL S.data.toList (1, t.carets, 0) = chL (S.data.toList.drop (k + 1)) (m', c, r + frontN (m' + 1) c)) := ⟨hok, heq'⟩
            simp only [c46, decide_true] at h46
            have hfs := front_small (m := m' + 1) (c := c) hmc
            have hI := fun w h => inFront_any b (m' + 1) c r w h (by omega) (by omega)
            generalize frontN (m' + 1) c = fN at *
            have ew : IntKind.i64.wrap ((r : Int) + (fN : Int)) = (r : Int) + (fN : Int) := by rw [IntKind.wrap_i64] <;> omega
            have gz : ((⟨#[46]⟩ : ByteArray)[0]'(by decide)).toNat = 46 := rfl
            clear hok heq heq' c40 c46
            go_wp2_with fail
            refine wp_region_clsT 5 (by kernel_rfl) (by kernel_rfl) ?_
            simp only [List.take_succ_cons, List.take_zero, List.drop_succ_cons, List.drop_zero]
            repeat (
              refine wpQuiet_step (fun K hK => ?_)
              go_simp
              first
                | (refine hK _ ?_; clear hK K)
                | (refine ⟨_, fun _ _ => rfl, hK _ ?_⟩; clear hK K)
                | (apply Exists.intro
                   refine ⟨fun w' hw' => ?_, hK _ ?_⟩
                   · first
                       | (rw [hw'.cell hbl g2]; exact ⟨rfl, rfl⟩)
                       | (go_at_call 126; exact hw'.call (quietG (hI _ (WkAt.keep hw' HW.out))))
                   clear hK K))
            refine wpQuiet_nil ?_
            intro w' hw'
            have hw5 := WkAt.keep hw' HW.out
            have hs5 : WkAt (w'.setCell ⟨b, 2, none⟩ (.int .i64 ((r : Int) + (fN : Int)))) b (m' + 1) c (r + fN) := hw5.set2 (r + fN)
            have hb5 : Below w.heap.size w (w'.setCell ⟨b, 2, none⟩ (.int .i64 ((r : Int) + (fN : Int)))) := Below.setCell (nx hbw hw') hbs _
            obtain ⟨y0, y1, y2, z0, z1, z2⟩ := hw5.cells
            have HS := Lib.hid hs5
            clear hw5 hs5 hw' g0 g1 g2 f0 f1 f2 hI ew gz
            go_wp2_with fail
            refine (passLeaf_any b m' c (r + fN) _ HS.out (by omega)).mono ?_; rintro e w4 ⟨⟨v, rfl⟩, hk4, hg4⟩
            have hb4 : Below w.heap.size w w4 := Below.grown hb5 hg4 hb5.size (fun j hj => by injection hj with hj; omega)
            have HK := Lib.hid hk4
            clear hk4 hg4 hbw HW hb5 HS
            go_wp2_with fail
            go_roundw
            case rel => exact ⟨k + 1, m', c, r + fN, by go_num, by omega, HK.out, hb4, by omega, by omega, HE⟩
            case measure => simp [intOf]; omega
          · rw [if_neg c46] at hok
            simp only [c46, decide_false] at h46
            have heq' : chL S.data.toList (1, t.carets, 0) = chL (S.data.toList.drop (k + 1)) (m, c, r) := by
              rw [heq]
              show chL _ (chW ch (m, c, r)) = _
              unfold chW
              rw [if_neg c40, if_neg c46]
            have HE : Hid (okT (S.data.toList.drop (k + 1)) m c ∧ chL S.data.toList (1, t.carets, 0) = chL (S.data.toList.drop (k + 1)) (m, c, r)) := ⟨hok, heq'⟩
            have gz : ((⟨#[46]⟩ : ByteArray)[0]'(by decide)).toNat = 46 := rfl
            clear hok heq heq' c40 c46 g0 g1 g2 f0 f1 f2
            go_wp2_with fail
            go_roundw
            case rel => exact ⟨k + 1, m, c, r, by go_num, by omega, HW.out, hbw, by omega, by omega, HE⟩
            case measure => simp [intOf]; omega
      · obtain rfl : k = S.size := by omega
        have h2 := he.out.2
        rw [List.drop_of_length_le (by rw [Lib.size_eq]; exact Nat.le_refl _), HF.out] at h2
        have hrk : rankT t = r := by
          unfold rankT
          rw [h2]; rfl
        have HR := Lib.hid hrk
        clear he h2 hrk hw
        go_wp2_with fail
        go_ret2
        exact ⟨by rw [HR.out]; rfl, hbw⟩

end Go.Proofs.Yteflpaebckichab

/-! TaR -/
namespace Go.Proofs.Yteflpaebckichab
open Go.RowKit

theorem trTexts_length (n : Nat) (h : n ≤ 8) : (trTexts n).length = catN n := by
  unfold trTexts
  rw [List.length_map, treesN_length n h, lists_cat n h]
theorem trTexts_first : ∀ n, n ≤ 5 → (trTexts n).getD 0 ⟨#[]⟩ = (lcomb n).str := by decide +kernel
theorem trTexts_last : ∀ n, n ≤ 5 → (trTexts n).getD (catN n - 1) ⟨#[]⟩ = (rcomb n).str := by decide +kernel
theorem catN_pos : ∀ n, n ≤ 8 → 1 ≤ catN n := by decide
theorem trTexts_inc (n i : Nat) (h : i + 1 < (trTexts n).length) : ((trTexts n).getD i ⟨#[]⟩).data.toList < ((trTexts n).getD (i + 1) ⟨#[]⟩).data.toList := by
  have h1 := treesN_sorted n
  rw [List.pairwise_iff_getElem] at h1
  unfold trTexts at h ⊢
  rw [List.length_map] at h
  have h2 := h1 i (i + 1) (by omega) (by omega) (by omega)
  rw [← bytesLess_str, less_data] at h2
  simpa [List.getD_eq_getElem?_getD, List.getElem?_eq_getElem (show i < (treesN n).length by omega), List.getElem?_eq_getElem (show i + 1 < (treesN n).length by omega)] using h2
theorem trTexts_tree (n : Nat) : ∀ x ∈ trTexts n, ∃ t : Tr, x = t.str ∧ t.carets = n := by
  intro x hx
  unfold trTexts at hx
  rw [List.mem_map] at hx
  obtain ⟨t, ht, rfl⟩ := hx
  exact ⟨t, rfl, (mem_treesN n t).1 ht⟩
theorem rank_treeAt (n r : Nat) (hn : n ≤ 8) (hr : r < catN n) : rankT (treeAt n r) = r := by
  have hr2 : r < listsN 1 n := by rw [lists_cat n hn]; exact hr
  have h1 := treesN_get n r hn hr2
  have hc := treeAt_carets hn hr2
  have h2 := rankT_get (treeAt n r) (by omega)
  rw [hc] at h2
  have h3 := treesN_nodup n
  exact ((List.getElem?_inj (by rw [treesN_length n hn]; exact hr2) h3).1 (h1.trans h2.symm)).symm
theorem treeAt_rank (u : Tr) (h : u.carets ≤ 8) : treeAt u.carets (rankT u) = u ∧ rankT u < catN u.carets := by
  have h2 := rankT_get u h
  have hlt : rankT u < (treesN u.carets).length := by
    rcases Nat.lt_or_ge (rankT u) (treesN u.carets).length with k | k
    · exact k
    · rw [List.getElem?_eq_none k] at h2; simp at h2
  rw [treesN_length _ h] at hlt
  have h1 := treesN_get u.carets (rankT u) h hlt
  rw [h1] at h2
  rw [lists_cat _ h] at hlt
  exact ⟨by simpa using h2, hlt⟩
end Go.Proofs.Yteflpaebckichab

/-! WCaretsOf -/
namespace Go.Proofs.Yteflpaebckichab
open Go.RowKit

/-- An answer of a number and a bool. -/
def ansI (o : Option Nat) : Value := .tuple #[.int .i64 (o.getD 0), .bool o.isSome]

theorem specCaretsOf_no (s : ByteArray) (w : World) (hs : s.size ≤ 9223372036854775806) (h : treeOf s = none) :
    Calls Try.prog 16 #[.string s] w (Gives (ansI none) w) := by
  have H := Lib.hid h
  clear h
  go_enter Try.func16, Try.ntmps16
  go_wp2_with fail
  refine (trIs_no s _ hs H.out).mono ?_; rintro e w1 ⟨rfl, rfl⟩
  go_wp2_with fail
  go_ret2
  exact ⟨rfl, Below.refl _ _⟩

set_option maxHeartbeats 400000 in
theorem specCaretsOf_yes (t : Tr) (w : World) (h : t.carets ≤ 8) :
    Calls Try.prog 16 #[.string t.str] w (Gives (ansI (some t.carets)) w) := by
  go_enter Try.func16, Try.ntmps16
  go_wp2_with fail
  refine (trIs_yes t _ h).mono ?_; rintro e w1 ⟨rfl, rfl⟩
  go_wp2_with fail
  refine (carets_str t _ (by omega)).mono ?_; rintro e w1 ⟨rfl, rfl⟩
  go_wp2_with fail
  go_ret2
  exact ⟨rfl, Below.refl _ _⟩

theorem implCaretsOf_no (s : ByteArray) (w : World) (hs : s.size ≤ 9223372036854775806) (h : treeOf s = none) :
    Calls Try.prog 15 #[.string s] w (Gives (ansI none) w) := by
  have H := Lib.hid h
  clear h
  go_enter Try.func15, Try.ntmps15
  go_wp2_with fail
  refine (implIsTree_no s _ hs H.out).mono ?_; rintro e w1 ⟨hb1, rfl⟩
  go_wp2_with fail
  go_ret2
  exact ⟨rfl, hb1⟩

set_option maxHeartbeats 400000 in
theorem implCaretsOf_yes (t : Tr) (w : World) (h : t.carets ≤ 8) :
    Calls Try.prog 15 #[.string t.str] w (Gives (ansI (some t.carets)) w) := by
  go_enter Try.func15, Try.ntmps15
  go_wp2_with fail
  refine (implIsTree_yes t _ h).mono ?_; rintro e w1 ⟨hb1, rfl⟩
  go_wp2_with fail
  refine (countCarets_any t _ (by omega)).mono ?_; rintro e w2 ⟨rfl, hb2⟩
  go_wp2_with fail
  go_ret2
  exact ⟨rfl, nx hb1 hb2⟩

def caretsO (a : ByteArray) : Option Nat :=
  match treeOf a with
  | some t => some t.carets
  | none => none

theorem specCaretsOf_any (a : ByteArray) (w : World) (ha : a.size ≤ 9223372036854775806) :
    Calls Try.prog 16 #[.string a] w (Gives (ansI (caretsO a)) w) := by
  cases h : treeOf a with
  | none =>
    rw [show caretsO a = none by simp [caretsO, h]]
    exact specCaretsOf_no a w ha h
  | some t =>
    obtain ⟨rfl, hc⟩ := treeOf_some h
    rw [show caretsO t.str = some t.carets by simp [caretsO, h]]
    exact specCaretsOf_yes t w hc

theorem implCaretsOf_any (a : ByteArray) (w : World) (ha : a.size ≤ 9223372036854775806) :
    Calls Try.prog 15 #[.string a] w (Gives (ansI (caretsO a)) w) := by
  cases h : treeOf a with
  | none =>
    rw [show caretsO a = none by simp [caretsO, h]]
    exact implCaretsOf_no a w ha h
  | some t =>
    obtain ⟨rfl, hc⟩ := treeOf_some h
    rw [show caretsO t.str = some t.carets by simp [caretsO, h]]
    exact implCaretsOf_yes t w hc

end Go.Proofs.Yteflpaebckichab

/-! WTreesCounted -/
namespace Go.Proofs.Yteflpaebckichab
open Go.RowKit

set_option maxRecDepth 100000 in
set_option maxHeartbeats 8000000 in
theorem treesCounted_law (W : World) (c d : Bts) (hc : InB W c) (hd : InB W d) (hn : c.n + d.n ≤ 1048576) :
    Calls Try.prog 5 #[.slice c.a c.n c.cap, .slice d.a d.n d.cap] W (SaysTrue W) := by
  go_enter Try.func5, Try.ntmps5
  go_wp2_with fail
  refine (big_no c d _ hn).mono ?_; rintro e w1 ⟨rfl, rfl⟩
  have HB := Lib.hid (Below.refl W.heap.size W)
  go_wp2_with fail
  refine (drawTreeAt_any c _ hc).mono ?_; rintro e w31 ⟨n, r, hn1, hn2, hr1, hr2, rfl, hb⟩
  replace HB := Lib.hid (nx HB.out hb)
  clear hb
  go_wp2_with fail
  have ha1 := fun w => implTreeAt_any n r w (by omega) (by omega) (by omega) (by omega)
  have ha2 := fun w => specTreeAt_any n r w (by omega) (by omega) (by omega) (by omega)
  have ha3 := fun w => implCountTrees_any n w (by omega) (by omega)
  have ha4 := fun w => specCountTrees_any n w (by omega) (by omega)
  by_cases hin : 0 ≤ n ∧ n ≤ 8
  · obtain ⟨n, rfl⟩ : ∃ k : Nat, n = k := ⟨n.toNat, by omega⟩
    rw [show countO (n : Int) = some (catN n) by simp only [countO]; rw [if_pos hin, Int.toNat_natCast]] at ha3 ha4
    have hcb := catN_bd n (by omega)
    by_cases hr0 : r < 0
    · rw [show TreeAt_o (n : Int) r = none by simp only [TreeAt_o]; rw [if_pos hin, if_neg (by omega)]] at ha1 ha2
      simp only [ansN, ansV, trS, trB, Option.getD_some, Option.isSome_some] at ha1 ha2 ha3 ha4
      generalize catN n = N at *
      refine (ha1 _).mono ?_; rintro e w32 ⟨rfl, hb⟩
      replace HB := Lib.hid (nx HB.out hb)
      clear hb
      go_wp2_with fail
      refine (ha2 _).mono ?_; rintro e w33 ⟨rfl, hb⟩
      replace HB := Lib.hid (nx HB.out hb)
      clear hb
      go_wp2_with fail
      refine (ha3 _).mono ?_; rintro e w34 ⟨rfl, hb⟩
      replace HB := Lib.hid (nx HB.out hb)
      clear hb
      go_wp2_with fail
      refine (ha4 _).mono ?_; rintro e w35 ⟨rfl, hb⟩
      replace HB := Lib.hid (nx HB.out hb)
      clear hb
      clear ha1 ha2 ha3 ha4
      go_wp2_with fail
      refine (drawAllTrees_any d _ (hd.keep HB.out)).mono ?_; rintro e w36 ⟨m, hm1, hm2, rfl, hb⟩
      replace HB := Lib.hid (nx HB.out hb)
      clear hb
      go_wp2_with fail
      have hL1 := fun w => implAllTrees_any m w (by omega) (by omega)
      have hL2 := fun w => specAllTrees_any m w (by omega) (by omega)
      by_cases hm : 0 ≤ m ∧ m ≤ 5
      · obtain ⟨n, rfl⟩ : ∃ n : Nat, m = n := ⟨m.toNat, by omega⟩
        rw [show AllTrees_o (n : Int) = some (trTexts n) by simp only [AllTrees_o]; rw [if_pos hm, Int.toNat_natCast]] at hL1 hL2
        have hc1 := fun w => implCountTrees_any (n : Int) w (by omega) (by omega)
        rw [show countO (n : Int) = some (catN n) by simp only [countO]; rw [if_pos (by omega), Int.toNat_natCast]] at hc1
        have hl1 := fun w => implLeftComb_any (n : Int) w (by omega) (by omega)
        rw [show combO lcomb (n : Int) = some (lcomb n) by simp only [combO]; rw [if_pos (by omega), Int.toNat_natCast]] at hl1
        have hr1 := fun w => implRightComb_any (n : Int) w (by omega) (by omega)
        rw [show combO rcomb (n : Int) = some (rcomb n) by simp only [combO]; rw [if_pos (by omega), Int.toNat_natCast]] at hr1
        have hlen := trTexts_length n (by omega)
        have hfst := trTexts_first n (by omega)
        have hlst := trTexts_last n (by omega)
        have hpos := catN_pos n (by omega)
        have hcb := catN_bd n (by omega)
        have hinc := trTexts_inc n
        have htr := trTexts_tree n
        simp only [ansN, ansV, trS, trB, Option.getD_some, Option.isSome_some] at hc1 hl1 hr1
        rw [← hlen] at hlst
        generalize trTexts n = L at *
        generalize catN n = N at *
        generalize (lcomb n).str = L0 at *
        generalize (rcomb n).str = L1 at *
        have HLEN := Lib.hid hlen
        have HINC := Lib.hid hinc
        have HTR := Lib.hid htr
        have HFST := Lib.hid hfst
        have HLST := Lib.hid hlst
        have hn5 : n ≤ 5 := by omega
        clear hlen hinc htr hfst hlst
        refine (hL1 _).mono ?_; rintro e w70 ⟨v1, o1, hb, rfl⟩
        have O1 := Lib.hid (show OwnS _ _ v1 L from o1)
        replace HB := Lib.hid (nx HB.out hb)
        clear hb o1
        go_wp2_with fail
        refine (hL2 _).mono ?_; rintro e w71 ⟨v2, o2, hb, rfl⟩
        have O2 := Lib.hid (show OwnS _ _ v2 L from o2)
        replace O1 := Lib.hid (O1.out.keep hb)
        replace HB := Lib.hid (nx HB.out hb)
        clear hb o2 hL1 hL2
        go_wp2_with fail
        refine (fTexts_any _ _ v1 v2 _ _ O1.out.cells O2.out.cells).mono ?_; rintro e w72 ⟨rfl, d72, rfl⟩
        obtain ⟨a1, cap1, hv1, hI1, hlc1, hcm1⟩ := O1.out.flat
        rw [HLEN.out] at hv1 hlc1
        have I1 := Lib.hid (show InS (w71.drewN d72) a1 L from hI1)
        replace HB := Lib.hid (drewB HB.out d72)
        subst hv1
        clear O1 O2 hI1
        generalize w71.drewN d72 = w73 at *
        go_wp2_with fail
        refine (hc1 _).mono ?_; rintro e w37 ⟨rfl, hb⟩
        replace I1 := Lib.hid (I1.out.keep hb)
        replace HB := Lib.hid (nx HB.out hb)
        clear hb
        go_wp2_with fail
        refine (hl1 _).mono ?_; rintro e w38 ⟨rfl, hb⟩
        replace I1 := Lib.hid (I1.out.keep hb)
        replace HB := Lib.hid (nx HB.out hb)
        clear hb
        go_wp2_with fail
        refine (hr1 _).mono ?_; rintro e w74 ⟨rfl, hb⟩
        replace I1 := Lib.hid (I1.out.keep hb)
        replace HB := Lib.hid (nx HB.out hb)
        clear hb hc1 hl1 hr1
        have hR : ∃ g off, a1 = some ⟨g, off, none⟩ ∧ ReadS w74 g off L := by
          rcases I1.out with h | h
          · have h9 := HLEN.out; rw [h] at h9; simp at h9; omega
          · exact h
        obtain ⟨g, off, rfl, R⟩ := hR
        have cf := R 0 (by have := HLEN.out; omega)
        rw [HFST.out, Nat.add_zero] at cf
        obtain ⟨N', rfl⟩ : ∃ q, N = q + 1 := ⟨N - 1, by omega⟩
        have cl := R N' (by have := HLEN.out; omega)
        rw [show L.getD N' ⟨#[]⟩ = L1 by have := HLST.out; rw [HLEN.out] at this; exact this] at cl
        clear R
        go_wp2_with fail
        clear cf cl
        go_loopw [182] (fun i wr => ∃ k : Nat, k ≤ N' + 1 ∧ i = .int .i64 k ∧ Hid (Below W.heap.size W wr) ∧ Hid (InS wr (some ⟨g, off, none⟩) L)) (fun i _ => N' + 1 - (intOf i).toNat)
        case atStart => exact ⟨0, by omega, rfl, HB, I1⟩
        case round =>
          clear HB I1
          obtain ⟨k, hk, rfl, HB, I1⟩ := hrel
          by_cases hlt : k < N' + 1
          · have hlt' : (k : Int) < (N' : Int) + 1 := by omega
            have hkL : k < L.length := by have := HLEN.out; omega
            have hR : ReadS wr g off L := by
              rcases I1.out with h | ⟨g2, off2, h1, h2⟩
              · rw [h] at hkL; simp at hkL
              · simp only [Option.some.injEq, Addr.mk.injEq, and_true] at h1
                obtain ⟨rfl, rfl⟩ := h1; exact h2
            have c1 := hR k hkL
            obtain ⟨x, hx⟩ : ∃ x, x = L.getD k ⟨#[]⟩ := ⟨_, rfl⟩
            rw [← hx] at c1
            obtain ⟨t9, ht9, hc9⟩ := HTR.out x (by rw [hx]; exact getD_memT hkL)
            have hIs := fun w => implIsTree_yes t9 w (by omega)
            rw [← ht9] at hIs
            have HR := Lib.hid hR
            have HX := Lib.hid hx
            clear ht9 hR hx
            by_cases hk0 : k = 0
            · have hk0' : (k : Int) ≤ 0 := by omega
              clear hk0
              go_wp2_with fail
              refine (hIs _).mono ?_; rintro e w75 ⟨hb, rfl⟩
              replace I1 := Lib.hid (I1.out.keep hb)
              replace HB := Lib.hid (nx HB.out hb)
              clear hb
              go_wp2_with fail
              go_roundw
              case rel => exact ⟨k + 1, by omega, by go_num, HB, I1⟩
              case measure => simp [intOf]; omega
            · obtain ⟨j, rfl⟩ : ∃ j, k = j + 1 := ⟨k - 1, by omega⟩
              go_wp2_with fail
              refine (hIs _).mono ?_; rintro e w75 ⟨hb, rfl⟩
              have c1p := (HR.out.keep hb) j (by omega)
              have hlt2 := HINC.out j hkL
              rw [← HX.out] at hlt2
              obtain ⟨p, hp⟩ : ∃ p, p = L.getD j ⟨#[]⟩ := ⟨_, rfl⟩
              rw [← hp] at c1p hlt2
              have ege : (binOp BinOp.geq 9 (.string p) (.string x)).run Try.prog w75 = .ok (.bool false) w75 := by
                show Result.ok (Value.bool (!Go.Op.bytesLess p.toList x.toList)) w75 = _
                rw [less_data, show decide (p.data.toList < x.data.toList) = true from by simpa using hlt2]; rfl
              have ej : (j : Int) ≤ (N' : Int) := by omega
              replace I1 := Lib.hid (I1.out.keep hb)
              replace HB := Lib.hid (nx HB.out hb)
              clear hb hlt2 hp
              go_wp2_with fail
              go_roundw
              case rel => exact ⟨j + 2, by omega, by go_num, HB, I1⟩
              case measure => simp [intOf]; omega
          · obtain rfl : k = N' + 1 := by omega
            go_wp2_with fail
            refine (drawRightComb_any d _ (hd.keep HB.out)).mono ?_; rintro e w39 ⟨kk, hk1, hk2, rfl, hb⟩
            replace HB := Lib.hid (nx HB.out hb)
            clear hb
            go_wp2_with fail
            have hr1 := fun w => implRightComb_any kk w (by omega) (by omega)
            have hr2 := fun w => specRightComb_any kk w (by omega) (by omega)
            have hr3 := fun w => implLeftComb_any kk w (by omega) (by omega)
            have hr4 := fun w => specLeftComb_any kk w (by omega) (by omega)
            simp only [ansV] at hr1 hr2 hr3 hr4
            generalize trS (combO rcomb kk) = z1 at *
            generalize trB (combO rcomb kk) = z2 at *
            generalize trS (combO lcomb kk) = z3 at *
            generalize trB (combO lcomb kk) = z4 at *
            refine (hr1 _).mono ?_; rintro e w40 ⟨rfl, hb⟩
            replace HB := Lib.hid (nx HB.out hb)
            clear hb
            go_wp2_with fail
            refine (hr2 _).mono ?_; rintro e w41 ⟨rfl, hb⟩
            replace HB := Lib.hid (nx HB.out hb)
            clear hb
            go_wp2_with fail
            refine (hr3 _).mono ?_; rintro e w42 ⟨rfl, hb⟩
            replace HB := Lib.hid (nx HB.out hb)
            clear hb
            go_wp2_with fail
            refine (hr4 _).mono ?_; rintro e w43 ⟨rfl, hb⟩
            replace HB := Lib.hid (nx HB.out hb)
            clear hb
            clear hr1 hr2 hr3 hr4
            go_wp2_with fail
            refine (drawRankTree_any c _ (hc.keep HB.out)).mono ?_; rintro e w44 ⟨u, hu, rfl, hb⟩
            replace HB := Lib.hid (nx HB.out hb)
            clear hb
            go_wp2_with fail
            have hk1 := fun w => implRankTree_any u w (by omega)
            have hk2 := fun w => specRankTree_any u w (by omega)
            rcases tree_or u with ⟨t2, rfl, ht2, hto2⟩ | hno2
            · rw [show RankTree_o t2.str = some (rankT t2) by simp [RankTree_o, hto2]] at hk1 hk2
              have hv := fun w => implCaretsOf_any t2.str w (by omega)
              rw [show caretsO t2.str = some t2.carets by simp [caretsO, hto2]] at hv
              obtain ⟨e1, e2⟩ := treeAt_rank t2 ht2
              have hcb := catN_bd t2.carets ht2
              have ha := fun w => implTreeAt_any (t2.carets : Int) (rankT t2 : Int) w (by omega) (by omega) (by omega) (by omega)
              rw [show TreeAt_o (t2.carets : Int) (rankT t2 : Int) = some t2 by
                simp only [TreeAt_o]
                rw [if_pos (by omega), if_pos (by simp; omega)]
                simp only [Int.toNat_natCast]
                rw [e1]] at ha
              simp only [ansN, ansI, ansV, trS, trB, Option.getD_some, Option.isSome_some] at hk1 hk2 hv ha
              have hrk : rankT t2 ≤ 2000 := by omega
              generalize rankT t2 = rk at *
              have hcar : t2.carets ≤ 8 := ht2
              generalize t2.carets = car at *
              clear e1 e2 hcb hto2
              refine (hk1 _).mono ?_; rintro e w45 ⟨rfl, hb⟩
              replace HB := Lib.hid (nx HB.out hb)
              clear hb
              go_wp2_with fail
              refine (hk2 _).mono ?_; rintro e w46 ⟨rfl, hb⟩
              replace HB := Lib.hid (nx HB.out hb)
              clear hb
              clear hk1 hk2
              go_wp2_with fail
              refine (hv _).mono ?_; rintro e w47 ⟨rfl, hb⟩
              replace HB := Lib.hid (nx HB.out hb)
              clear hb
              go_wp2_with fail
              refine (ha _).mono ?_; rintro e w48 ⟨rfl, hb⟩
              replace HB := Lib.hid (nx HB.out hb)
              clear hb
              clear hv ha
              go_wp2_with fail
              go_ret
              exact ⟨by simp, HB.out⟩
            · rw [show RankTree_o u = none by simp [RankTree_o, hno2]] at hk1 hk2
              simp only [ansN, Option.getD_none, Option.isSome_none] at hk1 hk2
              clear hno2
              refine (hk1 _).mono ?_; rintro e w49 ⟨rfl, hb⟩
              replace HB := Lib.hid (nx HB.out hb)
              clear hb
              go_wp2_with fail
              refine (hk2 _).mono ?_; rintro e w50 ⟨rfl, hb⟩
              replace HB := Lib.hid (nx HB.out hb)
              clear hb
              clear hk1 hk2
              go_wp2_with fail
              go_ret
              exact ⟨by simp, HB.out⟩
      · rw [show AllTrees_o m = none by simp only [AllTrees_o]; rw [if_neg hm]] at hL1 hL2
        refine (hL1 _).mono ?_; rintro e w70 ⟨v1, o1, hb, rfl⟩
        have O1 := Lib.hid (show OwnS _ _ v1 [] from o1)
        replace HB := Lib.hid (nx HB.out hb)
        clear hb o1
        go_wp2_with fail
        refine (hL2 _).mono ?_; rintro e w71 ⟨v2, o2, hb, rfl⟩
        have O2 := Lib.hid (show OwnS _ _ v2 [] from o2)
        replace O1 := Lib.hid (O1.out.keep hb)
        replace HB := Lib.hid (nx HB.out hb)
        clear hb o2 hL1 hL2
        go_wp2_with fail
        refine (fTexts_any _ _ v1 v2 _ _ O1.out.cells O2.out.cells).mono ?_; rintro e w72 ⟨rfl, d72, rfl⟩
        replace HB := Lib.hid (drewB HB.out d72)
        clear O1 O2
        generalize w71.drewN d72 = w73 at *
        go_wp2_with fail
        refine (drawRightComb_any d _ (hd.keep HB.out)).mono ?_; rintro e w51 ⟨kk, hk1, hk2, rfl, hb⟩
        replace HB := Lib.hid (nx HB.out hb)
        clear hb
        go_wp2_with fail
        have hr1 := fun w => implRightComb_any kk w (by omega) (by omega)
        have hr2 := fun w => specRightComb_any kk w (by omega) (by omega)
        have hr3 := fun w => implLeftComb_any kk w (by omega) (by omega)
        have hr4 := fun w => specLeftComb_any kk w (by omega) (by omega)
        simp only [ansV] at hr1 hr2 hr3 hr4
        generalize trS (combO rcomb kk) = z1 at *
        generalize trB (combO rcomb kk) = z2 at *
        generalize trS (combO lcomb kk) = z3 at *
        generalize trB (combO lcomb kk) = z4 at *
        refine (hr1 _).mono ?_; rintro e w52 ⟨rfl, hb⟩
        replace HB := Lib.hid (nx HB.out hb)
        clear hb
        go_wp2_with fail
        refine (hr2 _).mono ?_; rintro e w53 ⟨rfl, hb⟩
        replace HB := Lib.hid (nx HB.out hb)
        clear hb
        go_wp2_with fail
        refine (hr3 _).mono ?_; rintro e w54 ⟨rfl, hb⟩
        replace HB := Lib.hid (nx HB.out hb)
        clear hb
        go_wp2_with fail
        refine (hr4 _).mono ?_; rintro e w55 ⟨rfl, hb⟩
        replace HB := Lib.hid (nx HB.out hb)
        clear hb
        clear hr1 hr2 hr3 hr4
        go_wp2_with fail
        refine (drawRankTree_any c _ (hc.keep HB.out)).mono ?_; rintro e w56 ⟨u, hu, rfl, hb⟩
        replace HB := Lib.hid (nx HB.out hb)
        clear hb
        go_wp2_with fail
        have hk1 := fun w => implRankTree_any u w (by omega)
        have hk2 := fun w => specRankTree_any u w (by omega)
        rcases tree_or u with ⟨t2, rfl, ht2, hto2⟩ | hno2
        · rw [show RankTree_o t2.str = some (rankT t2) by simp [RankTree_o, hto2]] at hk1 hk2
          have hv := fun w => implCaretsOf_any t2.str w (by omega)
          rw [show caretsO t2.str = some t2.carets by simp [caretsO, hto2]] at hv
          obtain ⟨e1, e2⟩ := treeAt_rank t2 ht2
          have hcb := catN_bd t2.carets ht2
          have ha := fun w => implTreeAt_any (t2.carets : Int) (rankT t2 : Int) w (by omega) (by omega) (by omega) (by omega)
          rw [show TreeAt_o (t2.carets : Int) (rankT t2 : Int) = some t2 by
            simp only [TreeAt_o]
            rw [if_pos (by omega), if_pos (by simp; omega)]
            simp only [Int.toNat_natCast]
            rw [e1]] at ha
          simp only [ansN, ansI, ansV, trS, trB, Option.getD_some, Option.isSome_some] at hk1 hk2 hv ha
          have hrk : rankT t2 ≤ 2000 := by omega
          generalize rankT t2 = rk at *
          have hcar : t2.carets ≤ 8 := ht2
          generalize t2.carets = car at *
          clear e1 e2 hcb hto2
          refine (hk1 _).mono ?_; rintro e w57 ⟨rfl, hb⟩
          replace HB := Lib.hid (nx HB.out hb)
          clear hb
          go_wp2_with fail
          refine (hk2 _).mono ?_; rintro e w58 ⟨rfl, hb⟩
          replace HB := Lib.hid (nx HB.out hb)
          clear hb
          clear hk1 hk2
          go_wp2_with fail
          refine (hv _).mono ?_; rintro e w59 ⟨rfl, hb⟩
          replace HB := Lib.hid (nx HB.out hb)
          clear hb
          go_wp2_with fail
          refine (ha _).mono ?_; rintro e w60 ⟨rfl, hb⟩
          replace HB := Lib.hid (nx HB.out hb)
          clear hb
          clear hv ha
          go_wp2_with fail
          go_ret
          exact ⟨by simp, HB.out⟩
        · rw [show RankTree_o u = none by simp [RankTree_o, hno2]] at hk1 hk2
          simp only [ansN, Option.getD_none, Option.isSome_none] at hk1 hk2
          clear hno2
          refine (hk1 _).mono ?_; rintro e w61 ⟨rfl, hb⟩
          replace HB := Lib.hid (nx HB.out hb)
          clear hb
          go_wp2_with fail
          refine (hk2 _).mono ?_; rintro e w62 ⟨rfl, hb⟩
          replace HB := Lib.hid (nx HB.out hb)
          clear hb
          clear hk1 hk2
          go_wp2_with fail
          go_ret
          exact ⟨by simp, HB.out⟩
    obtain ⟨r, rfl⟩ : ∃ k : Nat, r = k := ⟨r.toNat, by omega⟩
    by_cases hrc : r < catN n
    · rw [show TreeAt_o (n : Int) (r : Int) = some (treeAt n r) by simp only [TreeAt_o]; rw [if_pos hin, if_pos (by simp; omega)]; simp only [Int.toNat_natCast]] at ha1 ha2
      have hrk := rank_treeAt n r (by omega) hrc
      have hcr := treeAt_carets (n := n) (r := r) (by omega) (by rw [lists_cat n (by omega)]; exact hrc)
      have hto := treeOf_str (treeAt n r) (by omega)
      have hsz := (treeAt n r).str_size
      have hRank := fun w => implRankTree_any (treeAt n r).str w (by omega)
      rw [show RankTree_o (treeAt n r).str = some r by simp [RankTree_o, hto, hrk]] at hRank
      simp only [ansN, ansV, trS, trB, Option.getD_some, Option.isSome_some] at ha1 ha2 ha3 ha4 hRank
      have hrc' : (r : Int) < (catN n : Int) := by omega
      generalize (treeAt n r).str = X at *
      generalize catN n = N at *
      clear hrk hcr hto hsz
      refine (ha1 _).mono ?_; rintro e w63 ⟨rfl, hb⟩
      replace HB := Lib.hid (nx HB.out hb)
      clear hb
      go_wp2_with fail
      refine (ha2 _).mono ?_; rintro e w64 ⟨rfl, hb⟩
      replace HB := Lib.hid (nx HB.out hb)
      clear hb
      go_wp2_with fail
      refine (ha3 _).mono ?_; rintro e w65 ⟨rfl, hb⟩
      replace HB := Lib.hid (nx HB.out hb)
      clear hb
      go_wp2_with fail
      refine (ha4 _).mono ?_; rintro e w66 ⟨rfl, hb⟩
      replace HB := Lib.hid (nx HB.out hb)
      clear hb
      clear ha1 ha2 ha3 ha4
      go_wp2_with fail
      refine (drawAllTrees_any d _ (hd.keep HB.out)).mono ?_; rintro e w67 ⟨m, hm1, hm2, rfl, hb⟩
      replace HB := Lib.hid (nx HB.out hb)
      clear hb
      go_wp2_with fail
      have hL1 := fun w => implAllTrees_any m w (by omega) (by omega)
      have hL2 := fun w => specAllTrees_any m w (by omega) (by omega)
      by_cases hm : 0 ≤ m ∧ m ≤ 5
      · obtain ⟨n, rfl⟩ : ∃ n : Nat, m = n := ⟨m.toNat, by omega⟩
        rw [show AllTrees_o (n : Int) = some (trTexts n) by simp only [AllTrees_o]; rw [if_pos hm, Int.toNat_natCast]] at hL1 hL2
        have hc1 := fun w => implCountTrees_any (n : Int) w (by omega) (by omega)
        rw [show countO (n : Int) = some (catN n) by simp only [countO]; rw [if_pos (by omega), Int.toNat_natCast]] at hc1
        have hl1 := fun w => implLeftComb_any (n : Int) w (by omega) (by omega)
        rw [show combO lcomb (n : Int) = some (lcomb n) by simp only [combO]; rw [if_pos (by omega), Int.toNat_natCast]] at hl1
        have hr1 := fun w => implRightComb_any (n : Int) w (by omega) (by omega)
        rw [show combO rcomb (n : Int) = some (rcomb n) by simp only [combO]; rw [if_pos (by omega), Int.toNat_natCast]] at hr1
        have hlen := trTexts_length n (by omega)
        have hfst := trTexts_first n (by omega)
        have hlst := trTexts_last n (by omega)
        have hpos := catN_pos n (by omega)
        have hcb := catN_bd n (by omega)
        have hinc := trTexts_inc n
        have htr := trTexts_tree n
        simp only [ansN, ansV, trS, trB, Option.getD_some, Option.isSome_some] at hc1 hl1 hr1
        rw [← hlen] at hlst
        generalize trTexts n = L at *
        generalize catN n = N at *
        generalize (lcomb n).str = L0 at *
        generalize (rcomb n).str = L1 at *
        have HLEN := Lib.hid hlen
        have HINC := Lib.hid hinc
        have HTR := Lib.hid htr
        have HFST := Lib.hid hfst
        have HLST := Lib.hid hlst
        have hn5 : n ≤ 5 := by omega
        clear hlen hinc htr hfst hlst
        refine (hL1 _).mono ?_; rintro e w70 ⟨v1, o1, hb, rfl⟩
        have O1 := Lib.hid (show OwnS _ _ v1 L from o1)
        replace HB := Lib.hid (nx HB.out hb)
        clear hb o1
        go_wp2_with fail
        refine (hL2 _).mono ?_; rintro e w71 ⟨v2, o2, hb, rfl⟩
        have O2 := Lib.hid (show OwnS _ _ v2 L from o2)
        replace O1 := Lib.hid (O1.out.keep hb)
        replace HB := Lib.hid (nx HB.out hb)
        clear hb o2 hL1 hL2
        go_wp2_with fail
        refine (fTexts_any _ _ v1 v2 _ _ O1.out.cells O2.out.cells).mono ?_; rintro e w72 ⟨rfl, d72, rfl⟩
        obtain ⟨a1, cap1, hv1, hI1, hlc1, hcm1⟩ := O1.out.flat
        rw [HLEN.out] at hv1 hlc1
        have I1 := Lib.hid (show InS (w71.drewN d72) a1 L from hI1)
        replace HB := Lib.hid (drewB HB.out d72)
        subst hv1
        clear O1 O2 hI1
        generalize w71.drewN d72 = w73 at *
        go_wp2_with fail
        refine (hc1 _).mono ?_; rintro e w68 ⟨rfl, hb⟩
        replace I1 := Lib.hid (I1.out.keep hb)
        replace HB := Lib.hid (nx HB.out hb)
        clear hb
        go_wp2_with fail
        refine (hl1 _).mono ?_; rintro e w69 ⟨rfl, hb⟩
        replace I1 := Lib.hid (I1.out.keep hb)
        replace HB := Lib.hid (nx HB.out hb)
        clear hb
        go_wp2_with fail
        refine (hr1 _).mono ?_; rintro e w74 ⟨rfl, hb⟩
        replace I1 := Lib.hid (I1.out.keep hb)
        replace HB := Lib.hid (nx HB.out hb)
        clear hb hc1 hl1 hr1
        have hR : ∃ g off, a1 = some ⟨g, off, none⟩ ∧ ReadS w74 g off L := by
          rcases I1.out with h | h
          · have h9 := HLEN.out; rw [h] at h9; simp at h9; omega
          · exact h
        obtain ⟨g, off, rfl, R⟩ := hR
        have cf := R 0 (by have := HLEN.out; omega)
        rw [HFST.out, Nat.add_zero] at cf
        obtain ⟨N', rfl⟩ : ∃ q, N = q + 1 := ⟨N - 1, by omega⟩
        have cl := R N' (by have := HLEN.out; omega)
        rw [show L.getD N' ⟨#[]⟩ = L1 by have := HLST.out; rw [HLEN.out] at this; exact this] at cl
        clear R
        go_wp2_with fail
        clear cf cl
        go_loopw [182] (fun i wr => ∃ k : Nat, k ≤ N' + 1 ∧ i = .int .i64 k ∧ Hid (Below W.heap.size W wr) ∧ Hid (InS wr (some ⟨g, off, none⟩) L)) (fun i _ => N' + 1 - (intOf i).toNat)
        case atStart => exact ⟨0, by omega, rfl, HB, I1⟩
        case round =>
          clear HB I1
          obtain ⟨k, hk, rfl, HB, I1⟩ := hrel
          by_cases hlt : k < N' + 1
          · have hlt' : (k : Int) < (N' : Int) + 1 := by omega
            have hkL : k < L.length := by have := HLEN.out; omega
            have hR : ReadS wr g off L := by
              rcases I1.out with h | ⟨g2, off2, h1, h2⟩
              · rw [h] at hkL; simp at hkL
              · simp only [Option.some.injEq, Addr.mk.injEq, and_true] at h1
                obtain ⟨rfl, rfl⟩ := h1; exact h2
            have c1 := hR k hkL
            obtain ⟨x, hx⟩ : ∃ x, x = L.getD k ⟨#[]⟩ := ⟨_, rfl⟩
            rw [← hx] at c1
            obtain ⟨t9, ht9, hc9⟩ := HTR.out x (by rw [hx]; exact getD_memT hkL)
            have hIs := fun w => implIsTree_yes t9 w (by omega)
            rw [← ht9] at hIs
            have HR := Lib.hid hR
            have HX := Lib.hid hx
            clear ht9 hR hx
            by_cases hk0 : k = 0
            · have hk0' : (k : Int) ≤ 0 := by omega
              clear hk0
              go_wp2_with fail
              refine (hIs _).mono ?_; rintro e w75 ⟨hb, rfl⟩
              replace I1 := Lib.hid (I1.out.keep hb)
              replace HB := Lib.hid (nx HB.out hb)
              clear hb
              go_wp2_with fail
              go_roundw
              case rel => exact ⟨k + 1, by omega, by go_num, HB, I1⟩
              case measure => simp [intOf]; omega
            · obtain ⟨j, rfl⟩ : ∃ j, k = j + 1 := ⟨k - 1, by omega⟩
              go_wp2_with fail
              refine (hIs _).mono ?_; rintro e w75 ⟨hb, rfl⟩
              have c1p := (HR.out.keep hb) j (by omega)
              have hlt2 := HINC.out j hkL
              rw [← HX.out] at hlt2
              obtain ⟨p, hp⟩ : ∃ p, p = L.getD j ⟨#[]⟩ := ⟨_, rfl⟩
              rw [← hp] at c1p hlt2
              have ege : (binOp BinOp.geq 9 (.string p) (.string x)).run Try.prog w75 = .ok (.bool false) w75 := by
                show Result.ok (Value.bool (!Go.Op.bytesLess p.toList x.toList)) w75 = _
                rw [less_data, show decide (p.data.toList < x.data.toList) = true from by simpa using hlt2]; rfl
              have ej : (j : Int) ≤ (N' : Int) := by omega
              replace I1 := Lib.hid (I1.out.keep hb)
              replace HB := Lib.hid (nx HB.out hb)
              clear hb hlt2 hp
              go_wp2_with fail
              go_roundw
              case rel => exact ⟨j + 2, by omega, by go_num, HB, I1⟩
              case measure => simp [intOf]; omega
          · obtain rfl : k = N' + 1 := by omega
            go_wp2_with fail
            refine (drawRightComb_any d _ (hd.keep HB.out)).mono ?_; rintro e w70 ⟨kk, hk1, hk2, rfl, hb⟩
            replace HB := Lib.hid (nx HB.out hb)
            clear hb
            go_wp2_with fail
            have hr1 := fun w => implRightComb_any kk w (by omega) (by omega)
            have hr2 := fun w => specRightComb_any kk w (by omega) (by omega)
            have hr3 := fun w => implLeftComb_any kk w (by omega) (by omega)
            have hr4 := fun w => specLeftComb_any kk w (by omega) (by omega)
            simp only [ansV] at hr1 hr2 hr3 hr4
            generalize trS (combO rcomb kk) = z1 at *
            generalize trB (combO rcomb kk) = z2 at *
            generalize trS (combO lcomb kk) = z3 at *
            generalize trB (combO lcomb kk) = z4 at *
            refine (hr1 _).mono ?_; rintro e w71 ⟨rfl, hb⟩
            replace HB := Lib.hid (nx HB.out hb)
            clear hb
            go_wp2_with fail
            refine (hr2 _).mono ?_; rintro e w72 ⟨rfl, hb⟩
            replace HB := Lib.hid (nx HB.out hb)
            clear hb
            go_wp2_with fail
            refine (hr3 _).mono ?_; rintro e w73 ⟨rfl, hb⟩
            replace HB := Lib.hid (nx HB.out hb)
            clear hb
            go_wp2_with fail
            refine (hr4 _).mono ?_; rintro e w74 ⟨rfl, hb⟩
            replace HB := Lib.hid (nx HB.out hb)
            clear hb
            clear hr1 hr2 hr3 hr4
            go_wp2_with fail
            refine (drawRankTree_any c _ (hc.keep HB.out)).mono ?_; rintro e w75 ⟨u, hu, rfl, hb⟩
            replace HB := Lib.hid (nx HB.out hb)
            clear hb
            go_wp2_with fail
            have hk1 := fun w => implRankTree_any u w (by omega)
            have hk2 := fun w => specRankTree_any u w (by omega)
            rcases tree_or u with ⟨t2, rfl, ht2, hto2⟩ | hno2
            · rw [show RankTree_o t2.str = some (rankT t2) by simp [RankTree_o, hto2]] at hk1 hk2
              have hv := fun w => implCaretsOf_any t2.str w (by omega)
              rw [show caretsO t2.str = some t2.carets by simp [caretsO, hto2]] at hv
              obtain ⟨e1, e2⟩ := treeAt_rank t2 ht2
              have hcb := catN_bd t2.carets ht2
              have ha := fun w => implTreeAt_any (t2.carets : Int) (rankT t2 : Int) w (by omega) (by omega) (by omega) (by omega)
              rw [show TreeAt_o (t2.carets : Int) (rankT t2 : Int) = some t2 by
                simp only [TreeAt_o]
                rw [if_pos (by omega), if_pos (by simp; omega)]
                simp only [Int.toNat_natCast]
                rw [e1]] at ha
              simp only [ansN, ansI, ansV, trS, trB, Option.getD_some, Option.isSome_some] at hk1 hk2 hv ha
              have hrk : rankT t2 ≤ 2000 := by omega
              generalize rankT t2 = rk at *
              have hcar : t2.carets ≤ 8 := ht2
              generalize t2.carets = car at *
              clear e1 e2 hcb hto2
              refine (hk1 _).mono ?_; rintro e w76 ⟨rfl, hb⟩
              replace HB := Lib.hid (nx HB.out hb)
              clear hb
              go_wp2_with fail
              refine (hk2 _).mono ?_; rintro e w77 ⟨rfl, hb⟩
              replace HB := Lib.hid (nx HB.out hb)
              clear hb
              clear hk1 hk2
              go_wp2_with fail
              refine (hv _).mono ?_; rintro e w78 ⟨rfl, hb⟩
              replace HB := Lib.hid (nx HB.out hb)
              clear hb
              go_wp2_with fail
              refine (ha _).mono ?_; rintro e w79 ⟨rfl, hb⟩
              replace HB := Lib.hid (nx HB.out hb)
              clear hb
              clear hv ha
              go_wp2_with fail
              refine (hRank _).mono ?_; rintro e w80 ⟨rfl, hb⟩
              replace HB := Lib.hid (nx HB.out hb)
              clear hb
              go_wp2_with fail
              go_ret
              exact ⟨by simp, HB.out⟩
            · rw [show RankTree_o u = none by simp [RankTree_o, hno2]] at hk1 hk2
              simp only [ansN, Option.getD_none, Option.isSome_none] at hk1 hk2
              clear hno2
              refine (hk1 _).mono ?_; rintro e w81 ⟨rfl, hb⟩
              replace HB := Lib.hid (nx HB.out hb)
              clear hb
              go_wp2_with fail
              refine (hk2 _).mono ?_; rintro e w82 ⟨rfl, hb⟩
              replace HB := Lib.hid (nx HB.out hb)
              clear hb
              clear hk1 hk2
              go_wp2_with fail
              refine (hRank _).mono ?_; rintro e w83 ⟨rfl, hb⟩
              replace HB := Lib.hid (nx HB.out hb)
              clear hb
              go_wp2_with fail
              go_ret
              exact ⟨by simp, HB.out⟩
      · rw [show AllTrees_o m = none by simp only [AllTrees_o]; rw [if_neg hm]] at hL1 hL2
        refine (hL1 _).mono ?_; rintro e w70 ⟨v1, o1, hb, rfl⟩
        have O1 := Lib.hid (show OwnS _ _ v1 [] from o1)
        replace HB := Lib.hid (nx HB.out hb)
        clear hb o1
        go_wp2_with fail
        refine (hL2 _).mono ?_; rintro e w71 ⟨v2, o2, hb, rfl⟩
        have O2 := Lib.hid (show OwnS _ _ v2 [] from o2)
        replace O1 := Lib.hid (O1.out.keep hb)
        replace HB := Lib.hid (nx HB.out hb)
        clear hb o2 hL1 hL2
        go_wp2_with fail
        refine (fTexts_any _ _ v1 v2 _ _ O1.out.cells O2.out.cells).mono ?_; rintro e w72 ⟨rfl, d72, rfl⟩
        replace HB := Lib.hid (drewB HB.out d72)
        clear O1 O2
        generalize w71.drewN d72 = w73 at *
        go_wp2_with fail
        refine (drawRightComb_any d _ (hd.keep HB.out)).mono ?_; rintro e w84 ⟨kk, hk1, hk2, rfl, hb⟩
        replace HB := Lib.hid (nx HB.out hb)
        clear hb
        go_wp2_with fail
        have hr1 := fun w => implRightComb_any kk w (by omega) (by omega)
        have hr2 := fun w => specRightComb_any kk w (by omega) (by omega)
        have hr3 := fun w => implLeftComb_any kk w (by omega) (by omega)
        have hr4 := fun w => specLeftComb_any kk w (by omega) (by omega)
        simp only [ansV] at hr1 hr2 hr3 hr4
        generalize trS (combO rcomb kk) = z1 at *
        generalize trB (combO rcomb kk) = z2 at *
        generalize trS (combO lcomb kk) = z3 at *
        generalize trB (combO lcomb kk) = z4 at *
        refine (hr1 _).mono ?_; rintro e w85 ⟨rfl, hb⟩
        replace HB := Lib.hid (nx HB.out hb)
        clear hb
        go_wp2_with fail
        refine (hr2 _).mono ?_; rintro e w86 ⟨rfl, hb⟩
        replace HB := Lib.hid (nx HB.out hb)
        clear hb
        go_wp2_with fail
        refine (hr3 _).mono ?_; rintro e w87 ⟨rfl, hb⟩
        replace HB := Lib.hid (nx HB.out hb)
        clear hb
        go_wp2_with fail
        refine (hr4 _).mono ?_; rintro e w88 ⟨rfl, hb⟩
        replace HB := Lib.hid (nx HB.out hb)
        clear hb
        clear hr1 hr2 hr3 hr4
        go_wp2_with fail
        refine (drawRankTree_any c _ (hc.keep HB.out)).mono ?_; rintro e w89 ⟨u, hu, rfl, hb⟩
        replace HB := Lib.hid (nx HB.out hb)
        clear hb
        go_wp2_with fail
        have hk1 := fun w => implRankTree_any u w (by omega)
        have hk2 := fun w => specRankTree_any u w (by omega)
        rcases tree_or u with ⟨t2, rfl, ht2, hto2⟩ | hno2
        · rw [show RankTree_o t2.str = some (rankT t2) by simp [RankTree_o, hto2]] at hk1 hk2
          have hv := fun w => implCaretsOf_any t2.str w (by omega)
          rw [show caretsO t2.str = some t2.carets by simp [caretsO, hto2]] at hv
          obtain ⟨e1, e2⟩ := treeAt_rank t2 ht2
          have hcb := catN_bd t2.carets ht2
          have ha := fun w => implTreeAt_any (t2.carets : Int) (rankT t2 : Int) w (by omega) (by omega) (by omega) (by omega)
          rw [show TreeAt_o (t2.carets : Int) (rankT t2 : Int) = some t2 by
            simp only [TreeAt_o]
            rw [if_pos (by omega), if_pos (by simp; omega)]
            simp only [Int.toNat_natCast]
            rw [e1]] at ha
          simp only [ansN, ansI, ansV, trS, trB, Option.getD_some, Option.isSome_some] at hk1 hk2 hv ha
          have hrk : rankT t2 ≤ 2000 := by omega
          generalize rankT t2 = rk at *
          have hcar : t2.carets ≤ 8 := ht2
          generalize t2.carets = car at *
          clear e1 e2 hcb hto2
          refine (hk1 _).mono ?_; rintro e w90 ⟨rfl, hb⟩
          replace HB := Lib.hid (nx HB.out hb)
          clear hb
          go_wp2_with fail
          refine (hk2 _).mono ?_; rintro e w91 ⟨rfl, hb⟩
          replace HB := Lib.hid (nx HB.out hb)
          clear hb
          clear hk1 hk2
          go_wp2_with fail
          refine (hv _).mono ?_; rintro e w92 ⟨rfl, hb⟩
          replace HB := Lib.hid (nx HB.out hb)
          clear hb
          go_wp2_with fail
          refine (ha _).mono ?_; rintro e w93 ⟨rfl, hb⟩
          replace HB := Lib.hid (nx HB.out hb)
          clear hb
          clear hv ha
          go_wp2_with fail
          refine (hRank _).mono ?_; rintro e w94 ⟨rfl, hb⟩
          replace HB := Lib.hid (nx HB.out hb)
          clear hb
          go_wp2_with fail
          go_ret
          exact ⟨by simp, HB.out⟩
        · rw [show RankTree_o u = none by simp [RankTree_o, hno2]] at hk1 hk2
          simp only [ansN, Option.getD_none, Option.isSome_none] at hk1 hk2
          clear hno2
          refine (hk1 _).mono ?_; rintro e w95 ⟨rfl, hb⟩
          replace HB := Lib.hid (nx HB.out hb)
          clear hb
          go_wp2_with fail
          refine (hk2 _).mono ?_; rintro e w96 ⟨rfl, hb⟩
          replace HB := Lib.hid (nx HB.out hb)
          clear hb
          clear hk1 hk2
          go_wp2_with fail
          refine (hRank _).mono ?_; rintro e w97 ⟨rfl, hb⟩
          replace HB := Lib.hid (nx HB.out hb)
          clear hb
          go_wp2_with fail
          go_ret
          exact ⟨by simp, HB.out⟩
    · rw [show TreeAt_o (n : Int) (r : Int) = none by simp only [TreeAt_o]; rw [if_pos hin, if_neg (by simp; omega)]] at ha1 ha2
      simp only [ansN, ansV, trS, trB, Option.getD_some, Option.isSome_some] at ha1 ha2 ha3 ha4
      have hrc' : (catN n : Int) ≤ (r : Int) := by omega
      clear hrc
      generalize catN n = N at *
      refine (ha1 _).mono ?_; rintro e w98 ⟨rfl, hb⟩
      replace HB := Lib.hid (nx HB.out hb)
      clear hb
      go_wp2_with fail
      refine (ha2 _).mono ?_; rintro e w99 ⟨rfl, hb⟩
      replace HB := Lib.hid (nx HB.out hb)
      clear hb
      go_wp2_with fail
      refine (ha3 _).mono ?_; rintro e w100 ⟨rfl, hb⟩
      replace HB := Lib.hid (nx HB.out hb)
      clear hb
      go_wp2_with fail
      refine (ha4 _).mono ?_; rintro e w101 ⟨rfl, hb⟩
      replace HB := Lib.hid (nx HB.out hb)
      clear hb
      clear ha1 ha2 ha3 ha4
      go_wp2_with fail
      refine (drawAllTrees_any d _ (hd.keep HB.out)).mono ?_; rintro e w102 ⟨m, hm1, hm2, rfl, hb⟩
      replace HB := Lib.hid (nx HB.out hb)
      clear hb
      go_wp2_with fail
      have hL1 := fun w => implAllTrees_any m w (by omega) (by omega)
      have hL2 := fun w => specAllTrees_any m w (by omega) (by omega)
      by_cases hm : 0 ≤ m ∧ m ≤ 5
      · obtain ⟨n, rfl⟩ : ∃ n : Nat, m = n := ⟨m.toNat, by omega⟩
        rw [show AllTrees_o (n : Int) = some (trTexts n) by simp only [AllTrees_o]; rw [if_pos hm, Int.toNat_natCast]] at hL1 hL2
        have hc1 := fun w => implCountTrees_any (n : Int) w (by omega) (by omega)
        rw [show countO (n : Int) = some (catN n) by simp only [countO]; rw [if_pos (by omega), Int.toNat_natCast]] at hc1
        have hl1 := fun w => implLeftComb_any (n : Int) w (by omega) (by omega)
        rw [show combO lcomb (n : Int) = some (lcomb n) by simp only [combO]; rw [if_pos (by omega), Int.toNat_natCast]] at hl1
        have hr1 := fun w => implRightComb_any (n : Int) w (by omega) (by omega)
        rw [show combO rcomb (n : Int) = some (rcomb n) by simp only [combO]; rw [if_pos (by omega), Int.toNat_natCast]] at hr1
        have hlen := trTexts_length n (by omega)
        have hfst := trTexts_first n (by omega)
        have hlst := trTexts_last n (by omega)
        have hpos := catN_pos n (by omega)
        have hcb := catN_bd n (by omega)
        have hinc := trTexts_inc n
        have htr := trTexts_tree n
        simp only [ansN, ansV, trS, trB, Option.getD_some, Option.isSome_some] at hc1 hl1 hr1
        rw [← hlen] at hlst
        generalize trTexts n = L at *
        generalize catN n = N at *
        generalize (lcomb n).str = L0 at *
        generalize (rcomb n).str = L1 at *
        have HLEN := Lib.hid hlen
        have HINC := Lib.hid hinc
        have HTR := Lib.hid htr
        have HFST := Lib.hid hfst
        have HLST := Lib.hid hlst
        have hn5 : n ≤ 5 := by omega
        clear hlen hinc htr hfst hlst
        refine (hL1 _).mono ?_; rintro e w70 ⟨v1, o1, hb, rfl⟩
        have O1 := Lib.hid (show OwnS _ _ v1 L from o1)
        replace HB := Lib.hid (nx HB.out hb)
        clear hb o1
        go_wp2_with fail
        refine (hL2 _).mono ?_; rintro e w71 ⟨v2, o2, hb, rfl⟩
        have O2 := Lib.hid (show OwnS _ _ v2 L from o2)
        replace O1 := Lib.hid (O1.out.keep hb)
        replace HB := Lib.hid (nx HB.out hb)
        clear hb o2 hL1 hL2
        go_wp2_with fail
        refine (fTexts_any _ _ v1 v2 _ _ O1.out.cells O2.out.cells).mono ?_; rintro e w72 ⟨rfl, d72, rfl⟩
        obtain ⟨a1, cap1, hv1, hI1, hlc1, hcm1⟩ := O1.out.flat
        rw [HLEN.out] at hv1 hlc1
        have I1 := Lib.hid (show InS (w71.drewN d72) a1 L from hI1)
        replace HB := Lib.hid (drewB HB.out d72)
        subst hv1
        clear O1 O2 hI1
        generalize w71.drewN d72 = w73 at *
        go_wp2_with fail
        refine (hc1 _).mono ?_; rintro e w103 ⟨rfl, hb⟩
        replace I1 := Lib.hid (I1.out.keep hb)
        replace HB := Lib.hid (nx HB.out hb)
        clear hb
        go_wp2_with fail
        refine (hl1 _).mono ?_; rintro e w104 ⟨rfl, hb⟩
        replace I1 := Lib.hid (I1.out.keep hb)
        replace HB := Lib.hid (nx HB.out hb)
        clear hb
        go_wp2_with fail
        refine (hr1 _).mono ?_; rintro e w74 ⟨rfl, hb⟩
        replace I1 := Lib.hid (I1.out.keep hb)
        replace HB := Lib.hid (nx HB.out hb)
        clear hb hc1 hl1 hr1
        have hR : ∃ g off, a1 = some ⟨g, off, none⟩ ∧ ReadS w74 g off L := by
          rcases I1.out with h | h
          · have h9 := HLEN.out; rw [h] at h9; simp at h9; omega
          · exact h
        obtain ⟨g, off, rfl, R⟩ := hR
        have cf := R 0 (by have := HLEN.out; omega)
        rw [HFST.out, Nat.add_zero] at cf
        obtain ⟨N', rfl⟩ : ∃ q, N = q + 1 := ⟨N - 1, by omega⟩
        have cl := R N' (by have := HLEN.out; omega)
        rw [show L.getD N' ⟨#[]⟩ = L1 by have := HLST.out; rw [HLEN.out] at this; exact this] at cl
        clear R
        go_wp2_with fail
        clear cf cl
        go_loopw [182] (fun i wr => ∃ k : Nat, k ≤ N' + 1 ∧ i = .int .i64 k ∧ Hid (Below W.heap.size W wr) ∧ Hid (InS wr (some ⟨g, off, none⟩) L)) (fun i _ => N' + 1 - (intOf i).toNat)
        case atStart => exact ⟨0, by omega, rfl, HB, I1⟩
        case round =>
          clear HB I1
          obtain ⟨k, hk, rfl, HB, I1⟩ := hrel
          by_cases hlt : k < N' + 1
          · have hlt' : (k : Int) < (N' : Int) + 1 := by omega
            have hkL : k < L.length := by have := HLEN.out; omega
            have hR : ReadS wr g off L := by
              rcases I1.out with h | ⟨g2, off2, h1, h2⟩
              · rw [h] at hkL; simp at hkL
              · simp only [Option.some.injEq, Addr.mk.injEq, and_true] at h1
                obtain ⟨rfl, rfl⟩ := h1; exact h2
            have c1 := hR k hkL
            obtain ⟨x, hx⟩ : ∃ x, x = L.getD k ⟨#[]⟩ := ⟨_, rfl⟩
            rw [← hx] at c1
            obtain ⟨t9, ht9, hc9⟩ := HTR.out x (by rw [hx]; exact getD_memT hkL)
            have hIs := fun w => implIsTree_yes t9 w (by omega)
            rw [← ht9] at hIs
            have HR := Lib.hid hR
            have HX := Lib.hid hx
            clear ht9 hR hx
            by_cases hk0 : k = 0
            · have hk0' : (k : Int) ≤ 0 := by omega
              clear hk0
              go_wp2_with fail
              refine (hIs _).mono ?_; rintro e w75 ⟨hb, rfl⟩
              replace I1 := Lib.hid (I1.out.keep hb)
              replace HB := Lib.hid (nx HB.out hb)
              clear hb
              go_wp2_with fail
              go_roundw
              case rel => exact ⟨k + 1, by omega, by go_num, HB, I1⟩
              case measure => simp [intOf]; omega
            · obtain ⟨j, rfl⟩ : ∃ j, k = j + 1 := ⟨k - 1, by omega⟩
              go_wp2_with fail
              refine (hIs _).mono ?_; rintro e w75 ⟨hb, rfl⟩
              have c1p := (HR.out.keep hb) j (by omega)
              have hlt2 := HINC.out j hkL
              rw [← HX.out] at hlt2
              obtain ⟨p, hp⟩ : ∃ p, p = L.getD j ⟨#[]⟩ := ⟨_, rfl⟩
              rw [← hp] at c1p hlt2
              have ege : (binOp BinOp.geq 9 (.string p) (.string x)).run Try.prog w75 = .ok (.bool false) w75 := by
                show Result.ok (Value.bool (!Go.Op.bytesLess p.toList x.toList)) w75 = _
                rw [less_data, show decide (p.data.toList < x.data.toList) = true from by simpa using hlt2]; rfl
              have ej : (j : Int) ≤ (N' : Int) := by omega
              replace I1 := Lib.hid (I1.out.keep hb)
              replace HB := Lib.hid (nx HB.out hb)
              clear hb hlt2 hp
              go_wp2_with fail
              go_roundw
              case rel => exact ⟨j + 2, by omega, by go_num, HB, I1⟩
              case measure => simp [intOf]; omega
          · obtain rfl : k = N' + 1 := by omega
            go_wp2_with fail
            refine (drawRightComb_any d _ (hd.keep HB.out)).mono ?_; rintro e w105 ⟨kk, hk1, hk2, rfl, hb⟩
            replace HB := Lib.hid (nx HB.out hb)
            clear hb
            go_wp2_with fail
            have hr1 := fun w => implRightComb_any kk w (by omega) (by omega)
            have hr2 := fun w => specRightComb_any kk w (by omega) (by omega)
            have hr3 := fun w => implLeftComb_any kk w (by omega) (by omega)
            have hr4 := fun w => specLeftComb_any kk w (by omega) (by omega)
            simp only [ansV] at hr1 hr2 hr3 hr4
            generalize trS (combO rcomb kk) = z1 at *
            generalize trB (combO rcomb kk) = z2 at *
            generalize trS (combO lcomb kk) = z3 at *
            generalize trB (combO lcomb kk) = z4 at *
            refine (hr1 _).mono ?_; rintro e w106 ⟨rfl, hb⟩
            replace HB := Lib.hid (nx HB.out hb)
            clear hb
            go_wp2_with fail
            refine (hr2 _).mono ?_; rintro e w107 ⟨rfl, hb⟩
            replace HB := Lib.hid (nx HB.out hb)
            clear hb
            go_wp2_with fail
            refine (hr3 _).mono ?_; rintro e w108 ⟨rfl, hb⟩
            replace HB := Lib.hid (nx HB.out hb)
            clear hb
            go_wp2_with fail
            refine (hr4 _).mono ?_; rintro e w109 ⟨rfl, hb⟩
            replace HB := Lib.hid (nx HB.out hb)
            clear hb
            clear hr1 hr2 hr3 hr4
            go_wp2_with fail
            refine (drawRankTree_any c _ (hc.keep HB.out)).mono ?_; rintro e w110 ⟨u, hu, rfl, hb⟩
            replace HB := Lib.hid (nx HB.out hb)
            clear hb
            go_wp2_with fail
            have hk1 := fun w => implRankTree_any u w (by omega)
            have hk2 := fun w => specRankTree_any u w (by omega)
            rcases tree_or u with ⟨t2, rfl, ht2, hto2⟩ | hno2
            · rw [show RankTree_o t2.str = some (rankT t2) by simp [RankTree_o, hto2]] at hk1 hk2
              have hv := fun w => implCaretsOf_any t2.str w (by omega)
              rw [show caretsO t2.str = some t2.carets by simp [caretsO, hto2]] at hv
              obtain ⟨e1, e2⟩ := treeAt_rank t2 ht2
              have hcb := catN_bd t2.carets ht2
              have ha := fun w => implTreeAt_any (t2.carets : Int) (rankT t2 : Int) w (by omega) (by omega) (by omega) (by omega)
              rw [show TreeAt_o (t2.carets : Int) (rankT t2 : Int) = some t2 by
                simp only [TreeAt_o]
                rw [if_pos (by omega), if_pos (by simp; omega)]
                simp only [Int.toNat_natCast]
                rw [e1]] at ha
              simp only [ansN, ansI, ansV, trS, trB, Option.getD_some, Option.isSome_some] at hk1 hk2 hv ha
              have hrk : rankT t2 ≤ 2000 := by omega
              generalize rankT t2 = rk at *
              have hcar : t2.carets ≤ 8 := ht2
              generalize t2.carets = car at *
              clear e1 e2 hcb hto2
              refine (hk1 _).mono ?_; rintro e w111 ⟨rfl, hb⟩
              replace HB := Lib.hid (nx HB.out hb)
              clear hb
              go_wp2_with fail
              refine (hk2 _).mono ?_; rintro e w112 ⟨rfl, hb⟩
              replace HB := Lib.hid (nx HB.out hb)
              clear hb
              clear hk1 hk2
              go_wp2_with fail
              refine (hv _).mono ?_; rintro e w113 ⟨rfl, hb⟩
              replace HB := Lib.hid (nx HB.out hb)
              clear hb
              go_wp2_with fail
              refine (ha _).mono ?_; rintro e w114 ⟨rfl, hb⟩
              replace HB := Lib.hid (nx HB.out hb)
              clear hb
              clear hv ha
              go_wp2_with fail
              go_ret
              exact ⟨by simp, HB.out⟩
            · rw [show RankTree_o u = none by simp [RankTree_o, hno2]] at hk1 hk2
              simp only [ansN, Option.getD_none, Option.isSome_none] at hk1 hk2
              clear hno2
              refine (hk1 _).mono ?_; rintro e w115 ⟨rfl, hb⟩
              replace HB := Lib.hid (nx HB.out hb)
              clear hb
              go_wp2_with fail
              refine (hk2 _).mono ?_; rintro e w116 ⟨rfl, hb⟩
              replace HB := Lib.hid (nx HB.out hb)
              clear hb
              clear hk1 hk2
              go_wp2_with fail
              go_ret
              exact ⟨by simp, HB.out⟩
      · rw [show AllTrees_o m = none by simp only [AllTrees_o]; rw [if_neg hm]] at hL1 hL2
        refine (hL1 _).mono ?_; rintro e w70 ⟨v1, o1, hb, rfl⟩
        have O1 := Lib.hid (show OwnS _ _ v1 [] from o1)
        replace HB := Lib.hid (nx HB.out hb)
        clear hb o1
        go_wp2_with fail
        refine (hL2 _).mono ?_; rintro e w71 ⟨v2, o2, hb, rfl⟩
        have O2 := Lib.hid (show OwnS _ _ v2 [] from o2)
        replace O1 := Lib.hid (O1.out.keep hb)
        replace HB := Lib.hid (nx HB.out hb)
        clear hb o2 hL1 hL2
        go_wp2_with fail
        refine (fTexts_any _ _ v1 v2 _ _ O1.out.cells O2.out.cells).mono ?_; rintro e w72 ⟨rfl, d72, rfl⟩
        replace HB := Lib.hid (drewB HB.out d72)
        clear O1 O2
        generalize w71.drewN d72 = w73 at *
        go_wp2_with fail
        refine (drawRightComb_any d _ (hd.keep HB.out)).mono ?_; rintro e w117 ⟨kk, hk1, hk2, rfl, hb⟩
        replace HB := Lib.hid (nx HB.out hb)
        clear hb
        go_wp2_with fail
        have hr1 := fun w => implRightComb_any kk w (by omega) (by omega)
        have hr2 := fun w => specRightComb_any kk w (by omega) (by omega)
        have hr3 := fun w => implLeftComb_any kk w (by omega) (by omega)
        have hr4 := fun w => specLeftComb_any kk w (by omega) (by omega)
        simp only [ansV] at hr1 hr2 hr3 hr4
        generalize trS (combO rcomb kk) = z1 at *
        generalize trB (combO rcomb kk) = z2 at *
        generalize trS (combO lcomb kk) = z3 at *
        generalize trB (combO lcomb kk) = z4 at *
        refine (hr1 _).mono ?_; rintro e w118 ⟨rfl, hb⟩
        replace HB := Lib.hid (nx HB.out hb)
        clear hb
        go_wp2_with fail
        refine (hr2 _).mono ?_; rintro e w119 ⟨rfl, hb⟩
        replace HB := Lib.hid (nx HB.out hb)
        clear hb
        go_wp2_with fail
        refine (hr3 _).mono ?_; rintro e w120 ⟨rfl, hb⟩
        replace HB := Lib.hid (nx HB.out hb)
        clear hb
        go_wp2_with fail
        refine (hr4 _).mono ?_; rintro e w121 ⟨rfl, hb⟩
        replace HB := Lib.hid (nx HB.out hb)
        clear hb
        clear hr1 hr2 hr3 hr4
        go_wp2_with fail
        refine (drawRankTree_any c _ (hc.keep HB.out)).mono ?_; rintro e w122 ⟨u, hu, rfl, hb⟩
        replace HB := Lib.hid (nx HB.out hb)
        clear hb
        go_wp2_with fail
        have hk1 := fun w => implRankTree_any u w (by omega)
        have hk2 := fun w => specRankTree_any u w (by omega)
        rcases tree_or u with ⟨t2, rfl, ht2, hto2⟩ | hno2
        · rw [show RankTree_o t2.str = some (rankT t2) by simp [RankTree_o, hto2]] at hk1 hk2
          have hv := fun w => implCaretsOf_any t2.str w (by omega)
          rw [show caretsO t2.str = some t2.carets by simp [caretsO, hto2]] at hv
          obtain ⟨e1, e2⟩ := treeAt_rank t2 ht2
          have hcb := catN_bd t2.carets ht2
          have ha := fun w => implTreeAt_any (t2.carets : Int) (rankT t2 : Int) w (by omega) (by omega) (by omega) (by omega)
          rw [show TreeAt_o (t2.carets : Int) (rankT t2 : Int) = some t2 by
            simp only [TreeAt_o]
            rw [if_pos (by omega), if_pos (by simp; omega)]
            simp only [Int.toNat_natCast]
            rw [e1]] at ha
          simp only [ansN, ansI, ansV, trS, trB, Option.getD_some, Option.isSome_some] at hk1 hk2 hv ha
          have hrk : rankT t2 ≤ 2000 := by omega
          generalize rankT t2 = rk at *
          have hcar : t2.carets ≤ 8 := ht2
          generalize t2.carets = car at *
          clear e1 e2 hcb hto2
          refine (hk1 _).mono ?_; rintro e w123 ⟨rfl, hb⟩
          replace HB := Lib.hid (nx HB.out hb)
          clear hb
          go_wp2_with fail
          refine (hk2 _).mono ?_; rintro e w124 ⟨rfl, hb⟩
          replace HB := Lib.hid (nx HB.out hb)
          clear hb
          clear hk1 hk2
          go_wp2_with fail
          refine (hv _).mono ?_; rintro e w125 ⟨rfl, hb⟩
          replace HB := Lib.hid (nx HB.out hb)
          clear hb
          go_wp2_with fail
          refine (ha _).mono ?_; rintro e w126 ⟨rfl, hb⟩
          replace HB := Lib.hid (nx HB.out hb)
          clear hb
          clear hv ha
          go_wp2_with fail
          go_ret
          exact ⟨by simp, HB.out⟩
        · rw [show RankTree_o u = none by simp [RankTree_o, hno2]] at hk1 hk2
          simp only [ansN, Option.getD_none, Option.isSome_none] at hk1 hk2
          clear hno2
          refine (hk1 _).mono ?_; rintro e w127 ⟨rfl, hb⟩
          replace HB := Lib.hid (nx HB.out hb)
          clear hb
          go_wp2_with fail
          refine (hk2 _).mono ?_; rintro e w128 ⟨rfl, hb⟩
          replace HB := Lib.hid (nx HB.out hb)
          clear hb
          clear hk1 hk2
          go_wp2_with fail
          go_ret
          exact ⟨by simp, HB.out⟩
  · rw [show TreeAt_o n r = none by simp only [TreeAt_o]; rw [if_neg hin]] at ha1 ha2
    rw [show countO n = none by simp only [countO]; rw [if_neg hin]] at ha3 ha4
    simp only [ansN, ansV, trS, trB, Option.getD_none, Option.isSome_none] at ha1 ha2 ha3 ha4
    refine (ha1 _).mono ?_; rintro e w129 ⟨rfl, hb⟩
    replace HB := Lib.hid (nx HB.out hb)
    clear hb
    go_wp2_with fail
    refine (ha2 _).mono ?_; rintro e w130 ⟨rfl, hb⟩
    replace HB := Lib.hid (nx HB.out hb)
    clear hb
    go_wp2_with fail
    refine (ha3 _).mono ?_; rintro e w131 ⟨rfl, hb⟩
    replace HB := Lib.hid (nx HB.out hb)
    clear hb
    go_wp2_with fail
    refine (ha4 _).mono ?_; rintro e w132 ⟨rfl, hb⟩
    replace HB := Lib.hid (nx HB.out hb)
    clear hb
    clear ha1 ha2 ha3 ha4
    go_wp2_with fail
    refine (drawAllTrees_any d _ (hd.keep HB.out)).mono ?_; rintro e w133 ⟨m, hm1, hm2, rfl, hb⟩
    replace HB := Lib.hid (nx HB.out hb)
    clear hb
    go_wp2_with fail
    have hL1 := fun w => implAllTrees_any m w (by omega) (by omega)
    have hL2 := fun w => specAllTrees_any m w (by omega) (by omega)
    by_cases hm : 0 ≤ m ∧ m ≤ 5
    · obtain ⟨n, rfl⟩ : ∃ n : Nat, m = n := ⟨m.toNat, by omega⟩
      rw [show AllTrees_o (n : Int) = some (trTexts n) by simp only [AllTrees_o]; rw [if_pos hm, Int.toNat_natCast]] at hL1 hL2
      have hc1 := fun w => implCountTrees_any (n : Int) w (by omega) (by omega)
      rw [show countO (n : Int) = some (catN n) by simp only [countO]; rw [if_pos (by omega), Int.toNat_natCast]] at hc1
      have hl1 := fun w => implLeftComb_any (n : Int) w (by omega) (by omega)
      rw [show combO lcomb (n : Int) = some (lcomb n) by simp only [combO]; rw [if_pos (by omega), Int.toNat_natCast]] at hl1
      have hr1 := fun w => implRightComb_any (n : Int) w (by omega) (by omega)
      rw [show combO rcomb (n : Int) = some (rcomb n) by simp only [combO]; rw [if_pos (by omega), Int.toNat_natCast]] at hr1
      have hlen := trTexts_length n (by omega)
      have hfst := trTexts_first n (by omega)
      have hlst := trTexts_last n (by omega)
      have hpos := catN_pos n (by omega)
      have hcb := catN_bd n (by omega)
      have hinc := trTexts_inc n
      have htr := trTexts_tree n
      simp only [ansN, ansV, trS, trB, Option.getD_some, Option.isSome_some] at hc1 hl1 hr1
      rw [← hlen] at hlst
      generalize trTexts n = L at *
      generalize catN n = N at *
      generalize (lcomb n).str = L0 at *
      generalize (rcomb n).str = L1 at *
      have HLEN := Lib.hid hlen
      have HINC := Lib.hid hinc
      have HTR := Lib.hid htr
      have HFST := Lib.hid hfst
      have HLST := Lib.hid hlst
      have hn5 : n ≤ 5 := by omega
      clear hlen hinc htr hfst hlst
      refine (hL1 _).mono ?_; rintro e w70 ⟨v1, o1, hb, rfl⟩
      have O1 := Lib.hid (show OwnS _ _ v1 L from o1)
      replace HB := Lib.hid (nx HB.out hb)
      clear hb o1
      go_wp2_with fail
      refine (hL2 _).mono ?_; rintro e w71 ⟨v2, o2, hb, rfl⟩
      have O2 := Lib.hid (show OwnS _ _ v2 L from o2)
      replace O1 := Lib.hid (O1.out.keep hb)
      replace HB := Lib.hid (nx HB.out hb)
      clear hb o2 hL1 hL2
      go_wp2_with fail
      refine (fTexts_any _ _ v1 v2 _ _ O1.out.cells O2.out.cells).mono ?_; rintro e w72 ⟨rfl, d72, rfl⟩
      obtain ⟨a1, cap1, hv1, hI1, hlc1, hcm1⟩ := O1.out.flat
      rw [HLEN.out] at hv1 hlc1
      have I1 := Lib.hid (show InS (w71.drewN d72) a1 L from hI1)
      replace HB := Lib.hid (drewB HB.out d72)
      subst hv1
      clear O1 O2 hI1
      generalize w71.drewN d72 = w73 at *
      go_wp2_with fail
      refine (hc1 _).mono ?_; rintro e w134 ⟨rfl, hb⟩
      replace I1 := Lib.hid (I1.out.keep hb)
      replace HB := Lib.hid (nx HB.out hb)
      clear hb
      go_wp2_with fail
      refine (hl1 _).mono ?_; rintro e w135 ⟨rfl, hb⟩
      replace I1 := Lib.hid (I1.out.keep hb)
      replace HB := Lib.hid (nx HB.out hb)
      clear hb
      go_wp2_with fail
      refine (hr1 _).mono ?_; rintro e w74 ⟨rfl, hb⟩
      replace I1 := Lib.hid (I1.out.keep hb)
      replace HB := Lib.hid (nx HB.out hb)
      clear hb hc1 hl1 hr1
      have hR : ∃ g off, a1 = some ⟨g, off, none⟩ ∧ ReadS w74 g off L := by
        rcases I1.out with h | h
        · have h9 := HLEN.out; rw [h] at h9; simp at h9; omega
        · exact h
      obtain ⟨g, off, rfl, R⟩ := hR
      have cf := R 0 (by have := HLEN.out; omega)
      rw [HFST.out, Nat.add_zero] at cf
      obtain ⟨N', rfl⟩ : ∃ q, N = q + 1 := ⟨N - 1, by omega⟩
      have cl := R N' (by have := HLEN.out; omega)
      rw [show L.getD N' ⟨#[]⟩ = L1 by have := HLST.out; rw [HLEN.out] at this; exact this] at cl
      clear R
      go_wp2_with fail
      clear cf cl
      go_loopw [182] (fun i wr => ∃ k : Nat, k ≤ N' + 1 ∧ i = .int .i64 k ∧ Hid (Below W.heap.size W wr) ∧ Hid (InS wr (some ⟨g, off, none⟩) L)) (fun i _ => N' + 1 - (intOf i).toNat)
      case atStart => exact ⟨0, by omega, rfl, HB, I1⟩
      case round =>
        clear HB I1
        obtain ⟨k, hk, rfl, HB, I1⟩ := hrel
        by_cases hlt : k < N' + 1
        · have hlt' : (k : Int) < (N' : Int) + 1 := by omega
          have hkL : k < L.length := by have := HLEN.out; omega
          have hR : ReadS wr g off L := by
            rcases I1.out with h | ⟨g2, off2, h1, h2⟩
            · rw [h] at hkL; simp at hkL
            · simp only [Option.some.injEq, Addr.mk.injEq, and_true] at h1
              obtain ⟨rfl, rfl⟩ := h1; exact h2
          have c1 := hR k hkL
          obtain ⟨x, hx⟩ : ∃ x, x = L.getD k ⟨#[]⟩ := ⟨_, rfl⟩
          rw [← hx] at c1
          obtain ⟨t9, ht9, hc9⟩ := HTR.out x (by rw [hx]; exact getD_memT hkL)
          have hIs := fun w => implIsTree_yes t9 w (by omega)
          rw [← ht9] at hIs
          have HR := Lib.hid hR
          have HX := Lib.hid hx
          clear ht9 hR hx
          by_cases hk0 : k = 0
          · have hk0' : (k : Int) ≤ 0 := by omega
            clear hk0
            go_wp2_with fail
            refine (hIs _).mono ?_; rintro e w75 ⟨hb, rfl⟩
            replace I1 := Lib.hid (I1.out.keep hb)
            replace HB := Lib.hid (nx HB.out hb)
            clear hb
            go_wp2_with fail
            go_roundw
            case rel => exact ⟨k + 1, by omega, by go_num, HB, I1⟩
            case measure => simp [intOf]; omega
          · obtain ⟨j, rfl⟩ : ∃ j, k = j + 1 := ⟨k - 1, by omega⟩
            go_wp2_with fail
            refine (hIs _).mono ?_; rintro e w75 ⟨hb, rfl⟩
            have c1p := (HR.out.keep hb) j (by omega)
            have hlt2 := HINC.out j hkL
            rw [← HX.out] at hlt2
            obtain ⟨p, hp⟩ : ∃ p, p = L.getD j ⟨#[]⟩ := ⟨_, rfl⟩
            rw [← hp] at c1p hlt2
            have ege : (binOp BinOp.geq 9 (.string p) (.string x)).run Try.prog w75 = .ok (.bool false) w75 := by
              show Result.ok (Value.bool (!Go.Op.bytesLess p.toList x.toList)) w75 = _
              rw [less_data, show decide (p.data.toList < x.data.toList) = true from by simpa using hlt2]; rfl
            have ej : (j : Int) ≤ (N' : Int) := by omega
            replace I1 := Lib.hid (I1.out.keep hb)
            replace HB := Lib.hid (nx HB.out hb)
            clear hb hlt2 hp
            go_wp2_with fail
            go_roundw
            case rel => exact ⟨j + 2, by omega, by go_num, HB, I1⟩
            case measure => simp [intOf]; omega
        · obtain rfl : k = N' + 1 := by omega
          go_wp2_with fail
          refine (drawRightComb_any d _ (hd.keep HB.out)).mono ?_; rintro e w136 ⟨kk, hk1, hk2, rfl, hb⟩
          replace HB := Lib.hid (nx HB.out hb)
          clear hb
          go_wp2_with fail
          have hr1 := fun w => implRightComb_any kk w (by omega) (by omega)
          have hr2 := fun w => specRightComb_any kk w (by omega) (by omega)
          have hr3 := fun w => implLeftComb_any kk w (by omega) (by omega)
          have hr4 := fun w => specLeftComb_any kk w (by omega) (by omega)
          simp only [ansV] at hr1 hr2 hr3 hr4
          generalize trS (combO rcomb kk) = z1 at *
          generalize trB (combO rcomb kk) = z2 at *
          generalize trS (combO lcomb kk) = z3 at *
          generalize trB (combO lcomb kk) = z4 at *
          refine (hr1 _).mono ?_; rintro e w137 ⟨rfl, hb⟩
          replace HB := Lib.hid (nx HB.out hb)
          clear hb
          go_wp2_with fail
          refine (hr2 _).mono ?_; rintro e w138 ⟨rfl, hb⟩
          replace HB := Lib.hid (nx HB.out hb)
          clear hb
          go_wp2_with fail
          refine (hr3 _).mono ?_; rintro e w139 ⟨rfl, hb⟩
          replace HB := Lib.hid (nx HB.out hb)
          clear hb
          go_wp2_with fail
          refine (hr4 _).mono ?_; rintro e w140 ⟨rfl, hb⟩
          replace HB := Lib.hid (nx HB.out hb)
          clear hb
          clear hr1 hr2 hr3 hr4
          go_wp2_with fail
          refine (drawRankTree_any c _ (hc.keep HB.out)).mono ?_; rintro e w141 ⟨u, hu, rfl, hb⟩
          replace HB := Lib.hid (nx HB.out hb)
          clear hb
          go_wp2_with fail
          have hk1 := fun w => implRankTree_any u w (by omega)
          have hk2 := fun w => specRankTree_any u w (by omega)
          rcases tree_or u with ⟨t2, rfl, ht2, hto2⟩ | hno2
          · rw [show RankTree_o t2.str = some (rankT t2) by simp [RankTree_o, hto2]] at hk1 hk2
            have hv := fun w => implCaretsOf_any t2.str w (by omega)
            rw [show caretsO t2.str = some t2.carets by simp [caretsO, hto2]] at hv
            obtain ⟨e1, e2⟩ := treeAt_rank t2 ht2
            have hcb := catN_bd t2.carets ht2
            have ha := fun w => implTreeAt_any (t2.carets : Int) (rankT t2 : Int) w (by omega) (by omega) (by omega) (by omega)
            rw [show TreeAt_o (t2.carets : Int) (rankT t2 : Int) = some t2 by
              simp only [TreeAt_o]
              rw [if_pos (by omega), if_pos (by simp; omega)]
              simp only [Int.toNat_natCast]
              rw [e1]] at ha
            simp only [ansN, ansI, ansV, trS, trB, Option.getD_some, Option.isSome_some] at hk1 hk2 hv ha
            have hrk : rankT t2 ≤ 2000 := by omega
            generalize rankT t2 = rk at *
            have hcar : t2.carets ≤ 8 := ht2
            generalize t2.carets = car at *
            clear e1 e2 hcb hto2
            refine (hk1 _).mono ?_; rintro e w142 ⟨rfl, hb⟩
            replace HB := Lib.hid (nx HB.out hb)
            clear hb
            go_wp2_with fail
            refine (hk2 _).mono ?_; rintro e w143 ⟨rfl, hb⟩
            replace HB := Lib.hid (nx HB.out hb)
            clear hb
            clear hk1 hk2
            go_wp2_with fail
            refine (hv _).mono ?_; rintro e w144 ⟨rfl, hb⟩
            replace HB := Lib.hid (nx HB.out hb)
            clear hb
            go_wp2_with fail
            refine (ha _).mono ?_; rintro e w145 ⟨rfl, hb⟩
            replace HB := Lib.hid (nx HB.out hb)
            clear hb
            clear hv ha
            go_wp2_with fail
            go_ret
            exact ⟨by simp, HB.out⟩
          · rw [show RankTree_o u = none by simp [RankTree_o, hno2]] at hk1 hk2
            simp only [ansN, Option.getD_none, Option.isSome_none] at hk1 hk2
            clear hno2
            refine (hk1 _).mono ?_; rintro e w146 ⟨rfl, hb⟩
            replace HB := Lib.hid (nx HB.out hb)
            clear hb
            go_wp2_with fail
            refine (hk2 _).mono ?_; rintro e w147 ⟨rfl, hb⟩
            replace HB := Lib.hid (nx HB.out hb)
            clear hb
            clear hk1 hk2
            go_wp2_with fail
            go_ret
            exact ⟨by simp, HB.out⟩
    · rw [show AllTrees_o m = none by simp only [AllTrees_o]; rw [if_neg hm]] at hL1 hL2
      refine (hL1 _).mono ?_; rintro e w70 ⟨v1, o1, hb, rfl⟩
      have O1 := Lib.hid (show OwnS _ _ v1 [] from o1)
      replace HB := Lib.hid (nx HB.out hb)
      clear hb o1
      go_wp2_with fail
      refine (hL2 _).mono ?_; rintro e w71 ⟨v2, o2, hb, rfl⟩
      have O2 := Lib.hid (show OwnS _ _ v2 [] from o2)
      replace O1 := Lib.hid (O1.out.keep hb)
      replace HB := Lib.hid (nx HB.out hb)
      clear hb o2 hL1 hL2
      go_wp2_with fail
      refine (fTexts_any _ _ v1 v2 _ _ O1.out.cells O2.out.cells).mono ?_; rintro e w72 ⟨rfl, d72, rfl⟩
      replace HB := Lib.hid (drewB HB.out d72)
      clear O1 O2
      generalize w71.drewN d72 = w73 at *
      go_wp2_with fail
      refine (drawRightComb_any d _ (hd.keep HB.out)).mono ?_; rintro e w148 ⟨kk, hk1, hk2, rfl, hb⟩
      replace HB := Lib.hid (nx HB.out hb)
      clear hb
      go_wp2_with fail
      have hr1 := fun w => implRightComb_any kk w (by omega) (by omega)
      have hr2 := fun w => specRightComb_any kk w (by omega) (by omega)
      have hr3 := fun w => implLeftComb_any kk w (by omega) (by omega)
      have hr4 := fun w => specLeftComb_any kk w (by omega) (by omega)
      simp only [ansV] at hr1 hr2 hr3 hr4
      generalize trS (combO rcomb kk) = z1 at *
      generalize trB (combO rcomb kk) = z2 at *
      generalize trS (combO lcomb kk) = z3 at *
      generalize trB (combO lcomb kk) = z4 at *
      refine (hr1 _).mono ?_; rintro e w149 ⟨rfl, hb⟩
      replace HB := Lib.hid (nx HB.out hb)
      clear hb
      go_wp2_with fail
      refine (hr2 _).mono ?_; rintro e w150 ⟨rfl, hb⟩
      replace HB := Lib.hid (nx HB.out hb)
      clear hb
      go_wp2_with fail
      refine (hr3 _).mono ?_; rintro e w151 ⟨rfl, hb⟩
      replace HB := Lib.hid (nx HB.out hb)
      clear hb
      go_wp2_with fail
      refine (hr4 _).mono ?_; rintro e w152 ⟨rfl, hb⟩
      replace HB := Lib.hid (nx HB.out hb)
      clear hb
      clear hr1 hr2 hr3 hr4
      go_wp2_with fail
      refine (drawRankTree_any c _ (hc.keep HB.out)).mono ?_; rintro e w153 ⟨u, hu, rfl, hb⟩
      replace HB := Lib.hid (nx HB.out hb)
      clear hb
      go_wp2_with fail
      have hk1 := fun w => implRankTree_any u w (by omega)
      have hk2 := fun w => specRankTree_any u w (by omega)
      rcases tree_or u with ⟨t2, rfl, ht2, hto2⟩ | hno2
      · rw [show RankTree_o t2.str = some (rankT t2) by simp [RankTree_o, hto2]] at hk1 hk2
        have hv := fun w => implCaretsOf_any t2.str w (by omega)
        rw [show caretsO t2.str = some t2.carets by simp [caretsO, hto2]] at hv
        obtain ⟨e1, e2⟩ := treeAt_rank t2 ht2
        have hcb := catN_bd t2.carets ht2
        have ha := fun w => implTreeAt_any (t2.carets : Int) (rankT t2 : Int) w (by omega) (by omega) (by omega) (by omega)
        rw [show TreeAt_o (t2.carets : Int) (rankT t2 : Int) = some t2 by
          simp only [TreeAt_o]
          rw [if_pos (by omega), if_pos (by simp; omega)]
          simp only [Int.toNat_natCast]
          rw [e1]] at ha
        simp only [ansN, ansI, ansV, trS, trB, Option.getD_some, Option.isSome_some] at hk1 hk2 hv ha
        have hrk : rankT t2 ≤ 2000 := by omega
        generalize rankT t2 = rk at *
        have hcar : t2.carets ≤ 8 := ht2
        generalize t2.carets = car at *
        clear e1 e2 hcb hto2
        refine (hk1 _).mono ?_; rintro e w154 ⟨rfl, hb⟩
        replace HB := Lib.hid (nx HB.out hb)
        clear hb
        go_wp2_with fail
        refine (hk2 _).mono ?_; rintro e w155 ⟨rfl, hb⟩
        replace HB := Lib.hid (nx HB.out hb)
        clear hb
        clear hk1 hk2
        go_wp2_with fail
        refine (hv _).mono ?_; rintro e w156 ⟨rfl, hb⟩
        replace HB := Lib.hid (nx HB.out hb)
        clear hb
        go_wp2_with fail
        refine (ha _).mono ?_; rintro e w157 ⟨rfl, hb⟩
        replace HB := Lib.hid (nx HB.out hb)
        clear hb
        clear hv ha
        go_wp2_with fail
        go_ret
        exact ⟨by simp, HB.out⟩
      · rw [show RankTree_o u = none by simp [RankTree_o, hno2]] at hk1 hk2
        simp only [ansN, Option.getD_none, Option.isSome_none] at hk1 hk2
        clear hno2
        refine (hk1 _).mono ?_; rintro e w158 ⟨rfl, hb⟩
        replace HB := Lib.hid (nx HB.out hb)
        clear hb
        go_wp2_with fail
        refine (hk2 _).mono ?_; rintro e w159 ⟨rfl, hb⟩
        replace HB := Lib.hid (nx HB.out hb)
        clear hb
        clear hk1 hk2
        go_wp2_with fail
        go_ret
        exact ⟨by simp, HB.out⟩
end Go.Proofs.Yteflpaebckichab

/-! Lw2 -/
namespace Go.Proofs.Yteflpaebckichab
open Go.RowKit

theorem rawB_nil (W : World) : RawB W ⟨none, 0, 0⟩ := ⟨by simp, .inl rfl⟩
theorem rawB_of {W : World} {x : Addr} {len cap : Nat} {zs : List Int} (h1 : len ≤ cap) (h2 : cap ≤ maxLen) (h3 : zs.length = cap) (h4 : ∀ i, i < zs.length → W.cell? (x.add i) = some (.int .u8 (zs.getD i 0))) (h5 : ∀ s ∈ zs, (Lit.int .u8 s).wf = true) :
    RawB W ⟨some x, len, cap⟩ := by
  unfold maxLen at h2
  refine ⟨by show (len : Int) ≤ _; omega, ?_⟩
  by_cases h0 : len = 0
  · exact .inl h0
  · right
    obtain ⟨b, off, spot⟩ := x
    have hc := h4 0 (by omega)
    have hspot : spot = none := by simpa [Addr.add] using World.cell?_spot hc
    subst hspot
    refine ⟨b, off, rfl, fun i hi => ?_⟩
    have hi2 : i < len := hi
    have := h4 i (by omega)
    have e : (⟨b, off, none⟩ : Addr).add i = ⟨b, off + i, none⟩ := by
      unfold Addr.add
      split
      · next h => rw [h]; simp
      · rfl
    rw [e] at this
    have hm : zs.getD i 0 ∈ zs := by
      rw [List.getD_eq_getElem?_getD, List.getElem?_eq_getElem (show i < zs.length by omega)]; exact List.getElem_mem _
    have hw := h5 _ hm
    have e1 : IntKind.u8.min = 0 := rfl
    have e2 : IntKind.u8.max = 255 := rfl
    simp only [Lit.wf, Bool.and_eq_true, decide_eq_true_eq] at hw
    refine ⟨(zs.getD i 0).toNat, by omega, ?_⟩
    rw [this, show (((zs.getD i 0).toNat : Nat) : Int) = zs.getD i 0 by omega]
end Go.Proofs.Yteflpaebckichab
