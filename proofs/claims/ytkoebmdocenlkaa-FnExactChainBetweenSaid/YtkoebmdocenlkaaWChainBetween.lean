/- The walk of laws.FnExactChainBetween. -/
import Derived.Test.YtkoebmdocenlkaaCh7
import Derived.Maps.AppendAt
namespace Go.Proofs.Ytkoebmdocenlkaa
open Go.RowKit

def ChainBetween_o (a b : ByteArray) : Option (List ByteArray) := (twoO a b).map fun p => strL (betweenT p.1 p.2)
theorem between_len {a b : Tr} (ha : a.carets ≤ 8) (hb : b.carets ≤ 8) : (betweenT a b).length ≤ 130 := by
  have h1 := chain65 ha
  have h2 := chain65 hb
  unfold betweenT
  rw [List.length_append, List.length_reverse, List.length_dropLast]
  omega
theorem ownsRow_lt9 {base : Nat} {w : World} {v : Value} {ss : List ByteArray} (h : OwnS base w v ss) : ∀ k, v.ownBlock = some k → k < w.heap.size := fun k hk => (World.ownsRow.lt h k hk).2
theorem ChainBetween_len (a b : ByteArray) : ((ChainBetween_o a b).getD []).length ≤ 1000000000 := by
  unfold ChainBetween_o
  cases h : twoO a b with
  | none => simp
  | some p =>
    obtain ⟨_, _, h1, h2, _⟩ := twoO_some h
    have := between_len h1 h2
    simp only [Option.map_some, Option.getD_some, strL_length]; omega

/-- A block that an appended row does not touch. -/
def FarB (g : Nat) (v : Value) : Prop := v.ownBlock ≠ some g

set_option maxRecDepth 100000 in
set_option maxHeartbeats 2000000 in
theorem specChainBetween_any (a b : ByteArray) (w : World) (ha : a.size ≤ 9223372036854775806) (hb : b.size ≤ 9223372036854775806) :
    Calls Try.prog 32 #[.string a, .string b] w (AnsSs (ChainBetween_o a b) w) := by
  have hB := fun w => brBoth_any a b w ha hb
  cases h : twoO a b with
  | none =>
    rw [show ChainBetween_o a b = none by simp [ChainBetween_o, h]]
    rw [h] at hB
    clear h
    go_enter Try.func32, Try.ntmps32
    go_wp2_with fail
    refine (hB _).mono ?_; rintro e w1 ⟨rfl, hb1⟩
    go_wp2_with fail
    go_ret2
    exact ⟨_, OwnS.nil _ _, hb1, rfl⟩
  | some p =>
    obtain ⟨rfl, rfl, hc1, hc2, hce⟩ := twoO_some h
    rw [show ChainBetween_o p.1.str p.2.str = some (strL (betweenT p.1 p.2)) by simp [ChainBetween_o, h]]
    rw [h] at hB
    obtain ⟨i0, hi, hz0, hz1, hz2⟩ := info_parts info_str
    have hA := fun w => brChain_any p.1 w hc1
    have hD := fun w => brChain_any p.2 w hc2
    have l1 := chain65 hc1
    have l2 := chain65 hc2
    have hfin : strL (betweenT p.1 p.2) = strL (chainT p.1) ++ (strL (chainT p.2)).dropLast.reverse := by
      unfold betweenT strL
      rw [List.map_append, List.map_reverse, List.map_dropLast]
    rw [hfin]
    have e1 := strL_length (chainT p.1)
    have e2 := strL_length (chainT p.2)
    rw [← e1] at l1
    rw [← e2] at l2
    generalize strL (chainT p.1) = A at *
    generalize strL (chainT p.2) = B at *
    clear h hfin e1 e2
    obtain ⟨l11, l12⟩ := l1
    obtain ⟨l21, l22⟩ := l2
    go_enter Try.func32, Try.ntmps32
    go_wp2_with fail
    refine (hB _).mono ?_; rintro e w1 ⟨rfl, hb1⟩
    go_wp2_with fail
    refine (hA _).mono ?_; rintro e w2 ⟨v2, own2, hb2, rfl⟩
    have hbw2 := nx hb1 hb2
    replace own2 := own2.mono hb1.size
    go_wp2_with fail
    refine (hD _).mono ?_; rintro e w3 ⟨v3, own3, hb3, rfl⟩
    have hbw3 := nx hbw2 hb3
    have hlt2 := ownsRow_lt9 own2
    have own2' := own2.keep hb3
    obtain ⟨g3, c3, hv3⟩ := own3.shape (by omega)
    have hg3 : w2.heap.size ≤ g3 ∧ g3 < w3.heap.size := World.ownsRow.lt own3 g3 (by rw [hv3]; rfl)
    have hfar : FarB g3 v2 := fun e => by have := hlt2 _ e; omega
    have hrd : ∀ i, i < B.length → w3.cell? ⟨g3, i, none⟩ = some (.string (B.getD i ⟨#[]⟩)) := by
      intro i hi9
      have h9 := own3
      rw [hv3] at h9
      rw [World.ownsRow.cellAt h9 i (by omega)]
      simp [List.getElem?_eq_getElem hi9]
    obtain ⟨n, hn⟩ : ∃ n, n = B.length := ⟨_, rfl⟩
    rw [← hn] at hv3
    have HRD := Lib.hid hrd
    have HN := Lib.hid hn
    have hn1 : 1 ≤ n := by omega
    have hn9 : n ≤ 65 := by omega
    have hg3b := hg3.2
    clear hb1 hb2 hb3 hbw2 own2 own3 hrd hlt2 hA hD hB hn l21 l22 hg3
    subst hv3
    go_wp2_with fail
    go_loopw [6, 8] (fun ov kv wr => ∃ (k : Nat) (ss : List ByteArray), kv = .int .i64 ((k : Int) - 1) ∧ k + 1 ≤ n ∧ OwnS w.heap.size wr ov ss ∧ ss.length + k ≤ 130 ∧ Hid (ss = A ++ (B.dropLast.drop k).reverse) ∧ FarB g3 ov ∧ Hid (wr.heap[g3]? = w3.heap[g3]?) ∧ w3.heap.size ≤ wr.heap.size ∧ Below w.heap.size w wr) (fun _ kv _ => ((intOf kv) + 1).toNat)
    case atStart =>
      refine ⟨n - 1, A, by go_num, by omega, own2', by omega, ?_, hfar, rfl, Nat.le_refl _, hbw3⟩
      show A = _
      rw [List.drop_of_length_le (by rw [List.length_dropLast, HN.out]; omega)]; simp
    case round =>
      obtain ⟨k, ss, rfl, hk, hown, hss, he, hfr, hsame, hszs, hbw⟩ := hrel
      by_cases hlt : 1 ≤ k
      · obtain ⟨q, rfl⟩ : ∃ q, k = q + 1 := ⟨k - 1, by omega⟩
        have hq0 : ((q + 1 : Nat) : Int) - 1 = (q : Int) := by omega
        rw [hq0]
        have hqB : q < B.length := by have := HN.out; omega
        have c1 : wr.cell? ⟨g3, q, none⟩ = some (.string (B.getD q ⟨#[]⟩)) := by
          rw [World.cell?_of_block hsame.out]
          exact HRD.out q hqB
        have hnext : ss ++ [B.getD q ⟨#[]⟩] = A ++ (B.dropLast.drop q).reverse := by
          rw [he.out]
          have hqd : q < B.dropLast.length := by rw [List.length_dropLast]; have := HN.out; omega
          rw [List.drop_eq_getElem_cons hqd, List.reverse_cons, List.append_assoc]
          simp [hqB]
        obtain ⟨x, hx⟩ : ∃ x, x = B.getD q ⟨#[]⟩ := ⟨_, rfl⟩
        rw [← hx] at c1 hnext
        have HX := Lib.hid hnext
        have hqn : q < n := by omega
        have hss9 : ss.length ≤ 130 := by omega
        clear hx hnext he hqB hq0
        unfold OwnS at hown
        have hge0 : (0 : Int) ≤ (q : Int) := by omega
        go_wp2_with (at_builtin; refine wpList_append_own_at _ rfl _ _ 25 rfl w.heap.size 9 i0 (.string ⟨#[]⟩) 1 16 Try.underlying25 hi hz0 hz1 hz2 rfl (by decide) _ _ _ rfl (hown.alloc _) ⟨wr.heap.size, 0, none⟩ 1 1 [.string x] rfl rfl (new1 _ _ _) (oneS [x]) (by unfold maxLen; omega) (by omega) (size_al hbw _) ?_; intro v' w9 hown' hgrow hnn hat)
        have hbw9 := below_app hbw hown (Nat.le_refl _) hgrow
        have hown1 : OwnS w.heap.size w9 v' (ss ++ [x]) := OwnS.app (B := [x]) hown'
        have hfr9 : FarB g3 v' := by
          intro e
          rcases hat with h9 | h9
          · exact hfr (h9.symm.trans e)
          · rw [h9] at e; injection e with e
            have : (wr.alloc (.cells #[.string x] 9)).heap.size = wr.heap.size + 1 := by simp
            omega
        have hsame9 : Hid (w9.heap[g3]? = w3.heap[g3]?) := by
          show _ = _
          rw [hgrow.block g3 (by have : (wr.alloc (.cells #[.string x] 9)).heap.size = wr.heap.size + 1 := by simp
                                 omega) (fun e => hfr e.symm)]
          have h9 := hsame.out
          rw [← h9]
          exact (nxAlloc (Below.refl wr.heap.size wr) (.cells #[.string x] 9)).block g3 (by omega)
        have hsz9 : w3.heap.size ≤ w9.heap.size := by
          have := hgrow.size
          have : (wr.alloc (.cells #[.string x] 9)).heap.size = wr.heap.size + 1 := by simp
          omega
        clear hown hown' hgrow hnn hat hfr hsame hbw
        go_wp2_with fail
        go_roundw
        case rel => exact ⟨q, _, by go_num, by omega, hown1, by simp; omega, HX, hfr9, hsame9, hsz9, hbw9⟩
        case measure => simp [intOf] <;> omega
      · obtain rfl : k = 0 := by omega
        have hfin : Hid (ss = A ++ B.dropLast.reverse) := he.out
        clear he
        go_wp2_with fail
        go_ret2
        exact ⟨_, by rw [← hfin.out]; exact hown, hbw, rfl⟩

theorem NodesL.snoc {w : World} : ∀ {ts : List Tr} {bs : List Nat} {t : Tr} {b : Nat}, NodesL w ts bs → NodeAt w t b → NodesL w (ts ++ [t]) (bs ++ [b]) := by
  intro ts
  induction ts with
  | nil => intro bs t b h k; cases bs with | nil => exact ⟨k, trivial⟩ | cons b bs => exact h.elim
  | cons t ts ih => intro bs u c h k; cases bs with | nil => exact h.elim | cons b bs => exact ⟨h.1, ih h.2 k⟩
theorem NodesL.rev {w : World} : ∀ {ts : List Tr} {bs : List Nat}, NodesL w ts bs → NodesL w ts.reverse bs.reverse := by
  intro ts
  induction ts with
  | nil => intro bs h; cases bs with | nil => trivial | cons b bs => exact h.elim
  | cons t ts ih =>
    intro bs h
    cases bs with
    | nil => exact h.elim
    | cons b bs => rw [List.reverse_cons, List.reverse_cons]; exact (ih h.2).snoc h.1

set_option maxRecDepth 100000 in
set_option maxHeartbeats 2000000 in
theorem implChainBetween_any (a b : ByteArray) (w : World) (ha : a.size ≤ 9223372036854775806) (hb : b.size ≤ 9223372036854775806) :
    Calls Try.prog 33 #[.string a, .string b] w (AnsSs (ChainBetween_o a b) w) := by
  cases h : twoO a b with
  | none =>
    rw [show ChainBetween_o a b = none by simp [ChainBetween_o, h]]
    have H := Lib.hid h
    clear h
    go_enter Try.func33, Try.ntmps33
    go_wp2_with fail
    refine (readTwo_no a b _ ha hb H.out).mono ?_; rintro e w1 ⟨hb1, rfl⟩
    go_wp2_with fail
    go_ret2
    exact ⟨_, OwnS.nil _ _, hb1, rfl⟩
  | some p =>
    obtain ⟨rfl, rfl, hc1, hc2, hce⟩ := twoO_some h
    rw [show ChainBetween_o p.1.str p.2.str = some (strL (betweenT p.1 p.2)) by simp [ChainBetween_o, h]]
    have hTW := fun w => readTwo_yes p.1 p.2 w hc1 hc2 hce
    have hT1 := fun b w h => toRight_any p.1.lw p.1 b w (Nat.le_refl _) h hc1
    have hT2 := fun b w h => toRight_any p.2.lw p.2 b w (Nat.le_refl _) h hc2
    have l1 := chain65 hc1
    have l2 := chain65 hc2
    have hcc1 : ∀ u ∈ chainT p.1, u.carets ≤ 8 := fun u hu => by have := chainT_carets hu; omega
    have hcc2 : ∀ u ∈ chainT p.2, u.carets ≤ 8 := fun u hu => by have := chainT_carets hu; omega
    have hacc : accK [chainT p.1, (chainT p.2).reverse] 2 = strL (betweenT p.1 p.2) := by
      rw [← between_eq hce, strL_append]
      simp [accK, strL, List.dropLast_eq_take, List.map_take]
    clear h ha hb
    go_enter Try.func33, Try.ntmps33
    go_wp2_with fail
    refine (hTW _).mono ?_; rintro e w1 ⟨b1, c1, hn1, hn2, hb1, rfl⟩
    go_wp2_with fail
    refine (hT2 c1 _ hn2).mono ?_; rintro e w2 ⟨v2, bs2, own2, hns2, hb2, rfl⟩
    have hbl2 := hns2.len
    have hbw2 := nx hb1 hb2
    replace hn1 := hn1.keep hb2
    obtain ⟨gB, cB, hv2, hgB⟩ := row_shape own2 (by
      intro e
      rcases own2.2 with ⟨_, h9⟩ | ⟨g, c, cur, h9, _⟩
      · omega
      · rw [e] at h9; cases h9)
    subst hv2
    obtain ⟨nB, hnB⟩ : ∃ n, n = bs2.length := ⟨_, rfl⟩
    rw [← hnB] at own2 ⊢
    have hRv := reverseL_any w1.heap.size gB nB cB bs2 w2 hnB.symm (by omega) (by omega) own2
    have hno := ownL_not own2
    have HNB := Lib.hid hnB
    clear hnB hT2 hn2 own2 hb2
    go_wp2_with fail
    refine hRv.mono ?_; rintro e w3 ⟨own3, hg3, rfl⟩
    have hbw3 := hbw2.grown hg3 hbw2.size (fun k hk => by injection hk with hk; have := hb1.size; omega)
    have hn13 := hn1.grown hg3 hno
    have hns3 := (hns2.grown hg3 hno).rev
    clear hRv hno hns2 hn1 hbw2 hg3
    go_wp2_with fail
    refine (hT1 b1 _ hn13).mono ?_; rintro e w4 ⟨v4, bs4, own4, hns4, hb4, rfl⟩
    have hbw4 := nx hbw3 hb4
    have hcl4 := own4.cells
    have hcl3 := (own3.keep hb4).cells
    have hns34 := hns3.keep hb4
    have hcl40 := hcl4
    obtain ⟨oa, cp, hv4, _, _⟩ := hcl40
    subst hv4
    clear own4 own3 hns3 hT1 hn13
    generalize bs4.length = n4 at *
    have hB := nxAlloc (Below.refl w4.heap.size w4) (.cells #[.slice oa n4 cp, .slice (some ⟨gB, 0, none⟩) nB cB] 71 (0, 0))
    have hP : PartsL (w4.alloc (.cells #[.slice oa n4 cp, .slice (some ⟨gB, 0, none⟩) nB cB] 71 (0, 0))) w4.heap.size [.slice oa n4 cp, .slice (some ⟨gB, 0, none⟩) nB cB] [chainT p.1, (chainT p.2).reverse] := by
      intro i hi
      match i, hi with
      | 0, _ => exact ⟨cell_newB _ _ _ 0 rfl, bs4, hcl4.keep hB, hns4.keep hB⟩
      | 1, _ => exact ⟨cell_newB _ _ _ 1 rfl, bs2.reverse, hcl3.keep hB, hns34.keep hB⟩
    have hCO := chainOf_any w4.heap.size 2 2 [.slice oa n4 cp, .slice (some ⟨gB, 0, none⟩) nB cB] [chainT p.1, (chainT p.2).reverse] _ hP rfl (by omega) (by
      intro q hq
      rcases List.mem_cons.1 hq with rfl | hq
      · exact l1
      · simp at hq; subst hq; simpa using l2) (by
      intro q hq u hu
      rcases List.mem_cons.1 hq with rfl | hq
      · exact hcc1 u hu
      · simp at hq; subst hq; exact hcc2 u (by simpa using hu))
    rw [hacc] at hCO
    have hbw5 := nx hbw4 hB
    clear hcl4 hcl3 hns4 hns34 hP hacc hcc1 hcc2 l1 l2 hbl2
    generalize strL (betweenT p.1 p.2) = L at *
    go_wp2_with fail
    refine hCO.mono ?_; rintro e w6 ⟨v6, own6, hb6, rfl⟩
    go_wp2_with fail
    go_ret2
    exact ⟨_, own6.mono hbw5.size, nx hbw5 hb6, rfl⟩

set_option maxRecDepth 100000 in
set_option maxHeartbeats 1000000 in
theorem fnExactChainBetween_walk (a : ByteArray) (ha : a.size ≤ maxLen) (b : ByteArray) (hb : b.size ≤ maxLen) (w : World) :
    Calls Try.prog 10 #[.string a, .string b] w fun e w' => e = .returned (.bool true) ∧ Below w.heap.size w w' := by
  unfold maxLen at ha hb
  by_cases hbiga : (1048576 : Int) < a.size
  · go_enter Try.func10, Try.ntmps10
    go_wp2_with fail
    go_ret
    exact ⟨rfl, Below.refl _ _⟩
  by_cases hbigb : (1048576 : Int) < b.size
  · go_enter Try.func10, Try.ntmps10
    go_wp2_with fail
    go_ret
    exact ⟨rfl, Below.refl _ _⟩
  have hS := fun w => specChainBetween_any a b w (by omega) (by omega)
  have hI := fun w => implChainBetween_any a b w (by omega) (by omega)
  have hn9 := ChainBetween_len a b
  obtain ⟨o, ho⟩ : ∃ o, o = ChainBetween_o a b := ⟨_, rfl⟩
  rw [← ho] at hn9
  simp only [← ho] at hS hI
  clear ho
  obtain ⟨xs, ok, hx, hk⟩ : ∃ xs ok, xs = o.getD [] ∧ ok = o.isSome := ⟨_, _, rfl, rfl⟩
  have hS' : ∀ w, Calls Try.prog 32 #[.string a, .string b] w (AnsS2 xs ok w) := by rw [hx, hk]; exact hS
  have hI' : ∀ w, Calls Try.prog 33 #[.string a, .string b] w (AnsS2 xs ok w) := by rw [hx, hk]; exact hI
  rw [← hx] at hn9
  clear hS hI hx hk
  go_enter Try.func10, Try.ntmps10
  go_wp2_with fail
  refine (hS' _).mono ?_; rintro e w1 ⟨v0, own0, hb1, rfl⟩
  go_wp2_with fail
  refine (hI' _).mono ?_; rintro e w2 ⟨v1, own1, hb2, rfl⟩
  go_wp2_with fail
  refine (eqStringS_any _ _ v1 v0 xs _ own1.cells (own0.keep hb2).cells).mono ?_; rintro e w3 ⟨rfl, n3, hw3⟩
  have hb3 : Below w2.heap.size w2 w3 := by rw [hw3]; exact drewB (Below.refl _ _) n3
  clear hw3
  go_wp2_with fail
  refine (markStringS_1 w1.heap.size v1 xs _ hn9 (hb2.trans (hb3.mono hb2.size)).size (own1.keep hb3)).mono ?_; rintro e w4 ⟨rfl, own4, hb4⟩
  have hb14 : Below w1.heap.size w1 w4 := (hb2.trans (hb3.mono hb2.size)).trans hb4
  have own04 := own0.keep hb14
  go_wp2_with fail
  refine (heldStringS_1 w1.heap.size v1 xs.length _ hn9 own4.cells).mono ?_; rintro e w5 ⟨rfl, hb5⟩
  go_wp2_with fail
  refine (hI' _).mono ?_; rintro e w6 ⟨v2, own6, hb6, rfl⟩
  have hb46 : Below w4.heap.size w4 w6 := nx hb5 hb6
  go_wp2_with fail
  refine (eqStringS_any _ _ v2 v0 xs _ own6.cells (own04.keep hb46).cells).mono ?_; rintro e w7 ⟨rfl, n7, hw7⟩
  have hb7 : Below w6.heap.size w6 w7 := by rw [hw7]; exact drewB (Below.refl _ _) n7
  clear hw7
  go_wp2_with fail
  refine (heldStringS_1 w1.heap.size v1 xs.length _ hn9 (own4.keep (nx hb46 hb7)).cells).mono ?_; rintro e w8 ⟨rfl, hb8⟩
  go_wp2_with fail
  go_ret
  exact ⟨rfl, nx (nx (nx (nx hb1 hb14) hb46) hb7) hb8⟩
end Go.Proofs.Ytkoebmdocenlkaa
