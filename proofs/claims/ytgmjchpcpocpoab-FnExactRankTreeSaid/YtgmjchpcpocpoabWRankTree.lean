/- The walk of laws.FnExactRankTree. -/
import Derived.Test.YtgmjchpcpocpoabWAllTrees
import Derived.Test.YtgmjchpcpocpoabRegT
namespace Go.Proofs.Ytgmjchpcpocpoab
open Go.RowKit

/-- One byte of a text, as the program's walk takes it. -/
def chW (c : UInt8) (s : Nat × Nat × Nat) : Nat × Nat × Nat := if c = 40 then (s.1 + 1, s.2.1 - 1, s.2.2) else if c = 46 then (s.1 - 1, s.2.1, s.2.2 + frontN s.1 s.2.1) else s
def chL (l : List UInt8) (s : Nat × Nat × Nat) : Nat × Nat × Nat := l.foldl (fun s c => chW c s) s
theorem chL_text (t : Tr) : ∀ (q : List UInt8) (s : Nat × Nat × Nat), chL (t.text ++ q) s = chL q (rkT t s) := by
  induction t with
  | lf => intro q s; rfl
  | nd l r ihl ihr =>
    intro q s
    have e : (Tr.nd l r).text ++ q = 40 :: (l.text ++ (r.text ++ (41 :: q))) := by simp [Tr.text]
    rw [e]
    show chL (l.text ++ (r.text ++ (41 :: q))) (chW 40 s) = _
    rw [ihl, ihr]
    rfl
/-- Can a walk go along a text? -/
def okT : List UInt8 → Nat → Nat → Prop
  | [], _, _ => True
  | c :: l, m, k => if c = 40 then 1 ≤ k ∧ okT l (m + 1) (k - 1) else if c = 46 then 1 ≤ m ∧ okT l (m - 1) k else okT l m k
theorem okT_text (t : Tr) : ∀ (q : List UInt8) (m k : Nat), 1 ≤ m → t.carets ≤ k → okT q (m - 1) (k - t.carets) → okT (t.text ++ q) m k := by
  induction t with
  | lf => intro q m k hm hk h; exact ⟨hm, h⟩
  | nd l r ihl ihr =>
    intro q m k hm hk h
    have e : (Tr.nd l r).text ++ q = 40 :: (l.text ++ (r.text ++ (41 :: q))) := by simp [Tr.text]
    rw [e]
    simp only [Tr.carets] at hk h
    refine ⟨by omega, ihl _ _ _ (by omega) (by omega) (ihr _ _ _ (by omega) (by omega) ?_)⟩
    have e1 : m + 1 - 1 - 1 = m - 1 := by omega
    have e2 : k - 1 - l.carets - r.carets = k - (l.carets + r.carets + 1) := by omega
    rw [e1, e2]
    exact h
def RankTree_o (a : ByteArray) : Option Nat :=
  match treeOf a with
  | some t => some (rankT t)
  | none => none

theorem countP_take {l : List Tr} {k : Nat} {p : Tr → Bool} {t : Tr} (h : l[k]? = some t) : (l.take (k + 1)).countP p = (l.take k).countP p + if p t = true then 1 else 0 := by
  obtain ⟨hk, rfl⟩ := List.getElem?_eq_some_iff.1 h
  rw [List.take_succ_eq_append_getElem hk, List.countP_append]
  simp [List.countP_cons]

set_option maxRecDepth 100000 in
set_option maxHeartbeats 1000000 in
theorem specRankTree_any (a : ByteArray) (w : World) (ha : a.size ≤ 9223372036854775806) :
    Calls Try.prog 26 #[.string a] w (Gives (ansN (RankTree_o a)) w) := by
  cases h : treeOf a with
  | none =>
    rw [show RankTree_o a = none by simp [RankTree_o, h]]
    have H := Lib.hid h
    clear h
    go_enter Try.func26, Try.ntmps26
    go_wp2_with fail
    refine (trIs_no a _ ha H.out).mono ?_; rintro e w1 ⟨rfl, rfl⟩
    go_wp2_with fail
    go_ret2
    exact ⟨rfl, Below.refl _ _⟩
  | some t =>
    obtain ⟨rfl, hc⟩ := treeOf_some h
    rw [show RankTree_o t.str = some (rankT t) by simp [RankTree_o, h]]
    clear h
    have hT := fun w => trList_any t.carets hc w
    have hR := countP_sorted (treesN_sorted t.carets) (rankT_get t hc)
    have hM := treesN_small t.carets hc
    have hl : (trTexts t.carets).length = (treesN t.carets).length := by simp [trTexts]
    obtain ⟨L, hL⟩ : ∃ L, L = treesN t.carets := ⟨_, rfl⟩
    have hX : trTexts t.carets = L.map Tr.str := by rw [hL]; rfl
    rw [hX] at hT hl
    rw [← hL] at hR hM hl
    have HR := Lib.hid hR
    have HL := Lib.hid hl
    clear hR hL hX hl
    go_enter Try.func26, Try.ntmps26
    go_wp2_with fail
    refine (trIs_yes t _ hc).mono ?_; rintro e w1 ⟨rfl, rfl⟩
    go_wp2_with fail
    refine (carets_str t _ (by omega)).mono ?_; rintro e w1 ⟨rfl, rfl⟩
    go_wp2_with fail
    refine (hT _).mono ?_; rintro e w1 ⟨g, cap, own, hb1, rfl⟩
    have hcs := own.cells
    rw [HL.out]
    have HC := Lib.hid hcs
    clear own hT hcs
    go_wp2_with fail
    go_loop [4, 14] (fun v i => ∃ (k n : Nat), i = .int .i64 k ∧ v = .int .i64 n ∧ k ≤ L.length ∧ n ≤ k ∧ Hid (n = (L.take k).countP (fun u => u.lt t))) (fun _ i => L.length - (intOf i).toNat)
    case atStart => exact ⟨0, 0, rfl, rfl, Nat.zero_le _, Nat.le_refl _, rfl⟩
    case round =>
      obtain ⟨k, n, rfl, rfl, hk, hn, he⟩ := hrel
      by_cases hlt : k < L.length
      · have hlt' : (k : Int) < (L.length : Int) := by omega
        obtain ⟨u, hu⟩ : ∃ u, L[k]? = some u := ⟨_, List.getElem?_eq_getElem hlt⟩
        have hcell := CellsS.at HC.out (i := k) (t := u.str) (by rw [List.getElem?_map, hu]; rfl)
        have hstep := countP_take (p := fun u => u.lt t) hu
        rw [← he.out] at hstep
        have hless : Go.Op.bytesLess u.str.toList t.str.toList = u.lt t := bytesLess_str u t
        cases hq : u.lt t
        all_goals
          rw [hq] at hless
          simp only [hq, if_true, if_false, reduceCtorEq] at hstep
          have HS := Lib.hid hstep
          clear hstep hq hu he
          go_wp2_with fail
          go_round
          case rel => exact ⟨k + 1, _, by go_num, by first | rfl | go_num, by omega, by omega, HS.out.symm⟩
          case measure => simp [intOf]; omega
      · obtain rfl : k = L.length := by omega
        have he' := he.out
        rw [List.take_length, HR.out] at he'
        have HE := Lib.hid he'
        clear he he'
        go_wp2_with fail
        go_ret2
        exact ⟨by rw [← HE.out]; rfl, hb1⟩

theorem quietG {P : Program} {f : FuncId} {args : Array Value} {w : World} {v : Value} (h : Calls P f args w (Quietly v w)) : Calls P f args w (Gives v w) := h.mono fun _ _ ⟨he, n, hw⟩ => ⟨he, by rw [hw]; exact drewB (Below.refl _ _) n⟩
theorem chW_lp (s : Nat × Nat × Nat) : chW 40 s = (s.1 + 1, s.2.1 - 1, s.2.2) := rfl
theorem chW_dot (s : Nat × Nat × Nat) : chW 46 s = (s.1 - 1, s.2.1, s.2.2 + frontN s.1 s.2.1) := rfl
theorem front_small {m c : Nat} (h : 2 * c + m ≤ 18) : frontN m c ≤ 8000 := by
  unfold frontN
  split
  · omega
  · exact lists_small _ _ (by omega) (by omega)

set_option maxRecDepth 100000 in
set_option maxHeartbeats 4000000 in
theorem implRankTree_any (a : ByteArray) (w : World) (ha : a.size ≤ 9223372036854775806) :
    Calls Try.prog 27 #[.string a] w (Gives (ansN (RankTree_o a)) w) := by
  cases h : treeOf a with
  | none =>
    rw [show RankTree_o a = none by simp [RankTree_o, h]]
    have H := Lib.hid h
    clear h
    go_enter Try.func27, Try.ntmps27
    go_wp2_with fail
    refine (implIsTree_no a _ ha H.out).mono ?_; rintro e w1 ⟨hb1, rfl⟩
    go_wp2_with fail
    go_ret2
    exact ⟨rfl, hb1⟩
  | some t =>
    obtain ⟨rfl, hc⟩ := treeOf_some h
    rw [show RankTree_o t.str = some (rankT t) by simp [RankTree_o, h]]
    clear h
    have hsz := t.str_size
    have hfin := chL_text t [] (1, t.carets, 0)
    rw [List.append_nil] at hfin
    have hok := okT_text t [] 1 t.carets (Nat.le_refl _) (Nat.le_refl _) trivial
    rw [List.append_nil] at hok
    rw [← Tr.str_list] at hfin hok
    have hI := fun w => implIsTree_yes t w hc
    have hK := fun w => countCarets_any t w (by omega)
    generalize t.str = S at *
    have HF : Hid (chL S.data.toList (1, t.carets, 0) = rkT t (1, t.carets, 0)) := hfin
    have HO := Lib.hid hok
    clear hfin hok
    go_enter Try.func27, Try.ntmps27
    go_wp2_with fail
    refine (hI _).mono ?_; rintro e w1 ⟨hb1, rfl⟩
    go_wp2_with fail
    refine (hK _).mono ?_; rintro e w2 ⟨rfl, hb2⟩
    go_wp2_with fail
    have hk0 : WkAt (w2.alloc (.cells #[.int .i64 1, .int .i64 t.carets, .int .i64 0] 67 (0, 0))) w2.heap.size 1 t.carets 0 := heap_alloc_at _ _
    have hb3 := nxAlloc (nx hb1 hb2) (.cells #[.int .i64 1, .int .i64 t.carets, .int .i64 0] 67 (0, 0))
    have hbs : w.heap.size ≤ w2.heap.size := (nx hb1 hb2).size
    generalize w2.alloc (.cells #[.int .i64 1, .int .i64 t.carets, .int .i64 0] 67 (0, 0)) = w3 at *
    generalize w2.heap.size = b at *
    clear hb1 hb2 hI hK
    go_loopw [14] (fun i wr => ∃ (k m c r : Nat), i = .int .i64 k ∧ k ≤ S.size ∧ WkAt wr b m c r ∧ Below w.heap.size w wr ∧ r ≤ 8000 * k ∧ 2 * c + m ≤ 18 ∧ Hid (okT (S.data.toList.drop k) m c ∧ chL S.data.toList (1, t.carets, 0) = chL (S.data.toList.drop k) (m, c, r))) (fun i _ => S.size - (intOf i).toNat)
    case atStart => exact ⟨0, 1, t.carets, 0, rfl, Nat.zero_le _, hk0, hb3, by omega, by omega, ⟨HO.out, rfl⟩⟩
    case round =>
      clear hk0 hb3
      obtain ⟨k, m, c, r, rfl, hk, hw, hbw, hr, hmc, he⟩ := hrel
      have hbl := lt_of_block hw
      obtain ⟨g0, g1, g2, f0, f1, f2⟩ := hw.cells
      have HW := Lib.hid hw
      by_cases hlt : k < S.size
      · have hlt' : (k : Int) < (S.size : Int) := by omega
        obtain ⟨ch, rest, hd, hch, hrest⟩ := drop_of_byteAt hlt
        have hx : ((S[k]'hlt).toNat : Int) = (ch.toNat : Int) := by rw [← hch]; exact (byteAt_eq S k hlt).symm
        obtain ⟨hok, heq⟩ := he.out
        rw [hd, ← hrest] at hok heq
        have h40 : (((S[k]'hlt).toNat : Int) == 40) = decide (ch = 40) := by
          rw [hx, Bool.eq_iff_iff]
          simp only [beq_iff_eq, decide_eq_true_eq]
          exact ⟨fun e => u8_eq (n := 40) (by omega) e, fun e => by rw [e]; rfl⟩
        have h46 : (((S[k]'hlt).toNat : Int) == 46) = decide (ch = 46) := by
          rw [hx, Bool.eq_iff_iff]
          simp only [beq_iff_eq, decide_eq_true_eq]
          exact ⟨fun e => u8_eq (n := 46) (by omega) e, fun e => by rw [e]; rfl⟩
        clear hd hch hrest hx he hw
        by_cases c40 : ch = 40
        · rw [okT, if_pos c40] at hok
          obtain ⟨hc1, hok⟩ := hok
          obtain ⟨c', rfl⟩ : ∃ c', c = c' + 1 := ⟨c - 1, by omega⟩
          rw [c40] at heq
          have heq' : chL S.data.toList (1, t.carets, 0) = chL (S.data.toList.drop (k + 1)) (m + 1, c', r) := heq
          have HE : Hid (okT (S.data.toList.drop (k + 1)) (m + 1) c' ∧ chL S.data.toList (1, t.carets, 0) = chL (S.data.toList.drop (k + 1)) (m + 1, c', r)) := ⟨hok, heq'⟩
          simp only [c40, decide_true] at h40
          clear hok heq heq' h46 c40
          go_wp2_with fail
          refine (passCaret_any b m c' r _ HW.out (by omega) (by omega)).mono ?_; rintro e w4 ⟨⟨v, rfl⟩, hk4, hg4⟩
          have hb4 : Below w.heap.size w w4 := Below.grown hbw hg4 hbw.size (fun j hj => by injection hj with hj; omega)
          have HK := Lib.hid hk4
          clear hk4 hg4 hbw HW
          go_wp2_with fail
          go_roundw
          case rel => exact ⟨k + 1, m + 1, c', r, by go_num, by omega, HK.out, hb4, by omega, by omega, HE⟩
          case measure => simp [intOf]; omega
        · rw [okT, if_neg c40] at hok
          simp only [c40, decide_false] at h40
          by_cases c46 : ch = 46
          · rw [if_pos c46] at hok
            obtain ⟨hm1, hok⟩ := hok
            obtain ⟨m', rfl⟩ : ∃ m', m = m' + 1 := ⟨m - 1, by omega⟩
            rw [c46] at heq
            have heq' : chL S.data.toList (1, t.carets, 0) = chL (S.data.toList.drop (k + 1)) (m', c, r + frontN (m' + 1) c) := heq
            have HE : Hid (okT (S.data.toList.drop (k + 1)) m' c ∧ chL S.data.toList (1, t.carets, 0) = chL (S.data.toList.drop (k + 1)) (m', c, r + frontN (m' + 1) c)) := ⟨hok, heq'⟩
            simp only [c46, decide_true] at h46
            have hfs := front_small (m := m' + 1) (c := c) hmc
            have hI := fun w h => inFront_any b (m' + 1) c r w h (by omega) (by omega)
            generalize frontN (m' + 1) c = fN at *
            have ew : IntKind.i64.wrap ((r : Int) + (fN : Int)) = (r : Int) + (fN : Int) := by rw [IntKind.wrap_i64] <;> omega
            have gz : ((⟨#[46]⟩ : ByteArray)[0]'(by decide)).toNat = 46 := rfl
            clear hok heq heq' c40 c46
            go_wp2_with fail
            refine wp_region_clsT 5 (by kernel_rfl) (by kernel_rfl) ?_
            simp only [List.take_succ_cons, List.take_zero, List.drop_succ_cons, List.drop_zero]
            repeat (
              refine wpQuiet_step (fun K hK => ?_)
              go_simp
              first
                | (refine hK _ ?_; clear hK K)
                | (refine ⟨_, fun _ _ => rfl, hK _ ?_⟩; clear hK K)
                | (apply Exists.intro
                   refine ⟨fun w' hw' => ?_, hK _ ?_⟩
                   · first
                       | (rw [hw'.cell hbl g2]; exact ⟨rfl, rfl⟩)
                       | (go_at_call 63; exact hw'.call (quietG (hI _ (WkAt.keep hw' HW.out))))
                   clear hK K))
            refine wpQuiet_nil ?_
            intro w' hw'
            have hw5 := WkAt.keep hw' HW.out
            have hs5 : WkAt (w'.setCell ⟨b, 2, none⟩ (.int .i64 ((r : Int) + (fN : Int)))) b (m' + 1) c (r + fN) := hw5.set2 (r + fN)
            have hb5 : Below w.heap.size w (w'.setCell ⟨b, 2, none⟩ (.int .i64 ((r : Int) + (fN : Int)))) := Below.setCell (nx hbw hw') hbs _
            obtain ⟨y0, y1, y2, z0, z1, z2⟩ := hw5.cells
            have HS := Lib.hid hs5
            clear hw5 hs5 hw' g0 g1 g2 f0 f1 f2 hI ew gz
            go_wp2_with fail
            refine (passLeaf_any b m' c (r + fN) _ HS.out (by omega)).mono ?_; rintro e w4 ⟨⟨v, rfl⟩, hk4, hg4⟩
            have hb4 : Below w.heap.size w w4 := Below.grown hb5 hg4 hb5.size (fun j hj => by injection hj with hj; omega)
            have HK := Lib.hid hk4
            clear hk4 hg4 hbw HW hb5 HS
            go_wp2_with fail
            go_roundw
            case rel => exact ⟨k + 1, m', c, r + fN, by go_num, by omega, HK.out, hb4, by omega, by omega, HE⟩
            case measure => simp [intOf]; omega
          · rw [if_neg c46] at hok
            simp only [c46, decide_false] at h46
            have heq' : chL S.data.toList (1, t.carets, 0) = chL (S.data.toList.drop (k + 1)) (m, c, r) := by
              rw [heq]
              show chL _ (chW ch (m, c, r)) = _
              unfold chW
              rw [if_neg c40, if_neg c46]
            have HE : Hid (okT (S.data.toList.drop (k + 1)) m c ∧ chL S.data.toList (1, t.carets, 0) = chL (S.data.toList.drop (k + 1)) (m, c, r)) := ⟨hok, heq'⟩
            have gz : ((⟨#[46]⟩ : ByteArray)[0]'(by decide)).toNat = 46 := rfl
            clear hok heq heq' c40 c46 g0 g1 g2 f0 f1 f2
            go_wp2_with fail
            go_roundw
            case rel => exact ⟨k + 1, m, c, r, by go_num, by omega, HW.out, hbw, by omega, by omega, HE⟩
            case measure => simp [intOf]; omega
      · obtain rfl : k = S.size := by omega
        have h2 := he.out.2
        rw [List.drop_of_length_le (by rw [Lib.size_eq]; exact Nat.le_refl _), HF.out] at h2
        have hrk : rankT t = r := by
          unfold rankT
          rw [h2]; rfl
        have HR := Lib.hid hrk
        clear he h2 hrk hw
        go_wp2_with fail
        go_ret2
        exact ⟨by rw [HR.out]; rfl, hbw⟩

theorem fnExactRankTree_walk (a : ByteArray) (ha : a.size ≤ maxLen) (w : World) :
    Calls Try.prog 7 #[.string a] w fun e w' => e = .returned (.bool true) ∧ Below w.heap.size w w' := by
  unfold maxLen at ha
  by_cases hbiga : (1048576 : Int) < a.size
  · go_enter Try.func7, Try.ntmps7
    go_wp2_with fail
    go_ret
    exact ⟨rfl, Below.refl _ _⟩
  go_enter Try.func7, Try.ntmps7
  go_wp2_with fail
  refine (specRankTree_any a _ (by omega)).mono ?_; rintro e w1 ⟨rfl, hb1⟩
  unfold ansN
  go_wp2_with fail
  refine (implRankTree_any a _ (by omega)).mono ?_; rintro e w2 ⟨rfl, hb2⟩
  unfold ansN
  go_wp2_with fail
  go_ret
  exact ⟨rfl, nx hb1 hb2⟩
end Go.Proofs.Ytgmjchpcpocpoab
