/- FnExactSmallPairs: for every input the law returns true and leaves its arguments as they were. No conditions. -/
import Derived.Test.YtkpganpojdboeaaMgSmallPairs1
import Derived.Lib.SmallJoins
import Derived.Maps.AppendAt
import Derived.Deep.RegionHeld3
import Derived.Laws.AppendOwnNone
import Derived.BigQuiet
import Derived.ProofKit
import Derived.OpenShut
import Derived.ShutString
import Derived.ChangeOld
import Derived.Below
/-! Drop -/
namespace Go.Proofs.Ytkpganpojdboeaa
open Go.RowKit

set_option maxRecDepth 100000 in
set_option maxHeartbeats 1000000 in
theorem trDrop_any (s : ByteArray) (n : Int) (q : Nat) (w : World) (hs : s.size ≤ 1000) (hn : 0 ≤ n) (hn' : n ≤ 9223372036854775807) (hp : posFrom s.data.toList 0 n = (q : Int) + 1) (hq : q + 4 ≤ s.size) :
    Calls Try.prog 93 #[.string s, .int .i64 n] w (Gives (.string (dropS s q)) w) := by
  have HP0 := Lib.hid hp
  clear hp
  go_enter Try.func93, Try.ntmps93
  go_wp2_with fail
  go_loopw [5, 6] (fun v i wr => ∃ (k : Nat) (c : Int), k ≤ s.size ∧ i = .int .i64 k ∧ v = .int .i64 c ∧ 0 ≤ c ∧ c ≤ n ∧ c ≤ k ∧ wr = w ∧ Hid (posFrom s.data.toList 0 n = posFrom (s.data.toList.drop k) k (n - c))) (fun _ i _ => s.size - (intOf i).toNat)
  case atStart => exact ⟨0, 0, Nat.zero_le _, rfl, rfl, by omega, by omega, by omega, rfl, by show _ = _; simp⟩
  case round =>
    obtain ⟨k, c, hk, rfl, rfl, hc1, hc2, hck, rfl, he⟩ := hrel
    by_cases hlt : k < s.size
    · cases h46 : (((s[k]'hlt).toNat : Int) == 46) with
      | true =>
        have h46n : Hid ((((s[k]'hlt).toNat : Int) != 46) = false) := by show (_ != _) = false; rw [bne, h46]; rfl
        have hp := posFrom_dot (off := k) (n := n - c) hlt h46
        have HP := Lib.hid hp
        clear hp h46
        by_cases hm0 : c = n
        · have g0 : (c == n) = true := by simp [hm0]
          have hkq : k = q + 1 := by
            have h1 := he.out
            rw [HP.out, if_pos (by omega), HP0.out] at h1
            omega
          have HM := Lib.hid hm0
          have HKQ := Lib.hid hkq
          have hk1 : (1 : Int) ≤ k := by omega
          have hk3 : (k : Int) + 3 ≤ s.size := by omega
          clear hm0 hkq
          have g := h46n.out
          go_wp2_with fail
          clear g g0
          go_quiet (fail)
          go_wp2_with fail
          go_ret
          exact ⟨ret_str (by unfold dropS; rw [HKQ.out, Nat.add_sub_cancel]), drewB (Below.refl _ _) _⟩
        · have g0 : (c == n) = false := by simp [hm0]
          have HM := Lib.hid hm0
          have hlt2 : c < n := by omega
          clear hm0
          have g := h46n.out
          go_wp2_with fail
          clear g g0
          go_roundw
          case rel => exact ⟨k + 1, c + 1, by omega, by go_num, rfl, by omega, by omega, by omega, trivial, by show _ = _; rw [he.out, HP.out, if_neg (by omega)]; congr 1; omega⟩
          case measure => simp [intOf]; omega
      | false =>
        have h46n : Hid ((((s[k]'hlt).toNat : Int) != 46) = true) := by show (_ != _) = true; rw [bne, h46]; rfl
        have hp := posFrom_other (off := k) (n := n - c) hlt h46
        have HP := Lib.hid hp
        clear hp h46
        have g := h46n.out
        go_wp2_with fail
        clear g
        go_roundw
        case rel => exact ⟨k + 1, c, by omega, by go_num, rfl, by omega, by omega, by omega, trivial, by show _ = _; rw [he.out, HP.out]⟩
        case measure => simp [intOf]; omega
    · obtain rfl : k = s.size := by omega
      exfalso
      have h1 := he.out
      rw [posFrom_end, HP0.out] at h1
      omega

def dropExpO (a : ByteArray) (n : Int) : Option ByteArray :=
  match treeOf a with
  | some _ => dropO a n
  | none => none

theorem has_exL (l : List UInt8) (n : Int) : (exL l 0).contains n = dropB l n := by
  rw [Bool.eq_iff_iff, List.contains_iff_mem, mem_exL]
  simp

set_option maxHeartbeats 1000000 in
theorem withoutExposed_any (s : ByteArray) (n : Int) (w : World) (hsm : s.size ≤ 1000) (lo : -9223372036854775808 ≤ n) (hi : n ≤ 9223372036854775807) :
    Calls Try.prog 120 #[.string s, .int .i64 n] w (Gives (ans2 (dropO s n)) w) := by
  have hl : ∀ w, Calls Try.prog 142 #[.string s, .int .i64 n] w (Quietly (.int .i64 (posFrom s.data.toList 0 n)) w) := by
    intro w
    by_cases hneg : n < 0
    · rw [posFrom_neg _ _ _ hneg]; exact leafPlace_neg s n w hsm hneg lo
    · exact leafPlace_any s n w (by omega) (by omega) hi
  have hr := posFrom_range s.data.toList 0 n
  have hrl : s.data.toList.length = s.size := (Lib.size_eq _).symm
  by_cases h1 : posFrom s.data.toList 0 n < 1
  · have hnone : dropO s n = none := by
      unfold dropO
      rw [if_neg]
      intro e
      obtain ⟨q, hp, _⟩ := dropB_true e
      omega
    rw [hnone]
    have hr' : -1 ≤ posFrom s.data.toList 0 n := by omega
    obtain ⟨p, hp⟩ : ∃ p, p = posFrom s.data.toList 0 n := ⟨_, rfl⟩
    rw [← hp] at hl h1 hr'
    clear hp hnone hr hrl
    go_enter Try.func120, Try.ntmps120
    go_wp2_with fail
    refine (hl _).mono ?_; rintro e w2 ⟨rfl, d, rfl⟩
    go_wp2_with fail
    go_ret2
    exact ⟨rfl, drewB (Below.refl _ _) _⟩
  · obtain ⟨q, hp⟩ : ∃ q : Nat, posFrom s.data.toList 0 n = (q : Int) + 1 := ⟨(posFrom s.data.toList 0 n).toNat - 1, by omega⟩
    have hql : (q : Int) ≤ s.size := by omega
    have hpc := hasPrefixS_any (s.extract q s.size) (ByteArray.mk #[40, 46, 46, 41])
    rw [expB_from] at hpc
    have hsz : (s.extract q s.size).size ≤ 9223372036854775806 := by simp; omega
    have hdB : dropB s.data.toList n = expB (s.data.toList.drop q) := by
      unfold dropB
      rw [hp]
      have t2 : ((q : Int) + 1).toNat - 1 = q := by omega
      rw [t2, decide_eq_true (by omega : 1 ≤ (q : Int) + 1), Bool.true_and]
    have hv : Hid ((posFrom s.data.toList 0 n).toNat - 1 = q) := by show _ = _; rw [hp]; omega
    rw [hp] at hl
    unfold dropO
    cases hE : expB (s.data.toList.drop q) with
    | false =>
      rw [hE] at hpc
      rw [hdB, hE]
      clear hp hr hrl h1 hdB hE
      go_enter Try.func120, Try.ntmps120
      go_wp2_with fail
      refine (hl _).mono ?_; rintro e w2 ⟨rfl, d, rfl⟩
      go_wp2_with fail
      refine (hpc _ hsz (by decide)).mono ?_; rintro e w3 ⟨rfl, rfl⟩
      go_wp2_with fail
      go_ret2
      exact ⟨rfl, drewB (Below.refl _ _) _⟩
    | true =>
      have hq4 := expB_drop hE
      rw [hrl] at hq4
      have hq4' : (q : Int) + 4 ≤ s.size := by omega
      rw [hE] at hpc
      rw [hdB, hE]
      clear hp hr hrl h1 hdB hE
      go_enter Try.func120, Try.ntmps120
      go_wp2_with fail
      refine (hl _).mono ?_; rintro e w2 ⟨rfl, d, hw2⟩
      have hb2 : Below w.heap.size w w2 := by rw [hw2]; exact drewB (Below.refl _ _) d
      clear hw2
      go_wp2_with fail
      refine (hpc _ hsz (by decide)).mono ?_; rintro e w3 ⟨rfl, rfl⟩
      go_wp2_with fail
      go_quiet (fail)
      go_wp2_with fail
      go_ret2
      exact ⟨by rw [hv.out]; rfl, drewB hb2 _⟩

end Go.Proofs.Ytkpganpojdboeaa

/-! Reduce -/
namespace Go.Proofs.Ytkpganpojdboeaa
open Go.RowKit

theorem trDrop_tr (t : Tr) (n : Int) (w : World) (ht : t.carets ≤ 300) (hn : n ∈ t.exps 0) :
    Calls Try.prog 93 #[.string t.str, .int .i64 n] w (Gives (.string (t.dropAt n).str) w) := by
  obtain ⟨h1, h2⟩ := drop_str t n hn
  obtain ⟨q, hp, hq, _, h0⟩ := dropB_true ((dropB_str t n).2 hn)
  have hr := exps_range t 0 n hn
  have hz := t.str_size
  have := trDrop_any t.str n q w (by omega) h0 (by simp [Tr.leaves] at hr; omega) hp hq
  rw [← h2, hp]
  have e : ((q : Int) + 1).toNat - 1 = q := by omega
  rw [e]
  exact this

theorem withoutExposed_tr (t : Tr) (n : Int) (w : World) (ht : t.carets ≤ 300) (hn : n ∈ t.exps 0) :
    Calls Try.prog 120 #[.string t.str, .int .i64 n] w (Gives (.tuple #[.string (t.dropAt n).str, .bool true]) w) := by
  obtain ⟨h1, h2⟩ := drop_str t n hn
  have hr := exps_range t 0 n hn
  have hz := t.str_size
  simp [Tr.leaves] at hr
  have := withoutExposed_any t.str n w (by omega) (by omega) (by omega)
  unfold dropO at this
  rw [if_pos ((dropB_str t n).2 hn), h2] at this
  exact this

/-- How long the first text of a block is. -/
def sizeAt (w : World) (b : Nat) : Nat := match w.heap[b]? with
  | some (.cells cs _ _) => match cs[0]? with
    | some (Value.string s) => s.size
    | _ => 0
  | _ => 0
theorem sizeAt_of {w : World} {b : Nat} {s u : ByteArray} {t : TypeId} (h : w.heap[b]? = some (.cells #[.string s, .string u] t (0, 0))) : sizeAt w b = s.size := by
  simp [sizeAt, h]

theorem pick_drop (cs : List Int) (j k : Nat) : pickI (cs.drop j) k = if j < cs.length then (cs.getD j 0 % k).toNat else 0 := by
  by_cases h : j < cs.length
  · rw [if_pos h, List.drop_eq_getElem_cons h]
    simp [pickI, h]
  · rw [if_neg h, List.drop_of_length_le (by omega)]
    rfl

theorem both_in (p : Pr) (h : p.1.carets ≤ 200) (i : Nat) (hi : i < (both p).length) : (both p).getD i 0 ∈ p.1.exps 0 ∧ (both p).getD i 0 ∈ p.2.exps 0 ∧ 0 ≤ (both p).getD i 0 ∧ (both p).getD i 0 ≤ 200 := by
  have hm : (both p).getD i 0 ∈ both p := by
    rw [List.getD_eq_getElem?_getD, List.getElem?_eq_getElem hi]
    exact List.getElem_mem _
  have h1 := mem_both.1 hm
  have hr := exps_range p.1 0 _ h1.1
  simp only [Tr.leaves] at hr
  exact ⟨h1.1, h1.2, by omega, by omega⟩

theorem redBy_pick {p : Pr} (cs : List Int) (i : Nat) (hl : 0 < (both p).length) (hi : i = pickI cs (both p).length) : redBy p cs = redBy (dropP p ((both p).getD i 0)) cs.tail := by
  cases h : both p with
  | nil => rw [h] at hl; simp at hl
  | cons n ns =>
    rw [redBy_step h, hi, h]
    rfl

set_option maxRecDepth 100000 in
set_option maxHeartbeats 2000000 in
theorem prReduce_any (p0 : Pr) (v : Value) (cs : List Int) (b1 : Nat) (w : World) (h1 : p0.1.carets ≤ 200) (h2 : p0.2.carets ≤ 200) (hv : CellsI b1 w v cs) (hcs : ∀ c ∈ cs, 0 ≤ c ∧ c ≤ 9223372036854775807) :
    Calls Try.prog 55 #[.agg #[.string p0.1.str, .string p0.2.str], v] w (Gives (.agg #[.string (redBy p0 cs).1.str, .string (redBy p0 cs).2.str]) w) := by
  have hB : ∀ (p : Pr) w, p.1.carets ≤ 200 → p.2.carets ≤ 200 → Calls Try.prog 92 #[.agg #[.string p.1.str, .string p.2.str]] w (GivesInts (both p) w) := by
    intro p w k1 k2
    have := prBoth_any p.1.str p.2.str w (by have := p.1.str_size; omega) (by have := p.2.str_size; omega)
    rwa [bothL_str] at this
  obtain ⟨oa, ccap, rfl, hcl, hcm, hcc⟩ := hv.form
  unfold maxLen at hcm
  clear hv
  go_enter Try.func55, Try.ntmps55
  go_wp2_with fail
  have hb0 : Below w.heap.size w ((w.alloc (.cells #[.string p0.1.str, .string p0.2.str] 25 (0, 0))).alloc (.cells #[.string ⟨#[]⟩, .string ⟨#[]⟩] 25 (0, 0))) := nxAlloc (nxAlloc (Below.refl _ _) _) _
  have hx1 := heap_keep (nxAlloc (Below.refl _ _) (.cells #[.string ⟨#[]⟩, .string ⟨#[]⟩] 25 (0, 0))) (heap_alloc_at w (.cells #[.string p0.1.str, .string p0.2.str] 25 (0, 0)))
  have hx2 := heap_alloc_at (w.alloc (.cells #[.string p0.1.str, .string p0.2.str] 25 (0, 0))) (.cells #[.string ⟨#[]⟩, .string ⟨#[]⟩] 25 (0, 0))
  generalize (w.alloc (.cells #[.string p0.1.str, .string p0.2.str] 25 (0, 0))).alloc (.cells #[.string ⟨#[]⟩, .string ⟨#[]⟩] 25 (0, 0)) = w0 at *
  have e2 : (w.alloc (.cells #[.string p0.1.str, .string p0.2.str] 25 (0, 0))).heap.size = w.heap.size + 1 := by simp
  rw [e2] at hx2
  clear e2
  have hs0 : w.heap.size + 1 < w0.heap.size := lt_of_block hx2
  refine (hB p0 _ h1 h2).mono ?_; rintro e w1 ⟨v6, own, hb1, rfl⟩
  have hb01 := nx hb0 hb1
  have hy1 := heap_keep hb1 hx1
  have hy2 := heap_keep hb1 hx2
  have own' : OwnI (w.heap.size + 2) w1 v6 (both p0) := own.mono hs0
  have hs1 : w.heap.size + 2 ≤ w1.heap.size := Nat.le_trans hs0 hb1.size
  clear own hx1 hx2 hb0 hb1 hs0
  go_wp2_with fail
  go_loopw [5, 6] (fun s b wr => ∃ (p : Pr) (j : Nat), s = .int .i64 j ∧ OwnI (w.heap.size + 2) wr b (both p) ∧ wr.heap[w.heap.size]? = some (.cells #[.string p.1.str, .string p.2.str] 25 (0, 0)) ∧ wr.heap[w.heap.size + 1]? = some (.cells #[.string ⟨#[]⟩, .string ⟨#[]⟩] 25 (0, 0)) ∧ Below w.heap.size w wr ∧ w.heap.size + 2 ≤ wr.heap.size ∧ j + p.1.carets ≤ 200 ∧ p.2.carets ≤ 200 ∧ Hid (redBy p0 cs = redBy p (cs.drop j))) (fun _ _ wr => sizeAt wr w.heap.size)
  case atStart => exact ⟨p0, 0, rfl, own', hy1, hy2, hb01, hs1, by omega, h2, rfl⟩
  case round =>
    obtain ⟨p, j, rfl, hown, hy1, hy2, hbw, hsz, hj, hp2, he⟩ := hrel
    have hf := hown.cells.form
    by_cases hl : (both p).length = 0
    · have hnil : both p = [] := List.length_eq_zero_iff.1 hl
      have he' := he.out
      rw [redBy_end hnil] at he'
      have HE := Lib.hid he'
      obtain ⟨ob, bcap, rfl, _, _, _⟩ := hf
      rw [hl]
      have hl2 := two_cells hy1
      obtain ⟨k1, k2⟩ := hl2
      obtain ⟨n1, n2⟩ := two_cells hy2
      obtain ⟨f1, f2⟩ := two_frozen hy2
      clear hl hnil he he' hown
      go_wp2_with fail
      obtain ⟨r1, r2⟩ := two_cells (set_two (.string p.1.str) (.string p.2.str) hy2)
      refine bodyPost_ret (v := .agg #[.string p.1.str, .string p.2.str]) (by simp [r1, r2, results, Try.results55, go_sem]) rfl ⟨by rw [HE.out], ?_⟩
      exact (hbw.setCell (by simp) _).setCell (by simp) _
    · -- a step
      have hlp : 0 < (both p).length := by omega
      have hlp' : (0 : Int) < ((both p).length : Int) := by omega
      have hpi := pickI_lt (cs.drop j) (both p).length hlp
      obtain ⟨i, hi⟩ : ∃ i, i = pickI (cs.drop j) (both p).length := ⟨_, rfl⟩
      rw [← hi] at hpi
      have hst := redBy_pick (cs.drop j) i hlp hi
      rw [pick_drop] at hi
      obtain ⟨m1, m2, _, _⟩ := both_in p (by omega) i hpi
      obtain ⟨ob, bcap, rfl, hbc, hbm, hbcell⟩ := hf
      unfold maxLen at hbm
      obtain ⟨g, rfl, hg0, hg1, c1⟩ := hbcell i hpi
      obtain ⟨x, hx⟩ : ∃ x, x = (both p).getD i 0 := ⟨_, rfl⟩
      rw [← hx] at hst m1 m2 c1
      have hstep := Lib.hid hst
      have T1 := fun w => trDrop_tr p.1 x w (by omega) m1
      have T2 := fun w => trDrop_tr p.2 x w (by omega) m2
      have hdc := dropP_carets (p := p) (n := x) (mem_both.2 ⟨m1, m2⟩)
      obtain ⟨hd1, hd2⟩ := hdc
      have HS1 := Lib.hid (sizeAt_of hy1)
      obtain ⟨k1, k2⟩ := two_cells hy1
      have hB1 : w.heap.size < wr.heap.size := by omega
      generalize hL : (both p).length = L at *
      have HL := Lib.hid hL
      clear hL hx hst m1 m2 hbcell hl hown
      by_cases hjc : j < cs.length
      · rw [if_pos hjc] at hi
        obtain ⟨g2, rfl, _, hg2, c2⟩ := hcc j hjc
        have c2' := (hbw.cell (p := ⟨g2, j, none⟩) hg2).trans c2
        have hcb := hcs (cs.getD j 0) (by rw [List.getD_eq_getElem?_getD, List.getElem?_eq_getElem hjc]; exact List.getElem_mem _)
        obtain ⟨hc0, hc9⟩ := hcb
        generalize cs.getD j 0 = c at *
        have hrem : c % (L : Int) = (i : Int) := by
          have := Int.emod_nonneg c (show (L : Int) ≠ 0 by omega)
          omega
        have hjc' : (j : Int) < (cs.length : Int) := by omega
        have hpi' : (i : Int) < (L : Int) := by omega
        clear hi hcc c2
        go_wp2_with fail
        refine wp_region_clsT 15 (by kernel_rfl) (by kernel_rfl) ?_
        simp only [List.take_succ_cons, List.take_zero, List.drop_succ_cons, List.drop_zero]
        repeat (
          refine wpQuiet_step (fun K hK => ?_)
          go_simp
          first
            | (refine hK _ ?_; clear hK K)
            | (refine ⟨_, fun _ _ => rfl, hK _ ?_⟩; clear hK K)
            | (apply Exists.intro
               refine ⟨fun w' hw' => ?_, hK _ ?_⟩
               · first
                   | (rw [hw'.cell hB1 k1]; exact ⟨rfl, rfl⟩)
                   | (rw [hw'.cell hB1 k2]; exact ⟨rfl, rfl⟩)
                   | (rw [hw'.cell hg1 c1]; exact ⟨rfl, rfl⟩)
                   | (go_at_call 93; first | (with_reducible exact hw'.call (T1 _)) | (with_reducible exact hw'.call (T2 _)))
               clear hK K))
        refine wpQuiet_nil ?_
        intro w' hw'
        have hbw' := nx hbw hw'
        have hz1 := heap_keep hw' hy1
        have hz2 := heap_keep hw' hy2
        obtain ⟨n1, n2⟩ := two_cells hz1
        obtain ⟨f1, f2⟩ := two_frozen hz1
        have hsz' := Nat.le_trans hsz hw'.size
        clear hbw hw' hy1 hy2 k1 k2 c1
        go_wp2_with fail
        have hr1 := set_two (.string (p.1.dropAt x).str) (.string (p.2.dropAt x).str) hz1
        have hr2 : ((w'.setCell ⟨w.heap.size, 0, none⟩ (.string (p.1.dropAt x).str)).setCell ⟨w.heap.size, 1, none⟩ (.string (p.2.dropAt x).str)).heap[w.heap.size + 1]? = some (.cells #[.string ⟨#[]⟩, .string ⟨#[]⟩] 25 (0, 0)) := by
          rw [Below.heap_setCell _ _ _ _ (by simp), Below.heap_setCell _ _ _ _ (by simp)]; exact hz2
        have hbw2 : Below w.heap.size w ((w'.setCell ⟨w.heap.size, 0, none⟩ (.string (p.1.dropAt x).str)).setCell ⟨w.heap.size, 1, none⟩ (.string (p.2.dropAt x).str)) := (hbw'.setCell (Nat.le_refl _) _).setCell (Nat.le_refl _) _
        have hsz2 : w.heap.size + 2 ≤ ((w'.setCell ⟨w.heap.size, 0, none⟩ (.string (p.1.dropAt x).str)).setCell ⟨w.heap.size, 1, none⟩ (.string (p.2.dropAt x).str)).heap.size := by simpa using hsz'
        generalize (w'.setCell ⟨w.heap.size, 0, none⟩ (.string (p.1.dropAt x).str)).setCell ⟨w.heap.size, 1, none⟩ (.string (p.2.dropAt x).str) = w3 at *
        obtain ⟨n1', n2'⟩ := two_cells hr1
        refine (hB (dropP p x) _ (by omega) (by omega)).mono ?_; rintro e w4 ⟨v7, own7, hb4, rfl⟩
        have hu1 := heap_keep hb4 hr1
        have hu2 := heap_keep hb4 hr2
        have own8 : OwnI (w.heap.size + 2) w4 v7 (both (dropP p x)) := own7.mono hsz2
        have hbw4 := nx hbw2 hb4
        have hsz4 := Nat.le_trans hsz2 hb4.size
        clear own7 hb4 hr1 hr2 hbw2 hsz2 n1' n2'
        go_wp2_with fail
        go_roundw
        case rel => exact ⟨dropP p x, j + 1, by go_num, own8, hu1, hu2, hbw4, hsz4, by omega, by omega, by show _ = _; rw [he.out, hstep.out, List.tail_drop]⟩
        case measure =>
          rw [sizeAt_of hu1, HS1.out, Tr.str_size, Tr.str_size]
          have hd1' : (p.1.dropAt x).carets + 1 = p.1.carets := hd1
          omega
      · rw [if_neg hjc] at hi
        subst hi
        have hjc' : ¬ (j : Int) < (cs.length : Int) := by omega
        clear hcc
        go_wp2_with fail
        refine wp_region_clsT 15 (by kernel_rfl) (by kernel_rfl) ?_
        simp only [List.take_succ_cons, List.take_zero, List.drop_succ_cons, List.drop_zero]
        repeat (
          refine wpQuiet_step (fun K hK => ?_)
          go_simp
          first
            | (refine hK _ ?_; clear hK K)
            | (refine ⟨_, fun _ _ => rfl, hK _ ?_⟩; clear hK K)
            | (apply Exists.intro
               refine ⟨fun w' hw' => ?_, hK _ ?_⟩
               · first
                   | (rw [hw'.cell hB1 k1]; exact ⟨rfl, rfl⟩)
                   | (rw [hw'.cell hB1 k2]; exact ⟨rfl, rfl⟩)
                   | (rw [hw'.cell hg1 c1]; exact ⟨rfl, rfl⟩)
                   | (go_at_call 93; first | (with_reducible exact hw'.call (T1 _)) | (with_reducible exact hw'.call (T2 _)))
               clear hK K))
        refine wpQuiet_nil ?_
        intro w' hw'
        have hbw' := nx hbw hw'
        have hz1 := heap_keep hw' hy1
        have hz2 := heap_keep hw' hy2
        obtain ⟨n1, n2⟩ := two_cells hz1
        obtain ⟨f1, f2⟩ := two_frozen hz1
        have hsz' := Nat.le_trans hsz hw'.size
        clear hbw hw' hy1 hy2 k1 k2 c1
        go_wp2_with fail
        have hr1 := set_two (.string (p.1.dropAt x).str) (.string (p.2.dropAt x).str) hz1
        have hr2 : ((w'.setCell ⟨w.heap.size, 0, none⟩ (.string (p.1.dropAt x).str)).setCell ⟨w.heap.size, 1, none⟩ (.string (p.2.dropAt x).str)).heap[w.heap.size + 1]? = some (.cells #[.string ⟨#[]⟩, .string ⟨#[]⟩] 25 (0, 0)) := by
          rw [Below.heap_setCell _ _ _ _ (by simp), Below.heap_setCell _ _ _ _ (by simp)]; exact hz2
        have hbw2 : Below w.heap.size w ((w'.setCell ⟨w.heap.size, 0, none⟩ (.string (p.1.dropAt x).str)).setCell ⟨w.heap.size, 1, none⟩ (.string (p.2.dropAt x).str)) := (hbw'.setCell (Nat.le_refl _) _).setCell (Nat.le_refl _) _
        have hsz2 : w.heap.size + 2 ≤ ((w'.setCell ⟨w.heap.size, 0, none⟩ (.string (p.1.dropAt x).str)).setCell ⟨w.heap.size, 1, none⟩ (.string (p.2.dropAt x).str)).heap.size := by simpa using hsz'
        generalize (w'.setCell ⟨w.heap.size, 0, none⟩ (.string (p.1.dropAt x).str)).setCell ⟨w.heap.size, 1, none⟩ (.string (p.2.dropAt x).str) = w3 at *
        obtain ⟨n1', n2'⟩ := two_cells hr1
        refine (hB (dropP p x) _ (by omega) (by omega)).mono ?_; rintro e w4 ⟨v7, own7, hb4, rfl⟩
        have hu1 := heap_keep hb4 hr1
        have hu2 := heap_keep hb4 hr2
        have own8 : OwnI (w.heap.size + 2) w4 v7 (both (dropP p x)) := own7.mono hsz2
        have hbw4 := nx hbw2 hb4
        have hsz4 := Nat.le_trans hsz2 hb4.size
        clear own7 hb4 hr1 hr2 hbw2 hsz2 n1' n2'
        go_wp2_with fail
        go_roundw
        case rel => exact ⟨dropP p x, j + 1, by go_num, own8, hu1, hu2, hbw4, hsz4, by omega, by omega, by show _ = _; rw [he.out, hstep.out, List.tail_drop]⟩
        case measure =>
          rw [sizeAt_of hu1, HS1.out, Tr.str_size, Tr.str_size]
          have hd1' : (p.1.dropAt x).carets + 1 = p.1.carets := hd1
          omega
end Go.Proofs.Ytkpganpojdboeaa

/-! RedBy -/
namespace Go.Proofs.Ytkpganpojdboeaa
open Go.RowKit

theorem firstOf_any (n : Int) (w : World) : Calls Try.prog 89 #[.int .i64 n] w fun e w' => e = .returned (.int .i64 0) ∧ w = w' := by
  go_enter Try.func89, Try.ntmps89
  go_wp2
  go_ret
  exact ⟨rfl, rfl⟩

theorem sharedExposed_tr (p : Pr) (w : World) (k1 : p.1.carets ≤ 200) (k2 : p.2.carets ≤ 200) : Calls Try.prog 119 #[.agg #[.string p.1.str, .string p.2.str]] w (GivesInts (both p) w) := by
  have := sharedExposed_any p.1.str p.2.str w (by have := p.1.str_size; omega) (by have := p.2.str_size; omega)
  rwa [bothL_str] at this

theorem redBy_first {p : Pr} (hl : 0 < (both p).length) : red p = red (dropP p ((both p).getD 0 0)) := by
  have := redBy_pick (p := p) [] 0 hl rfl
  exact this

set_option maxRecDepth 100000 in
set_option maxHeartbeats 2000000 in
theorem reducedBy_first (p0 : Pr) (w : World) (h1 : p0.1.carets ≤ 200) (h2 : p0.2.carets ≤ 200) :
    Calls Try.prog 88 #[.agg #[.string p0.1.str, .string p0.2.str], .func (Fn.func 89) #[] #[]] w (Gives (.agg #[.string (red p0).1.str, .string (red p0).2.str]) w) := by
  go_enter Try.func88, Try.ntmps88
  go_wp2_with fail
  have hb0 : Below w.heap.size w ((w.alloc (.cells #[.string p0.1.str, .string p0.2.str] 25 (0, 0))).alloc (.cells #[.string ⟨#[]⟩, .string ⟨#[]⟩] 25 (0, 0))) := nxAlloc (nxAlloc (Below.refl _ _) _) _
  have hx1 := heap_keep (nxAlloc (Below.refl _ _) (.cells #[.string ⟨#[]⟩, .string ⟨#[]⟩] 25 (0, 0))) (heap_alloc_at w (.cells #[.string p0.1.str, .string p0.2.str] 25 (0, 0)))
  have hx2 := heap_alloc_at (w.alloc (.cells #[.string p0.1.str, .string p0.2.str] 25 (0, 0))) (.cells #[.string ⟨#[]⟩, .string ⟨#[]⟩] 25 (0, 0))
  generalize (w.alloc (.cells #[.string p0.1.str, .string p0.2.str] 25 (0, 0))).alloc (.cells #[.string ⟨#[]⟩, .string ⟨#[]⟩] 25 (0, 0)) = w0 at *
  have e2 : (w.alloc (.cells #[.string p0.1.str, .string p0.2.str] 25 (0, 0))).heap.size = w.heap.size + 1 := by simp
  rw [e2] at hx2
  clear e2
  have hs0 : w.heap.size + 1 < w0.heap.size := lt_of_block hx2
  go_loopw [5] (fun _ wr => ∃ (p : Pr), wr.heap[w.heap.size]? = some (.cells #[.string p.1.str, .string p.2.str] 25 (0, 0)) ∧ wr.heap[w.heap.size + 1]? = some (.cells #[.string ⟨#[]⟩, .string ⟨#[]⟩] 25 (0, 0)) ∧ Below w.heap.size w wr ∧ w.heap.size + 2 ≤ wr.heap.size ∧ p.1.carets ≤ 200 ∧ p.2.carets ≤ 200 ∧ Hid (red p0 = red p)) (fun _ wr => sizeAt wr w.heap.size)
  case atStart => exact ⟨p0, hx1, hx2, hb0, hs0, h1, h2, rfl⟩
  case round =>
    obtain ⟨p, hy1, hy2, hbw, hsz, hp1, hp2, he⟩ := hrel
    have HS1 := Lib.hid (sizeAt_of hy1)
    obtain ⟨k1, k2⟩ := two_cells hy1
    go_wp2_with fail
    refine (sharedExposed_tr p _ hp1 hp2).mono ?_; rintro e w1 ⟨v5, own, hb1, rfl⟩
    have hz1 := heap_keep hb1 hy1
    have hz2 := heap_keep hb1 hy2
    have hbw1 := nx hbw hb1
    have hsz1 := Nat.le_trans hsz hb1.size
    have hown : OwnI (w.heap.size + 2) w1 v5 (both p) := own.mono hsz
    have hf := hown.cells.form
    clear own hb1 hbw hsz k1 k2 hy1 hy2 hown
    obtain ⟨k1, k2⟩ := two_cells hz1
    obtain ⟨ob, bcap, rfl, hbc, hbm, hbcell⟩ := hf
    unfold maxLen at hbm
    by_cases hl : (both p).length = 0
    · have hnil : both p = [] := List.length_eq_zero_iff.1 hl
      have he' := he.out
      rw [(red_self p).2 hnil] at he'
      have HE := Lib.hid he'
      rw [hl]
      obtain ⟨n1, n2⟩ := two_cells hz2
      obtain ⟨f1, f2⟩ := two_frozen hz2
      clear hl hnil he he' hbcell
      go_wp2_with fail
      obtain ⟨r1, r2⟩ := two_cells (set_two (.string p.1.str) (.string p.2.str) hz2)
      refine bodyPost_ret (v := .agg #[.string p.1.str, .string p.2.str]) (by simp [r1, r2, results, Try.results88, go_sem]) rfl ⟨by rw [HE.out], ?_⟩
      exact (hbw1.setCell (by simp) _).setCell (by simp) _
    · -- a step
      have hlp : 0 < (both p).length := by omega
      have hlp' : (((both p).length : Int) == 0) = false := by rw [beq_eq_false_iff_ne]; omega
      have hst := redBy_first hlp
      obtain ⟨m1, m2, hx0, hx9⟩ := both_in p hp1 0 hlp
      obtain ⟨g, rfl, hg0, hg1, c1⟩ := hbcell 0 hlp
      obtain ⟨x, hx⟩ : ∃ x, x = (both p).getD 0 0 := ⟨_, rfl⟩
      rw [← hx] at hst m1 m2 c1 hx0 hx9
      have hstep := Lib.hid hst
      have T1 := fun w => withoutExposed_tr p.1 x w (by omega) m1
      have T2 := fun w => withoutExposed_tr p.2 x w (by omega) m2
      obtain ⟨hd1, hd2⟩ := dropP_carets (p := p) (n := x) (mem_both.2 ⟨m1, m2⟩)
      generalize hL : (both p).length = L at *
      have HL := Lib.hid hL
      have hlq : (0 : Int) < (L : Int) := by omega
      obtain ⟨f1, f2⟩ := two_frozen hz1
      clear hL hx hst m1 m2 hbcell hl
      go_wp2_with fail
      refine (firstOf_any _ _).mono ?_; rintro e w2 ⟨rfl, rfl⟩
      go_wp2_with fail
      refine (T1 _).mono ?_; rintro e w2 ⟨rfl, hb2⟩
      have hz1 := heap_keep hb2 hz1
      have hz2 := heap_keep hb2 hz2
      have hbw2 := nx hbw1 hb2
      have hsz2 := Nat.le_trans hsz1 hb2.size
      obtain ⟨n1, n2⟩ := two_cells hz1
      obtain ⟨f1, f2⟩ := two_frozen hz1
      clear c1 k1 k2 hb2 hbw1 hsz1
      go_wp2_with fail
      have hr1 := set_first (u' := .string (p.1.dropAt x).str) hz1
      have hr2 : (w2.setCell ⟨w.heap.size, 0, none⟩ (.string (p.1.dropAt x).str)).heap[w.heap.size + 1]? = some (.cells #[.string ⟨#[]⟩, .string ⟨#[]⟩] 25 (0, 0)) := by
        rw [Below.heap_setCell _ _ _ _ (by simp)]; exact hz2
      have hbw3 : Below w.heap.size w (w2.setCell ⟨w.heap.size, 0, none⟩ (.string (p.1.dropAt x).str)) := hbw2.setCell (Nat.le_refl _) _
      have hsz3 : w.heap.size + 2 ≤ (w2.setCell ⟨w.heap.size, 0, none⟩ (.string (p.1.dropAt x).str)).heap.size := by simpa using hsz2
      generalize w2.setCell ⟨w.heap.size, 0, none⟩ (.string (p.1.dropAt x).str) = w3 at *
      clear hz1 hz2 n1 n2 f1 f2 hbw2 hsz2
      refine (T2 _).mono ?_; rintro e w4 ⟨rfl, hb4⟩
      have hz1 := heap_keep hb4 hr1
      have hz2 := heap_keep hb4 hr2
      have hbw4 := nx hbw3 hb4
      have hsz4 := Nat.le_trans hsz3 hb4.size
      obtain ⟨n1, n2⟩ := two_cells hz1
      obtain ⟨f1, f2⟩ := two_frozen hz1
      clear hr1 hr2 hbw3 hsz3 hb4
      go_wp2_with fail
      have hu1 := set_second (v' := .string (p.2.dropAt x).str) hz1
      have hu2 : (w4.setCell ⟨w.heap.size, 1, none⟩ (.string (p.2.dropAt x).str)).heap[w.heap.size + 1]? = some (.cells #[.string ⟨#[]⟩, .string ⟨#[]⟩] 25 (0, 0)) := by
        rw [Below.heap_setCell _ _ _ _ (by simp)]; exact hz2
      have hbw5 : Below w.heap.size w (w4.setCell ⟨w.heap.size, 1, none⟩ (.string (p.2.dropAt x).str)) := hbw4.setCell (Nat.le_refl _) _
      have hsz5 : w.heap.size + 2 ≤ (w4.setCell ⟨w.heap.size, 1, none⟩ (.string (p.2.dropAt x).str)).heap.size := by simpa using hsz4
      go_roundw
      case rel => exact ⟨dropP p x, hu1, hu2, hbw5, hsz5, by omega, by omega, by show _ = _; rw [he.out, hstep.out]⟩
      case measure =>
        rw [sizeAt_of hu1, HS1.out, Tr.str_size, Tr.str_size]
        have hd1' : (p.1.dropAt x).carets + 1 = p.1.carets := hd1
        omega
end Go.Proofs.Ytkpganpojdboeaa

/-! Sm1 -/
namespace Go.Proofs.Ytkpganpojdboeaa
open Go.RowKit

theorem str_inj7 {t u : Tr} (h : t.str.toList = u.str.toList) : t = u := by
  simp only [Lib.toList_data, Tr.str_list] at h
  exact (Tr.text_inj (r := []) (q := []) (by rw [h])).1
noncomputable def eqPr (r s : Pr) : Bool := @decide (r = s) (Classical.propDecidable _)
theorem eq_cases (r s : Pr) : (r = s ∧ eqPr r s = true) ∨ (r.1 = s.1 ∧ ¬ r.2.str.toList = s.2.str.toList ∧ eqPr r s = false) ∨ (¬ r.1.str.toList = s.1.str.toList ∧ eqPr r s = false) := by
  unfold eqPr
  by_cases h1 : r.1 = s.1
  · by_cases h2 : r.2 = s.2
    · exact .inl ⟨Prod.ext h1 h2, by simp [Prod.ext h1 h2]⟩
    · exact .inr (.inl ⟨h1, fun e => h2 (str_inj7 e), by simp; intro e; exact h2 (by rw [e])⟩)
  · exact .inr (.inr ⟨fun e => h1 (str_inj7 e), by simp; intro e; exact h1 (by rw [e])⟩)

/-- Of the pairs with the trees a and one of the first j those that are reduced and wanted. -/
def pickN (want : Pr → Bool) (k : Nat) (a : Tr) (j : Nat) : List Pr := (((treesN k).take j).filter fun b => (both (a, b)).isEmpty && want (a, b)).map fun b => (a, b)
def pickK (want : Pr → Bool) (k i : Nat) : List Pr := ((treesN k).take i).flatMap fun a => pickN want k a (treesN k).length
theorem pickN_succ (want : Pr → Bool) {k j : Nat} (a : Tr) (h : j < (treesN k).length) : pickN want k a (j + 1) = pickN want k a j ++ (if ((both (a, (treesN k).getD j .lf)).isEmpty && want (a, (treesN k).getD j .lf)) = true then [(a, (treesN k).getD j .lf)] else []) := by
  unfold pickN
  rw [List.take_succ_eq_append_getElem h, List.filter_append, List.map_append]
  congr 1
  have e : (treesN k).getD j .lf = (treesN k)[j] := by simp [List.getD_eq_getElem?_getD, h]
  rw [e]
  by_cases hb : ((both (a, (treesN k)[j])).isEmpty && want (a, (treesN k)[j])) = true
  · rw [if_pos hb]; simp only [List.filter_cons, hb, if_true, List.filter_nil, List.map_cons, List.map_nil]
  · rw [if_neg hb]; simp only [List.filter_cons, hb, List.filter_nil]; rfl
theorem pickK_succ (want : Pr → Bool) {k i : Nat} (h : i < (treesN k).length) : pickK want k (i + 1) = pickK want k i ++ pickN want k ((treesN k).getD i .lf) (treesN k).length := by
  unfold pickK
  rw [List.take_succ_eq_append_getElem h, List.flatMap_append]
  congr 1
  simp [List.getD_eq_getElem?_getD, h]
theorem pickK_all (want : Pr → Bool) (k : Nat) : pickK want k (treesN k).length = (redsN k).filter want := by
  unfold pickK redsN pickN redsOf
  rw [List.take_length, List.filter_flatMap]
  congr 1
  funext a
  rw [List.filter_map, List.filter_filter]
  congr 2
  funext b
  simp [Bool.and_comm]
theorem treesN_at {k j : Nat} (h : j < (treesN k).length) : ((treesN k).getD j .lf).carets = k := by
  rw [← mem_treesN, List.getD_eq_getElem?_getD, List.getElem?_eq_getElem h]
  exact List.getElem_mem h
theorem trTexts_get {k j : Nat} (h : j < (treesN k).length) : (trTexts k).getD j ⟨#[]⟩ = ((treesN k).getD j .lf).str := by
  unfold trTexts
  simp [List.getD_eq_getElem?_getD, h]
theorem trTexts_len (k : Nat) : (trTexts k).length = (treesN k).length := by simp [trTexts]
theorem treesN_sm7 {k : Nat} (h : k ≤ 3) : (treesN k).length ≤ 5 := by
  rw [treesN_length k (by omega)]
  match k, h with
  | 0, _ => decide
  | 1, _ => decide
  | 2, _ => decide
  | 3, _ => decide
theorem pickN_len (want : Pr → Bool) (k : Nat) (a : Tr) (j : Nat) : (pickN want k a j).length ≤ (treesN k).length := by
  unfold pickN
  rw [List.length_map]
  exact Nat.le_trans (List.length_filter_le _ _) (by rw [List.length_take]; omega)
/-- A block is as it was, and v does not lie in it. -/
def FarQ (w1 wr : World) (g : Nat) (v : Value) : Prop := wr.heap[g]? = w1.heap[g]? ∧ w1.heap.size ≤ wr.heap.size ∧ some g ≠ v.ownBlock
theorem FarQ.keep {w1 wr w' : World} {g : Nat} {v : Value} (h : FarQ w1 wr g v) (hg : g < w1.heap.size) (hb : Below wr.heap.size wr w') : FarQ w1 w' g v :=
  ⟨(hb.block g (Nat.lt_of_lt_of_le hg h.2.1)).trans h.1, Nat.le_trans h.2.1 hb.size, h.2.2⟩
theorem FarQ.grown {w1 wr w' : World} {g : Nat} {v v' : Value} (h : FarQ w1 wr g v) (hg : g < w1.heap.size) (hgr : wr.grownBy w' v.ownBlock) (ho : v'.ownBlock = v.ownBlock ∨ v'.ownBlock = some wr.heap.size) : FarQ w1 w' g v' := by
  obtain ⟨p1, p3, p4⟩ := h
  refine ⟨(hgr.block g (by omega) p4).trans p1, Nat.le_trans p3 hgr.size, ?_⟩
  rcases ho with ho | ho <;> rw [ho]
  · exact p4
  · intro e; injection e with e; omega
theorem FarQ.cell {w1 wr : World} {g i : Nat} {v u : Value} (h : FarQ w1 wr g v) (hc : w1.cell? ⟨g, i, none⟩ = some u) : wr.cell? ⟨g, i, none⟩ = some u := (World.cell?_of_block (a := ⟨g, i, none⟩) h.1).trans hc
theorem FarQ.start {base : Nat} {w0 w1 : World} {g : Nat} {v : Value} {xs : List Pr} (h : OwnQ base w0 v xs) (hg : w0.heap.size ≤ g) : FarQ w1 w1 g v :=
  ⟨rfl, Nat.le_refl _, fun e => by have := (World.ownsRow.lt (show w0.ownsRow _ _ _ _ _ _ from h) g e.symm).2; omega⟩
theorem info_pair7 : (Try.prog.info? 25).map (fun i => (i.zero, i.size, i.bytes)) = some (some (.agg #[.string ⟨#[]⟩, .string ⟨#[]⟩]), 2, 32) := by kernel_rfl
theorem pr_one (a b : ByteArray) : ∀ u ∈ [Value.string a, Value.string b], u.oneCell' = true := by
  intro u hu
  simp only [List.mem_cons, List.not_mem_nil, or_false] at hu
  rcases hu with rfl | rfl <;> rfl
theorem OwnQ.snoc7 {base : Nat} {w : World} {v : Value} {xs : List Pr} {p : Pr} (h : w.ownsRow base 25 2 v (xs.length + 1) ((flatQ xs).map Value.string ++ [Value.string p.1.str, Value.string p.2.str])) : OwnQ base w v (xs ++ [p]) := OwnQ.snoc (a := p.1) (b := p.2) h

set_option maxRecDepth 100000 in
set_option maxHeartbeats 4000000 in
theorem smallPairsOne_any (want : Pr → Bool) (n : Nat) (hn3 : n ≤ 3) (w : World)
    (hF : ∀ (p : Pr) (w' : World), okP p → p.1.carets ≤ 3 → Below w.heap.size w w' → Calls Try.prog 68 #[.agg #[.string p.1.str, .string p.2.str]] w' (Gives (.bool (want p)) w')) :
    Calls Try.prog 67 #[.int .i64 n, (.func (Fn.func 68) #[] #[])] w (GivesQ ((smallN (n + 1)).filter want) w) := by
  obtain ⟨i0, hi, hz0, hz1, hz2⟩ := info_parts info_pair7
  have hcall : ∀ (args : Array Value) (w : World), (callFunc 68 args).run Try.prog w = .ok (.enter 68 args) w := fun _ _ => by kernel_rfl
  have HF := Lib.hid hF
  clear hF
  go_enter Try.func67, Try.ntmps67
  go_wp2_with fail
  go_loopw [5, 16] (fun u c wr => ∃ (k : Nat) (xs : List Pr), k ≤ n + 1 ∧ c = .int .i64 k ∧ OwnQ w.heap.size wr u xs ∧ xs.length ≤ k * 25 ∧ Hid (xs = (smallN k).filter want) ∧ Below w.heap.size w wr) (fun _ c _ => n + 1 - (intOf c).toNat)
  case atStart => exact ⟨0, [], Nat.zero_le _, rfl, OwnX.nil _ _ _ _, Nat.zero_le _, rfl, Below.refl _ _⟩
  case round =>
    obtain ⟨k, xs, hk, rfl, hown, hxl, hxs, hbw⟩ := hrel
    by_cases hlt : k < n + 1
    · have hlt' : (k : Int) < (n : Int) + 1 := by omega
      have hA := fun w => implAllTrees_any (k : Int) w (by omega) (by omega)
      have hAo : AllTrees_o (k : Int) = some (trTexts k) := by unfold AllTrees_o; rw [if_pos (by omega)]; rfl
      rw [hAo] at hA
      have hA' : ∀ w, Calls Try.prog 100 #[.int .i64 k] w (AnsS2 (trTexts k) true w) := hA
      have hk3 : k ≤ 3 := by omega
      have hN5 := treesN_sm7 hk3
      clear hAo hA
      go_wp2_with fail
      refine (hA' _).mono ?_; rintro e w1 ⟨v1, own1, hb1, rfl⟩
      rcases own1.cells with ⟨_, h0⟩ | ⟨g, cap, rfl, hgb, hg, q1, q2, hc, _⟩
      · have := trTexts_pos k (by omega); rw [h0] at this; simp at this
      rw [trTexts_len] at q1 hc ⊢
      unfold maxLen at q2
      have HC := Lib.hid hc
      have hown0 := hown
      have hge : wr.heap.size ≤ g := hgb
      replace hown := OwnQ.keep hown hb1
      replace hbw := nx hbw hb1
      obtain ⟨N, hN⟩ : ∃ N, N = (treesN k).length := ⟨_, rfl⟩
      have HN := Lib.hid hN
      rw [← hN] at hN5 q1 ⊢
      have hfar : FarQ w1 w1 g u5 := FarQ.start hown0 hge
      clear own1 hc hA' hb1 hN hown0 hge
      go_wp2_with fail
      go_loopw [5, 26] (fun u c wr => ∃ (i : Nat) (ys : List Pr), i ≤ N ∧ c = .int .i64 i ∧ OwnQ w.heap.size wr u ys ∧ ys.length ≤ k * 25 + i * 5 ∧ Hid (ys = xs ++ pickK want k i) ∧ Below w.heap.size w wr ∧ FarQ w1 wr g u) (fun _ c _ => N - (intOf c).toNat)
      case atStart => exact ⟨0, xs, Nat.zero_le _, rfl, hown, by omega, by show _ = _; simp [pickK], hbw, hfar⟩
      case round =>
        clear hown hbw hfar
        obtain ⟨i, ys, hi', rfl, hown2, hyl, hys, hbw2, hfar2⟩ := hrel
        by_cases hlt2 : i < N
        · have hlt2' : (i : Int) < (N : Int) := by omega
          have hiT : i < (treesN k).length := by rw [← HN.out]; exact hlt2
          have c1 := hfar2.cell (HC.out i hiT)
          rw [trTexts_get hiT] at c1
          have hac := treesN_at hiT
          have hpk := pickK_succ want hiT
          obtain ⟨a, ha⟩ : ∃ a, a = (treesN k).getD i .lf := ⟨_, rfl⟩
          rw [← ha] at c1 hac hpk
          have HPK := Lib.hid hpk
          clear ha hpk hiT
          go_wp2_with fail
          go_loopw [5, 32] (fun u c wr => ∃ (j : Nat) (zs : List Pr), j ≤ N ∧ c = .int .i64 j ∧ OwnQ w.heap.size wr u zs ∧ zs.length ≤ k * 25 + i * 5 + j ∧ Hid (zs = ys ++ pickN want k a j) ∧ Below w.heap.size w wr ∧ FarQ w1 wr g u) (fun _ c _ => N - (intOf c).toNat)
          case atStart => exact ⟨0, ys, Nat.zero_le _, rfl, hown2, by omega, by show _ = _; simp [pickN], hbw2, hfar2⟩
          case round =>
            clear hown2 hbw2 hfar2 c1
            obtain ⟨j, zs, hj', rfl, hown3, hzl, hzs, hbw3, hfar3⟩ := hrel
            by_cases hlt3 : j < N
            · have hlt3' : (j : Int) < (N : Int) := by omega
              have hjT : j < (treesN k).length := by rw [← HN.out]; exact hlt3
              have d1 := hfar3.cell (HC.out j hjT)
              rw [trTexts_get hjT] at d1
              have hbc := treesN_at hjT
              have hpn := pickN_succ want a hjT
              obtain ⟨b, hb⟩ : ∃ b, b = (treesN k).getD j .lf := ⟨_, rfl⟩
              rw [← hb] at d1 hbc hpn
              have HPN := Lib.hid hpn
              have hsz3 := hbw3.size
              have RB := fun w => reducedBy_first (a, b) w (by show a.carets ≤ 200; omega) (by show b.carets ≤ 200; omega)
              have hrs := red_self (a, b)
              have HFP : ∀ w', Below w.heap.size w w' → Calls Try.prog 68 #[.agg #[.string a.str, .string b.str]] w' (Gives (.bool (want (a, b))) w') := fun w' hb' => HF.out (a, b) w' (show a.carets = b.carets by omega) (show a.carets ≤ 3 by omega) hb'
              obtain ⟨R, hR⟩ : ∃ R, R = red (a, b) := ⟨_, rfl⟩
              rw [← hR] at RB hrs
              have HRS := Lib.hid hrs
              obtain ⟨W1, hW1⟩ : ∃ b1, b1 = want (a, b) := ⟨_, rfl⟩
              rw [← hW1] at HFP
              have HW1 := Lib.hid hW1
              clear hb hpn hjT hR hrs hW1
              rcases eq_cases R (a, b) with ⟨e1, _⟩ | ⟨e1, e2, _⟩ | ⟨e1, _⟩
              · subst e1
                have hbe : (both (a, b)).isEmpty = true := by rw [HRS.out.1 rfl]; rfl
                have HBE := Lib.hid hbe
                clear hbe HRS
                have RB' : ∀ w, Calls Try.prog 88 #[.agg #[.string a.str, .string b.str], .func (Fn.func 89) #[] #[]] w (Gives (.agg #[.string a.str, .string b.str]) w) := RB
                clear RB
                cases hWc : W1 with
                | true =>
                  subst hWc
                  go_wp2_with fail
                  have hbw4 := nxAlloc hbw3 (.cells #[.string a.str, .string b.str] 25 (0, 0))
                  have hown4 := OwnQ.keep hown3 (nxAlloc (Below.refl _ _) (.cells #[.string a.str, .string b.str] 25 (0, 0)))
                  have hfar4 := hfar3.keep hg (nxAlloc (Below.refl _ _) (.cells #[.string a.str, .string b.str] 25 (0, 0)))
                  have hx := heap_alloc_at wr (.cells #[.string a.str, .string b.str] 25 (0, 0))
                  generalize wr.alloc (.cells #[.string a.str, .string b.str] 25 (0, 0)) = w4 at *
                  obtain ⟨hxa, hxb, hxc⟩ := two_facts hx
                  clear hbw3 hown3 hfar3 d1
                  refine wp_region_cls (by kernel_rfl) (by kernel_rfl) ?_
                  repeat (
                    refine wpQuiet_step (fun K hK => ?_)
                    go_simp
                    first
                      | (refine hK _ ?_; clear hK K)
                      | (refine ⟨_, fun _ _ => rfl, hK _ ?_⟩; clear hK K)
                      | (apply Exists.intro
                         refine ⟨fun w' hw' => ?_, hK _ ?_⟩
                         · first
                             | (go_at_call 88; exact hw'.call (RB' _))
                             | (go_at_call 68; exact hw'.call (HFP _ (nx hbw4 hw')))
                             | (rw [hw'.cell hxc hxa]; dsimp only [Result.andThen]; rw [hw'.cell hxc hxb]; exact ⟨rfl, rfl⟩)
                         clear hK K))
                  refine wpQuiet_nil ?_
                  intro w' hw'
                  have hx5 := heap_keep hw' hx
                  obtain ⟨hya, hyb, hyc⟩ := two_facts hx5
                  have hbw5 := nx hbw4 hw'
                  have hown5 := OwnQ.keep hown4 hw'
                  have hfar5 := hfar4.keep hg hw'
                  have hsz5 := hbw5.size
                  clear hx hx5 hxa hxb hxc hbw4 hown4 hfar4 hw'
                  generalize w' = w5 at *
                  unfold OwnQ OwnX at hown5
                  go_wp2_with (at_builtin; go_loud (refine wpList_append_own_at _ rfl _ _ 43 rfl w.heap.size 25 i0 (.agg #[.string ⟨#[]⟩, .string ⟨#[]⟩]) 2 32 Try.underlying43 hi hz0 hz1 hz2 rfl (by decide) _ _ _ rfl (hown5.alloc _) ⟨w5.heap.size, 0, none⟩ 1 1 [.string a.str, .string b.str] rfl rfl (newsQ _ #[.string a.str, .string b.str] _) (pr_one _ _) (by unfold maxLen; omega) (by omega) (by simp; omega) ?_); intro v' w9 hown' hgrow hnn hob)
                  have hba := nxAlloc (Below.refl w5.heap.size w5) (.cells #[.string a.str, .string b.str] 25 (0, 0))
                  have hfar9 := (hfar5.keep hg hba).grown hg hgrow hob
                  have hbw9 := (nxAlloc hbw5 (.cells #[.string a.str, .string b.str] 25 (0, 0))).grown hgrow (by simp; omega) (fun k hk => ownsRow_ge hown5 k hk)
                  have hown9 : OwnQ w.heap.size w9 v' (zs ++ [(a, b)]) := OwnQ.snoc7 hown'
                  have hfin : zs ++ [(a, b)] = ys ++ pickN want k a (j + 1) := by rw [HPN.out, HBE.out, ← HW1.out, hzs.out, List.append_assoc]; rfl
                  have HX := Lib.hid hfin
                  clear hown5 hown' hgrow hba hfar5 hbw5 hnn hob hfin
                  go_wp2_with fail
                  go_roundw
                  case rel => exact ⟨j + 1, _, by omega, by go_num, hown9, by simp; omega, HX, hbw9, hfar9⟩
                  case measure => simp [intOf]; omega
                | false =>
                  subst hWc
                  go_wp2_with fail
                  have hbw4 := nxAlloc hbw3 (.cells #[.string a.str, .string b.str] 25 (0, 0))
                  have hown4 := OwnQ.keep hown3 (nxAlloc (Below.refl _ _) (.cells #[.string a.str, .string b.str] 25 (0, 0)))
                  have hfar4 := hfar3.keep hg (nxAlloc (Below.refl _ _) (.cells #[.string a.str, .string b.str] 25 (0, 0)))
                  have hx := heap_alloc_at wr (.cells #[.string a.str, .string b.str] 25 (0, 0))
                  generalize wr.alloc (.cells #[.string a.str, .string b.str] 25 (0, 0)) = w4 at *
                  obtain ⟨hxa, hxb, hxc⟩ := two_facts hx
                  clear hbw3 hown3 hfar3 d1
                  refine wp_region_cls (by kernel_rfl) (by kernel_rfl) ?_
                  repeat (
                    refine wpQuiet_step (fun K hK => ?_)
                    go_simp
                    first
                      | (refine hK _ ?_; clear hK K)
                      | (refine ⟨_, fun _ _ => rfl, hK _ ?_⟩; clear hK K)
                      | (apply Exists.intro
                         refine ⟨fun w' hw' => ?_, hK _ ?_⟩
                         · first
                             | (go_at_call 88; exact hw'.call (RB' _))
                             | (go_at_call 68; exact hw'.call (HFP _ (nx hbw4 hw')))
                             | (rw [hw'.cell hxc hxa]; dsimp only [Result.andThen]; rw [hw'.cell hxc hxb]; exact ⟨rfl, rfl⟩)
                         clear hK K))
                  refine wpQuiet_nil ?_
                  intro w' hw'
                  have hx5 := heap_keep hw' hx
                  obtain ⟨hya, hyb, hyc⟩ := two_facts hx5
                  have hbw5 := nx hbw4 hw'
                  have hown5 := OwnQ.keep hown4 hw'
                  have hfar5 := hfar4.keep hg hw'
                  have hsz5 := hbw5.size
                  clear hx hx5 hxa hxb hxc hbw4 hown4 hfar4 hw'
                  generalize w' = w5 at *
                  have hfin : zs = ys ++ pickN want k a (j + 1) := by rw [HPN.out, HBE.out, ← HW1.out, hzs.out]; simp
                  have HX := Lib.hid hfin
                  clear hfin
                  go_wp2_with fail
                  go_roundw
                  case rel => exact ⟨j + 1, zs, by omega, by go_num, hown5, by omega, HX, hbw5, hfar5⟩
                  case measure => simp [intOf]; omega
              · have hbe : (both (a, b)).isEmpty = false := by
                  cases h : both (a, b) with
                  | nil => exact absurd (HRS.out.2 h) (fun e => e2 (by rw [e]))
                  | cons _ _ => rfl
                have HBE := Lib.hid hbe
                clear hbe HRS
                have e1' : R.1.str = a.str := by rw [e1]
                have e2' : ¬ R.2.str.toList = b.str.toList := e2
                have e3' : ¬ b.str.toList = R.2.str.toList := fun e => e2' e.symm
                have RB' : ∀ w, Calls Try.prog 88 #[.agg #[.string a.str, .string b.str], .func (Fn.func 89) #[] #[]] w (Gives (.agg #[.string a.str, .string R.2.str]) w) := fun w => by have h9 := RB w; rw [e1'] at h9; exact h9
                clear RB e1 e2 e1'
                go_wp2_with fail
                have hbw4 := nxAlloc hbw3 (.cells #[.string a.str, .string b.str] 25 (0, 0))
                have hown4 := OwnQ.keep hown3 (nxAlloc (Below.refl _ _) (.cells #[.string a.str, .string b.str] 25 (0, 0)))
                have hfar4 := hfar3.keep hg (nxAlloc (Below.refl _ _) (.cells #[.string a.str, .string b.str] 25 (0, 0)))
                have hx := heap_alloc_at wr (.cells #[.string a.str, .string b.str] 25 (0, 0))
                generalize wr.alloc (.cells #[.string a.str, .string b.str] 25 (0, 0)) = w4 at *
                obtain ⟨hxa, hxb, hxc⟩ := two_facts hx
                clear hbw3 hown3 hfar3 d1
                refine wp_region_cls (by kernel_rfl) (by kernel_rfl) ?_
                repeat (
                  refine wpQuiet_step (fun K hK => ?_)
                  go_simp
                  first
                    | (refine hK _ ?_; clear hK K)
                    | (refine ⟨_, fun _ _ => rfl, hK _ ?_⟩; clear hK K)
                    | (apply Exists.intro
                       refine ⟨fun w' hw' => ?_, hK _ ?_⟩
                       · first
                           | (go_at_call 88; exact hw'.call (RB' _))
                           | (go_at_call 68; exact hw'.call (HFP _ (nx hbw4 hw')))
                           | (rw [hw'.cell hxc hxa]; dsimp only [Result.andThen]; rw [hw'.cell hxc hxb]; exact ⟨rfl, rfl⟩)
                       clear hK K))
                refine wpQuiet_nil ?_
                intro w' hw'
                have hx5 := heap_keep hw' hx
                obtain ⟨hya, hyb, hyc⟩ := two_facts hx5
                have hbw5 := nx hbw4 hw'
                have hown5 := OwnQ.keep hown4 hw'
                have hfar5 := hfar4.keep hg hw'
                have hsz5 := hbw5.size
                clear hx hx5 hxa hxb hxc hbw4 hown4 hfar4 hw'
                generalize w' = w5 at *
                have hfin : zs = ys ++ pickN want k a (j + 1) := by rw [HPN.out, HBE.out, hzs.out]; simp
                have HX := Lib.hid hfin
                clear hfin
                go_wp2_with fail
                go_roundw
                case rel => exact ⟨j + 1, zs, by omega, by go_num, hown5, by omega, HX, hbw5, hfar5⟩
                case measure => simp [intOf]; omega
              · have hbe : (both (a, b)).isEmpty = false := by
                  cases h : both (a, b) with
                  | nil => exact absurd (HRS.out.2 h) (fun e => e1 (by rw [e]))
                  | cons _ _ => rfl
                have HBE := Lib.hid hbe
                clear hbe HRS
                have e2' : ¬ R.1.str.toList = a.str.toList := e1
                have e3' : ¬ a.str.toList = R.1.str.toList := fun e => e2' e.symm
                have RB' : ∀ w, Calls Try.prog 88 #[.agg #[.string a.str, .string b.str], .func (Fn.func 89) #[] #[]] w (Gives (.agg #[.string R.1.str, .string R.2.str]) w) := RB
                clear RB e1
                go_wp2_with fail
                have hbw4 := nxAlloc hbw3 (.cells #[.string a.str, .string b.str] 25 (0, 0))
                have hown4 := OwnQ.keep hown3 (nxAlloc (Below.refl _ _) (.cells #[.string a.str, .string b.str] 25 (0, 0)))
                have hfar4 := hfar3.keep hg (nxAlloc (Below.refl _ _) (.cells #[.string a.str, .string b.str] 25 (0, 0)))
                have hx := heap_alloc_at wr (.cells #[.string a.str, .string b.str] 25 (0, 0))
                generalize wr.alloc (.cells #[.string a.str, .string b.str] 25 (0, 0)) = w4 at *
                obtain ⟨hxa, hxb, hxc⟩ := two_facts hx
                clear hbw3 hown3 hfar3 d1
                refine wp_region_cls (by kernel_rfl) (by kernel_rfl) ?_
                repeat (
                  refine wpQuiet_step (fun K hK => ?_)
                  go_simp
                  first
                    | (refine hK _ ?_; clear hK K)
                    | (refine ⟨_, fun _ _ => rfl, hK _ ?_⟩; clear hK K)
                    | (apply Exists.intro
                       refine ⟨fun w' hw' => ?_, hK _ ?_⟩
                       · first
                           | (go_at_call 88; exact hw'.call (RB' _))
                           | (go_at_call 68; exact hw'.call (HFP _ (nx hbw4 hw')))
                           | (rw [hw'.cell hxc hxa]; dsimp only [Result.andThen]; rw [hw'.cell hxc hxb]; exact ⟨rfl, rfl⟩)
                       clear hK K))
                refine wpQuiet_nil ?_
                intro w' hw'
                have hx5 := heap_keep hw' hx
                obtain ⟨hya, hyb, hyc⟩ := two_facts hx5
                have hbw5 := nx hbw4 hw'
                have hown5 := OwnQ.keep hown4 hw'
                have hfar5 := hfar4.keep hg hw'
                have hsz5 := hbw5.size
                clear hx hx5 hxa hxb hxc hbw4 hown4 hfar4 hw'
                generalize w' = w5 at *
                have hfin : zs = ys ++ pickN want k a (j + 1) := by rw [HPN.out, HBE.out, hzs.out]; simp
                have HX := Lib.hid hfin
                clear hfin
                go_wp2_with fail
                go_roundw
                case rel => exact ⟨j + 1, zs, by omega, by go_num, hown5, by omega, HX, hbw5, hfar5⟩
                case measure => simp [intOf]; omega
            · obtain rfl : j = N := by omega
              have hy2 := hys.out
              have h2 : zs = xs ++ pickK want k (i + 1) := by rw [HPK.out, ← List.append_assoc, ← hy2, hzs.out, HN.out]
              have HX := Lib.hid h2
              clear hy2 h2 hzs
              go_wp2_with fail
              go_roundw
              case rel => exact ⟨i + 1, zs, by omega, by go_num, hown3, by omega, HX, hbw3, hfar3⟩
              case measure => simp [intOf]; omega
        · obtain rfl : i = N := by omega
          have h2 : ys = (smallN (k + 1)).filter want := by rw [hys.out, HN.out, pickK_all, smallN_succ, List.filter_append, ← hxs.out]
          have HX := Lib.hid h2
          clear h2 hys
          go_wp2_with fail
          go_roundw
          case rel => exact ⟨k + 1, ys, by omega, by go_num, hown2, by omega, HX, hbw2⟩
          case measure => simp [intOf]; omega
    · obtain rfl : k = n + 1 := by omega
      have HX := Lib.hid hxs.out
      clear hxs
      go_wp2_with fail
      go_ret
      exact ⟨_, by rw [← HX.out]; exact hown, hbw, rfl⟩
end Go.Proofs.Ytkpganpojdboeaa

/-! HeldW -/
namespace Go.Proofs.Ytkpganpojdboeaa
open Go.RowKit

section
variable {P : Program} {ops : Array Oper} {Q : Exit → Act → World → Prop} {md : Region.Mode}

theorem held_mono {S S' : World → Prop} (hSS : ∀ w, S' w → S w) : ∀ (fuel : Nat) (listed : Array Bool) (a : Act) (w : World),
    wpAnyH P md ops Q S' fuel listed a w → wpAnyH P md ops Q S fuel listed a w
  | 0, _, _, _, h => h
  | fuel + 1, _, _, _, h => ⟨h.1, fun i hi => wpOp_mono (fun a' w' h' => ⟨hSS _ h'.1, held_mono hSS fuel _ a' w' h'.2⟩) (h.2 i hi)⟩

/-- One operation alone may come up; behind it the condition may be another one. -/
theorem held_one {S : World → Prop} {fuel : Nat} {listed : Array Bool} {a : Act} {w : World} (i : Nat) {o : Oper} (ho : ops[i]? = some o) (hr : Region.ready md ops listed = [i])
    (h : ∀ K' : Act → World → Prop, Shut (∀ (S' : World → Prop) a w, (∀ w, S' w → S w) → S' w → wpAnyH P md ops Q S' fuel (listed.setIfInBounds i true) a w → K' a w) → if Region.wanted o (yielded ops a.tmps) = true then Oper.wp P o a w K' Q else K' (a.put o.dst undef) w) :
    wpAnyH P md ops Q S (fuel + 1) listed a w :=
  wpAnyH_ready hr (by simp) (AllReadyH.cons ho (fun K hK => h K (fun _ a w hSS hS hW => hK.out a w (hSS _ hS) (fun _ => held_mono hSS _ _ _ _ hW))) AllReadyH.nil)
/-- Two operations may come up, whichever first. -/
theorem held_two {S : World → Prop} {fuel : Nat} {listed : Array Bool} {a : Act} {w : World} (i j : Nat) {oi oj : Oper} (hoi : ops[i]? = some oi) (hoj : ops[j]? = some oj) (hr : Region.ready md ops listed = [i, j])
    (h : ∀ K' : Act → World → Prop, Shut (∀ (S' : World → Prop) a w, (∀ w, S' w → S w) → S' w → wpAnyH P md ops Q S' fuel (listed.setIfInBounds i true) a w → K' a w) → if Region.wanted oi (yielded ops a.tmps) = true then Oper.wp P oi a w K' Q else K' (a.put oi.dst undef) w)
    (k : ∀ K' : Act → World → Prop, Shut (∀ (S' : World → Prop) a w, (∀ w, S' w → S w) → S' w → wpAnyH P md ops Q S' fuel (listed.setIfInBounds j true) a w → K' a w) → if Region.wanted oj (yielded ops a.tmps) = true then Oper.wp P oj a w K' Q else K' (a.put oj.dst undef) w) :
    wpAnyH P md ops Q S (fuel + 1) listed a w :=
  wpAnyH_ready hr (by simp) (AllReadyH.cons hoi (fun K hK => h K (fun _ a w hSS hS hW => hK.out a w (hSS _ hS) (fun _ => held_mono hSS _ _ _ _ hW)))
    (AllReadyH.cons hoj (fun K hK => k K (fun _ a w hSS hS hW => hK.out a w (hSS _ hS) (fun _ => held_mono hSS _ _ _ _ hW))) AllReadyH.nil))
end
end Go.Proofs.Ytkpganpojdboeaa

/-! Src -/
namespace Go.Proofs.Ytkpganpojdboeaa
open Go.RowKit

theorem CellsS.form0 {b1 : Nat} {w : World} {v : Value} {xs : List ByteArray} (h : CellsS b1 w v xs) :
    ∃ oa cap, v = .slice oa xs.length cap ∧ xs.length ≤ cap ∧ cap ≤ maxLen ∧ ∀ i, i < xs.length → ∃ g, oa = some ⟨g, 0, none⟩ ∧ b1 ≤ g ∧ g < w.heap.size ∧ w.cell? ⟨g, i, none⟩ = some (.string (xs.getD i ⟨#[]⟩)) := by
  rcases h with ⟨rfl, rfl⟩ | ⟨g, cap, rfl, h1, h2, h3, h4, h5, _⟩
  · exact ⟨none, 0, rfl, Nat.le_refl _, Nat.zero_le _, fun i hi => by simp at hi⟩
  · exact ⟨some ⟨g, 0, none⟩, cap, rfl, h3, h4, fun i hi => ⟨g, rfl, h1, h2, h5 i hi⟩⟩

theorem CellsS.at1 {b1 : Nat} {w : World} {g n cap : Nat} {ss : List ByteArray} (h : CellsS b1 w (.slice (some ⟨g, 0, none⟩) n cap) ss) {i : Nat} {t : ByteArray} (hi : ss[i]? = some t) : w.cell? ⟨g, i, none⟩ = some (.string t) := by
  rcases h with ⟨h, _⟩ | ⟨g', cap', h, _, _, _, _, hc, _⟩
  · cases h
  · cases h
    have hl := (List.getElem?_eq_some_iff.1 hi).1
    rw [hc i hl]
    simp [List.getD_eq_getElem?_getD, hi]

/-- A slice value from which the cells ys can be read. -/
def SrcV (w : World) (u : Value) (ys : List Value) : Prop :=
  (u = .slice none 0 0 ∧ ys = []) ∨ ∃ ad c, u = .slice (some ad) ys.length c ∧ ∀ j x, ys[j]? = some x → w.cell? (ad.add j) = some x

theorem SrcV.keep {w w' : World} {u : Value} {ys : List Value} (h : SrcV w u ys) (hb : Below w.heap.size w w') : SrcV w' u ys := by
  rcases h with h | ⟨ad, c, h1, h2⟩
  · exact .inl h
  · refine .inr ⟨ad, c, h1, fun j x hj => ?_⟩
    have hc := h2 j x hj
    exact (hb.cell (World.block_lt_of_cell? w _ hc)).trans hc

theorem wpList_appSrc {P : Program} {w : World} {ops : Array Oper} {rest : List Oper} {o : Oper} {a : Act} {Q : Exit → Act → World → Prop} (hgd : o.guard = none) (s x : Operand) (t : TypeId)
    (ho : o.op = .call { callee := .builtin .append, args := #[s, x], argTypes := #[t, t] })
    (base : Nat) (e : TypeId) (i : TypeInfo) (z : Value) (bytes : Nat) (ht : P.underlying t = some (.slice e)) (hi : P.info? e = some i) (hz : i.zero = some z)
    (hsize : i.size = 1) (hby : i.bytes = bytes) (hzs : z.cells.size = 1)
    (v : Value) (n : Nat) (xs : List Value) (hs : a.eval s = v) (hown : w.ownsRow base e 1 v n xs)
    (u : Value) (ys : List Value) (hx : a.eval x = u) (hsrc : SrcV w u ys) (h1 : ∀ y ∈ ys, y.oneCell' = true)
    (h63 : n + ys.length ≤ maxLen) (hbytes : (n + ys.length) * bytes ≤ 140737488355328) (hbase : base ≤ w.heap.size)
    (h : ∀ v' w', w'.ownsRow base e 1 v' (n + ys.length) (xs ++ ys) → Below base w w' → (v' = .slice none 0 0 → v = .slice none 0 0) → wpList P ops Q rest (a.put o.dst v') w') : wpList P ops Q (o :: rest) a w := by
  rcases hsrc with ⟨rfl, rfl⟩ | ⟨ad, c, rfl, hc⟩
  · refine wpList_append_own_none hgd s x t ho base e i 1 ht hi v n xs hs hown hx ?_
    exact h v w (by simpa using hown) (Below.refl _ _) id
  · refine wpList_append_own w hgd s x t ho base e i z 1 bytes ht hi hz hsize hby hzs (by decide) v n xs hs hown ad ys.length c ys hx (by simp) hc h1 h63 hbytes hbase ?_
    intro v' w' hown' hg hn
    exact h v' w' hown' ((Below.refl base w).grown hg hbase (fun k hk => ownsRow_ge hown k hk)) (fun e => (hn.1 e).1)

theorem row_shape {w : World} {base : Nat} {e : TypeId} {size : Nat} {v : Value} {n : Nat} {xs : List Value} (h : w.ownsRow base e size v n xs) (hn : v ≠ .slice none 0 0) : ∃ g cap, v = .slice (some ⟨g, 0, none⟩) n cap ∧ base ≤ g := by
  rcases h.2 with ⟨hv, _⟩ | ⟨g, cap, cur, hv, hb, _⟩
  · exact absurd hv hn
  · exact ⟨g, cap, hv, hb⟩

/-- An empty slice in a block of its own. -/
theorem ownsRow_empty (w : World) (e : TypeId) : (w.alloc (.cells #[] e (0, 0))).ownsRow w.heap.size e 1 (.slice (some ⟨w.heap.size, 0, none⟩) 0 0) 0 [] :=
  World.ownsRow_made w #[] 0 (Nat.le_refl _) (Nat.zero_le _) rfl

/-- The parts of a slice of the call's own, as sources. -/
theorem src_take {base : Nat} {w : World} {e : TypeId} {g n cap : Nat} {xs : List Value} (h : w.ownsRow base e 1 (.slice (some ⟨g, 0, none⟩) n cap) n xs) (k : Nat) (hk : k ≤ n) (c : Nat) : SrcV w (.slice (some ⟨g, 0, none⟩) k c) (xs.take k) := by
  have hl := h.1
  refine .inr ⟨_, c, by rw [List.length_take]; congr 1; omega, fun j x hj => ?_⟩
  have hj' := (List.getElem?_eq_some_iff.1 hj).1
  rw [List.length_take] at hj'
  rw [List.getElem?_take_of_lt (by omega)] at hj
  rw [addr_add, World.ownsRow.cellAt h j (by omega)]
  exact hj
theorem src_drop {base : Nat} {w : World} {e : TypeId} {g n cap : Nat} {xs : List Value} (h : w.ownsRow base e 1 (.slice (some ⟨g, 0, none⟩) n cap) n xs) (k : Nat) (hk : k ≤ n) (c : Nat) : SrcV w (.slice (some ⟨g, k, none⟩) (n - k) c) (xs.drop k) := by
  have hl := h.1
  refine .inr ⟨_, c, by rw [List.length_drop]; congr 1; omega, fun j x hj => ?_⟩
  have hj' := (List.getElem?_eq_some_iff.1 hj).1
  rw [List.length_drop] at hj'
  rw [List.getElem?_drop] at hj
  have ea : (⟨g, k, none⟩ : Addr).add j = ⟨g, k + j, none⟩ := by
    unfold Addr.add
    split
    · next h0 => rw [h0]; simp
    · rfl
  rw [ea, World.ownsRow.cellAt h (k + j) (by omega)]
  exact hj
theorem src_cells {b1 : Nat} {w : World} {g n cap : Nat} {xs : List ByteArray} (h : CellsS b1 w (.slice (some ⟨g, 0, none⟩) n cap) xs) (k : Nat) (hk : k ≤ xs.length) (c : Nat) : SrcV w (.slice (some ⟨g, 0, none⟩) k c) ((xs.take k).map Value.string) := by
  rcases h with ⟨h, _⟩ | ⟨g', cap', h, _, _, _, _, hc, _⟩
  · cases h
  · cases h
    refine .inr ⟨_, c, by rw [List.length_map, List.length_take]; congr 1; omega, fun j x hj => ?_⟩
    have hj' := (List.getElem?_eq_some_iff.1 hj).1
    rw [List.length_map, List.length_take] at hj'
    rw [List.getElem?_map, List.getElem?_take_of_lt (by omega), List.getElem?_eq_getElem (by omega)] at hj
    have hx := hc j (by omega)
    rw [List.getD_eq_getElem?_getD, List.getElem?_eq_getElem (by omega)] at hx
    rw [addr_add, hx]
    exact hj
theorem src_end {w : World} (a : Option Addr) (c : Nat) (h : a = none → c = 0) : SrcV w (.slice a 0 c) [] := by
  cases a with
  | none => rw [h rfl]; exact .inl ⟨rfl, rfl⟩
  | some ad => exact .inr ⟨ad, c, rfl, fun j x hj => by simp at hj⟩
end Go.Proofs.Ytkpganpojdboeaa

/-! Ls1 -/
namespace Go.Proofs.Ytkpganpojdboeaa
open Go.RowKit

/-- A slice of texts, from whatever place in its block on. -/
def ReadS (base : Nat) (w : World) (v : Value) (ss : List ByteArray) : Prop :=
  ∃ oa cap, v = .slice oa ss.length cap ∧ ss.length ≤ cap ∧ cap ≤ maxLen ∧ ∀ i, i < ss.length → ∃ g q, oa = some ⟨g, q, none⟩ ∧ base ≤ g ∧ g < w.heap.size ∧ w.cell? ⟨g, q + i, none⟩ = some (.string (ss.getD i ⟨#[]⟩))
theorem ReadS.mono {base base' : Nat} {w : World} {v : Value} {ss : List ByteArray} (h : ReadS base w v ss) (hb : base' ≤ base) : ReadS base' w v ss := by
  obtain ⟨oa, cap, h1, h2, h3, h4⟩ := h
  refine ⟨oa, cap, h1, h2, h3, fun i hi => ?_⟩
  obtain ⟨g, q, e, k, r⟩ := h4 i hi
  exact ⟨g, q, e, Nat.le_trans hb k, r⟩
theorem ReadS.keep {base : Nat} {w w' : World} {v : Value} {ss : List ByteArray} (h : ReadS base w v ss) (hb : Below w.heap.size w w') : ReadS base w' v ss := by
  obtain ⟨oa, cap, h1, h2, h3, h4⟩ := h
  refine ⟨oa, cap, h1, h2, h3, fun i hi => ?_⟩
  obtain ⟨g, q, e, k, hg, hc⟩ := h4 i hi
  exact ⟨g, q, e, k, Nat.lt_of_lt_of_le hg hb.size, (hb.cell (p := ⟨g, q + i, none⟩) hg).trans hc⟩
theorem CellsS.read {b : Nat} {w : World} {v : Value} {ss : List ByteArray} (h : CellsS b w v ss) : ReadS b w v ss := by
  rcases h with ⟨rfl, rfl⟩ | ⟨g, cap, rfl, hb, h2, h3, h4, h5, _⟩
  · exact ⟨none, 0, rfl, Nat.le_refl _, Nat.zero_le _, fun i hi => by simp at hi⟩
  · exact ⟨_, cap, rfl, h3, h4, fun i hi => ⟨g, 0, rfl, hb, h2, by rw [Nat.zero_add]; exact h5 i hi⟩⟩
/-- Texts in their order, none twice. -/
def IncS (ss : List ByteArray) : Prop := ∀ i j, i < j → j < ss.length → Go.Op.bytesLess (ss.getD i ⟨#[]⟩).toList (ss.getD j ⟨#[]⟩).toList = true
theorem bytesLess_irr : ∀ l : List UInt8, Go.Op.bytesLess l l = false := by
  intro l
  induction l with
  | nil => rfl
  | cons a l ih => simp [Go.Op.bytesLess, ih]
theorem IncS.ne {ss : List ByteArray} (h : IncS ss) {i j : Nat} (hi : i < j) (hj : j < ss.length) : ¬ (ss.getD i ⟨#[]⟩).toList = (ss.getD j ⟨#[]⟩).toList := by
  intro e
  have h1 := h i j hi hj
  rw [e, bytesLess_irr] at h1
  cases h1
def GivesRead (base : Nat) (ss : List ByteArray) (w : World) (e : Ending) (w' : World) : Prop := ∃ v, ReadS base w' v ss ∧ Below w.heap.size w w' ∧ e = .returned v
theorem take_getD {ss : List ByteArray} {h i : Nat} (hi : i < h) (_hh : h ≤ ss.length) : (ss.take h).getD i ⟨#[]⟩ = ss.getD i ⟨#[]⟩ := by
  simp [List.getD_eq_getElem?_getD, hi]
theorem drop_getD {ss : List ByteArray} (h i : Nat) : (ss.drop h).getD i ⟨#[]⟩ = ss.getD (h + i) ⟨#[]⟩ := by
  simp [List.getD_eq_getElem?_getD]
theorem IncS.take {ss : List ByteArray} (h : IncS ss) {k : Nat} (hk : k ≤ ss.length) : IncS (ss.take k) := by
  intro i j hi hj
  rw [List.length_take] at hj
  rw [take_getD (by omega) hk, take_getD (by omega) hk]
  exact h i j hi (by omega)
theorem IncS.drop {ss : List ByteArray} (h : IncS ss) (k : Nat) : IncS (ss.drop k) := by
  intro i j hi hj
  rw [List.length_drop] at hj
  rw [drop_getD, drop_getD]
  exact h _ _ (by omega) (by omega)
theorem take_snocS {ss : List ByteArray} {k : Nat} (h : k < ss.length) : ss.take (k + 1) = ss.take k ++ [ss.getD k ⟨#[]⟩] := by
  rw [List.take_succ_eq_append_getElem h]; simp [h]
theorem one_str7 (s : ByteArray) : ∀ u ∈ [Value.string s], u.oneCell' = true := by intro u hu; simp at hu; subst hu; rfl
theorem OwnS.one5 {base : Nat} {w : World} {v : Value} {xs : List ByteArray} {m : ByteArray} (h : w.ownsRow base 9 1 v (xs.length + 1) (xs.map Value.string ++ [Value.string m])) : OwnS base w v (xs ++ [m]) := by
  unfold OwnS
  rw [List.map_append, List.length_append]
  exact h

set_option maxRecDepth 100000 in
set_option maxHeartbeats 8000000 in
theorem lnSorted_any (base : Nat) : ∀ (n : Nat) (ss : List ByteArray), ss.length = n → n ≤ 1000 → IncS ss → ∀ (v : Value) (w : World), base ≤ w.heap.size → ReadS base w v ss →
    Calls Try.prog 98 #[v] w (GivesRead base ss w) := by
  obtain ⟨i0, hi, hz0, hz1, hz2⟩ := info_parts info_str
  intro n
  induction n using Nat.strongRecOn with
  | _ n IH =>
    intro ss hn hn9 hinc v w hbs hv
    by_cases h2 : n < 2
    · have hv0 := Lib.hid hv
      obtain ⟨oa, cap, rfl, h3, h4, h5⟩ := hv
      rw [hn] at h3 hv0 ⊢
      have hlt : (n : Int) < 2 := by omega
      clear h5 hinc IH
      have HN := Lib.hid hn
      clear hn
      go_enter Try.func98, Try.ntmps98
      go_wp2_with fail
      go_ret
      exact ⟨_, hv0.out, Below.refl _ _, rfl⟩
    · have hlt : ¬ (n : Int) < 2 := by omega
      obtain ⟨h, hh⟩ : ∃ h, h = n / 2 := ⟨_, rfl⟩
      have hh1 : 1 ≤ h := by omega
      have hh2 : h < n := by omega
      have eq2 : (n : Int).tdiv 2 = (h : Int) := by rw [hh, Int.tdiv_eq_ediv_of_nonneg (by omega)]; omega
      have hwr : IntKind.i64.wrap (h : Int) = (h : Int) := by rw [IntKind.wrap_i64]; omega
      have R1 : ∀ v w, base ≤ w.heap.size → ReadS base w v (ss.take h) → Calls Try.prog 98 #[v] w (GivesRead base (ss.take h) w) := fun v w hb hv => IH h (by omega) (ss.take h) (by rw [List.length_take]; omega) (by omega) (hinc.take (by omega)) v w hb hv
      have R2 : ∀ v w, base ≤ w.heap.size → ReadS base w v (ss.drop h) → Calls Try.prog 98 #[v] w (GivesRead base (ss.drop h) w) := fun v w hb hv => IH (n - h) (by omega) (ss.drop h) (by rw [List.length_drop]; omega) (by omega) (hinc.drop h) v w hb hv
      clear IH
      obtain ⟨oa, cap, rfl, h3, h4, h5⟩ := hv
      obtain ⟨g, q, rfl, hbg, hg, _⟩ := h5 0 (by omega)
      have V1 : ReadS base w (.slice (some ⟨g, q, none⟩) h cap) (ss.take h) := ⟨_, cap, by rw [List.length_take, Nat.min_eq_left (by omega)], by rw [List.length_take]; omega, h4, fun i hi => by
        rw [List.length_take] at hi
        obtain ⟨g', q', e, hk', hg', hc⟩ := h5 i (by omega)
        exact ⟨g', q', e, hk', hg', by rw [take_getD (by omega) (by omega)]; exact hc⟩⟩
      have V2 : ReadS base w (.slice (some ⟨g, q + h, none⟩) (n - h) (cap - h)) (ss.drop h) := ⟨_, cap - h, by rw [List.length_drop, hn], by rw [List.length_drop]; omega, by omega, fun i hi => by
        rw [List.length_drop] at hi
        obtain ⟨g', q', e, hk', hg', hc⟩ := h5 (h + i) (by omega)
        injection e with e
        injection e with e1 e2
        subst e1 e2
        exact ⟨g, q + h, rfl, hk', hg', by rw [drop_getD, Nat.add_assoc]; exact hc⟩⟩
      rw [hn] at h3 ⊢
      unfold maxLen at h4
      have HV1 := Lib.hid V1
      have HV2 := Lib.hid V2
      have HN := Lib.hid hn
      have HI := Lib.hid hinc
      have hcn : ¬ cap = h := by omega
      have hch : (h : Int) ≤ (cap : Int) := by omega
      have h0h : (0 : Int) ≤ (h : Int) := by omega
      have h63 : (n : Int) ≤ 1000 := by omega
      have hh3 : (h : Int) ≤ (n : Int) := by omega
      clear V1 V2 hn hinc h5 hh
      go_enter Try.func98, Try.ntmps98
      go_wp2_with fail
      have hzr := Below.refl w.heap.size w
      refine wp_region_held_drew (S := (fun w' : World => 0 ≤ w'.heap.size)) (by kernel_rfl) (Nat.zero_le _) (fun hH0 => ?_)
      refine wpAnyH_take (i := 0) (oi := ?oi201) (v := ?vv201) ?hi201 ?hn201 ?hf201 ?hr201 ?hq201 (Or.inl ⟨?hg201, ?hy201⟩) hH0 ?rest201
      case hi201 => (simp only [List.getElem?_toArray, List.getElem?_cons_zero]; rfl)
      case hn201 => kernel_rfl
      case hf201 => kernel_rfl
      case hr201 => kernel_rfl
      case hg201 => rfl
      case hy201 => (intro w hSw; (try dsimp only at hSw); go_simp; first | done | with_reducible rfl)
      case hq201 => exact fun _ _ _ h => h
      try dsimp only [Act.put]
      refine wpAnyH_take (i := 1) (oi := ?oi202) (v := ?vv202) ?hi202 ?hn202 ?hf202 ?hr202 ?hq202 (Or.inl ⟨?hg202, ?hy202⟩) hH0 ?rest202
      case hi202 => (simp only [List.getElem?_toArray, List.getElem?_cons_succ, List.getElem?_cons_zero]; rfl)
      case hn202 => kernel_rfl
      case hf202 => kernel_rfl
      case hr202 => kernel_rfl
      case hg202 => rfl
      case hy202 => (intro w hSw; (try dsimp only at hSw); go_simp; first | done | with_reducible rfl)
      case hq202 => exact fun _ _ _ h => h
      try dsimp only [Act.put]
      refine wpAnyH_take (i := 2) (oi := ?oi203) (v := ?vv203) ?hi203 ?hn203 ?hf203 ?hr203 ?hq203 (Or.inl ⟨?hg203, ?hy203⟩) hH0 ?rest203
      case hi203 => (simp only [List.getElem?_toArray, List.getElem?_cons_succ, List.getElem?_cons_zero]; rfl)
      case hn203 => kernel_rfl
      case hf203 => kernel_rfl
      case hr203 => kernel_rfl
      case hg203 => rfl
      case hy203 => (intro w hSw; (try dsimp only at hSw); go_simp; first | done | with_reducible rfl)
      case hq203 => exact fun _ _ _ h => h
      try dsimp only [Act.put]
      refine wpAnyH_take (i := 3) (oi := ?oi204) (v := ?vv204) ?hi204 ?hn204 ?hf204 ?hr204 ?hq204 (Or.inl ⟨?hg204, ?hy204⟩) hH0 ?rest204
      case hi204 => (simp only [List.getElem?_toArray, List.getElem?_cons_succ, List.getElem?_cons_zero]; rfl)
      case hn204 => kernel_rfl
      case hf204 => kernel_rfl
      case hr204 => kernel_rfl
      case hg204 => rfl
      case hy204 => (intro w hSw; (try dsimp only at hSw); go_simp; first | done | with_reducible rfl)
      case hq204 => exact fun _ _ _ h => h
      try dsimp only [Act.put]
      refine wpAnyH_take (i := 4) (oi := ?oi205) (v := ?vv205) ?hi205 ?hn205 ?hf205 ?hr205 ?hq205 (Or.inl ⟨?hg205, ?hy205⟩) hH0 ?rest205
      case hi205 => (simp only [List.getElem?_toArray, List.getElem?_cons_succ, List.getElem?_cons_zero]; rfl)
      case hn205 => kernel_rfl
      case hf205 => kernel_rfl
      case hr205 => kernel_rfl
      case hg205 => rfl
      case hy205 => (intro w hSw; (try dsimp only at hSw); go_simp; first | done | with_reducible rfl)
      case hq205 => exact fun _ _ _ h => h
      try dsimp only [Act.put]
      refine wpAnyH_take (i := 6) (oi := ?oi206) (v := ?vv206) ?hi206 ?hn206 ?hf206 ?hr206 ?hq206 (Or.inl ⟨?hg206, ?hy206⟩) hH0 ?rest206
      case hi206 => (simp only [List.getElem?_toArray, List.getElem?_cons_succ, List.getElem?_cons_zero]; rfl)
      case hn206 => kernel_rfl
      case hf206 => kernel_rfl
      case hr206 => kernel_rfl
      case hg206 => rfl
      case hy206 => (intro w hSw; (try dsimp only at hSw); go_simp; first | done | with_reducible rfl)
      case hq206 => exact fun _ _ _ h => h
      try dsimp only [Act.put]
      refine wpAnyH_take (i := 7) (oi := ?oi207) (v := ?vv207) ?hi207 ?hn207 ?hf207 ?hr207 ?hq207 (Or.inl ⟨?hg207, ?hy207⟩) hH0 ?rest207
      case hi207 => (simp only [List.getElem?_toArray, List.getElem?_cons_succ, List.getElem?_cons_zero]; rfl)
      case hn207 => kernel_rfl
      case hf207 => kernel_rfl
      case hr207 => kernel_rfl
      case hg207 => rfl
      case hy207 => (intro w hSw; (try dsimp only at hSw); go_simp; first | done | with_reducible rfl)
      case hq207 => exact fun _ _ _ h => h
      try dsimp only [Act.put]
      refine wpAnyH_take (i := 8) (oi := ?oi208) (v := ?vv208) ?hi208 ?hn208 ?hf208 ?hr208 ?hq208 (Or.inl ⟨?hg208, ?hy208⟩) hH0 ?rest208
      case hi208 => (simp only [List.getElem?_toArray, List.getElem?_cons_succ, List.getElem?_cons_zero]; rfl)
      case hn208 => kernel_rfl
      case hf208 => kernel_rfl
      case hr208 => kernel_rfl
      case hg208 => rfl
      case hy208 => (intro w hSw; (try dsimp only at hSw); go_simp; first | done | with_reducible rfl)
      case hq208 => exact fun _ _ _ h => h
      try dsimp only [Act.put]
      refine wpAnyH_take (i := 9) (oi := ?oi209) (v := ?vv209) ?hi209 ?hn209 ?hf209 ?hr209 ?hq209 (Or.inl ⟨?hg209, ?hy209⟩) hH0 ?rest209
      case hi209 => (simp only [List.getElem?_toArray, List.getElem?_cons_succ, List.getElem?_cons_zero]; rfl)
      case hn209 => kernel_rfl
      case hf209 => kernel_rfl
      case hr209 => kernel_rfl
      case hg209 => rfl
      case hy209 => (intro w hSw; (try dsimp only at hSw); go_simp; first | done | with_reducible rfl)
      case hq209 => exact fun _ _ _ h => h
      try dsimp only [Act.put]
      refine wpAnyH_take (i := 10) (oi := ?oi210) (v := ?vv210) ?hi210 ?hn210 ?hf210 ?hr210 ?hq210 (Or.inl ⟨?hg210, ?hy210⟩) hH0 ?rest210
      case hi210 => (simp only [List.getElem?_toArray, List.getElem?_cons_succ, List.getElem?_cons_zero]; rfl)
      case hn210 => kernel_rfl
      case hf210 => kernel_rfl
      case hr210 => kernel_rfl
      case hg210 => rfl
      case hy210 => (intro w hSw; (try dsimp only at hSw); go_simp; first | done | with_reducible rfl)
      case hq210 => exact fun _ _ _ h => h
      try dsimp only [Act.put]
      refine held_one 5 rfl (by kernel_rfl) (fun K hK => ?_)
      go_simp
      refine (R1 _ _ (Nat.le_trans hbs hzr.drew.size) (ReadS.keep HV1.out hzr.drew)).mono ?_; rintro e w21 ⟨va, ra, hb21, rfl⟩
      have hb21' := nx hzr.drew hb21
      go_wp2_with fail
      have hH1 : (fun w' : World => 0 ≤ w'.heap.size) _ := Nat.zero_le w21.heap.size
      refine hK.out (fun w' : World => 0 ≤ w'.heap.size) _ _ (fun _ h => h) hH1 ?_
      clear hK K
      try dsimp only [Act.put]
      refine held_one 11 rfl (by kernel_rfl) (fun K hK => ?_)
      go_simp
      refine (R2 _ _ (Nat.le_trans hbs hb21'.size) (ReadS.keep HV2.out hb21')).mono ?_; rintro e w22 ⟨vb, rb, hb22, rfl⟩
      have hb22' := nx hb21' hb22
      replace ra := ReadS.keep ra hb22
      go_wp2_with fail
      have hH2 : (fun w' : World => 0 ≤ w'.heap.size) _ := Nat.zero_le w22.heap.size
      refine hK.out (fun w' : World => 0 ≤ w'.heap.size) _ _ (fun _ h => h) hH2 ?_
      clear hK K
      try dsimp only [Act.put]
      refine wpAnyH_take (i := 12) (oi := ?oi211) (v := ?vv211) ?hi211 ?hn211 ?hf211 ?hr211 ?hq211 (Or.inl ⟨?hg211, ?hy211⟩) hH2 ?rest211
      case hi211 => (simp only [List.getElem?_toArray, List.getElem?_cons_succ, List.getElem?_cons_zero]; rfl)
      case hn211 => kernel_rfl
      case hf211 => kernel_rfl
      case hr211 => kernel_rfl
      case hg211 => rfl
      case hy211 => (intro w hSw; (try dsimp only at hSw); go_simp; first | done | with_reducible rfl)
      case hq211 => exact fun _ _ _ h => h
      try dsimp only [Act.put]
      refine wpAnyH_take (i := 13) (oi := ?oi212) (v := ?vv212) ?hi212 ?hn212 ?hf212 ?hr212 ?hq212 (Or.inl ⟨?hg212, ?hy212⟩) hH2 ?rest212
      case hi212 => (simp only [List.getElem?_toArray, List.getElem?_cons_succ, List.getElem?_cons_zero]; rfl)
      case hn212 => kernel_rfl
      case hf212 => kernel_rfl
      case hr212 => kernel_rfl
      case hg212 => rfl
      case hy212 => (intro w hSw; (try dsimp only at hSw); go_simp; first | done | with_reducible rfl)
      case hq212 => exact fun _ _ _ h => h
      try dsimp only [Act.put]
      refine wpAnyH_done (by kernel_rfl) ?_ _
      simp only [List.setIfInBounds_toArray, List.set_cons_zero, List.set_cons_succ]
      obtain ⟨oa1, c1, rfl, p1, p2, p3⟩ := ra
      obtain ⟨oa2, c2, rfl, p4, p5, p6⟩ := rb
      have el1 : (ss.take h).length = h := by rw [List.length_take]; have := HN.out; omega
      have el2 : (ss.drop h).length = n - h := by rw [List.length_drop, HN.out]
      rw [el1] at p1 p3 ⊢
      rw [el2] at p4 p6 ⊢
      unfold maxLen at p2 p5
      have HA := Lib.hid p3
      have HB := Lib.hid p6
      obtain ⟨m, hm⟩ : ∃ m, m = n - h := ⟨_, rfl⟩
      rw [← hm] at p4 ⊢
      have hm1 : h + m = n := by omega
      have HM := Lib.hid hm
      clear hm p3 p6 el1 el2 hb21 hb22 hb21' hzr R1 R2 HV1 HV2 h3 h4 hcn hch hwr eq2
      go_wp2_with fail
      go_loopw [5, 6, 7] (fun u i j wr => ∃ a b : Nat, a ≤ h ∧ b ≤ m ∧ (b = 0 ∨ a = h) ∧ i = .int .i64 (a : Int) ∧ j = .int .i64 (b : Int) ∧ OwnS w22.heap.size wr u (ss.take (a + b)) ∧ Below w22.heap.size w22 wr ∧ (a + b = 0 → u = .slice none 0 0)) (fun _ i j _ => n - ((intOf i).toNat + (intOf j).toNat))
      case atStart => exact ⟨0, 0, Nat.zero_le _, Nat.zero_le _, .inl rfl, rfl, rfl, OwnS.nil _ _, Below.refl _ _, fun _ => rfl⟩
      case round =>
        obtain ⟨a, b, ha, hb, hab, rfl, rfl, hown, hbw, hu0⟩ := hrel
        by_cases hlt1 : a < h
        · obtain rfl : b = 0 := by omega
          obtain ⟨g1, q1, rfl, _, hg1, a1⟩ := HA.out a hlt1
          obtain ⟨g2, q2, rfl, _, hg2, b1⟩ := HB.out 0 (by rw [← HM.out]; omega)
          have k1 := (hbw.cell (p := ⟨g1, q1 + a, none⟩) hg1).trans a1
          have k2 := (hbw.cell (p := ⟨g2, q2 + 0, none⟩) hg2).trans b1
          rw [take_getD hlt1 (by rw [HN.out]; omega)] at k1
          rw [drop_getD] at k2
          simp only [Nat.add_zero] at k1 k2 hown
          have hless := HI.out a h hlt1 (by rw [HN.out]; omega)
          have hsn := take_snocS (ss := ss) (k := a) (by rw [HN.out]; omega)
          have htl : (ss.take a).length = a := by rw [List.length_take]; have := HN.out; omega
          have HTL := Lib.hid htl
          have HSN := Lib.hid hsn
          have hi1 : (a : Int) < (h : Int) := by omega
          have hm0 : 0 < m := by omega
          have hj1 : ¬ (0 : Int) = (m : Int) := by omega
          clear a1 b1 hsn htl
          rcases Nat.eq_zero_or_pos a with rfl | hpos
          · have hgr1 : g1 < wr.heap.size := Nat.lt_of_lt_of_le hg1 hbw.size
            have hgr2 : g2 < wr.heap.size := Nat.lt_of_lt_of_le hg2 hbw.size
            simp only [Nat.add_zero] at k1
            obtain rfl := hu0 rfl
            obtain ⟨X, hX⟩ : ∃ X, X = ss.getD 0 ⟨#[]⟩ := ⟨_, rfl⟩
            obtain ⟨Y, hY⟩ : ∃ Y, Y = ss.getD h ⟨#[]⟩ := ⟨_, rfl⟩
            have hsn := HSN.out
            rw [← hX] at k1 hless hsn
            rw [← hY] at k2 hless
            have HSX := Lib.hid hsn
            have hle : ∀ w, (binOp BinOp.leq 9 (.string X) (.string Y)).run Try.prog w = .ok (.bool true) w := fun w => by
              have e : (binOp BinOp.leq 9 (.string X) (.string Y)).run Try.prog w = .ok (.bool (Go.Op.bytesLess X.toList Y.toList || X.toList == Y.toList)) w := rfl
              rw [e, hless]
              rfl
            clear hsn hless hY HSN
            clear hX
            go_wp2_with fail
            refine wp_region_cls (by kernel_rfl) (by kernel_rfl) ?_
            repeat (
              refine wpQuiet_step (fun K hK => ?_)
              go_simp
              first
                | (refine hK _ ?_; clear hK K)
                | (refine ⟨_, fun _ _ => rfl, hK _ ?_⟩; clear hK K)
                | (apply Exists.intro
                   refine ⟨fun w' hw' => ?_, hK _ ?_⟩
                   · first
                       | (rw [hw'.cell hgr1 k1]; exact ⟨rfl, rfl⟩)
                       | (rw [hw'.cell hgr2 k2]; exact ⟨rfl, rfl⟩)
                       | (rw [hle]; exact ⟨rfl, rfl⟩)
                   clear hK K))
            refine wpQuiet_nil ?_
            intro w' hw'
            have hbw2 := nx hbw hw'
            have hsz2 := hbw2.size
            have hown2 := OwnS.keep hown hw'
            have k8 := (Below.cell (p := ⟨g1, q1, none⟩) hw' hgr1).trans k1
            clear k1 hgr1 hle
            clear k2 hgr2 hown hbw hw'
            unfold OwnS at hown2
            go_wp2_with (at_builtin; go_loud (refine wpList_append_own _ rfl _ _ 99 rfl w22.heap.size 9 i0 (.string ⟨#[]⟩) 1 16 Try.underlying99 hi hz0 hz1 hz2 rfl (by decide) _ _ _ rfl (hown2.alloc _) ⟨_, 0, none⟩ 1 1 [.string X] rfl rfl (new1 _ _ _) (one_str7 _) (by rw [HTL.out]; unfold maxLen; omega) (by rw [HTL.out]; omega) (by simp; omega) ?_); intro v' w9 hown' hgrow hnn)
            have hbw9 := below_app hbw2 hown2 (Nat.le_refl _) hgrow
            have hown1 : OwnS w22.heap.size w9 v' (ss.take (0 + 1)) := by rw [HSX.out]; exact OwnS.one5 hown'
            clear hown2 hown' hgrow hbw2 hnn
            go_wp2_with fail
            go_roundw
            case rel => exact ⟨0 + 1, 0, by omega, by omega, .inl rfl, by go_num, by go_num, hown1, hbw9, fun h => by omega⟩
            case measure => simp [intOf]; omega
          · have hgr1 : g1 < wr.heap.size := Nat.lt_of_lt_of_le hg1 hbw.size
            have hgr2 : g2 < wr.heap.size := Nat.lt_of_lt_of_le hg2 hbw.size
            clear hu0
            obtain ⟨X, hX⟩ : ∃ X, X = ss.getD a ⟨#[]⟩ := ⟨_, rfl⟩
            obtain ⟨Y, hY⟩ : ∃ Y, Y = ss.getD h ⟨#[]⟩ := ⟨_, rfl⟩
            have hsn := HSN.out
            rw [← hX] at k1 hless hsn
            rw [← hY] at k2 hless
            have HSX := Lib.hid hsn
            have hle : ∀ w, (binOp BinOp.leq 9 (.string X) (.string Y)).run Try.prog w = .ok (.bool true) w := fun w => by
              have e : (binOp BinOp.leq 9 (.string X) (.string Y)).run Try.prog w = .ok (.bool (Go.Op.bytesLess X.toList Y.toList || X.toList == Y.toList)) w := rfl
              rw [e, hless]
              rfl
            clear hsn hless hY HSN
            have hne := HI.out.ne (i := a - 1) (j := a) (by omega) (by rw [HN.out]; omega)
            rw [← hX] at hne
            have hnb := beq_false_of_ne hne
            clear hne
            have hps : (a - 1) < (ss.take a).length := by rw [HTL.out]; omega
            rcases hown.cells with ⟨_, h0⟩ | ⟨g5, cap5, rfl, hb5, hg5, q5, q6, hx5, hf5⟩
            · have := congrArg List.length h0; rw [HTL.out] at this; simp at this; omega
            have k5 := hx5 (a - 1) hps
            rw [take_getD (by omega) (by have := HN.out; omega)] at k5
            generalize ss.getD (a - 1) ⟨#[]⟩ = PP at *
            have ew : IntKind.i64.wrap ((a : Nat) - 1 : Int) = ((a - 1 : Nat) : Int) := by rw [IntKind.wrap_i64]; omega
            rw [HTL.out] at q5 hown ⊢
            unfold maxLen at q6
            clear hx5 hf5 hps
            clear hX
            go_wp2_with fail
            refine wp_region_cls (by kernel_rfl) (by kernel_rfl) ?_
            repeat (
              refine wpQuiet_step (fun K hK => ?_)
              go_simp
              first
                | (refine hK _ ?_; clear hK K)
                | (refine ⟨_, fun _ _ => rfl, hK _ ?_⟩; clear hK K)
                | (apply Exists.intro
                   refine ⟨fun w' hw' => ?_, hK _ ?_⟩
                   · first
                       | (rw [hw'.cell hgr1 k1]; exact ⟨rfl, rfl⟩)
                       | (rw [hw'.cell hgr2 k2]; exact ⟨rfl, rfl⟩)
                       | (rw [hle]; exact ⟨rfl, rfl⟩)
                   clear hK K))
            refine wpQuiet_nil ?_
            intro w' hw'
            have hbw2 := nx hbw hw'
            have hsz2 := hbw2.size
            have hown2 := OwnS.keep hown hw'
            have k8 := (Below.cell (p := ⟨g1, q1 + a, none⟩) hw' hgr1).trans k1
            clear k1 hgr1 hle
            have k9 := (Below.cell (p := ⟨g5, a - 1, none⟩) hw' hg5).trans k5
            clear k5
            clear k2 hgr2 hown hbw hw'
            unfold OwnS at hown2
            go_wp2_with (at_builtin; go_loud (refine wpList_append_own _ rfl _ _ 99 rfl w22.heap.size 9 i0 (.string ⟨#[]⟩) 1 16 Try.underlying99 hi hz0 hz1 hz2 rfl (by decide) _ _ _ rfl (hown2.alloc _) ⟨_, 0, none⟩ 1 1 [.string X] rfl rfl (new1 _ _ _) (one_str7 _) (by rw [HTL.out]; unfold maxLen; omega) (by rw [HTL.out]; omega) (by simp; omega) ?_); intro v' w9 hown' hgrow hnn)
            have hbw9 := below_app hbw2 hown2 (Nat.le_refl _) hgrow
            have hown1 : OwnS w22.heap.size w9 v' (ss.take (a + 1)) := by rw [HSX.out]; exact OwnS.one5 hown'
            clear hown2 hown' hgrow hbw2 hnn
            go_wp2_with fail
            go_roundw
            case rel => exact ⟨a + 1, 0, by omega, by omega, .inl rfl, by go_num, by go_num, hown1, hbw9, fun h => by omega⟩
            case measure => simp [intOf]; omega

        · obtain rfl : a = h := by omega
          by_cases hlt2 : b < m
          · obtain ⟨g2, q2, rfl, _, hg2, b1⟩ := HB.out b (by rw [← HM.out]; exact hlt2)
            have k2 := (hbw.cell (p := ⟨g2, q2 + b, none⟩) hg2).trans b1
            rw [drop_getD] at k2
            obtain ⟨T, hT⟩ : ∃ T, T = a + b := ⟨_, rfl⟩
            rw [← hT] at hown k2
            have hTn : T < n := by omega
            have hT0 : 0 < T := by omega
            have HT := Lib.hid hT
            have hsn := take_snocS (ss := ss) (k := T) (by rw [HN.out]; omega)
            have htl : (ss.take T).length = T := by rw [List.length_take]; have := HN.out; omega
            have HTL := Lib.hid htl
            have HSN := Lib.hid hsn
            have hj1 : ¬ (b : Int) = (m : Int) := by omega
            have hj2 : (b : Int) < (m : Int) := by omega
            clear b1 hsn htl hT
            clear hu0
            have hgr2 : g2 < wr.heap.size := Nat.lt_of_lt_of_le hg2 hbw.size
            obtain ⟨X, hX⟩ : ∃ X, X = ss.getD T ⟨#[]⟩ := ⟨_, rfl⟩
            have hsn := HSN.out
            rw [← hX] at k2 hsn
            have HSX := Lib.hid hsn
            clear hsn HSN
            have hne := HI.out.ne (i := T - 1) (j := T) (by omega) (by rw [HN.out]; omega)
            rw [← hX] at hne
            have hnb := beq_false_of_ne hne
            clear hne
            have hps : (T - 1) < (ss.take T).length := by rw [HTL.out]; omega
            rcases hown.cells with ⟨_, h0⟩ | ⟨g5, cap5, rfl, hb5, hg5, q5, q6, hx5, hf5⟩
            · have := congrArg List.length h0; rw [HTL.out] at this; simp at this; omega
            have k5 := hx5 (T - 1) hps
            rw [take_getD (by omega) (by have := HN.out; omega)] at k5
            generalize ss.getD (T - 1) ⟨#[]⟩ = PP at *
            have ew : IntKind.i64.wrap ((T : Nat) - 1 : Int) = ((T - 1 : Nat) : Int) := by rw [IntKind.wrap_i64]; omega
            rw [HTL.out] at q5 hown ⊢
            unfold maxLen at q6
            clear hx5 hf5 hps
            clear hX
            go_wp2_with fail
            have hd1 : ((b : Int) == (m : Int)) = false := beq_false_of_ne hj1
            have hd2 : decide ((a : Int) < (a : Int)) = false := decide_eq_false (by omega)
            go_quiet (fail)
            have hw' : Below wr.heap.size wr (wr.drewN nq) := drewB (Below.refl _ _) nq
            generalize wr.drewN nq = w' at *
            have hbw2 := nx hbw hw'
            have hsz2 := hbw2.size
            have hown2 := OwnS.keep hown hw'
            have k8 := (Below.cell (p := ⟨g2, q2 + b, none⟩) hw' hgr2).trans k2
            have k9 := (Below.cell (p := ⟨g5, T - 1, none⟩) hw' hg5).trans k5
            clear k5
            clear k2 hgr2 hown hbw hw'
            unfold OwnS at hown2
            go_wp2_with (at_builtin; go_loud (refine wpList_append_own _ rfl _ _ 99 rfl w22.heap.size 9 i0 (.string ⟨#[]⟩) 1 16 Try.underlying99 hi hz0 hz1 hz2 rfl (by decide) _ _ _ rfl (hown2.alloc _) ⟨_, 0, none⟩ 1 1 [.string X] rfl rfl (new1 _ _ _) (one_str7 _) (by rw [HTL.out]; unfold maxLen; omega) (by rw [HTL.out]; omega) (by simp; omega) ?_); intro v' w9 hown' hgrow hnn)
            have hbw9 := below_app hbw2 hown2 (Nat.le_refl _) hgrow
            have hown1 : OwnS w22.heap.size w9 v' (ss.take (T + 1)) := by rw [HSX.out]; exact OwnS.one5 hown'
            clear hown2 hown' hgrow hbw2 hnn
            go_wp2_with fail
            go_roundw
            case rel => exact ⟨a, b + 1, by omega, by omega, .inr rfl, by go_num, by go_num, (by rw [show a + (b + 1) = T + 1 by have := HT.out; omega]; exact hown1), hbw9, fun h => by omega⟩
            case measure => simp [intOf]; omega

          · obtain rfl : b = m := by omega
            have hfin : ReadS base wr u5 ss := by
              have h9 := hown
              rw [hm1, List.take_of_length_le (by rw [HN.out]; exact Nat.le_refl _)] at h9
              exact h9.cells.read.mono (Nat.le_trans hbs hb22'.size)
            have HF := Lib.hid hfin
            have hbwz := nx (Below.refl _ _) hb22'
            have hfb := nx hbwz hbw
            clear hown hfin
            go_wp2_with fail
            go_ret
            exact ⟨_, HF.out, hfb, rfl⟩
end Go.Proofs.Ytkpganpojdboeaa

/-! ParseC -/
namespace Go.Proofs.Ytkpganpojdboeaa
open Go.RowKit

/-- The pair of what lies ahead of the first byte 62 and behind it. -/
def cutP (s : ByteArray) : Option Pr := if 0 ≤ idxB s 62 then pairOf (s.extract 0 (idxB s 62).toNat) (s.extract ((idxB s 62).toNat + 1) s.size) else none

theorem pcs_skip (s : ByteArray) (f a : Nat) : ∀ (n i : Nat), (∀ j, i ≤ j → j < i + n → s.data.toList[j]? ≠ some 62) → pcs s (n + f) a i = pcs s f a (i + n) := by
  intro n
  induction n with
  | zero => intro i _; rw [Nat.zero_add]; rfl
  | succ n ih =>
    intro i h
    rw [show n + 1 + f = (n + f) + 1 by omega, pcs, if_neg (h i (by omega) (by omega)), ih (i + 1) (fun j h1 h2 => h j (by omega) (by omega)), show i + 1 + n = i + (n + 1) by omega]
theorem pcs_pos (s : ByteArray) : ∀ (f a i : Nat), 0 < (pcs s f a i).length := by
  intro f
  induction f with
  | zero => intro a i; simp [pcs]
  | succ f ih => intro a i; rw [pcs]; split
                 · simp
                 · exact ih _ _
theorem pcs_two (s : ByteArray) : ∀ (f a i j : Nat), i ≤ j → j < i + f → s.data.toList[j]? = some 62 → 2 ≤ (pcs s f a i).length := by
  intro f
  induction f with
  | zero => intro a i j h1 h2; omega
  | succ f ih =>
    intro a i j h1 h2 h3
    rw [pcs]
    split
    · have := pcs_pos s f (i + 1) (i + 1)
      simp; omega
    · next h =>
      have : i ≠ j := fun e => h (e ▸ h3)
      exact ih _ _ j (by omega) (by omega) h3

theorem text_no62 (t : Tr) : (62 : UInt8) ∉ t.text := by
  induction t with
  | lf => simp [Tr.text]
  | nd l r hl hr => simp [Tr.text, hl, hr]

theorem pcs_one {s : ByteArray} (h : ∀ j : Nat, s.data.toList[j]? ≠ some 62) : pcs s s.size 0 0 = [s] := by
  have := pcs_skip s 0 0 s.size 0 (fun j _ _ => h j)
  rw [Nat.add_zero, Nat.zero_add] at this
  rw [this, pcs, ByteArray.extract_zero_size]

theorem cutP_none {s : ByteArray} (h : 200 < s.size ∨ (pcs s s.size 0 0).length ≠ 2) : cutP s = none := by
  unfold cutP
  rcases idxB_spec s 62 with ⟨h1, _⟩ | ⟨k, h1, h2, h3, h4⟩
  · rw [h1, if_neg (by decide)]
  · rw [h1, if_pos (by omega), show ((k : Int)).toNat = k by omega]
    cases hp : pairOf (s.extract 0 k) (s.extract (k + 1) s.size) with
    | none => rfl
    | some p =>
      exfalso
      obtain ⟨e1, e2, _, c1, c2⟩ := pairOf_some hp
      have s1 := p.1.str_size
      have s2 := p.2.str_size
      rw [← e1] at s1
      rw [← e2] at s2
      rw [ByteArray.size_extract] at s1 s2
      have hz : ¬ 200 < s.size := by omega
      refine (h.resolve_left hz) ?_
      have e0 := pcs_skip s (s.size - k) 0 k 0 (fun j _ hj => h4 j (by omega))
      rw [show k + (s.size - k) = s.size by omega, Nat.zero_add, show s.size - k = (s.size - (k + 1)) + 1 by omega, pcs, if_pos h3] at e0
      have e3 := pcs_skip s 0 (k + 1) (s.size - (k + 1)) (k + 1) (by
        intro j h5 h6 h7
        have h8 : (s.data.toList.drop (k + 1))[j - (k + 1)]? = some 62 := by
          rw [List.getElem?_drop, show k + 1 + (j - (k + 1)) = j by omega]; exact h7
        rw [← ext_end, e2, Tr.str_list] at h8
        exact text_no62 _ (List.mem_of_getElem? h8))
      rw [Nat.add_zero] at e3
      rw [e0, e3, pcs]
      rfl

theorem cutP_two {s : ByteArray} (h : (pcs s s.size 0 0).length = 2) : ∃ a b, pcs s s.size 0 0 = [a, b] ∧ cutP s = pairOf a b ∧ a.size ≤ s.size ∧ b.size ≤ s.size := by
  unfold cutP
  rcases idxB_spec s 62 with ⟨h1, h2⟩ | ⟨k, h1, h2, h3, h4⟩
  · rw [pcs_one h2] at h; simp at h
  · rw [h1, if_pos (by omega), show ((k : Int)).toNat = k by omega]
    have e0 := pcs_skip s (s.size - k) 0 k 0 (fun j _ hj => h4 j (by omega))
    rw [show k + (s.size - k) = s.size by omega, Nat.zero_add, show s.size - k = (s.size - (k + 1)) + 1 by omega, pcs, if_pos h3] at e0
    have hno : ∀ j, k + 1 ≤ j → j < s.size → s.data.toList[j]? ≠ some 62 := by
      intro j h5 h6 h7
      have := pcs_two s (s.size - (k + 1)) (k + 1) (k + 1) j h5 (by omega) h7
      rw [e0] at h
      simp at h
      omega
    have e3 := pcs_skip s 0 (k + 1) (s.size - (k + 1)) (k + 1) (fun j h5 h6 => hno j h5 (by omega))
    rw [Nat.add_zero] at e3
    refine ⟨_, _, by rw [e0, e3, pcs], rfl, ?_, ?_⟩
    · rw [ByteArray.size_extract]; omega
    · rw [ByteArray.size_extract]; omega


set_option maxHeartbeats 1000000 in
theorem prIfA_any (a b : ByteArray) (w : World) (ha : a.size ≤ 9223372036854775806) (hb : b.size ≤ 9223372036854775806) :
    Calls Try.prog 44 #[.agg #[.string a, .string b]] w (Gives (ansPr (pairOf a b)) w) := by
  have hg := fun w => prGood_any a b w ha hb
  cases h : pairOf a b with
  | none =>
    rw [h] at hg
    clear h
    show Calls _ _ _ _ (Gives (ansPr none) w)
    go_enter Try.func44, Try.ntmps44
    go_wp2_with fail
    have hb0 : Below w.heap.size w ((w.alloc (.cells #[.string a, .string b] 25 (0, 0))).alloc (.cells #[.string ⟨#[]⟩, .string ⟨#[]⟩] 25 (0, 0))) := nxAlloc (nxAlloc (Below.refl _ _) _) _
    have hx0 := heap_keep (nxAlloc (Below.refl _ _) (.cells #[.string ⟨#[]⟩, .string ⟨#[]⟩] 25 (0, 0))) (heap_alloc_at w (.cells #[.string a, .string b] 25 (0, 0)))
    have hx1 := heap_alloc_at (w.alloc (.cells #[.string a, .string b] 25 (0, 0))) (.cells #[.string ⟨#[]⟩, .string ⟨#[]⟩] 25 (0, 0))
    generalize ((w.alloc (.cells #[.string a, .string b] 25 (0, 0))).alloc (.cells #[.string ⟨#[]⟩, .string ⟨#[]⟩] 25 (0, 0))) = w0 at *
    have e1 : (w.alloc (.cells #[.string a, .string b] 25 (0, 0))).heap.size = w.heap.size + 1 := by simp
    rw [e1] at hx1
    clear e1
    obtain ⟨hx0a, hx0b, hx0c⟩ := two_facts hx0
    obtain ⟨hx0f, hx0g⟩ := two_frozen hx0
    obtain ⟨hx1a, hx1b, hx1c⟩ := two_facts hx1
    obtain ⟨hx1f, hx1g⟩ := two_frozen hx1
    refine (hg _).mono ?_; rintro e w1 ⟨rfl, hb1⟩
    have hbw1 := nx hb0 hb1
    replace hx0 := heap_keep hb1 hx0
    replace hx1 := heap_keep hb1 hx1
    clear hx0a hx0b hx0c hx0f hx0g
    obtain ⟨hx0a, hx0b, hx0c⟩ := two_facts hx0
    obtain ⟨hx0f, hx0g⟩ := two_frozen hx0
    clear hx1a hx1b hx1c hx1f hx1g
    obtain ⟨hx1a, hx1b, hx1c⟩ := two_facts hx1
    obtain ⟨hx1f, hx1g⟩ := two_frozen hx1
    clear hb1 hb0
    go_wp2_with fail
    obtain ⟨q1, q2⟩ := two_cells (set_two (.string ⟨#[]⟩) (.string ⟨#[]⟩) hx1)
    refine bodyPost_ret (v := .tuple #[.agg #[.string ⟨#[]⟩, .string ⟨#[]⟩], .bool false]) (by simp [q1, q2, results, Try.results44, go_sem]) rfl ⟨rfl, ?_⟩
    exact (hbw1.setCell (by show w.heap.size ≤ w.heap.size + 1; omega) _).setCell (by show w.heap.size ≤ w.heap.size + 1; omega) _
  | some p =>
    rw [h] at hg
    obtain ⟨rfl, rfl, hok, hc1, hc2⟩ := pairOf_some h
    clear h
    show Calls _ _ _ _ (Gives (ansPr (some p)) w)
    go_enter Try.func44, Try.ntmps44
    go_wp2_with fail
    have hb0 : Below w.heap.size w ((w.alloc (.cells #[.string p.1.str, .string p.2.str] 25 (0, 0))).alloc (.cells #[.string ⟨#[]⟩, .string ⟨#[]⟩] 25 (0, 0))) := nxAlloc (nxAlloc (Below.refl _ _) _) _
    have hx0 := heap_keep (nxAlloc (Below.refl _ _) (.cells #[.string ⟨#[]⟩, .string ⟨#[]⟩] 25 (0, 0))) (heap_alloc_at w (.cells #[.string p.1.str, .string p.2.str] 25 (0, 0)))
    have hx1 := heap_alloc_at (w.alloc (.cells #[.string p.1.str, .string p.2.str] 25 (0, 0))) (.cells #[.string ⟨#[]⟩, .string ⟨#[]⟩] 25 (0, 0))
    generalize ((w.alloc (.cells #[.string p.1.str, .string p.2.str] 25 (0, 0))).alloc (.cells #[.string ⟨#[]⟩, .string ⟨#[]⟩] 25 (0, 0))) = w0 at *
    have e1 : (w.alloc (.cells #[.string p.1.str, .string p.2.str] 25 (0, 0))).heap.size = w.heap.size + 1 := by simp
    rw [e1] at hx1
    clear e1
    obtain ⟨hx0a, hx0b, hx0c⟩ := two_facts hx0
    obtain ⟨hx0f, hx0g⟩ := two_frozen hx0
    obtain ⟨hx1a, hx1b, hx1c⟩ := two_facts hx1
    obtain ⟨hx1f, hx1g⟩ := two_frozen hx1
    refine (hg _).mono ?_; rintro e w1 ⟨rfl, hb1⟩
    have hbw1 := nx hb0 hb1
    replace hx0 := heap_keep hb1 hx0
    replace hx1 := heap_keep hb1 hx1
    clear hx0a hx0b hx0c hx0f hx0g
    obtain ⟨hx0a, hx0b, hx0c⟩ := two_facts hx0
    obtain ⟨hx0f, hx0g⟩ := two_frozen hx0
    clear hx1a hx1b hx1c hx1f hx1g
    obtain ⟨hx1a, hx1b, hx1c⟩ := two_facts hx1
    obtain ⟨hx1f, hx1g⟩ := two_frozen hx1
    clear hb1 hb0
    go_wp2_with fail
    obtain ⟨q1, q2⟩ := two_cells (set_two (.string p.1.str) (.string p.2.str) hx1)
    refine bodyPost_ret (v := .tuple #[.agg #[.string p.1.str, .string p.2.str], .bool true]) (by simp [q1, q2, results, Try.results44, go_sem]) rfl ⟨rfl, ?_⟩
    exact (hbw1.setCell (by show w.heap.size ≤ w.heap.size + 1; omega) _).setCell (by show w.heap.size ≤ w.heap.size + 1; omega) _

set_option maxRecDepth 100000 in
set_option maxHeartbeats 2000000 in
theorem prParse_any (s : ByteArray) (w : World) (hs : s.size ≤ 2000000) :
    Calls Try.prog 99 #[.string s] w (Gives (ansPr (cutP s)) w) := by
  have S := fun w => split_any s w hs
  have hp := pcs_pos s s.size 0 0
  by_cases h2 : s.size ≤ 200 ∧ (pcs s s.size 0 0).length = 2
  · obtain ⟨h1, h2⟩ := h2
    obtain ⟨a, b, e1, e2, z1, z2⟩ := cutP_two h2
    have L := fun w => prIfA_any a b w (by omega) (by omega)
    rw [e2]
    rw [e1] at S
    clear h2 hp e1 e2 z1 z2
    generalize pairOf a b = o at *
    unfold ansPr at *
    generalize pS1 o = x1 at *
    generalize pS2 o = x2 at *
    generalize o.isSome = ok at *
    go_enter Try.func99, Try.ntmps99
    go_wp2_with fail
    have hb0 : Below w.heap.size w (w.alloc (.cells #[.string ⟨#[]⟩, .string ⟨#[]⟩] 25 (0, 0))) := nxAlloc (Below.refl _ _) _
    have hx0 := heap_alloc_at w (.cells #[.string ⟨#[]⟩, .string ⟨#[]⟩] 25 (0, 0))
    generalize (w.alloc (.cells #[.string ⟨#[]⟩, .string ⟨#[]⟩] 25 (0, 0))) = w0 at *
    obtain ⟨hx0a, hx0b, hx0c⟩ := two_facts hx0
    obtain ⟨hx0f, hx0g⟩ := two_frozen hx0
    refine (S _).mono ?_; rintro e w1 ⟨v, hown, hb1, rfl⟩
    have hbw1 := nx hb0 hb1
    replace hx0 := heap_keep hb1 hx0
    clear hx0a hx0b hx0c hx0f hx0g
    obtain ⟨hx0a, hx0b, hx0c⟩ := two_facts hx0
    obtain ⟨hx0f, hx0g⟩ := two_frozen hx0
    obtain ⟨g, cap, rfl⟩ := hown.shape (by simp)
    have hc := hown.cells
    clear hb1 hb0 hown S
    rcases hc with ⟨h3, _⟩ | ⟨g', cap', h3, hg1, hg2, hg3, hg4, hcell, hfr⟩
    · cases h3
    cases h3
    have k0 := hcell 0 (by simp)
    have k1 := hcell 1 (by simp)
    simp only [List.length_cons, List.length_nil, List.getD_cons_zero, List.getD_cons_succ] at *
    clear hcell hg3 hg4 hfr
    go_wp2_with fail
    refine wp_region_clsT 10 (by kernel_rfl) (by kernel_rfl) ?_
    simp only [List.take_succ_cons, List.take_zero, List.drop_succ_cons, List.drop_zero]
    repeat (
      refine wpQuiet_step (fun K hK => ?_)
      go_simp
      first
        | (refine hK _ ?_; clear hK K)
        | (refine ⟨_, fun _ _ => rfl, hK _ ?_⟩; clear hK K)
        | (apply Exists.intro
           refine ⟨fun w' hw' => ?_, hK _ ?_⟩
           · first
               | (rw [hw'.cell hg2 k0]; exact ⟨rfl, rfl⟩)
               | (rw [hw'.cell hg2 k1]; exact ⟨rfl, rfl⟩)
               | (go_at_call 44; exact hw'.call (L _))
           clear hK K))
    refine wpQuiet_nil ?_
    intro w' hw'
    have hbwf := nx hbw1 hw'
    replace hx0 := heap_keep hw' hx0
    clear hw' hbw1
    clear hx0a hx0b hx0c hx0f hx0g
    obtain ⟨hx0a, hx0b, hx0c⟩ := two_facts hx0
    obtain ⟨hx0f, hx0g⟩ := two_frozen hx0
    go_wp2_with fail
    obtain ⟨q1, q2⟩ := two_cells (set_two (.string x1) (.string x2) hx0)
    refine bodyPost_ret (v := .tuple #[.agg #[.string x1, .string x2], .bool ok]) (by simp [q1, q2, results, Try.results99, go_sem]) rfl ⟨rfl, ?_⟩
    exact (hbwf.setCell (by show w.heap.size ≤ w.heap.size; omega) _).setCell (by show w.heap.size ≤ w.heap.size; omega) _
  · rw [cutP_none (by omega)]
    show Calls _ _ _ _ (Gives (ansPr none) w)
    generalize hl : pcs s s.size 0 0 = ps at *
    clear hl
    go_enter Try.func99, Try.ntmps99
    go_wp2_with fail
    have hb0 : Below w.heap.size w (w.alloc (.cells #[.string ⟨#[]⟩, .string ⟨#[]⟩] 25 (0, 0))) := nxAlloc (Below.refl _ _) _
    have hx0 := heap_alloc_at w (.cells #[.string ⟨#[]⟩, .string ⟨#[]⟩] 25 (0, 0))
    generalize (w.alloc (.cells #[.string ⟨#[]⟩, .string ⟨#[]⟩] 25 (0, 0))) = w0 at *
    obtain ⟨hx0a, hx0b, hx0c⟩ := two_facts hx0
    obtain ⟨hx0f, hx0g⟩ := two_frozen hx0
    refine (S _).mono ?_; rintro e w1 ⟨v, hown, hb1, rfl⟩
    have hbw1 := nx hb0 hb1
    replace hx0 := heap_keep hb1 hx0
    clear hx0a hx0b hx0c hx0f hx0g
    obtain ⟨hx0a, hx0b, hx0c⟩ := two_facts hx0
    obtain ⟨hx0f, hx0g⟩ := two_frozen hx0
    obtain ⟨g, cap, rfl⟩ := hown.shape hp
    clear hb1 hb0 hown S hp
    generalize ps.length = n at *
    have hq : (200 < s.size) ∨ ¬ n = 2 := by omega
    clear h2
    cases hz : decide (200 < s.size) with
    | true =>
      have hz' : (200 < s.size) := by simpa using hz
      clear hq hz
      go_wp2_with fail
      obtain ⟨q1, q2⟩ := two_cells (set_two (.string ⟨#[]⟩) (.string ⟨#[]⟩) hx0)
      refine bodyPost_ret (v := .tuple #[.agg #[.string ⟨#[]⟩, .string ⟨#[]⟩], .bool false]) (by simp [q1, q2, results, Try.results99, go_sem]) rfl ⟨rfl, ?_⟩
      exact (hbw1.setCell (by show w.heap.size ≤ w.heap.size; omega) _).setCell (by show w.heap.size ≤ w.heap.size; omega) _
    | false =>
      have hz' : ¬ (200 < s.size) := by simpa using hz
      have hn : ((n : Int) != 2) = true := by have := hq.resolve_left hz'; rw [bne_iff_ne]; omega
      clear hq hz
      go_wp2_with fail
      obtain ⟨q1, q2⟩ := two_cells (set_two (.string ⟨#[]⟩) (.string ⟨#[]⟩) hx0)
      refine bodyPost_ret (v := .tuple #[.agg #[.string ⟨#[]⟩, .string ⟨#[]⟩], .bool false]) (by simp [q1, q2, results, Try.results99, go_sem]) rfl ⟨rfl, ?_⟩
      exact (hbw1.setCell (by show w.heap.size ≤ w.heap.size; omega) _).setCell (by show w.heap.size ≤ w.heap.size; omega) _

end Go.Proofs.Ytkpganpojdboeaa

/-! Sm2 -/
namespace Go.Proofs.Ytkpganpojdboeaa
open Go.RowKit

def prS (p : Pr) : ByteArray := p.1.str ++ ⟨#[62]⟩ ++ p.2.str
theorem prText_any (p : Pr) (w : World) (h1 : p.1.carets ≤ 1000) (h2 : p.2.carets ≤ 1000) :
    Calls Try.prog 70 #[.agg #[.string p.1.str, .string p.2.str]] w (Gives (.string (prS p)) w) := by
  have s1 := p.1.str_size
  have s2 := p.2.str_size
  go_enter Try.func70, Try.ntmps70
  go_wp2_with fail
  go_ret
  exact ⟨rfl, nxAlloc (Below.refl _ _) _⟩


theorem text_no62s (t : Tr) : ∀ c ∈ t.text, c ≠ 62 := by
  induction t with
  | lf => intro c hc; simp [Tr.text] at hc; subst hc; decide
  | nd l r ihl ihr =>
    intro c hc
    simp only [Tr.text, List.mem_cons, List.mem_append, List.not_mem_nil, or_false] at hc
    rcases hc with rfl | hc | hc | rfl
    · decide
    · exact ihl c hc
    · exact ihr c hc
    · decide
theorem cut_pTx {p : Pr} (hp : okP p) (hc : p.1.carets ≤ 8) : cutP (pTx p) = some p := by
  have hl := pTx_list p
  have hk : idxB (pTx p) 62 = (p.1.text.length : Int) := by
    have h62 : (pTx p).data.toList[p.1.text.length]? = some 62 := by rw [hl]; simp
    have hlow : ∀ j, j < p.1.text.length → (pTx p).data.toList[j]? ≠ some 62 := by
      intro j hj e
      rw [hl, List.getElem?_append_left hj] at e
      exact text_no62s p.1 62 (List.mem_of_getElem? e) rfl
    rcases idxB_spec (pTx p) 62 with ⟨_, h⟩ | ⟨k, h1, h2, h3, h4⟩
    · exact absurd h62 (h _)
    · rw [h1]
      rcases Nat.lt_trichotomy k p.1.text.length with h | h | h
      · exact absurd h3 (hlow k h)
      · rw [h]
      · exact absurd h62 (h4 _ h)
  unfold cutP
  rw [hk, if_pos (by omega)]
  have e1 : (pTx p).extract 0 (p.1.text.length : Int).toNat = p.1.str := by
    apply ba_ext
    rw [Lib.extract_data, hl, Tr.str_list]
    simp
  have e2 : (pTx p).extract ((p.1.text.length : Int).toNat + 1) (pTx p).size = p.2.str := by
    apply ba_ext
    rw [Lib.extract_data, hl, Tr.str_list]
    have hz : (pTx p).size = p.1.text.length + 1 + p.2.text.length := by rw [Lib.size_eq, hl]; simp; omega
    have e3 : p.1.text ++ 62 :: p.2.text = (p.1.text ++ [62]) ++ p.2.text := by simp
    rw [hz, e3, Int.toNat_natCast, List.drop_left' (by simp), List.take_of_length_le (by omega)]
  rw [e1, e2]
  exact pairOf_str hp hc
theorem inc_reds (k : Nat) : IncS ((redsN k).map pTx) := by
  intro i j hij hj
  rw [List.length_map] at hj
  have h := List.pairwise_iff_getElem.1 (redsN_inc k) i j (by omega) hj hij
  have e1 : ((redsN k).map pTx).getD i ⟨#[]⟩ = pTx (redsN k)[i] := by simp [List.getD_eq_getElem?_getD, show i < (redsN k).length by omega]
  have e2 : ((redsN k).map pTx).getD j ⟨#[]⟩ = pTx (redsN k)[j] := by simp [List.getD_eq_getElem?_getD, hj]
  rw [e1, e2, Lib.toList_data, Lib.toList_data, pTx_less]
  exact h
theorem FarQ.start2 {base : Nat} {w0 w1 : World} {g : Nat} {v : Value} {e : TypeId} {size n : Nat} {xs : List Value} (h : w0.ownsRow base e size v n xs) (hg : w0.heap.size ≤ g) : FarQ w1 w1 g v :=
  ⟨rfl, Nat.le_refl _, fun e => by have := (World.ownsRow.lt h g e.symm).2; omega⟩
theorem both_empty_len (p : Pr) : ((both p).length = 0) ↔ (both p).isEmpty = true := by rw [List.isEmpty_iff, List.length_eq_zero_iff]
theorem prS_pTx (p : Pr) : prS p = pTx p := rfl
theorem prBoth_tr7 (p : Pr) (w : World) (k1 : p.1.carets ≤ 200) (k2 : p.2.carets ≤ 200) : Calls Try.prog 92 #[.agg #[.string p.1.str, .string p.2.str]] w (GivesInts (both p) w) := by
  have := prBoth_any p.1.str p.2.str w (by have := p.1.str_size; omega) (by have := p.2.str_size; omega)
  rwa [bothL_str] at this
theorem OwnS.snoc7 {base : Nat} {w : World} {v : Value} {xs : List ByteArray} {m : ByteArray} (h : w.ownsRow base 9 1 v (xs.length + 1) (xs.map Value.string ++ [Value.string m])) : OwnS base w v (xs ++ [m]) := by
  unfold OwnS
  rw [List.map_append, List.length_append]
  exact h
theorem pickN_one (k : Nat) (a : Tr) (j : Nat) (h : j < (treesN k).length) : pickN (fun _ => true) k a (j + 1) = pickN (fun _ => true) k a j ++ (if (both (a, (treesN k).getD j .lf)).isEmpty = true then [(a, (treesN k).getD j .lf)] else []) := by
  rw [pickN_succ _ a h]
  simp
theorem pickN_len5 (want : Pr → Bool) (k : Nat) (a : Tr) (j : Nat) : (pickN want k a j).length ≤ j := by
  unfold pickN
  rw [List.length_map]
  exact Nat.le_trans (List.length_filter_le _ _) (by rw [List.length_take]; omega)

set_option maxRecDepth 100000 in
set_option maxHeartbeats 4000000 in
theorem cjSmall_any (n : Nat) (hn3 : n ≤ 3) (w : World) : Calls Try.prog 66 #[.int .i64 n] w (GivesQ (smallN (n + 1)) w) := by
  obtain ⟨i0, hi, hz0, hz1, hz2⟩ := info_parts info_pair7
  obtain ⟨j0, hj, hy0, hy1, hy2⟩ := info_parts info_str
  go_enter Try.func66, Try.ntmps66
  go_wp2_with fail
  go_loopw [3, 4] (fun u c wr => ∃ (k : Nat) (xs : List Pr), k ≤ n + 1 ∧ c = .int .i64 k ∧ OwnQ w.heap.size wr u xs ∧ xs.length ≤ k * 25 ∧ Hid (xs = smallN k) ∧ Below w.heap.size w wr) (fun _ c _ => n + 1 - (intOf c).toNat)
  case atStart => exact ⟨0, [], Nat.zero_le _, rfl, OwnX.nil _ _ _ _, Nat.zero_le _, rfl, Below.refl _ _⟩
  case round =>
    obtain ⟨k, xs, hk, rfl, hown, hxl, hxs, hbw⟩ := hrel
    by_cases hlt : k ≤ n
    · have hlt' : (k : Int) ≤ (n : Int) := by omega
      have hk3 : k ≤ 3 := by omega
      have hT := fun w => trList_any k (by omega) w
      have hN5 := treesN_sm7 hk3
      have hsz0 := hbw.size
      go_wp2_with fail
      refine (hT _).mono ?_; rintro e w1 ⟨g, cap, own1, hb1, rfl⟩
      rcases own1.cells with ⟨h0, _⟩ | ⟨g', cap', h0, hgb, hg, q1, q2, hc, _⟩
      · simp at h0
      simp only [Value.slice.injEq, Option.some.injEq, Addr.mk.injEq, and_true, true_and] at h0
      obtain ⟨rfl, rfl⟩ := h0
      rw [trTexts_len] at q1 hc ⊢
      unfold maxLen at q2
      have HC := Lib.hid hc
      replace hown := OwnQ.keep hown hb1
      replace hbw := nx hbw hb1
      have hsz1 := hbw.size
      obtain ⟨N, hN⟩ : ∃ N, N = (treesN k).length := ⟨_, rfl⟩
      have HN := Lib.hid hN
      rw [← hN] at hN5 q1 ⊢
      clear own1 hc hb1 hN
      go_wp2_with fail
      go_loopw [5, 23] (fun u c wr => ∃ (i : Nat) (ts : List ByteArray), i ≤ N ∧ c = .int .i64 i ∧ OwnS w1.heap.size wr u ts ∧ ts.length ≤ i * 5 ∧ Hid (ts = (pickK (fun _ => true) k i).map pTx) ∧ Below w1.heap.size w1 wr) (fun _ c _ => N - (intOf c).toNat)
      case atStart => exact ⟨0, [], Nat.zero_le _, rfl, OwnS.nil _ _, Nat.zero_le _, by show _ = _; simp [pickK], Below.refl _ _⟩
      case round =>
        obtain ⟨i, ts, hi', rfl, hown2, hyl, hys, hbw2⟩ := hrel
        by_cases hlt2 : i < N
        · have hlt2' : (i : Int) < (N : Int) := by omega
          have hiT : i < (treesN k).length := by rw [← HN.out]; exact hlt2
          have c1 := (hbw2.cell (p := ⟨g, i, none⟩) hg).trans (HC.out i hiT)
          rw [trTexts_get hiT] at c1
          have hac := treesN_at hiT
          have hpk := pickK_succ (fun _ => true) hiT
          obtain ⟨a, ha⟩ : ∃ a, a = (treesN k).getD i .lf := ⟨_, rfl⟩
          rw [← ha] at c1 hac hpk
          have HPK := Lib.hid hpk
          have hsz2 := hbw2.size
          clear ha hpk hiT
          go_wp2_with fail
          refine (hT _).mono ?_; rintro e w2 ⟨g2, cap2, own2, hb2, rfl⟩
          rcases own2.cells with ⟨h0, _⟩ | ⟨g', cap', h0, hgb2, hg2, q3, q4, hc2, _⟩
          · simp at h0
          simp only [Value.slice.injEq, Option.some.injEq, Addr.mk.injEq, and_true, true_and] at h0
          obtain ⟨rfl, rfl⟩ := h0
          have hfar : FarQ w2 w2 g2 u5 := FarQ.start2 (show wr.ownsRow _ _ _ _ _ _ from hown2) hgb2
          rw [trTexts_len, ← HN.out] at q3 ⊢
          unfold maxLen at q4
          have HC2 := Lib.hid hc2
          replace hown2 := OwnS.keep hown2 hb2
          replace hbw2 := nx hbw2 hb2
          have hsz3 := hbw2.size
          clear own2 hc2 hb2 c1
          go_wp2_with fail
          go_loopw [5, 30] (fun u c wr => ∃ (j : Nat) (us : List ByteArray), j ≤ N ∧ c = .int .i64 j ∧ OwnS w1.heap.size wr u us ∧ us.length ≤ i * 5 + j ∧ Hid (us = ts ++ (pickN (fun _ => true) k a j).map pTx) ∧ Below w1.heap.size w1 wr ∧ FarQ w2 wr g2 u) (fun _ c _ => N - (intOf c).toNat)
          case atStart => exact ⟨0, ts, Nat.zero_le _, rfl, hown2, by omega, by show _ = _; simp [pickN], hbw2, hfar⟩
          case round =>
            clear hown2 hbw2 hfar
            obtain ⟨j, us, hj', rfl, hown3, hzl, hzs, hbw3, hfar3⟩ := hrel
            by_cases hlt3 : j < N
            · have hlt3' : (j : Int) < (N : Int) := by omega
              have hjT : j < (treesN k).length := by rw [← HN.out]; exact hlt3
              have d1 := hfar3.cell (HC2.out j (by rw [trTexts_len]; exact hjT))
              rw [trTexts_get hjT] at d1
              have hbc := treesN_at hjT
              have hpn := pickN_one k a j hjT
              obtain ⟨b, hb⟩ : ∃ b, b = (treesN k).getD j .lf := ⟨_, rfl⟩
              rw [← hb] at d1 hbc hpn
              have HPN := Lib.hid hpn
              have hsz4 := hbw3.size
              have PB := fun w => prBoth_tr7 (a, b) w (by show a.carets ≤ 200; omega) (by show b.carets ≤ 200; omega)
              have PX := fun w => prText_any (a, b) w (by show a.carets ≤ 1000; omega) (by show b.carets ≤ 1000; omega)
              rw [prS_pTx] at PX
              clear hb hpn hjT
              go_wp2_with fail
              have hbw4 := nxAlloc hbw3 (.cells #[.string a.str, .string b.str] 25 (0, 0))
              have hown4 := OwnS.keep hown3 (nxAlloc (Below.refl _ _) (.cells #[.string a.str, .string b.str] 25 (0, 0)))
              have hfar4 := hfar3.keep hg2 (nxAlloc (Below.refl _ _) (.cells #[.string a.str, .string b.str] 25 (0, 0)))
              have hx := heap_alloc_at wr (.cells #[.string a.str, .string b.str] 25 (0, 0))
              generalize wr.alloc (.cells #[.string a.str, .string b.str] 25 (0, 0)) = w4 at *
              obtain ⟨hxa, hxb, hxc⟩ := two_facts hx
              clear hbw3 hown3 hfar3 d1
              go_wp2_with fail
              refine (PB _).mono ?_; rintro e w5 ⟨v5, own5, hb5, rfl⟩
              have hx5 := heap_keep hb5 hx
              have hbw5 := nx hbw4 hb5
              have hown5 := OwnS.keep hown4 hb5
              have hfar5 := hfar4.keep hg2 hb5
              obtain ⟨oa5, cap5, rfl, _⟩ := own5.cells.form
              clear hx hxa hxb hxc hbw4 hown4 hfar4 hb5 own5
              obtain ⟨hxa, hxb, hxc⟩ := two_facts hx5
              have hsz5 := hbw5.size
              have hbe := both_empty_len (a, b)
              have HBE := Lib.hid hbe
              clear hbe
              by_cases hl0 : (both (a, b)).length = 0
              · have hem := HBE.out.1 hl0
                have HEM := Lib.hid hem
                have hl1 : ((both (a, b)).length : Int) = 0 := by omega
                clear hem HBE
                generalize (both (a, b)).length = bl at *
                subst hl0
                go_wp2_with fail
                refine (PX _).mono ?_; rintro e w6 ⟨rfl, hb6⟩
                have hbw6 := nx hbw5 hb6
                have hown6 := OwnS.keep hown5 hb6
                have hfar6 := hfar5.keep hg2 hb6
                have hsz6 := hbw6.size
                clear hbw5 hown5 hfar5 hb6 hx5 hxa hxb hxc
                unfold OwnS at hown6
                go_wp2_with (at_builtin; go_loud (refine wpList_append_own_at _ rfl _ _ 99 rfl w1.heap.size 9 j0 (.string ⟨#[]⟩) 1 16 Try.underlying99 hj hy0 hy1 hy2 rfl (by decide) _ _ _ rfl (hown6.alloc _) ⟨w6.heap.size, 0, none⟩ 1 1 [.string (pTx (a, b))] rfl rfl (new1 _ _ _) (one_str7 _) (by unfold maxLen; omega) (by omega) (by simp; omega) ?_); intro v' w9 hown' hgrow hnn hob)
                have hba := nxAlloc (Below.refl w6.heap.size w6) (.cells #[.string (pTx (a, b))] 9 (0, 0))
                have hfar9 := (hfar6.keep hg2 hba).grown hg2 hgrow hob
                have hbw9 := (nxAlloc hbw6 (.cells #[.string (pTx (a, b))] 9 (0, 0))).grown hgrow (by simp; omega) (fun k hk => ownsRow_ge hown6 k hk)
                have hown9 : OwnS w1.heap.size w9 v' (us ++ [pTx (a, b)]) := OwnS.snoc7 hown'
                have hfin : us ++ [pTx (a, b)] = ts ++ (pickN (fun _ => true) k a (j + 1)).map pTx := by rw [HPN.out, if_pos HEM.out, hzs.out, List.map_append, List.append_assoc]; rfl
                have HX := Lib.hid hfin
                clear hown6 hown' hgrow hba hfar6 hbw6 hnn hob hfin
                go_wp2_with fail
                go_roundw
                case rel => exact ⟨j + 1, _, by omega, by go_num, hown9, by simp; omega, HX, hbw9, hfar9⟩
                case measure => simp [intOf]; omega
              · have hl1 : ¬ ((both (a, b)).length : Int) = 0 := by omega
                have hem : ¬ (both (a, b)).isEmpty = true := fun h => hl0 (HBE.out.2 h)
                have hfin : us = ts ++ (pickN (fun _ => true) k a (j + 1)).map pTx := by rw [HPN.out, if_neg hem, hzs.out]; simp
                have HX := Lib.hid hfin
                clear hfin hem HBE
                generalize (both (a, b)).length = bl at *
                go_wp2_with fail
                go_roundw
                case rel => exact ⟨j + 1, us, by omega, by go_num, hown5, by omega, HX, hbw5, hfar5⟩
                case measure => simp [intOf]; omega
            · obtain rfl : j = N := by omega
              have h2 : us = (pickK (fun _ => true) k (i + 1)).map pTx := by rw [HPK.out, List.map_append, ← hys.out, hzs.out, HN.out]
              have HX := Lib.hid h2
              clear h2 hzs
              go_wp2_with fail
              go_roundw
              case rel => exact ⟨i + 1, us, by omega, by go_num, hown3, by omega, HX, hbw3⟩
              case measure => simp [intOf]; omega
        · obtain rfl : i = N := by omega
          have h2 : ts = (redsN k).map pTx := by rw [hys.out, HN.out, pickK_all]; exact congrArg _ (List.filter_eq_self.2 (fun _ _ => rfl))
          have hbs := hbw2.size
          have LS := fun v w hb h => lnSorted_any w1.heap.size ts.length ts rfl (by omega) (by rw [h2]; exact inc_reds k) v w hb h
          have hrd := hown2.cells.read
          have hownP := OwnQ.keep hown hbw2
          have hbwP := nx hbw hbw2
          have hM : ts.length = (redsN k).length := by rw [h2, List.length_map]
          have H2 := Lib.hid h2
          have HM := Lib.hid hM
          clear h2 hys hown2 hM
          go_wp2_with fail
          refine (LS _ _ hbs hrd).mono ?_; rintro e w7 ⟨v7, rd7, hb7, rfl⟩
          obtain ⟨oa7, cap7, rfl, r1, r2, r3⟩ := rd7
          unfold maxLen at r2
          replace hownP := OwnQ.keep hownP hb7
          replace hbwP := nx hbwP hb7
          have hfar7 : ∀ g7 q7, oa7 = some ⟨g7, q7, none⟩ → w1.heap.size ≤ g7 → g7 < w7.heap.size → FarQ w7 w7 g7 u3 := fun g7 q7 _ hk _ => FarQ.start2 (show w1.ownsRow _ _ _ _ _ _ from hown) hk
          have HR := Lib.hid r3
          generalize hMM : ts.length = M at *
          clear hMM r3 hb7 LS hrd hbs hown hbw hbw2
          go_wp2_with fail
          go_loopw [3, 51] (fun u c wr => ∃ (m : Nat) (ps : List Pr), m ≤ M ∧ c = .int .i64 m ∧ OwnQ w.heap.size wr u ps ∧ ps.length ≤ k * 25 + m ∧ Hid (ps = smallN k ++ (redsN k).take m) ∧ Below w.heap.size w wr ∧ Hid (∀ g7 q7, oa7 = some ⟨g7, q7, none⟩ → w1.heap.size ≤ g7 → g7 < w7.heap.size → FarQ w7 wr g7 u)) (fun _ c _ => M - (intOf c).toNat)
          case atStart => exact ⟨0, xs, Nat.zero_le _, rfl, hownP, by omega, by show _ = _; rw [hxs.out]; simp, hbwP, hfar7⟩
          case round =>
            clear hownP hbwP hfar7
            obtain ⟨m, ps, hm', rfl, hown8, hpl, hps, hbw8, hfar8⟩ := hrel
            by_cases hlt4 : m < M
            · have hlt4' : (m : Int) < (M : Int) := by omega
              obtain ⟨g7, q7, e7, hk7, hg7, c7⟩ := HR.out m hlt4
              have far := hfar8.out g7 q7 e7 hk7 hg7
              have hmR : m < (redsN k).length := by rw [← HM.out]; exact hlt4
              obtain ⟨p, hp⟩ : ∃ p, p = (redsN k)[m] := ⟨_, rfl⟩
              have hgt : ts.getD m ⟨#[]⟩ = pTx p := by rw [H2.out, hp]; simp [List.getD_eq_getElem?_getD, hmR]
              have hpm := mem_redsN.1 (show p ∈ redsN k by rw [hp]; exact List.getElem_mem hmR)
              have htk : (redsN k).take (m + 1) = (redsN k).take m ++ [p] := by rw [List.take_succ_eq_append_getElem hmR, hp]
              have hz1 := p.1.text_len
              have hz2' := p.2.text_len
              have hz3 : (pTx p).size = p.1.text.length + 1 + p.2.text.length := by rw [Lib.size_eq, pTx_list]; simp; omega
              have PP := fun w => prParse_any (pTx p) w (by omega)
              rw [cut_pTx (show p.1.carets = p.2.carets by omega) (by omega)] at PP
              have PP' : ∀ w, Calls Try.prog 99 #[.string (pTx p)] w (Gives (.tuple #[.agg #[.string p.1.str, .string p.2.str], .bool true]) w) := PP
              have c1 := far.cell c7
              rw [hgt] at c1
              have HTK := Lib.hid htk
              have hsz8 := hbw8.size
              have E7 := Lib.hid e7
              clear htk hz1 hz2' hz3 PP hpm hgt hp hmR far c7
              rw [E7.out]
              go_wp2_with fail
              refine (PP' _).mono ?_; rintro e w10 ⟨rfl, hb10⟩
              have hbw10 := nxAlloc (nx hbw8 hb10) (.cells #[.string p.1.str, .string p.2.str] 25 (0, 0))
              have hown10 := OwnQ.keep (OwnQ.keep hown8 hb10) (nxAlloc (Below.refl w10.heap.size w10) (.cells #[.string p.1.str, .string p.2.str] 25 (0, 0)))
              have hfar10 : ∀ g7 q7, oa7 = some ⟨g7, q7, none⟩ → w1.heap.size ≤ g7 → g7 < w7.heap.size → FarQ w7 (w10.alloc (.cells #[.string p.1.str, .string p.2.str] 25 (0, 0))) g7 u3 := fun a b c d e => ((hfar8.out a b c d e).keep e hb10).keep e (nxAlloc (Below.refl w10.heap.size w10) (.cells #[.string p.1.str, .string p.2.str] 25 (0, 0)))
              have hxx := heap_alloc_at w10 (.cells #[.string p.1.str, .string p.2.str] 25 (0, 0))
              obtain ⟨hxa, hxb, hxc⟩ := two_facts hxx
              have hsz10 := hbw10.size
              have H10 := Lib.hid hfar10
              clear hbw8 hown8 hfar8 hb10 hfar10 c1
              have hnw : ∀ (j : Nat) (u : Value), [Value.string p.1.str, Value.string p.2.str][j]? = some u → ((w10.alloc (.cells #[.string p.1.str, .string p.2.str] 25 (0, 0))).alloc (.cells #[.string p.1.str, .string p.2.str] 25 (0, 0))).cell? ((⟨w10.heap.size + 1, 0, none⟩ : Addr).add j) = some u := by
                have h := newsQ (w10.alloc (.cells #[.string p.1.str, .string p.2.str] 25 (0, 0))) #[.string p.1.str, .string p.2.str] 25
                have es : (w10.alloc (.cells #[.string p.1.str, .string p.2.str] 25 (0, 0))).heap.size = w10.heap.size + 1 := by simp
                rw [es] at h
                exact h
              unfold OwnQ OwnX at hown10
              go_wp2_with (at_builtin; go_loud (refine wpList_append_own_at _ rfl _ _ 43 rfl w.heap.size 25 i0 (.agg #[.string ⟨#[]⟩, .string ⟨#[]⟩]) 2 32 Try.underlying43 hi hz0 hz1 hz2 rfl (by decide) _ _ _ rfl (hown10.alloc _) ⟨w10.heap.size + 1, 0, none⟩ 1 1 [.string p.1.str, .string p.2.str] rfl rfl hnw (pr_one _ _) (by unfold maxLen; omega) (by omega) (by simp at *; omega) ?_); intro v' w9 hown' hgrow hnn hob)
              have hfar9 : ∀ g7 q7, oa7 = some ⟨g7, q7, none⟩ → w1.heap.size ≤ g7 → g7 < w7.heap.size → FarQ w7 w9 g7 v' := fun a b c d e => ((H10.out a b c d e).keep e (nxAlloc (Below.refl _ _) (.cells #[.string p.1.str, .string p.2.str] 25 (0, 0)))).grown e hgrow hob
              have hbw9 := (nxAlloc hbw10 (.cells #[.string p.1.str, .string p.2.str] 25 (0, 0))).grown hgrow (by simp at *; omega) (fun k hk => ownsRow_ge hown10 k hk)
              have hown9 : OwnQ w.heap.size w9 v' (ps ++ [p]) := OwnQ.snoc7 hown'
              have hfin : ps ++ [p] = smallN k ++ (redsN k).take (m + 1) := by rw [HTK.out, ← List.append_assoc, ← hps.out]
              have HX := Lib.hid hfin
              have HF9 := Lib.hid hfar9
              clear hown10 hown' hgrow hbw10 hnn hob hfin hps H10 hnw hxx hxa hxb hxc hfar9
              go_wp2_with fail
              rw [← E7.out]
              go_roundw
              case rel => exact ⟨m + 1, _, by omega, by go_num, hown9, by simp; omega, HX, hbw9, HF9⟩
              case measure => simp [intOf]; omega
            · obtain rfl : m = M := by omega
              have h2 : ps = smallN (k + 1) := by rw [hps.out, HM.out, List.take_length, smallN_succ]
              have HX := Lib.hid h2
              clear h2 hps hfar8
              go_wp2_with fail
              go_roundw
              case rel => exact ⟨k + 1, ps, by omega, by go_num, hown8, by omega, HX, hbw8⟩
              case measure => simp [intOf]; omega
    · obtain rfl : k = n + 1 := by omega
      have hgt' : ¬ ((n : Int) + 1 ≤ (n : Int)) := by omega
      have HX := Lib.hid hxs.out
      clear hxs
      go_wp2_with fail
      go_ret
      exact ⟨_, by rw [← HX.out]; exact hown, hbw, rfl⟩
end Go.Proofs.Ytkpganpojdboeaa

/-! Sm3 -/
namespace Go.Proofs.Ytkpganpojdboeaa
open Go.RowKit

theorem heldPairS_1 (b1 : Nat) (v1 : Value) (n : Nat) (w : World) (hn9 : n ≤ 100000000) (h1 : CellsX 2 b1 w v1 n (marksS 1 (n * 2))) :
    Calls Try.prog 35 #[v1, .int .i64 1] w (Gives (.int .i64 ((1 + n * 2 : Nat) : Int)) w) :=
  heldPairS_any b1 v1 n 1 w (by decide) (by decide) hn9 h1
theorem markPairS_1 (base : Nat) (v : Value) (xs : List Pr) (w : World) (hn9 : xs.length ≤ 100000000) (hbase : base ≤ w.heap.size) (h : OwnQ base w v xs) :
    Calls Try.prog 34 #[v, .int .i64 1] w (MarkedQ base ((1 + xs.length * 2 : Nat) : Int) v xs.length (marksS 1 (xs.length * 2)) w) :=
  markPairS_any base v xs 1 w (by decide) (by decide) hn9 hbase h
def SmallPairs_o (n : Int) : Option (List Pr) := if 0 ≤ n ∧ n ≤ 3 then some (smallN (n.toNat + 1)) else none
theorem redsN_len {k : Nat} (h : k ≤ 3) : (redsN k).length ≤ 25 := by
  have h5 := treesN_sm7 h
  have e : redsN k = pickK (fun _ => true) k (treesN k).length := by rw [pickK_all]; exact (List.filter_eq_self.2 (fun _ _ => rfl)).symm
  have hs : ∀ i, i ≤ (treesN k).length → (pickK (fun _ => true) k i).length ≤ i * 5 := by
    intro i
    induction i with
    | zero => intro _; simp [pickK]
    | succ i ih =>
      intro hi
      have h1 := ih (by omega)
      have h2 := pickN_len (fun _ => true) k ((treesN k).getD i .lf) (treesN k).length
      rw [pickK_succ _ (by omega), List.length_append]
      omega
  have := hs _ (Nat.le_refl _)
  rw [e]
  omega
theorem smallN_len {n : Nat} (h : n ≤ 4) : (smallN n).length ≤ n * 25 := by
  induction n with
  | zero => simp [smallN]
  | succ n ih =>
    have h1 := ih (by omega)
    have h2 := redsN_len (k := n) (by omega)
    rw [smallN_succ, List.length_append]
    omega
theorem SmallPairs_len (n : Int) : ((SmallPairs_o n).getD []).length ≤ 100000000 := by
  unfold SmallPairs_o
  split
  · next h => have := smallN_len (n := n.toNat + 1) (by omega); simp only [Option.getD_some]; omega
  · simp

theorem always_any (p : Pr) (w : World) : Calls Try.prog 68 #[.agg #[.string p.1.str, .string p.2.str]] w (Gives (.bool true) w) := by
  go_enter Try.func68, Try.ntmps68
  go_wp2_with fail
  go_ret
  exact ⟨rfl, nxAlloc (Below.refl _ _) _⟩

set_option maxHeartbeats 1000000 in
theorem specSmallPairs_any (n : Int) (w : World) (lo : -9223372036854775808 ≤ n) (hi : n ≤ 9223372036854775807) :
    Calls Try.prog 31 #[.int .i64 n] w (AnsQs (SmallPairs_o n) w) := by
  unfold SmallPairs_o
  by_cases h : 0 ≤ n ∧ n ≤ 3
  · rw [if_pos h]
    obtain ⟨m, rfl⟩ : ∃ m : Nat, n = (m : Int) := ⟨n.toNat, by omega⟩
    rw [Int.toNat_natCast]
    have C := fun w => cjSmall_any m (by omega) w
    have I : ∀ w, Calls Try.prog 65 #[.int .i64 (m : Int), .int .i64 0, .int .i64 3] w fun e w' => e = .returned (.bool true) ∧ w = w' := fun w => l1In_yes (m : Int) 0 3 w (by omega) (by omega)
    show Calls _ _ _ _ (AnsQ2 (smallN (m + 1)) true w)
    generalize smallN (m + 1) = X at *
    clear h
    go_enter Try.func31, Try.ntmps31
    go_wp2_with fail
    refine (I _).mono ?_; rintro e w1 ⟨rfl, rfl⟩
    go_wp2_with fail
    refine (C _).mono ?_; rintro e w2 ⟨v1, own1, hb1, rfl⟩
    go_wp2_with fail
    go_ret2
    exact ⟨_, own1, hb1, rfl⟩
  · rw [if_neg h]
    have I : ∀ w, Calls Try.prog 65 #[.int .i64 n, .int .i64 0, .int .i64 3] w fun e w' => e = .returned (.bool false) ∧ w = w' := fun w => l1In_no n 0 3 w (by omega)
    show Calls _ _ _ _ (AnsQ2 [] false w)
    clear h
    go_enter Try.func31, Try.ntmps31
    go_wp2_with fail
    refine (I _).mono ?_; rintro e w1 ⟨rfl, rfl⟩
    go_wp2_with fail
    go_ret2
    exact ⟨_, OwnX.nil _ _ _ _, Below.refl _ _, rfl⟩

set_option maxHeartbeats 1000000 in
theorem implSmallPairs_any (n : Int) (w : World) (lo : -9223372036854775808 ≤ n) (hi : n ≤ 9223372036854775807) :
    Calls Try.prog 32 #[.int .i64 n] w (AnsQs (SmallPairs_o n) w) := by
  unfold SmallPairs_o
  by_cases h : 0 ≤ n ∧ n ≤ 3
  · rw [if_pos h]
    obtain ⟨m, rfl⟩ : ∃ m : Nat, n = (m : Int) := ⟨n.toNat, by omega⟩
    rw [Int.toNat_natCast]
    have C := fun w => smallPairsOne_any (fun _ => true) m (by omega) w (fun p w' _ _ _ => always_any p w')
    rw [show (smallN (m + 1)).filter (fun _ => true) = smallN (m + 1) from List.filter_eq_self.2 (fun _ _ => rfl)] at C
    have h0 : ¬ (m : Int) < 0 := by omega
    have h3 : ¬ (3 : Int) < (m : Int) := by omega
    show Calls _ _ _ _ (AnsQ2 (smallN (m + 1)) true w)
    generalize smallN (m + 1) = X at *
    clear h
    go_enter Try.func32, Try.ntmps32
    go_wp2_with fail
    refine (C _).mono ?_; rintro e w1 ⟨v1, own1, hb1, rfl⟩
    go_wp2_with fail
    go_ret2
    exact ⟨_, own1, hb1, rfl⟩
  · rw [if_neg h]
    show Calls _ _ _ _ (AnsQ2 [] false w)
    by_cases h0 : n < 0
    · clear h
      go_enter Try.func32, Try.ntmps32
      go_wp2_with fail
      go_ret2
      exact ⟨_, OwnX.nil _ _ _ _, Below.refl _ _, rfl⟩
    · have h3 : (3 : Int) < n := by omega
      clear h
      go_enter Try.func32, Try.ntmps32
      go_wp2_with fail
      go_ret2
      exact ⟨_, OwnX.nil _ _ _ _, Below.refl _ _, rfl⟩
end Go.Proofs.Ytkpganpojdboeaa

/-! WSmallPairs -/
namespace Go.Proofs.Ytkpganpojdboeaa
open Go.RowKit

set_option maxRecDepth 100000 in
set_option maxHeartbeats 1000000 in
theorem fnExactSmallPairs_walk (a : Int) (ha : (Lit.int .i64 a).wf = true) (w : World) :
    Calls Try.prog 9 #[.int .i64 a] w fun e w' => e = .returned (.bool true) ∧ Below w.heap.size w w' := by
  obtain ⟨loa, hia⟩ := i64_bounds ha
  have hS := fun w => specSmallPairs_any a w  loa hia
  have hI := fun w => implSmallPairs_any a w  loa hia
  have hn9 := SmallPairs_len a
  obtain ⟨o, ho⟩ : ∃ o, o = SmallPairs_o a := ⟨_, rfl⟩
  rw [← ho] at hn9
  simp only [← ho] at hS hI
  clear ho
  obtain ⟨xs, ok, hx, hk⟩ : ∃ xs ok, xs = o.getD [] ∧ ok = o.isSome := ⟨_, _, rfl, rfl⟩
  have hS' : ∀ w, Calls Try.prog 31 #[.int .i64 a] w (AnsQ2 xs ok w) := by rw [hx, hk]; exact hS
  have hI' : ∀ w, Calls Try.prog 32 #[.int .i64 a] w (AnsQ2 xs ok w) := by rw [hx, hk]; exact hI
  rw [← hx] at hn9
  clear hS hI hx hk
  go_enter Try.func9, Try.ntmps9
  go_wp2_with fail
  refine (hS' _).mono ?_; rintro e w1 ⟨v0, own0, hb1, rfl⟩
  go_wp2_with fail
  refine (hI' _).mono ?_; rintro e w2 ⟨v1, own1, hb2, rfl⟩
  go_wp2_with fail
  refine (eqPairS_any _ _ v1 v0 xs _ own1.cells (OwnQ.keep own0 hb2).cells).mono ?_; rintro e w3 ⟨rfl, hb3⟩
  go_wp2_with fail
  refine (markPairS_1 w1.heap.size v1 xs _ hn9 (hb2.trans (hb3.mono hb2.size)).size (OwnQ.keep own1 hb3)).mono ?_; rintro e w4 ⟨rfl, own4, hb4⟩
  have hb14 : Below w1.heap.size w1 w4 := (hb2.trans (hb3.mono hb2.size)).trans hb4
  have own04 := OwnQ.keep own0 hb14
  go_wp2_with fail
  refine (heldPairS_1 w1.heap.size v1 xs.length _ hn9 own4.cells).mono ?_; rintro e w5 ⟨rfl, hb5⟩
  go_wp2_with fail
  refine (hI' _).mono ?_; rintro e w6 ⟨v2, own6, hb6, rfl⟩
  have hb46 : Below w4.heap.size w4 w6 := nx hb5 hb6
  go_wp2_with fail
  refine (eqPairS_any _ _ v2 v0 xs _ own6.cells (OwnQ.keep own04 hb46).cells).mono ?_; rintro e w7 ⟨rfl, hb7⟩
  go_wp2_with fail
  refine (heldPairS_1 w1.heap.size v1 xs.length _ hn9 (OwnX.keep own4 (nx hb46 hb7)).cells).mono ?_; rintro e w8 ⟨rfl, hb8⟩
  go_wp2_with fail
  go_ret
  exact ⟨rfl, nx (nx (nx (nx hb1 hb14) hb46) hb7) hb8⟩
end Go.Proofs.Ytkpganpojdboeaa

/-! LFnExactSmallPairs -/
namespace Go.Proofs.Ytkpganpojdboeaa.fnExactSmallPairs
open Go.ChangeShapes Go.WideShapes Go.ChangeAt Go.RowKit
open Go.ChangeMaps (open_string shut_string)
set_option linter.unusedVariables false

theorem own : ownKnob Try.prog.godebug = none := by kernel_rfl
theorem laidOut : laidOutB Try.prog = true := by kernel_rfl

set_option maxRecDepth 100000 in
theorem lifted (os : Os) (started : os.Started) (H : Type) (enc : TypeId × Value → H) :
    ReturnsInHanded {} Try.checked os 9 .any (Rows.fnExactSmallPairsSpec.pre6 enc Try.prog Try.f9 Rows.fnExactSmallPairsRow.domain false) (Rows.fnExactSmallPairsSpec.post enc Try.prog Try.f9 false true false false) := by
  refine returnsInHanded_of_change (C := Try.checked) own started (by kernel_rfl) Try.func9
    (ChangeSpec.witness6 (enc := enc) (C := Try.checked) false ⟨#[], #[.int .i64 0], []⟩ 8 (by kernel_rfl) (by kernel_rfl) (by kernel_rfl) (by kernel_rfl)) ?_
  intro W base args ds gs before hval0 hW hcnd _
  have hval : ∀ (j : Nat) t v, Try.f9.params[j]? = some t → args[j]? = some v → Value.okWide Try.prog W .any base t v := hval0
  have hW' := hW
  obtain ⟨p, q, hA0, hV, rfl, hfz, hnd⟩ := hW
  have hA : DataW.TrodAll enc Try.prog W 0 (fun _ => true) true Try.f9.params.toList args.toList ds p := hA0
  rw [Try.params9] at hA hval
  obtain ⟨v0, vs0, d0, ds0, p0, q0, hargs, rfl, rfl, h0, r0⟩ := trodAll_cons hA
  obtain ⟨rfl, rfl, rfl⟩ := trodAll_nil r0
  obtain rfl : args = #[v0] := by cases args; simp_all
  obtain ⟨rfl, rfl⟩ := trodVars_none hV
  obtain ⟨a0, rfl, rfl, rfl, w0⟩ := open_int Try.underlying3 (hval 0 3 v0 rfl rfl) h0
  clear hA0 hval0
  simp only [List.append_nil] at hW'
  refine (fnExactSmallPairs_walk a0 w0 W).mono fun e W' ⟨he, bel⟩ => ?_
  subst he
  exact ⟨_, rfl, _, _, _, [], _, [], hW', trodAll_mk1 (shut_bool Try.underlying4 _), (trodAll_cons_mk (shut_int Try.underlying3 w0) trodAll_mk0), rfl, bel.frame _, fun h => by cases h⟩

theorem over : Rows.fnExactSmallPairsRow.holds Try.pinned (OpenSpec.ofChange Rows.fnExactSmallPairsSpec) :=
  OpenClaim.holds_of_wide 9 Try.f9 rfl rfl rfl rfl rfl rfl rfl ⟨rfl, rfl, rfl, rfl, rfl⟩ rfl rfl rfl rfl rfl (by kernel_rfl) Try.func9 (by kernel_rfl)
    (of_decide_eq_true (by kernel_rfl)) (by unfold Func.isWrapper; first | (rw [if_pos (by decide +kernel)]; kernel_rfl) | (rw [if_neg (by decide +kernel)]; exact ⟨rfl, rfl⟩))
    (fun os started H enc _ => lifted os started H enc)

theorem proved : Rows.FnExactSmallPairsSaid := over
#print axioms proved
end Go.Proofs.Ytkpganpojdboeaa.fnExactSmallPairs
