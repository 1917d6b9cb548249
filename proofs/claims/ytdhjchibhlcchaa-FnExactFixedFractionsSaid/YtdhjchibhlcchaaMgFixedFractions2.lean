/- FnExactFixedFractions: for every input the law returns true and leaves its arguments as they were. No conditions. -/
import Derived.Test.YtdhjchibhlcchaaMgFixedFractions1
import Derived.Laws.IdiomCopy
import Derived.Lib.SliceRun
import Derived.Maps.AppendAt
import Derived.Laws.AppendOwnNone
import Derived.Laws.OwnMore
import Derived.Deep.RegionHeld3
import Derived.ProofKit
import Derived.OpenShut
import Derived.ShutString
import Derived.ChangeOld
import Derived.Below
import Derived.Lib.SmallJoins
/-! Fx2 -/
namespace Go.Proofs.Ytdhjchibhlcchaa
open Go.RowKit

theorem flat_get3 (l : List (Nat × Nat × Int)) (k : Nat) (h : k < l.length) : ∀ r, r < 3 → (flatP l).getD (k * 3 + r) 0 = (if r = 0 then ((l.getD k (0, 0, 0)).1 : Int) else if r = 1 then ((l.getD k (0, 0, 0)).2.1 : Int) else (l.getD k (0, 0, 0)).2.2) := by
  intro r hr
  have fg := flatP_get l k h
  match r, hr with
  | 0, _ => simpa using fg.1
  | 1, _ => simpa using fg.2.1
  | 2, _ => simpa using fg.2.2
theorem getD_append_lt (A B : List Int) (t : Nat) (h : t < A.length) : (A ++ B).getD t 0 = A.getD t 0 := by
  simp [List.getElem?_append_left h]
theorem getD_set3 (L : List Int) (i : Nat) (a b c : Int) (h : i * 3 + 2 < L.length) (t : Nat) :
    (((L.set (i * 3) a).set (i * 3 + 1) b).set (i * 3 + 2) c).getD t 0 = if t = i * 3 then a else if t = i * 3 + 1 then b else if t = i * 3 + 2 then c else L.getD t 0 := by
  simp only [List.getD_eq_getElem?_getD, List.getElem?_set, List.length_set]
  by_cases h2 : i * 3 + 2 = t
  · rw [if_pos h2, if_pos (by omega), if_neg (by omega), if_neg (by omega), if_pos (by omega)]; rfl
  · rw [if_neg h2]
    by_cases h1 : i * 3 + 1 = t
    · rw [if_pos h1, if_pos (by omega), if_neg (by omega), if_pos (by omega)]; rfl
    · rw [if_neg h1]
      by_cases h0 : i * 3 = t
      · rw [if_pos h0, if_pos (by omega), if_pos (by omega)]; rfl
      · rw [if_neg h0, if_neg (by omega), if_neg (by omega), if_neg (by omega)]
theorem zeroCells3 (n : Nat) : (Builtin.zeroCells (Value.agg #[.int .i64 0, .int .i64 0, .int .i64 0]).cells n).toList = List.replicate (n * 3) (Value.int .i64 0) := by
  apply List.ext_getElem
  · simp [Builtin.zeroCells, Value.cells]
  · intro i h1 h2
    simp [Builtin.zeroCells, Value.cells]
    have : i % 3 = 0 ∨ i % 3 = 1 ∨ i % 3 = 2 := by omega
    rcases this with e | e | e <;> simp [e]
theorem run_clear3 (w : World) (ty : TypeId) (g o n c : Nat) (hn : 0 < n)
    (hc : ∀ j, j < n * 3 → (w.cell? ⟨g, o + j, none⟩).isSome = true) (hf : ∀ j, j < n * 3 → w.frozen? ⟨g, o + j, none⟩ = false) :
    (Builtin.clear_ #[65] ty #[.slice (some ⟨g, o, none⟩) n c]).run Try.prog w = .ok (.tuple #[]) (w.setCells g o (List.replicate (n * 3) (.int .i64 0))) := by
  have hst := run_storeCells_cells (P := Try.prog) g o (List.replicate (n * 3) (Value.int .i64 0)) 0 w (by simpa using hc) (by simpa using hf) (by intro v hv'; rw [List.eq_of_mem_replicate hv']; rfl)
  simp only [Nat.add_zero] at hst
  obtain ⟨m, rfl⟩ : ∃ m, n = m + 1 := ⟨n - 1, by omega⟩
  simp [Builtin.clear_, run_underlying Try.underlying65, Try.zeroValue63, zeroCells3, hst]
/-- The slice is handed back with the pieces that are kept. -/
def KeptP (base : Nat) (ps : List (Nat × Nat × Int)) (w : World) (e : Ending) (w' : World) : Prop :=
  ∃ v, CellsW 3 base w' v (keepP ps).length (flatP (keepP ps)) ∧ Below base w w' ∧ e = .returned v
end Go.Proofs.Ytdhjchibhlcchaa

/-! Fx3 -/
namespace Go.Proofs.Ytdhjchibhlcchaa
open Go.RowKit

theorem below_setCells (g : Nat) (b : Nat) (hg : b ≤ g) : ∀ (vs : List Value) (o : Nat) (w0 w : World), Below b w0 w → Below b w0 (w.setCells g o vs)
  | [], _, _, _, h => h
  | v :: r, o, w0, w, h => by
    rw [World.setCells]
    exact below_setCells g b hg r (o + 1) w0 _ (h.setCell hg v)
/-- What stands in the cells while pieces are taken out: I are kept, J are looked at. -/
def Kept (ps : List (Nat × Nat × Int)) (n I J : Nat) (L : List Int) : Prop :=
  I < J ∧ J ≤ n ∧ I = (keepP (ps.take J)).length ∧ L.length = n * 3 ∧ (∀ t, t < I * 3 → L.getD t 0 = (flatP (keepP (ps.take J))).getD t 0) ∧ (∀ t, J * 3 ≤ t → t < n * 3 → L.getD t 0 = (flatP ps).getD t 0)
theorem flatP_take : ∀ (ps : List (Nat × Nat × Int)) (k t : Nat), t < k * 3 → (flatP (ps.take k)).getD t 0 = (flatP ps).getD t 0 := by
  intro ps
  induction ps with
  | nil => intro k t _; simp
  | cons x l ih =>
    intro k t h
    match k with
    | 0 => omega
    | k + 1 =>
      show ((x.1 : Int) :: (x.2.1 : Int) :: x.2.2 :: flatP (l.take k)).getD t 0 = ((x.1 : Int) :: (x.2.1 : Int) :: x.2.2 :: flatP l).getD t 0
      match t with
      | 0 => rfl
      | 1 => rfl
      | 2 => rfl
      | t + 3 => exact ih k t (by omega)
theorem Kept.start (ps : List (Nat × Nat × Int)) (n : Nat) (hn : ps.length = n) (h : nG ps < n) : Kept ps n (nG ps) (nG ps + 1) (flatP ps) := by
  have hb : (ps.getD (nG ps) (0, 0, 0)).1 ≠ (ps.getD (nG ps) (0, 0, 0)).2.1 := by
    intro he
    have := (nG_step ps (nG ps) (Nat.le_refl _) (by omega)).1 he
    omega
  have e := keep_bad ps (nG ps) (by omega) hb
  have e2 := keep_front ps (nG ps) (Nat.le_refl _)
  rw [e2] at e
  refine ⟨by omega, by omega, by rw [e, List.length_take]; omega, by rw [flatP_length, hn], fun t ht => ?_, fun t _ _ => rfl⟩
  rw [e, flatP_take ps _ t ht]
theorem Kept.skip {ps : List (Nat × Nat × Int)} {n I J : Nat} {L : List Int} (hn : ps.length = n) (h : Kept ps n I J L) (hJ : J < n) (hb : (ps.getD J (0, 0, 0)).1 ≠ (ps.getD J (0, 0, 0)).2.1) : Kept ps n I (J + 1) L := by
  obtain ⟨h1, h2, h3, h4, h5, h6⟩ := h
  have e := keep_bad ps J (by omega) hb
  exact ⟨by omega, by omega, by rw [e]; exact h3, h4, by rw [e]; exact h5, fun t ht => h6 t (by omega)⟩
theorem Kept.keep {ps : List (Nat × Nat × Int)} {n I J : Nat} {L : List Int} {x y : Nat} {z : Int} (hn : ps.length = n) (h : Kept ps n I J L) (hJ : J < n) (hx : (ps.getD J (0, 0, 0)).1 = x) (hy : (ps.getD J (0, 0, 0)).2.1 = y) (hz : (ps.getD J (0, 0, 0)).2.2 = z) (hb : x = y) :
    Kept ps n (I + 1) (J + 1) (((L.set (I * 3) (x : Int)).set (I * 3 + 1) (y : Int)).set (I * 3 + 2) z) := by
  obtain ⟨h1, h2, h3, h4, h5, h6⟩ := h
  have e := keep_good ps J (by omega) (by rw [hx, hy]; exact hb)
  rw [hx, hy, hz] at e
  refine ⟨by omega, by omega, by rw [e, List.length_append, ← h3]; rfl, by simp [h4], fun t ht => ?_, fun t ht1 ht2 => ?_⟩
  · rw [getD_set3 L I _ _ _ (by omega), e, flatP_append]
    have hl : (flatP (keepP (ps.take J))).length = I * 3 := by rw [flatP_length, ← h3]
    by_cases c : t < I * 3
    · rw [if_neg (by omega), if_neg (by omega), if_neg (by omega), getD_append_lt _ _ _ (by omega)]
      exact h5 t c
    · have e3 : ∀ r, r < 3 → (flatP (keepP (ps.take J)) ++ flatP [(x, y, z)]).getD (I * 3 + r) 0 = (flatP [(x, y, z)]).getD r 0 := by
        intro r _
        rw [List.getD_eq_getElem?_getD, List.getElem?_append_right (by omega), hl, Nat.add_sub_cancel_left, ← List.getD_eq_getElem?_getD]
      have ht3 : t = I * 3 ∨ t = I * 3 + 1 ∨ t = I * 3 + 2 := by omega
      rcases ht3 with rfl | rfl | rfl
      · rw [if_pos rfl]; exact (e3 0 (by omega)).symm
      · rw [if_neg (by omega), if_pos rfl]; exact (e3 1 (by omega)).symm
      · rw [if_neg (by omega), if_neg (by omega), if_pos rfl]; exact (e3 2 (by omega)).symm
  · rw [getD_set3 L I _ _ _ (by omega), if_neg (by omega), if_neg (by omega), if_neg (by omega)]
    exact h6 t (by omega) ht2

set_option maxRecDepth 100000 in
theorem indexFunc_nil (w : World) : Calls Try.prog 88 #[.slice none 0 0, .func (Fn.func 59) #[] #[]] w (Gives (.int .i64 (-1)) w) := by
  go_enter Try.func88, Try.ntmps88
  go_wp2_with fail
  go_loopw [8] (fun i wr => i = .int .i64 0 ∧ wr = w) (fun _ _ => 0)
  case atStart => exact ⟨rfl, rfl⟩
  case round =>
    obtain ⟨rfl, rfl⟩ := hrel
    go_wp2_with fail
    go_ret
    exact ⟨rfl, Below.refl _ _⟩
set_option maxRecDepth 100000 in
set_option maxHeartbeats 4000000 in
theorem deleteFunc_any (base : Nat) (v : Value) (ps : List (Nat × Nat × Int)) (w : World) (hbase : base ≤ w.heap.size) (hn9 : ps.length ≤ 1000) (h : OwnP base w v ps) :
    Calls Try.prog 58 #[v, .func (Fn.func 59) #[] #[]] w (KeptP base ps w) := by
  have hcall := call_moved
  obtain ⟨n, hn⟩ : ∃ n, ps.length = n := ⟨_, rfl⟩
  rw [hn] at hn9
  have hnl := nG_le ps
  rcases h.cells with ⟨rfl, h0⟩ | ⟨g, cap, rfl, hb1, hg1, hc1, hm1, hx1, hf1⟩
  · obtain rfl : ps = [] := List.length_eq_zero_iff.1 h0
    have hI := indexFunc_nil
    clear h hnl hn hn9 h0
    go_enter Try.func58, Try.ntmps58
    go_wp2_with fail
    refine (hI _).mono ?_; rintro e w1 ⟨rfl, hb⟩
    go_wp2_with fail
    go_ret
    exact ⟨_, .inl ⟨rfl, rfl⟩, hb.mono hbase, rfl⟩
  · rw [hn] at hc1 hx1 ⊢
    unfold maxLen at hm1
    have hI := fun w hg hc => indexFunc_any g cap ps n w hn hn9 hg hc1 hm1 hc
    have hI1 := hI w hg1 hx1
    by_cases hall : nG ps = n
    · rw [if_pos hall] at hI1
      have hk := keep_front ps n (by omega)
      rw [List.take_of_length_le (by omega)] at hk
      clear hI hall hnl
      go_enter Try.func58, Try.ntmps58
      go_wp2_with fail
      refine hI1.mono ?_; rintro e w1 ⟨rfl, hb⟩
      go_wp2_with fail
      go_ret
      refine ⟨_, ?_, hb.mono hbase, rfl⟩
      rw [hk, hn]
      exact .inr ⟨g, cap, rfl, hb1, Nat.lt_of_lt_of_le hg1 hb.size, hc1, by unfold maxLen; omega, fun i hi => (hb.cell (p := ⟨g, i, none⟩) hg1).trans (hx1 i hi), fun i => (hb.frozen (p := ⟨g, i, none⟩) hg1).trans (hf1 i)⟩
    · rw [if_neg hall] at hI1
      have hst := Kept.start ps n hn (by omega)
      have hown : OwnW 63 3 base w (.slice (some ⟨g, 0, none⟩) n cap) n (flatP ps) := by
        have := h
        unfold OwnP at this
        rw [hn] at this
        exact this
      have hi0 : nG ps < n := by omega
      generalize nG ps = i0 at *
      have HNN := Lib.hid hn
      have HST := Lib.hid hst
      clear hI h hx1 hf1 hnl hn hst hall
      go_enter Try.func58, Try.ntmps58
      go_wp2_with fail
      refine hI1.mono ?_; rintro e w1 ⟨rfl, hb⟩
      have hown1 := hown.keep hb
      have hbw1 := hb.mono hbase
      have hs1 := hb.size
      clear hown hb hI1
      have hne : ((i0 : Int) == -1) = false := by rw [beq_eq_false_iff_ne]; omega
      go_wp2_with fail
      go_loopw [5, 6] (fun i j wr => ∃ (I J : Nat) (L : List Int), i = .int .i64 I ∧ j = .int .i64 J ∧ Hid (Kept ps n I J L) ∧ J ≤ n ∧ I < J ∧ OwnW 63 3 base wr (.slice (some ⟨g, 0, none⟩) n cap) n L ∧ Below base w wr ∧ w.heap.size ≤ wr.heap.size) (fun _ j _ => n - (intOf j).toNat)
      case atStart => exact ⟨i0, i0 + 1, _, rfl, by go_num, HST, by omega, by omega, hown1, hbw1, hs1⟩
      case round =>
        obtain ⟨I, J, L, rfl, rfl, hK, hJ, hIJ, hown, hbw, hsz⟩ := hrel
        by_cases hlt : J < n
        · have hlt' : (J : Int) < (n : Int) := by omega
          have hn := HNN.out
          rcases hown.cells with ⟨h0, _⟩ | ⟨g', cap', hv, _, hg2, _, _, hx, hf⟩
          · simp at h0
          simp only [Value.slice.injEq, Option.some.injEq, Addr.mk.injEq, and_true, true_and] at hv
          obtain ⟨rfl, rfl⟩ := hv
          have fg := flatP_get ps J (by omega)
          have h6 := hK.out.2.2.2.2.2
          have c1 := hx (J * 3) (by omega)
          have c2 := hx (J * 3 + 1) (by omega)
          have c3 := hx (J * 3 + 2) (by omega)
          rw [h6 _ (by omega) (by omega), fg.1] at c1
          rw [h6 _ (by omega) (by omega), fg.2.1] at c2
          rw [h6 _ (by omega) (by omega), fg.2.2] at c3
          obtain ⟨x, hxe⟩ : ∃ x, (ps.getD J (0, 0, 0)).1 = x := ⟨_, rfl⟩
          obtain ⟨y, hye⟩ : ∃ y, (ps.getD J (0, 0, 0)).2.1 = y := ⟨_, rfl⟩
          obtain ⟨z, hze⟩ : ∃ z, (ps.getD J (0, 0, 0)).2.2 = z := ⟨_, rfl⟩
          rw [hxe] at c1
          rw [hye] at c2
          rw [hze] at c3
          have hM := fun w => moved_any x y z w
          have hbd : base ≤ wr.heap.size := by omega
          have hbA : Below base w (wr.alloc (.cells #[.int .i64 x, .int .i64 y, .int .i64 z] 63 (0, 0))) := hbw.alloc hbd _
          have hxb := heap_alloc_at wr (.cells #[.int .i64 x, .int .i64 y, .int .i64 z] 63 (0, 0))
          have hownA : OwnW 63 3 base (wr.alloc (.cells #[.int .i64 x, .int .i64 y, .int .i64 z] 63 (0, 0))) (.slice (some ⟨g, 0, none⟩) n cap) n L := OwnW.keep hown ((Below.refl _ _).alloc (Nat.le_refl _) _)
          have hszA : w.heap.size ≤ (wr.alloc (.cells #[.int .i64 x, .int .i64 y, .int .i64 z] 63 (0, 0))).heap.size := by simp; omega
          clear hx hf fg h6 hown hbw
          by_cases hxy : x = y
          · have HK := Lib.hid (hK.out.keep hn hlt hxe hye hze hxy)
            rw [show decide (x ≠ y) = false by simp [hxy]] at hM
            clear hxy hxe hye hze hn hK
            go_wp2_with fail
            refine (hM _).mono ?_; rintro e w3 ⟨rfl, hb3⟩
            have hown3 := hownA.keep hb3
            have hxb3 := heap_keep hb3 hxb
            have hbw3 := hbA.trans (hb3.mono (by omega))
            have hsz3 : w.heap.size ≤ w3.heap.size := Nat.le_trans hszA hb3.size
            obtain ⟨p1, p2, p3⟩ := three_cells hxb3
            rcases hown3.cells with ⟨h0, _⟩ | ⟨g', cap', hv, _, hg3, _, _, hx, hf⟩
            · simp at h0
            simp only [Value.slice.injEq, Option.some.injEq, Addr.mk.injEq, and_true, true_and] at hv
            obtain ⟨rfl, rfl⟩ := hv
            have d1 := hx (I * 3) (by omega)
            have d2 := hx (I * 3 + 1) (by omega)
            have d3 := hx (I * 3 + 2) (by omega)
            have f1 := hf (I * 3)
            have f2 := hf (I * 3 + 1)
            have f3 := hf (I * 3 + 2)
            have hIn : (I : Int) < (n : Int) := by omega
            have o1 := ((hown3.set (I * 3) (x : Int)).set (I * 3 + 1) (y : Int)).set (I * 3 + 2) z
            generalize L.getD (I * 3) 0 = y1 at *
            generalize L.getD (I * 3 + 1) 0 = y2 at *
            generalize L.getD (I * 3 + 2) 0 = y3 at *
            clear hx hf hown3 hownA hxb hxb3 hb3 hbA hszA c1 c2 c3
            go_wp2_with fail
            go_roundw
            case rel => exact ⟨I + 1, J + 1, _, by go_num, by go_num, HK, by omega, by omega, o1, ((hbw3.setCell hb1 _).setCell hb1 _).setCell hb1 _, by simpa [World.setCell] using hsz3⟩
            case measure => simp [intOf]; omega
          · have HK := Lib.hid (hK.out.skip hn hlt (by rw [hxe, hye]; exact hxy))
            rw [show decide (x ≠ y) = true by simp [hxy]] at hM
            clear hxy hxe hye hze hn hK
            go_wp2_with fail
            refine (hM _).mono ?_; rintro e w3 ⟨rfl, hb3⟩
            have hown3 := hownA.keep hb3
            have hbw3 := hbA.trans (hb3.mono (by omega))
            have hsz3 : w.heap.size ≤ w3.heap.size := Nat.le_trans hszA hb3.size
            clear hownA hxb hb3 hbA hszA c1 c2 c3
            go_wp2_with fail
            go_roundw
            case rel => exact ⟨I, J + 1, _, rfl, by go_num, HK, by omega, by omega, hown3, hbw3, hsz3⟩
            case measure => simp [intOf]; omega
        · obtain rfl : J = n := by omega
          have hn := HNN.out
          rcases hown.cells with ⟨h0, _⟩ | ⟨g', cap', hv, _, hg2, _, _, hx, hf⟩
          · simp at h0
          simp only [Value.slice.injEq, Option.some.injEq, Addr.mk.injEq, and_true, true_and] at hv
          obtain ⟨rfl, rfl⟩ := hv
          obtain ⟨k1, k2, k3, k4, k5, _⟩ := hK.out
          rw [List.take_of_length_le (by omega)] at k3 k5
          have hcl : ∀ ty, (Builtin.clear_ #[65] ty #[.slice (some ⟨g, I * 3, none⟩) (J - I) (cap - I)]).run Try.prog wr = .ok (.tuple #[]) (wr.setCells g (I * 3) (List.replicate ((J - I) * 3) (.int .i64 0))) :=
            fun ty => run_clear3 wr ty g (I * 3) (J - I) (cap - I) (by omega) (fun t ht => by rw [hx (I * 3 + t) (by omega)]; rfl) (fun t _ => hf _)
          have hpost : KeptP base ps w (.returned (.slice (some ⟨g, 0, none⟩) I cap)) (wr.setCells g (I * 3) (List.replicate ((J - I) * 3) (.int .i64 0))) := by
            refine ⟨_, ?_, below_setCells g base hb1 _ _ _ _ hbw, rfl⟩
            rw [← k3]
            refine .inr ⟨g, cap, rfl, hb1, ?_, by omega, by unfold maxLen; omega, fun t ht => ?_, fun t => ?_⟩
            · exact Nat.lt_of_lt_of_le hg2 (below_setCells g base hb1 _ _ wr wr (Below.refl _ _)).size
            · rw [World.cell?_setCells_out g _ _ wr ⟨g, t, none⟩ (fun _ _ => .inl ht), hx t (by omega), k5 t ht]
            · rw [World.frozen?_setCells, hf]
          have hIJ' : (I : Int) ≤ (J : Int) := by omega
          clear hx hf k1 k2 k3 k4 k5 hown hK HNN HST
          generalize wr.setCells g (I * 3) (List.replicate ((J - I) * 3) (.int .i64 0)) = wz at *
          go_wp2_with fail
          go_ret
          exact hpost
end Go.Proofs.Ytdhjchibhlcchaa

/-! Br3 -/
namespace Go.Proofs.Ytdhjchibhlcchaa
open Go.RowKit

/-- Where the leaves of a tree begin at which the slopes of a pair change. -/
def frAt (t : Tr) (p : Pr) : List (Nat × Nat) := (brkI (slopes p) (slopes p).length).map fun k => (frs (t.addrs ⟨#[]⟩)).getD k (0, 0)
theorem slopes_len (p : Pr) (he : p.1.carets = p.2.carets) : (slopes p).length = p.1.carets + 1 := by
  have l1 := addrs_length p.1 ⟨#[]⟩
  have l2 := addrs_length p.2 ⟨#[]⟩
  have := slopesL_length (p.1.addrs ⟨#[]⟩) (p.2.addrs ⟨#[]⟩) (by omega)
  show (slopesL (p.1.addrs ⟨#[]⟩) (p.2.addrs ⟨#[]⟩)).length = _
  omega
theorem frAt_len (t : Tr) (p : Pr) (he : p.1.carets = p.2.carets) : (frAt t p).length ≤ p.1.carets + 1 := by
  have := slopes_len p he
  have h := brkI_len (slopes p) (slopes p).length
  unfold frAt
  rw [List.length_map]
  omega
theorem pcsB_len (p : Pr) : (pcs p).length = (slopes p).length := by rw [← slopes_pcs, List.length_map]
theorem pcs_get (p : Pr) (he : p.1.carets = p.2.carets) {k : Nat} (hk : k < (slopes p).length) : ((pcs p).getD k (0, 0, 0)).1 = stA ((p.1.addrs ⟨#[]⟩).getD k ⟨#[]⟩) ∧ ((pcs p).getD k (0, 0, 0)).2.1 = stA ((p.2.addrs ⟨#[]⟩).getD k ⟨#[]⟩) := by
  have l1 := addrs_length p.1 ⟨#[]⟩
  have l2 := addrs_length p.2 ⟨#[]⟩
  have hl := slopes_len p he
  have := pcsL_get (p.1.addrs ⟨#[]⟩) (p.2.addrs ⟨#[]⟩) (by omega) k (by omega)
  unfold pcs
  rw [this]
  exact ⟨rfl, rfl⟩
theorem frs_get (l : List ByteArray) (k : Nat) (h : k < l.length) : (frs l).getD k (0, 0) = frOf (stA (l.getD k ⟨#[]⟩)) := by
  simp [frs, h]
theorem brk_start (p : Pr) (he : p.1.carets = p.2.carets) : fracs (fun x => x.1) (brkP (pcs p)) = frAt p.1 p := by
  unfold fracs brkP frAt
  rw [slopes_pcs, List.map_map, pcsB_len]
  apply List.map_congr_left
  intro k hk
  have hk' := brkI_lt _ _ k hk
  have l1 := addrs_length p.1 ⟨#[]⟩
  have hl := slopes_len p he
  show frOf ((pcs p).getD k (0, 0, 0)).1 = _
  rw [(pcs_get p he hk').1, frs_get _ _ (by omega)]
theorem brk_target (p : Pr) (he : p.1.carets = p.2.carets) : fracs (fun x => x.2.1) (brkP (pcs p)) = frAt p.2 p := by
  unfold fracs brkP frAt
  rw [slopes_pcs, List.map_map, pcsB_len]
  apply List.map_congr_left
  intro k hk
  have hk' := brkI_lt _ _ k hk
  have l1 := addrs_length p.2 ⟨#[]⟩
  have hl := slopes_len p he
  show frOf ((pcs p).getD k (0, 0, 0)).2.1 = _
  rw [(pcs_get p he hk').2, frs_get _ _ (by omega)]
theorem stA_ok {a : ByteArray} (h : okAd a) : stA a ≤ 1048576 ∧ stA a % 1024 = 0 :=
  ⟨Nat.le_of_lt (stA_lt (by have := h.1; omega) h.2), stA_thousand h.1⟩
theorem brk_ok (p : Pr) (h1 : p.1.carets ≤ 8) (h2 : p.2.carets ≤ 8) (he : p.1.carets = p.2.carets) : ∀ x ∈ brkP (pcs p), (x.1 ≤ 1048576 ∧ x.1 % 1024 = 0) ∧ (x.2.1 ≤ 1048576 ∧ x.2.1 % 1024 = 0) := by
  intro x hx
  unfold brkP at hx
  rw [List.mem_map] at hx
  obtain ⟨k, hk, rfl⟩ := hx
  have hk' := brkI_lt _ _ k hk
  rw [pcsB_len] at hk'
  have l1 := addrs_length p.1 ⟨#[]⟩
  have l2 := addrs_length p.2 ⟨#[]⟩
  have hl := slopes_len p he
  rw [(pcs_get p he hk').1, (pcs_get p he hk').2]
  have m1 : (p.1.addrs ⟨#[]⟩).getD k ⟨#[]⟩ ∈ p.1.addrs ⟨#[]⟩ := by simp [show k < (p.1.addrs ⟨#[]⟩).length by omega]
  have m2 : (p.2.addrs ⟨#[]⟩).getD k ⟨#[]⟩ ∈ p.2.addrs ⟨#[]⟩ := by simp [show k < (p.2.addrs ⟨#[]⟩).length by omega]
  exact ⟨stA_ok (addrs_ok p.1 h1 _ m1), stA_ok (addrs_ok p.2 h2 _ m2)⟩
theorem brkP_len (p : Pr) (he : p.1.carets = p.2.carets) : (brkP (pcs p)).length ≤ p.1.carets + 1 := by
  unfold brkP
  rw [List.length_map, pcsB_len, slopes_pcs]
  have := brkI_len (slopes p) (slopes p).length
  have := slopes_len p he
  omega
/-- A slice of pieces that the call has made, and a bool. -/
def AnsP2 (xs : List (Nat × Nat × Int)) (ok : Bool) (w : World) (e : Ending) (w' : World) : Prop :=
  ∃ v, OwnP w.heap.size w' v xs ∧ Below w.heap.size w w' ∧ e = .returned (.tuple #[v, .bool ok])
def brkQ (o : Option Pr) : List (Nat × Nat × Int) := match o with | some p => brkP (pcs p) | none => []
set_option maxRecDepth 100000 in
set_option maxHeartbeats 1000000 in
theorem implbreaksOf_any (a b : ByteArray) (w : World) (ha : a.size ≤ 9223372036854775806) (hb : b.size ≤ 9223372036854775806) :
    Calls Try.prog 53 #[.agg #[.string a, .string b]] w (AnsP2 (brkQ (pairOf a b)) (pairOf a b).isSome w) := by
  have hg := fun w => isPair_any a b w ha hb
  cases h : pairOf a b with
  | none =>
    rw [h] at hg
    clear h
    go_enter Try.func53, Try.ntmps53
    go_wp2_with fail
    have hb0 : Below w.heap.size w (w.alloc (.cells #[.string a, .string b] 34 (0, 0))) := nxAlloc (Below.refl _ _) _
    have hx0 := heap_alloc_at w (.cells #[.string a, .string b] 34 (0, 0))
    generalize (w.alloc (.cells #[.string a, .string b] 34 (0, 0))) = w0 at *
    obtain ⟨hx0a, hx0b, hx0c⟩ := two_facts hx0
    obtain ⟨hx0f, hx0g⟩ := two_frozen hx0
    refine (hg _).mono ?_; rintro e w1 ⟨rfl, hb1⟩
    have hbw1 := nx hb0 hb1
    replace hx0 := heap_keep hb1 hx0
    clear hx0a hx0b hx0c hx0f hx0g
    obtain ⟨hx0a, hx0b, hx0c⟩ := two_facts hx0
    obtain ⟨hx0f, hx0g⟩ := two_frozen hx0
    clear hb1 hb0
    go_wp2_with fail
    go_ret2
    exact ⟨_, OwnW.nil _ _ _ _, hbw1, rfl⟩
  | some p =>
    rw [h] at hg
    obtain ⟨rfl, rfl, hok, hc1, hc2⟩ := pairOf_some h
    have hM := fun w => leafPieces_any p w hc1 hc2 hok
    have hl := slopes_len p hok
    have hpl := pcsB_len p
    clear h
    show Calls _ _ _ _ (AnsP2 (brkP (pcs p)) true w)
    generalize pcs p = ps at *
    obtain ⟨n, hn⟩ : ∃ n, ps.length = n := ⟨_, rfl⟩
    have hn9 : n ≤ 9 := by omega
    have hn0 : 0 < n := by omega
    clear hl hpl
    go_enter Try.func53, Try.ntmps53
    go_wp2_with fail
    have hb0 : Below w.heap.size w (w.alloc (.cells #[.string p.1.str, .string p.2.str] 34 (0, 0))) := nxAlloc (Below.refl _ _) _
    have hx0 := heap_alloc_at w (.cells #[.string p.1.str, .string p.2.str] 34 (0, 0))
    generalize (w.alloc (.cells #[.string p.1.str, .string p.2.str] 34 (0, 0))) = w0 at *
    obtain ⟨hx0a, hx0b, hx0c⟩ := two_facts hx0
    obtain ⟨hx0f, hx0g⟩ := two_frozen hx0
    refine (hg _).mono ?_; rintro e w1 ⟨rfl, hb1⟩
    have hbw1 := nx hb0 hb1
    replace hx0 := heap_keep hb1 hx0
    clear hx0a hx0b hx0c hx0f hx0g
    obtain ⟨hx0a, hx0b, hx0c⟩ := two_facts hx0
    obtain ⟨hx0f, hx0g⟩ := two_frozen hx0
    clear hb1 hb0
    go_wp2_with fail
    refine (hM _).mono ?_; rintro e w2 ⟨v, own, hb2, rfl⟩
    have hbw2 := nx hbw1 hb2
    clear hx0 hx0a hx0b hx0c hx0f hx0g hM hg hb2 hbw1
    rcases own.cells with ⟨rfl, h0⟩ | ⟨g, cap, rfl, _, hg1, hc3, hc4, hcell, _⟩
    · omega
    · rw [hn] at hc3 hcell ⊢
      have hB := breaking_any g cap ps n w2 hn hn0 hn9 hg1 hc3 hc4 hcell
      clear hcell own hc4
      go_wp2_with fail
      refine hB.mono ?_; rintro e w3 ⟨v3, own3, hb3, rfl⟩
      go_wp2_with fail
      go_ret2
      exact ⟨_, own3.mono hbw2.size, nx hbw2 hb3, rfl⟩
end Go.Proofs.Ytdhjchibhlcchaa

/-! Src -/
namespace Go.Proofs.Ytdhjchibhlcchaa
open Go.RowKit

theorem CellsS.form0 {b1 : Nat} {w : World} {v : Value} {xs : List ByteArray} (h : CellsS b1 w v xs) :
    ∃ oa cap, v = .slice oa xs.length cap ∧ xs.length ≤ cap ∧ cap ≤ maxLen ∧ ∀ i, i < xs.length → ∃ g, oa = some ⟨g, 0, none⟩ ∧ b1 ≤ g ∧ g < w.heap.size ∧ w.cell? ⟨g, i, none⟩ = some (.string (xs.getD i ⟨#[]⟩)) := by
  rcases h with ⟨rfl, rfl⟩ | ⟨g, cap, rfl, h1, h2, h3, h4, h5, _⟩
  · exact ⟨none, 0, rfl, Nat.le_refl _, Nat.zero_le _, fun i hi => by simp at hi⟩
  · exact ⟨some ⟨g, 0, none⟩, cap, rfl, h3, h4, fun i hi => ⟨g, rfl, h1, h2, h5 i hi⟩⟩

theorem CellsS.at1 {b1 : Nat} {w : World} {g n cap : Nat} {ss : List ByteArray} (h : CellsS b1 w (.slice (some ⟨g, 0, none⟩) n cap) ss) {i : Nat} {t : ByteArray} (hi : ss[i]? = some t) : w.cell? ⟨g, i, none⟩ = some (.string t) := by
  rcases h with ⟨h, _⟩ | ⟨g', cap', h, _, _, _, _, hc, _⟩
  · cases h
  · cases h
    have hl := (List.getElem?_eq_some_iff.1 hi).1
    rw [hc i hl]
    simp [List.getD_eq_getElem?_getD, hi]

/-- A slice value from which the cells ys can be read. -/
def SrcV (w : World) (u : Value) (ys : List Value) : Prop :=
  (u = .slice none 0 0 ∧ ys = []) ∨ ∃ ad c, u = .slice (some ad) ys.length c ∧ ∀ j x, ys[j]? = some x → w.cell? (ad.add j) = some x

theorem SrcV.keep {w w' : World} {u : Value} {ys : List Value} (h : SrcV w u ys) (hb : Below w.heap.size w w') : SrcV w' u ys := by
  rcases h with h | ⟨ad, c, h1, h2⟩
  · exact .inl h
  · refine .inr ⟨ad, c, h1, fun j x hj => ?_⟩
    have hc := h2 j x hj
    exact (hb.cell (World.block_lt_of_cell? w _ hc)).trans hc

theorem wpList_appSrc {P : Program} {w : World} {ops : Array Oper} {rest : List Oper} {o : Oper} {a : Act} {Q : Exit → Act → World → Prop} (hgd : o.guard = none) (s x : Operand) (t : TypeId)
    (ho : o.op = .call { callee := .builtin .append, args := #[s, x], argTypes := #[t, t] })
    (base : Nat) (e : TypeId) (i : TypeInfo) (z : Value) (bytes : Nat) (ht : P.underlying t = some (.slice e)) (hi : P.info? e = some i) (hz : i.zero = some z)
    (hsize : i.size = 1) (hby : i.bytes = bytes) (hzs : z.cells.size = 1)
    (v : Value) (n : Nat) (xs : List Value) (hs : a.eval s = v) (hown : w.ownsRow base e 1 v n xs)
    (u : Value) (ys : List Value) (hx : a.eval x = u) (hsrc : SrcV w u ys) (h1 : ∀ y ∈ ys, y.oneCell' = true)
    (h63 : n + ys.length ≤ maxLen) (hbytes : (n + ys.length) * bytes ≤ 140737488355328) (hbase : base ≤ w.heap.size)
    (h : ∀ v' w', w'.ownsRow base e 1 v' (n + ys.length) (xs ++ ys) → Below base w w' → (v' = .slice none 0 0 → v = .slice none 0 0) → wpList P ops Q rest (a.put o.dst v') w') : wpList P ops Q (o :: rest) a w := by
  rcases hsrc with ⟨rfl, rfl⟩ | ⟨ad, c, rfl, hc⟩
  · refine wpList_append_own_none hgd s x t ho base e i 1 ht hi v n xs hs hown hx ?_
    exact h v w (by simpa using hown) (Below.refl _ _) id
  · refine wpList_append_own w hgd s x t ho base e i z 1 bytes ht hi hz hsize hby hzs (by decide) v n xs hs hown ad ys.length c ys hx (by simp) hc h1 h63 hbytes hbase ?_
    intro v' w' hown' hg hn
    exact h v' w' hown' ((Below.refl base w).grown hg hbase (fun k hk => ownsRow_ge hown k hk)) (fun e => (hn.1 e).1)

theorem row_shape {w : World} {base : Nat} {e : TypeId} {size : Nat} {v : Value} {n : Nat} {xs : List Value} (h : w.ownsRow base e size v n xs) (hn : v ≠ .slice none 0 0) : ∃ g cap, v = .slice (some ⟨g, 0, none⟩) n cap ∧ base ≤ g := by
  rcases h.2 with ⟨hv, _⟩ | ⟨g, cap, cur, hv, hb, _⟩
  · exact absurd hv hn
  · exact ⟨g, cap, hv, hb⟩

/-- An empty slice in a block of its own. -/
theorem ownsRow_empty (w : World) (e : TypeId) : (w.alloc (.cells #[] e (0, 0))).ownsRow w.heap.size e 1 (.slice (some ⟨w.heap.size, 0, none⟩) 0 0) 0 [] :=
  World.ownsRow_made w #[] 0 (Nat.le_refl _) (Nat.zero_le _) rfl

/-- The parts of a slice of the call's own, as sources. -/
theorem src_take {base : Nat} {w : World} {e : TypeId} {g n cap : Nat} {xs : List Value} (h : w.ownsRow base e 1 (.slice (some ⟨g, 0, none⟩) n cap) n xs) (k : Nat) (hk : k ≤ n) (c : Nat) : SrcV w (.slice (some ⟨g, 0, none⟩) k c) (xs.take k) := by
  have hl := h.1
  refine .inr ⟨_, c, by rw [List.length_take]; congr 1; omega, fun j x hj => ?_⟩
  have hj' := (List.getElem?_eq_some_iff.1 hj).1
  rw [List.length_take] at hj'
  rw [List.getElem?_take_of_lt (by omega)] at hj
  rw [addr_add, World.ownsRow.cellAt h j (by omega)]
  exact hj
theorem src_drop {base : Nat} {w : World} {e : TypeId} {g n cap : Nat} {xs : List Value} (h : w.ownsRow base e 1 (.slice (some ⟨g, 0, none⟩) n cap) n xs) (k : Nat) (hk : k ≤ n) (c : Nat) : SrcV w (.slice (some ⟨g, k, none⟩) (n - k) c) (xs.drop k) := by
  have hl := h.1
  refine .inr ⟨_, c, by rw [List.length_drop]; congr 1; omega, fun j x hj => ?_⟩
  have hj' := (List.getElem?_eq_some_iff.1 hj).1
  rw [List.length_drop] at hj'
  rw [List.getElem?_drop] at hj
  have ea : (⟨g, k, none⟩ : Addr).add j = ⟨g, k + j, none⟩ := by
    unfold Addr.add
    split
    · next h0 => rw [h0]; simp
    · rfl
  rw [ea, World.ownsRow.cellAt h (k + j) (by omega)]
  exact hj
theorem src_cells {b1 : Nat} {w : World} {g n cap : Nat} {xs : List ByteArray} (h : CellsS b1 w (.slice (some ⟨g, 0, none⟩) n cap) xs) (k : Nat) (hk : k ≤ xs.length) (c : Nat) : SrcV w (.slice (some ⟨g, 0, none⟩) k c) ((xs.take k).map Value.string) := by
  rcases h with ⟨h, _⟩ | ⟨g', cap', h, _, _, _, _, hc, _⟩
  · cases h
  · cases h
    refine .inr ⟨_, c, by rw [List.length_map, List.length_take]; congr 1; omega, fun j x hj => ?_⟩
    have hj' := (List.getElem?_eq_some_iff.1 hj).1
    rw [List.length_map, List.length_take] at hj'
    rw [List.getElem?_map, List.getElem?_take_of_lt (by omega), List.getElem?_eq_getElem (by omega)] at hj
    have hx := hc j (by omega)
    rw [List.getD_eq_getElem?_getD, List.getElem?_eq_getElem (by omega)] at hx
    rw [addr_add, hx]
    exact hj
theorem src_end {w : World} (a : Option Addr) (c : Nat) (h : a = none → c = 0) : SrcV w (.slice a 0 c) [] := by
  cases a with
  | none => rw [h rfl]; exact .inl ⟨rfl, rfl⟩
  | some ad => exact .inr ⟨ad, c, rfl, fun j x hj => by simp at hj⟩
end Go.Proofs.Ytdhjchibhlcchaa

/-! Fx4 -/
namespace Go.Proofs.Ytdhjchibhlcchaa
open Go.RowKit

/-- Fractions with 0 in front and 1 behind. -/
def ends (xs : List (Nat × Nat)) : List (Nat × Nat) := (0, 1) :: xs ++ [(1, 1)]
/-- Those of two lists that are the same, up to a place. -/
def sameU (xs ys : List (Nat × Nat)) : Nat → List (Nat × Nat)
  | 0 => []
  | j + 1 => sameU xs ys j ++ if xs.getD j (0, 0) = ys.getD j (0, 0) then [((xs.getD j (0, 0)).1, (xs.getD j (0, 0)).2)] else []
theorem sameU_cons (x y : Nat × Nat) (xs ys : List (Nat × Nat)) : ∀ j, sameU (x :: xs) (y :: ys) (j + 1) = (if x = y then [x] else []) ++ sameU xs ys j := by
  intro j
  induction j with
  | zero => show [] ++ _ = _; simp [sameU]
  | succ j ih =>
    show sameU (x :: xs) (y :: ys) (j + 1) ++ _ = _ ++ (sameU xs ys j ++ _)
    rw [ih, List.append_assoc]
    rfl
theorem sameU_len (xs ys : List (Nat × Nat)) : ∀ j, (sameU xs ys j).length ≤ j := by
  intro j
  induction j with
  | zero => exact Nat.le_refl _
  | succ j ih =>
    show (sameU xs ys j ++ _).length ≤ _
    rw [List.length_append]
    split <;> simp <;> omega
theorem frOf_inj {a b : Nat} (h : frOf a = frOf b) : a = b := by
  have h1 := frOf_cross a
  have h2 := frOf_cross b
  have hp := frOf_pos a
  rw [h] at h1 hp
  exact Nat.eq_of_mul_eq_mul_right hp (h1.symm.trans h2)
theorem sameU_fracs (ps : List (Nat × Nat × Int)) : sameU (fracs (fun x => x.1) ps ++ [(1, 1)]) (fracs (fun x => x.2.1) ps ++ [(1, 1)]) (ps.length + 1) = fracs (fun x => x.1) (keepP ps) ++ [(1, 1)] := by
  induction ps with
  | nil => rfl
  | cons x l ih =>
    show sameU (frOf x.1 :: (fracs (fun x => x.1) l ++ [(1, 1)])) (frOf x.2.1 :: (fracs (fun x => x.2.1) l ++ [(1, 1)])) (l.length + 1 + 1) = _
    rw [sameU_cons, ih]
    by_cases h : x.1 = x.2.1
    · rw [if_pos (by rw [h]), show keepP (x :: l) = x :: keepP l by unfold keepP; rw [List.filter_cons_of_pos (by rw [decide_eq_true_eq]; exact h)]]
      rfl
    · rw [if_neg (fun e => h (frOf_inj e)), show keepP (x :: l) = keepP l by unfold keepP; rw [List.filter_cons_of_neg (by rw [decide_eq_true_eq]; exact h)]]
      rfl
theorem same_ends (ps : List (Nat × Nat × Int)) : sameU (ends (fracs (fun x => x.1) ps)) (ends (fracs (fun x => x.2.1) ps)) (ps.length + 2) = ends (fracs (fun x => x.1) (keepP ps)) := by
  show sameU ((0, 1) :: (fracs (fun x => x.1) ps ++ [(1, 1)])) ((0, 1) :: (fracs (fun x => x.2.1) ps ++ [(1, 1)])) (ps.length + 1 + 1) = _
  rw [sameU_cons, if_pos rfl, sameU_fracs]
  rfl

theorem wpList_appW {P : Program} {w : World} {ops : Array Oper} {rest : List Oper} {o : Oper} {a : Act} {Q : Exit → Act → World → Prop} (hgd : o.guard = none) (s x : Operand) (t : TypeId)
    (ho : o.op = .call { callee := .builtin .append, args := #[s, x], argTypes := #[t, t] })
    (base : Nat) (e : TypeId) (i : TypeInfo) (z : Value) (ht : P.underlying t = some (.slice e)) (hi : P.info? e = some i) (hz : i.zero = some z)
    (hsize : i.size = 2) (hby : i.bytes = 16) (hzs : z.cells.size = 2)
    (v : Value) (n : Nat) (xs : List Value) (hs : a.eval s = v) (hown : w.ownsRow base e 2 v n xs)
    (u : Value) (m b1 : Nat) (L : List Int) (hx : a.eval x = u) (hsrc : CellsW 2 b1 w u m L) (hL : L.length = m * 2)
    (h63 : n + m ≤ maxLen) (hbytes : (n + m) * 16 ≤ 140737488355328) (hbase : base ≤ w.heap.size)
    (h : ∀ v' w', w'.ownsRow base e 2 v' (n + m) (xs ++ L.map (Value.int .i64)) → Below base w w' → wpList P ops Q rest (a.put o.dst v') w') : wpList P ops Q (o :: rest) a w := by
  rcases hsrc with ⟨rfl, rfl⟩ | ⟨g, cap, rfl, _, _, _, _, hc, _⟩
  · refine wpList_append_own_none hgd s x t ho base e i 2 ht hi v n xs hs hown hx ?_
    obtain rfl : L = [] := List.length_eq_zero_iff.1 (by omega)
    exact h v w (by simpa using hown) (Below.refl _ _)
  · refine wpList_append_own w hgd s x t ho base e i z 2 16 ht hi hz hsize hby hzs (by decide) v n xs hs hown ⟨g, 0, none⟩ m cap (L.map (Value.int .i64)) hx (by simp [hL]) (fun j u hj => ?_) (fun u hu => ?_) h63 hbytes hbase ?_
    · have hj' : j < L.length := by have := (List.getElem?_eq_some_iff.1 hj).1; simpa using this
      rw [addr_add, hc j (by omega), ← hj]
      simp [hj']
    · rw [List.mem_map] at hu
      obtain ⟨k, _, rfl⟩ := hu
      rfl
    · intro v' w' hown' hg _
      exact h v' w' hown' ((Below.refl base w).grown hg hbase (fun k hk => ownsRow_ge hown k hk))
theorem ends_own {base : Nat} {w : World} {v : Value} {xs : List (Nat × Nat)} {m : Nat} (hm : m = 1 + xs.length + 1) (h : w.ownsRow base 26 2 v m (([Value.int .i64 0, Value.int .i64 1] ++ (flatF xs).map (Value.int .i64)) ++ [Value.int .i64 1, Value.int .i64 1])) : OwnF base w v (ends xs) := by
  unfold OwnF OwnW
  subst hm
  have e1 : (ends xs).length = 1 + xs.length + 1 := by simp [ends]; omega
  have e2 : (flatF (ends xs)).map (Value.int .i64) = ([Value.int .i64 0, Value.int .i64 1] ++ (flatF xs).map (Value.int .i64)) ++ [Value.int .i64 1, Value.int .i64 1] := by
    show ((0 : Int) :: (1 : Int) :: flatF (xs ++ [(1, 1)])).map (Value.int .i64) = _
    rw [flatF_append]
    simp [flatF]
  rw [e1, e2]
  exact h
set_option maxRecDepth 100000 in
set_option maxHeartbeats 2000000 in
theorem mpEnds_any (b0 : Nat) (v : Value) (xs : List (Nat × Nat)) (w : World) (hc : CellsW 2 b0 w v xs.length (flatF xs)) (hn : xs.length ≤ 1000) :
    Calls Try.prog 57 #[v] w (GivesF (ends xs) w) := by
  obtain ⟨i0, hi, hz0, hz1, hz2⟩ := info_parts info_frac
  have hL := flatF_length xs
  have hcA := hc.keep ((Below.refl w.heap.size w).alloc (Nat.le_refl _) (.cells #[.int .i64 0, .int .i64 1] 26 (0, 0)))
  have hown := World.ownsRow_lit (base := w.heap.size) (e := 26) (size := 2) w #[.int .i64 0, .int .i64 1] 1 (Nat.le_refl _) (by unfold maxLen; omega) rfl
  obtain ⟨m, hm⟩ : ∃ m, m = xs.length := ⟨_, rfl⟩
  rw [← hm] at hcA hL hn
  have HM := Lib.hid hm
  clear hc hm
  go_enter Try.func57, Try.ntmps57
  go_wp2_with (first
    | (at_builtin; refine wpList_appW rfl _ _ 38 rfl w.heap.size 26 i0 (.agg #[.int .i64 0, .int .i64 0]) Try.underlying38 hi hz0 hz1 hz2 rfl _ _ _ rfl hown _ m b0 (flatF xs) rfl hcA hL (by unfold maxLen; omega) (by omega) (by simp) ?_; intro v1 w1 hown1 hb1; have hb1' := (((Below.refl w.heap.size w).alloc (Nat.le_refl _) _).trans hb1); have hs1 := hb1'.size)
    | (at_builtin; refine wpList_append_own _ rfl _ _ 38 rfl w.heap.size 26 i0 (.agg #[.int .i64 0, .int .i64 0]) 2 16 Try.underlying38 hi hz0 hz1 hz2 rfl (by decide) _ _ _ rfl (hown1.alloc _) ⟨w1.heap.size, 0, none⟩ 1 1 [.int .i64 1, .int .i64 1] rfl rfl (newsK _ #[.int .i64 1, .int .i64 1] _) (two1 1 1) (by unfold maxLen; omega) (by omega) (by simp; omega) ?_; intro v2 w2 hown2 hgrow hnn))
  have hb2 := (hb1'.alloc hs1 (.cells #[.int .i64 1, .int .i64 1] 26 (0, 0))).grown hgrow (by simp; omega) (fun k hk => ownsRow_ge hown1 k hk)
  go_wp2_with fail
  go_ret
  exact ⟨_, ends_own (by rw [HM.out]) hown2, hb2, rfl⟩
end Go.Proofs.Ytdhjchibhlcchaa

/-! Fx5 -/
namespace Go.Proofs.Ytdhjchibhlcchaa
open Go.RowKit

def FixedFractions_o (a b : ByteArray) : Option (List (Nat × Nat)) := (pairOf a b).bind fun p => some (ends (fracs (fun x => x.1) (keepP (brkP (pcs p)))))
theorem keep_le (ps : List (Nat × Nat × Int)) : (keepP ps).length ≤ ps.length := List.length_filter_le _ _
theorem FixedFractions_len (a b : ByteArray) : ((FixedFractions_o a b).getD []).length ≤ 1000000000 := by
  unfold FixedFractions_o
  cases h : pairOf a b with
  | none => simp
  | some p =>
    obtain ⟨_, _, hok, hc1, hc2⟩ := pairOf_some h
    have h1 := brkP_len p hok
    have h2 := keep_le (brkP (pcs p))
    show (ends (fracs (fun x => x.1) (keepP (brkP (pcs p))))).length ≤ 1000000000
    simp [ends, fracs]
    omega
theorem call_startF (args : Array Value) (w : World) : (callFunc 55 args).run Try.prog w = .ok (.enter 55 args) w := by kernel_rfl
set_option maxRecDepth 100000 in
set_option maxHeartbeats 2000000 in
theorem implFixedFractions_any (a b : ByteArray) (w : World) (ha : a.size ≤ 9223372036854775806) (hb : b.size ≤ 9223372036854775806) :
    Calls Try.prog 27 #[.agg #[.string a, .string b]] w (AnsFs (FixedFractions_o a b) w) := by
  have hB := fun w => implbreaksOf_any a b w ha hb
  have hcs := call_startF
  have hcm := call_moved
  unfold FixedFractions_o
  cases h : pairOf a b with
  | none =>
    rw [h] at hB
    change ∀ w, Calls _ _ _ w (AnsP2 [] false w) at hB
    clear h
    go_enter Try.func27, Try.ntmps27
    go_wp2_with fail
    have hb0 : Below w.heap.size w (w.alloc (.cells #[.string a, .string b] 34 (0, 0))) := nxAlloc (Below.refl _ _) _
    have hx0 := heap_alloc_at w (.cells #[.string a, .string b] 34 (0, 0))
    generalize (w.alloc (.cells #[.string a, .string b] 34 (0, 0))) = w0 at *
    obtain ⟨hx0a, hx0b, hx0c⟩ := two_facts hx0
    obtain ⟨hx0f, hx0g⟩ := two_frozen hx0
    refine (hB _).mono ?_; rintro e w1 ⟨v, own, hb1, rfl⟩
    have hbw1 := nx hb0 hb1
    clear own
    go_wp2_with fail
    go_ret2
    exact ⟨_, OwnW.nil _ _ _ _, hbw1, rfl⟩
  | some p =>
    rw [h] at hB
    obtain ⟨rfl, rfl, hok, hc1, hc2⟩ := pairOf_some h
    change ∀ w, Calls _ _ _ w (AnsP2 (brkP (pcs p)) true w) at hB
    have hl := brkP_len p hok
    have hok1 := brk_ok p hc1 hc2 hok
    clear h
    show Calls _ _ _ _ (AnsF2 (ends (fracs (fun x => x.1) (keepP (brkP (pcs p))))) true w)
    generalize brkP (pcs p) = ps at *
    have hkl := keep_le ps
    have hkok : ∀ x ∈ keepP ps, x.1 ≤ 1048576 ∧ x.1 % 1024 = 0 := fun x hx => (hok1 x (List.mem_filter.1 hx).1).1
    have hFF := fun b0 v w hc => fractionsOf_start b0 v (keepP ps) w hc (by omega) hkok
    have hfl : (fracs (fun x => x.1) (keepP ps)).length = (keepP ps).length := by simp [fracs]
    generalize fracs (fun x => x.1) (keepP ps) = xs at *
    have hxn : xs.length ≤ 9 := by omega
    have hL := flatF_length xs
    have hD := fun base v w h1 h2 => deleteFunc_any base v ps w h1 (by omega) h2
    obtain ⟨m, hm⟩ : ∃ m, m = xs.length := ⟨_, rfl⟩
    have HM := Lib.hid hm
    rw [← hm] at hL hxn
    obtain ⟨i0, hi, hz0, hz1, hz2⟩ := info_parts info_frac
    clear hok1 hkok hkl hfl hl hm
    go_enter Try.func27, Try.ntmps27
    go_wp2_with fail
    have hb0 : Below w.heap.size w (w.alloc (.cells #[.string p.1.str, .string p.2.str] 34 (0, 0))) := nxAlloc (Below.refl _ _) _
    have hx0 := heap_alloc_at w (.cells #[.string p.1.str, .string p.2.str] 34 (0, 0))
    generalize (w.alloc (.cells #[.string p.1.str, .string p.2.str] 34 (0, 0))) = w0 at *
    obtain ⟨hx0a, hx0b, hx0c⟩ := two_facts hx0
    obtain ⟨hx0f, hx0g⟩ := two_frozen hx0
    refine (hB _).mono ?_; rintro e w1 ⟨v, own, hb1, rfl⟩
    have hbw1 := nx hb0 hb1
    have hD1 := hD w0.heap.size v w1 hb1.size own
    clear own hD hx0 hx0a hx0b hx0c hx0f hx0g
    go_wp2_with fail
    refine hD1.mono ?_; rintro e w2 ⟨v2, hc2, hb2, rfl⟩
    have hbw2 := hbw1.trans (hb2.mono hb0.size)
    have hown := World.ownsRow_lit (base := w2.heap.size) (e := 26) (size := 2) w2 #[.int .i64 0, .int .i64 1] 1 (Nat.le_refl _) (by unfold maxLen; omega) rfl
    have hbA := (Below.refl w2.heap.size w2).alloc (Nat.le_refl _) (.cells #[.int .i64 0, .int .i64 1] 26 (0, 0))
    have hF1 := hFF w0.heap.size v2 (w2.alloc (.cells #[.int .i64 0, .int .i64 1] 26 (0, 0))) (hc2.keep hbA)
    clear hFF hc2 hb2 hD1
    go_wp2_with fail
    refine hF1.mono ?_; rintro e w3 ⟨v3, own3, hb3, rfl⟩
    have hown3 := ownsRow_keep hown hb3
    have hb23 := nx hbA hb3
    have hs3 := hb23.size
    have hc3 : CellsW 2 (w2.alloc (.cells #[.int .i64 0, .int .i64 1] 26 (0, 0))).heap.size w3 v3 m (flatF xs) := by rw [HM.out]; exact own3.cells
    clear hown own3 hbA hb3 hF1
    go_wp2_with (first
      | (at_builtin; refine wpList_appW rfl _ _ 38 rfl w2.heap.size 26 i0 (.agg #[.int .i64 0, .int .i64 0]) Try.underlying38 hi hz0 hz1 hz2 rfl _ _ _ rfl hown3 _ m _ (flatF xs) rfl hc3 hL (by unfold maxLen; omega) (by omega) (by omega) ?_; intro v4 w4 hown4 hb4; have hb24 := hb23.trans hb4; have hs4 := hb24.size)
      | (at_builtin; refine wpList_append_own _ rfl _ _ 38 rfl w2.heap.size 26 i0 (.agg #[.int .i64 0, .int .i64 0]) 2 16 Try.underlying38 hi hz0 hz1 hz2 rfl (by decide) _ _ _ rfl (hown4.alloc _) ⟨w4.heap.size, 0, none⟩ 1 1 [.int .i64 1, .int .i64 1] rfl rfl (newsK _ #[.int .i64 1, .int .i64 1] _) (two1 1 1) (by unfold maxLen; omega) (by omega) (by simp; omega) ?_; intro v5 w5 hown5 hgrow hnn))
    have hb25 := (hb24.alloc hs4 (.cells #[.int .i64 1, .int .i64 1] 26 (0, 0))).grown hgrow (by simp; omega) (fun k hk => ownsRow_ge hown4 k hk)
    go_wp2_with fail
    go_ret2
    exact ⟨_, (ends_own (by rw [HM.out]) hown5).mono hbw2.size, nx hbw2 hb25, rfl⟩
end Go.Proofs.Ytdhjchibhlcchaa

/-! HeldW -/
namespace Go.Proofs.Ytdhjchibhlcchaa
open Go.RowKit

section
variable {P : Program} {ops : Array Oper} {Q : Exit → Act → World → Prop} {md : Region.Mode}

theorem held_mono {S S' : World → Prop} (hSS : ∀ w, S' w → S w) : ∀ (fuel : Nat) (listed : Array Bool) (a : Act) (w : World),
    wpAnyH P md ops Q S' fuel listed a w → wpAnyH P md ops Q S fuel listed a w
  | 0, _, _, _, h => h
  | fuel + 1, _, _, _, h => ⟨h.1, fun i hi => wpOp_mono (fun a' w' h' => ⟨hSS _ h'.1, held_mono hSS fuel _ a' w' h'.2⟩) (h.2 i hi)⟩

/-- One operation alone may come up; behind it the condition may be another one. -/
theorem held_one {S : World → Prop} {fuel : Nat} {listed : Array Bool} {a : Act} {w : World} (i : Nat) {o : Oper} (ho : ops[i]? = some o) (hr : Region.ready md ops listed = [i])
    (h : ∀ K' : Act → World → Prop, Shut (∀ (S' : World → Prop) a w, (∀ w, S' w → S w) → S' w → wpAnyH P md ops Q S' fuel (listed.setIfInBounds i true) a w → K' a w) → if Region.wanted o (yielded ops a.tmps) = true then Oper.wp P o a w K' Q else K' (a.put o.dst undef) w) :
    wpAnyH P md ops Q S (fuel + 1) listed a w :=
  wpAnyH_ready hr (by simp) (AllReadyH.cons ho (fun K hK => h K (fun _ a w hSS hS hW => hK.out a w (hSS _ hS) (fun _ => held_mono hSS _ _ _ _ hW))) AllReadyH.nil)
end
end Go.Proofs.Ytdhjchibhlcchaa

/-! WFixedFractions -/
namespace Go.Proofs.Ytdhjchibhlcchaa
open Go.RowKit

set_option maxRecDepth 100000 in
set_option maxHeartbeats 4000000 in
theorem specFixedFractions_any (a b : ByteArray) (w : World) (ha : a.size ≤ 9223372036854775806) (hb : b.size ≤ 9223372036854775806) :
    Calls Try.prog 26 #[.agg #[.string a, .string b]] w (AnsFs (FixedFractions_o a b) w) := by
  have hg := fun w => prGood_any a b w ha hb
  unfold FixedFractions_o
  cases h : pairOf a b with
  | none =>
    rw [h] at hg
    clear h
    go_enter Try.func26, Try.ntmps26
    go_wp2_with fail
    have hb0 : Below w.heap.size w (w.alloc (.cells #[.string a, .string b] 34 (0, 0))) := nxAlloc (Below.refl _ _) _
    have hx0 := heap_alloc_at w (.cells #[.string a, .string b] 34 (0, 0))
    generalize (w.alloc (.cells #[.string a, .string b] 34 (0, 0))) = w0 at *
    obtain ⟨hx0a, hx0b, hx0c⟩ := two_facts hx0
    obtain ⟨hx0f, hx0g⟩ := two_frozen hx0
    refine (hg _).mono ?_; rintro e w1 ⟨rfl, hb1⟩
    have hbw1 := nx hb0 hb1
    replace hx0 := heap_keep hb1 hx0
    clear hx0a hx0b hx0c hx0f hx0g
    obtain ⟨hx0a, hx0b, hx0c⟩ := two_facts hx0
    obtain ⟨hx0f, hx0g⟩ := two_frozen hx0
    clear hb1 hb0
    go_wp2_with fail
    go_ret2
    exact ⟨_, OwnW.nil _ _ _ _, hbw1, rfl⟩
  | some p =>
    rw [h] at hg
    obtain ⟨rfl, rfl, hok, hc1, hc2⟩ := pairOf_some h
    have hok' : p.1.carets = p.2.carets := hok
    have hM := fun w => mpBreaks_any p w hc1 hc2 hok
    have hl := slopes_len p hok
    have hL : ∀ k ∈ brkI (slopes p) (slopes p).length, k < p.1.carets + 1 := fun k hk => by have := brkI_lt _ _ k hk; omega
    have hL2 : ∀ k ∈ brkI (slopes p) (slopes p).length, k < p.2.carets + 1 := fun k hk => by have := brkI_lt _ _ k hk; omega
    have hL9 : (brkI (slopes p) (slopes p).length).length ≤ 9 := by have := brkI_len (slopes p) (slopes p).length; omega
    have hA := fun b0 v w hc => mpAt_any p.1 b0 v (brkI (slopes p) (slopes p).length) w hc1 hc hL hL9
    have hA2 := fun b0 v w hc => mpAt_any p.2 b0 v (brkI (slopes p) (slopes p).length) w hc2 hc hL2 hL9
    change ∀ b0 v w, _ → Calls _ _ _ _ (GivesF (frAt p.1 p) w) at hA
    change ∀ b0 v w, _ → Calls _ _ _ _ (GivesF (frAt p.2 p) w) at hA2
    have f1 : (frAt p.1 p).length = (brkI (slopes p) (slopes p).length).length := by simp [frAt]
    have f2 : (frAt p.2 p).length = (brkI (slopes p) (slopes p).length).length := by simp [frAt]
    have hsame := same_ends (brkP (pcs p))
    rw [brk_start p hok, brk_target p hok] at hsame
    have hbl : (brkP (pcs p)).length = (brkI (slopes p) (slopes p).length).length := by
      unfold brkP
      rw [List.length_map, pcsB_len, slopes_pcs]
    rw [hbl] at hsame
    show Calls _ _ _ _ (AnsF2 (ends (fracs (fun x => x.1) (keepP (brkP (pcs p))))) true w)
    rw [← hsame]
    generalize brkI (slopes p) (slopes p).length = B at *
    generalize frAt p.1 p = xs at *
    generalize frAt p.2 p = ys at *
    have hE1 := fun b0 v w hc => mpEnds_any b0 v xs w hc (by omega)
    have hE2 := fun b0 v w hc => mpEnds_any b0 v ys w hc (by omega)
    obtain ⟨m, hm⟩ : ∃ m, B.length + 2 = m := ⟨_, rfl⟩
    rw [hm]
    have hm11 : m ≤ 11 := by omega
    have hm0 : 0 < m := by omega
    have g1 : (ends xs).length = m := by simp [ends]; omega
    have g2 : (ends ys).length = m := by simp [ends]; omega
    generalize ends xs = X at *
    generalize ends ys = Y at *
    clear h hL hL2 hL9 hl hsame hbl f1 f2 hok hok' hc1 hc2 hm
    go_enter Try.func26, Try.ntmps26
    go_wp2_with fail
    have hb0 : Below w.heap.size w (w.alloc (.cells #[.string p.1.str, .string p.2.str] 34 (0, 0))) := nxAlloc (Below.refl _ _) _
    have hx0 := heap_alloc_at w (.cells #[.string p.1.str, .string p.2.str] 34 (0, 0))
    generalize (w.alloc (.cells #[.string p.1.str, .string p.2.str] 34 (0, 0))) = w0 at *
    obtain ⟨hx0a, hx0b, hx0c⟩ := two_facts hx0
    obtain ⟨hx0f, hx0g⟩ := two_frozen hx0
    refine (hg _).mono ?_; rintro e w1 ⟨rfl, hb1⟩
    have hbw1 := nx hb0 hb1
    replace hx0 := heap_keep hb1 hx0
    clear hx0a hx0b hx0c hx0f hx0g
    obtain ⟨hx0a, hx0b, hx0c⟩ := two_facts hx0
    obtain ⟨hx0f, hx0g⟩ := two_frozen hx0
    clear hb1 hb0
    go_wp2_with fail
    have hz := Below.refl w1.heap.size w1
    refine wp_region_held_drew (S := (fun (w' : World) => w'.cell? ⟨w.heap.size, 0, none⟩ = some (.string p.1.str) ∧ w'.cell? ⟨w.heap.size, 1, none⟩ = some (.string p.2.str))) (by kernel_rfl) ⟨hx0a, hx0b⟩ (fun hH0 => ?_)
    refine wpAnyH_take (i := 0) (oi := ?oi1) (v := ?vv1) ?hi1 ?hn1 ?hf1 ?hr1 ?hq1 (Or.inl ⟨?hg1, ?hy1⟩) hH0 ?rest1
    case hi1 => (simp only [List.getElem?_toArray, List.getElem?_cons_zero]; rfl)
    case hn1 => kernel_rfl
    case hf1 => kernel_rfl
    case hr1 => kernel_rfl
    case hg1 => rfl
    case hy1 => (intro w hSw; (try dsimp only at hSw); go_simp; first | done | with_reducible rfl)
    case hq1 => exact fun _ _ _ h => h
    try dsimp only [Act.put]
    refine wpAnyH_take (i := 1) (oi := ?oi2) (v := ?vv2) ?hi2 ?hn2 ?hf2 ?hr2 ?hq2 (Or.inl ⟨?hg2, ?hy2⟩) hH0 ?rest2
    case hi2 => (simp only [List.getElem?_toArray, List.getElem?_cons_succ, List.getElem?_cons_zero]; rfl)
    case hn2 => kernel_rfl
    case hf2 => kernel_rfl
    case hr2 => kernel_rfl
    case hg2 => rfl
    case hy2 => (intro w hSw; (try dsimp only at hSw); go_simp; first | done | with_reducible rfl)
    case hq2 => exact fun _ _ _ h => h
    try dsimp only [Act.put]
    refine wpAnyH_take (i := 2) (oi := ?oi3) (v := ?vv3) ?hi3 ?hn3 ?hf3 ?hr3 ?hq3 (Or.inl ⟨?hg3, ?hy3⟩) hH0 ?rest3
    case hi3 => (simp only [List.getElem?_toArray, List.getElem?_cons_succ, List.getElem?_cons_zero]; rfl)
    case hn3 => kernel_rfl
    case hf3 => kernel_rfl
    case hr3 => kernel_rfl
    case hg3 => rfl
    case hy3 => (intro w hSw; (try dsimp only at hSw); go_simp; first | done | with_reducible rfl)
    case hq3 => exact fun _ _ _ h => h
    try dsimp only [Act.put]
    refine wpAnyH_take (i := 6) (oi := ?oi4) (v := ?vv4) ?hi4 ?hn4 ?hf4 ?hr4 ?hq4 (Or.inl ⟨?hg4, ?hy4⟩) hH0 ?rest4
    case hi4 => (simp only [List.getElem?_toArray, List.getElem?_cons_succ, List.getElem?_cons_zero]; rfl)
    case hn4 => kernel_rfl
    case hf4 => kernel_rfl
    case hr4 => kernel_rfl
    case hg4 => rfl
    case hy4 => (intro w hSw; (try dsimp only at hSw); go_simp; first | done | with_reducible rfl)
    case hq4 => exact fun _ _ _ h => h
    try dsimp only [Act.put]
    refine wpAnyH_take (i := 7) (oi := ?oi5) (v := ?vv5) ?hi5 ?hn5 ?hf5 ?hr5 ?hq5 (Or.inl ⟨?hg5, ?hy5⟩) hH0 ?rest5
    case hi5 => (simp only [List.getElem?_toArray, List.getElem?_cons_succ, List.getElem?_cons_zero]; rfl)
    case hn5 => kernel_rfl
    case hf5 => kernel_rfl
    case hr5 => kernel_rfl
    case hg5 => rfl
    case hy5 => (intro w hSw; (try dsimp only at hSw); go_simp; first | done | with_reducible rfl)
    case hq5 => exact fun _ _ _ h => h
    try dsimp only [Act.put]
    refine wpAnyH_take (i := 8) (oi := ?oi6) (v := ?vv6) ?hi6 ?hn6 ?hf6 ?hr6 ?hq6 (Or.inl ⟨?hg6, ?hy6⟩) hH0 ?rest6
    case hi6 => (simp only [List.getElem?_toArray, List.getElem?_cons_succ, List.getElem?_cons_zero]; rfl)
    case hn6 => kernel_rfl
    case hf6 => kernel_rfl
    case hr6 => kernel_rfl
    case hg6 => rfl
    case hy6 => (intro w hSw; (try dsimp only at hSw); go_simp; first | done | with_reducible rfl)
    case hq6 => exact fun _ _ _ h => h
    try dsimp only [Act.put]
    refine held_one 3 rfl (by kernel_rfl) (fun K hK => ?_)
    go_simp
    refine (hM _).mono ?_; rintro e w3 ⟨v3, own3, hb3, rfl⟩
    have hb3' := nx hz.drew hb3
    have K1 := And.intro (keep_cell hb3' hx0a) (keep_cell hb3' hx0b)
    go_wp2_with fail
    have hH1 : (fun (w' : World) => w'.cell? ⟨w.heap.size, 0, none⟩ = some (.string p.1.str) ∧ w'.cell? ⟨w.heap.size, 1, none⟩ = some (.string p.2.str)) _ := K1
    refine hK.out (fun (w' : World) => w'.cell? ⟨w.heap.size, 0, none⟩ = some (.string p.1.str) ∧ w'.cell? ⟨w.heap.size, 1, none⟩ = some (.string p.2.str)) _ _ (fun _ h => h) hH1 ?_
    clear hK K
    try dsimp only [Act.put]
    refine held_one 4 rfl (by kernel_rfl) (fun K hK => ?_)
    go_simp
    refine (hA _ v3 w3 own3.cells).mono ?_; rintro e w4 ⟨v4, own4, hb4, rfl⟩
    have hb4' := nx hb3' hb4
    have K2 := And.intro (keep_cell hb4' hx0a) (keep_cell hb4' hx0b)
    go_wp2_with fail
    have hH2 : (fun (w' : World) => w'.cell? ⟨w.heap.size, 0, none⟩ = some (.string p.1.str) ∧ w'.cell? ⟨w.heap.size, 1, none⟩ = some (.string p.2.str)) _ := K2
    refine hK.out (fun (w' : World) => w'.cell? ⟨w.heap.size, 0, none⟩ = some (.string p.1.str) ∧ w'.cell? ⟨w.heap.size, 1, none⟩ = some (.string p.2.str)) _ _ (fun _ h => h) hH2 ?_
    clear hK K
    try dsimp only [Act.put]
    refine held_one 5 rfl (by kernel_rfl) (fun K hK => ?_)
    go_simp
    refine (hE1 _ v4 w4 own4.cells).mono ?_; rintro e w5 ⟨v5, own5, hb5, rfl⟩
    have hb5' := nx hb4' hb5
    have K3 := And.intro (keep_cell hb5' hx0a) (keep_cell hb5' hx0b)
    go_wp2_with fail
    have hH3 : (fun (w' : World) => w'.cell? ⟨w.heap.size, 0, none⟩ = some (.string p.1.str) ∧ w'.cell? ⟨w.heap.size, 1, none⟩ = some (.string p.2.str)) _ := K3
    refine hK.out (fun (w' : World) => w'.cell? ⟨w.heap.size, 0, none⟩ = some (.string p.1.str) ∧ w'.cell? ⟨w.heap.size, 1, none⟩ = some (.string p.2.str)) _ _ (fun _ h => h) hH3 ?_
    clear hK K
    try dsimp only [Act.put]
    refine held_one 9 rfl (by kernel_rfl) (fun K hK => ?_)
    go_simp
    refine (hM _).mono ?_; rintro e w6 ⟨v6, own6, hb6, rfl⟩
    have hb6' := nx hb5' hb6
    have K4 := And.intro (keep_cell hb6' hx0a) (keep_cell hb6' hx0b)
    go_wp2_with fail
    have hH4 : (fun (w' : World) => w'.cell? ⟨w.heap.size, 0, none⟩ = some (.string p.1.str) ∧ w'.cell? ⟨w.heap.size, 1, none⟩ = some (.string p.2.str)) _ := K4
    refine hK.out (fun (w' : World) => w'.cell? ⟨w.heap.size, 0, none⟩ = some (.string p.1.str) ∧ w'.cell? ⟨w.heap.size, 1, none⟩ = some (.string p.2.str)) _ _ (fun _ h => h) hH4 ?_
    clear hK K
    try dsimp only [Act.put]
    refine held_one 10 rfl (by kernel_rfl) (fun K hK => ?_)
    go_simp
    refine (hA2 _ v6 w6 own6.cells).mono ?_; rintro e w7 ⟨v7, own7, hb7, rfl⟩
    have hb7' := nx hb6' hb7
    have K5 := And.intro (keep_cell hb7' hx0a) (keep_cell hb7' hx0b)
    go_wp2_with fail
    have hH5 : (fun (w' : World) => w'.cell? ⟨w.heap.size, 0, none⟩ = some (.string p.1.str) ∧ w'.cell? ⟨w.heap.size, 1, none⟩ = some (.string p.2.str)) _ := K5
    refine hK.out (fun (w' : World) => w'.cell? ⟨w.heap.size, 0, none⟩ = some (.string p.1.str) ∧ w'.cell? ⟨w.heap.size, 1, none⟩ = some (.string p.2.str)) _ _ (fun _ h => h) hH5 ?_
    clear hK K
    try dsimp only [Act.put]
    refine held_one 11 rfl (by kernel_rfl) (fun K hK => ?_)
    go_simp
    refine (hE2 _ v7 w7 own7.cells).mono ?_; rintro e w8 ⟨v8, own8, hb8, rfl⟩
    have hb8' := nx hb7' hb8
    have K6 := And.intro (keep_cell hb8' hx0a) (keep_cell hb8' hx0b)
    go_wp2_with fail
    have hH6 : (fun (w' : World) => w'.cell? ⟨w.heap.size, 0, none⟩ = some (.string p.1.str) ∧ w'.cell? ⟨w.heap.size, 1, none⟩ = some (.string p.2.str)) _ := K6
    refine hK.out (fun (w' : World) => w'.cell? ⟨w.heap.size, 0, none⟩ = some (.string p.1.str) ∧ w'.cell? ⟨w.heap.size, 1, none⟩ = some (.string p.2.str)) _ _ (fun _ h => h) hH6 ?_
    clear hK K
    try dsimp only [Act.put]
    refine wpAnyH_take (i := 12) (oi := ?oi7) (v := ?vv7) ?hi7 ?hn7 ?hf7 ?hr7 ?hq7 (Or.inl ⟨?hg7, ?hy7⟩) hH6 ?rest7
    case hi7 => (simp only [List.getElem?_toArray, List.getElem?_cons_succ, List.getElem?_cons_zero]; rfl)
    case hn7 => kernel_rfl
    case hf7 => kernel_rfl
    case hr7 => kernel_rfl
    case hg7 => rfl
    case hy7 => (intro w hSw; (try dsimp only at hSw); go_simp; first | done | with_reducible rfl)
    case hq7 => exact fun _ _ _ h => h
    try dsimp only [Act.put]
    refine wpAnyH_take (i := 13) (oi := ?oi8) (v := ?vv8) ?hi8 ?hn8 ?hf8 ?hr8 ?hq8 (Or.inl ⟨?hg8, ?hy8⟩) hH6 ?rest8
    case hi8 => (simp only [List.getElem?_toArray, List.getElem?_cons_succ, List.getElem?_cons_zero]; rfl)
    case hn8 => kernel_rfl
    case hf8 => kernel_rfl
    case hr8 => kernel_rfl
    case hg8 => rfl
    case hy8 => (intro w hSw; (try dsimp only at hSw); go_simp; first | done | with_reducible rfl)
    case hq8 => exact fun _ _ _ h => h
    try dsimp only [Act.put]
    refine wpAnyH_done (by kernel_rfl) ?_ _
    simp only [List.setIfInBounds_toArray, List.set_cons_zero, List.set_cons_succ]
    have hbw8 := nx hbw1 hb8'
    replace own5 := own5.keep (nx (nx hb6 hb7) hb8)
    clear own3 own4 own6 own7 hb3 hb4 hb5 hb6 hb7 hb8 hb3' hb4' hb5' hb6' hb7' hb8' K1 K2 K3 K4 K5 K6 hH0 hH1 hH2 hH3 hH4 hH5 hH6 hM hA hA2 hE1 hE2 hg hx0 hx0a hx0b hx0c hx0f hx0g hbw1 hz
    rcases own5.cells with ⟨_, h0⟩ | ⟨ga, ca, rfl, _, hga, p1, p2, hxa, _⟩
    · omega
    rcases own8.cells with ⟨_, h0⟩ | ⟨gb, cb, rfl, _, hgb, p3, p4, hxb, _⟩
    · omega
    rw [g1] at p1 hxa ⊢
    rw [g2] at p3 hxb ⊢
    unfold maxLen at p2 p4
    have HA := Lib.hid hxa
    have HB := Lib.hid hxb
    obtain ⟨i0, hi, hz0, hz1, hz2⟩ := info_parts info_frac
    clear own5 own8 hxa hxb
    go_wp2_with fail
    go_loopw [6, 26] (fun v i wr => ∃ j : Nat, j ≤ m ∧ i = .int .i64 j ∧ OwnF w8.heap.size wr v (sameU X Y j) ∧ Below w8.heap.size w8 wr) (fun _ i _ => m - (intOf i).toNat)
    case atStart => exact ⟨0, Nat.zero_le _, rfl, OwnW.nil _ _ _ _, Below.refl _ _⟩
    case round =>
      obtain ⟨j, hj, rfl, hown, hbw⟩ := hrel
      by_cases hlt : j < m
      · have hlt' : (j : Int) < (m : Int) := by omega
        have a1 := (hbw.cell (p := ⟨ga, j * 2, none⟩) hga).trans (HA.out (j * 2) (by omega))
        have a2 := (hbw.cell (p := ⟨ga, j * 2 + 1, none⟩) hga).trans (HA.out (j * 2 + 1) (by omega))
        have b1 := (hbw.cell (p := ⟨gb, j * 2, none⟩) hgb).trans (HB.out (j * 2) (by omega))
        have b2 := (hbw.cell (p := ⟨gb, j * 2 + 1, none⟩) hgb).trans (HB.out (j * 2 + 1) (by omega))
        rw [(flatF_get X j (by omega)).1] at a1
        rw [(flatF_get X j (by omega)).2] at a2
        rw [(flatF_get Y j (by omega)).1] at b1
        rw [(flatF_get Y j (by omega)).2] at b2
        have hnext : sameU X Y (j + 1) = sameU X Y j ++ if X.getD j (0, 0) = Y.getD j (0, 0) then [((X.getD j (0, 0)).1, (X.getD j (0, 0)).2)] else [] := rfl
        have hsl := sameU_len X Y j
        obtain ⟨zs, hzs⟩ : ∃ zs, zs = sameU X Y j := ⟨_, rfl⟩
        rw [← hzs] at hown hnext hsl
        generalize X.getD j (0, 0) = x at *
        generalize Y.getD j (0, 0) = y at *
        obtain ⟨x1, x2⟩ := x
        obtain ⟨y1, y2⟩ := y
        dsimp only at a1 a2 b1 b2 hnext
        have hbA : Below w8.heap.size w8 (wr.alloc (.cells #[.int .i64 x1, .int .i64 x2] 26 (0, 0))) := nxAlloc hbw _
        have hxc := heap_alloc_at wr (.cells #[.int .i64 x1, .int .i64 x2] 26 (0, 0))
        have hownA := OwnF.keep (xs := zs) hown ((Below.refl _ _).alloc (Nat.le_refl _) (.cells #[.int .i64 x1, .int .i64 x2] 26 (0, 0)))
        have b1' := keep_cell ((Below.refl wr.heap.size wr).alloc (Nat.le_refl _) (.cells #[.int .i64 x1, .int .i64 x2] 26 (0, 0))) b1
        have b2' := keep_cell ((Below.refl wr.heap.size wr).alloc (Nat.le_refl _) (.cells #[.int .i64 x1, .int .i64 x2] 26 (0, 0))) b2
        obtain ⟨c1, c2, c3⟩ := two_facts hxc
        by_cases hxy : (x1, x2) = (y1, y2)
        · rw [if_pos hxy] at hnext
          obtain ⟨rfl, rfl⟩ : x1 = y1 ∧ x2 = y2 := by simpa using hxy
          have HN := Lib.hid hnext
          clear hnext hxy hzs
          go_wp2_with fail
          go_quiet (fail)
          have hdr := drewB (Below.refl (wr.alloc (.cells #[.int .i64 x1, .int .i64 x2] 26 (0, 0))).heap.size (wr.alloc (.cells #[.int .i64 x1, .int .i64 x2] 26 (0, 0)))) nq
          have hownd := OwnF.keep (xs := zs) hownA hdr
          replace c1 := keep_cell hdr c1
          replace c2 := keep_cell hdr c2
          have hbd := nx hbA hdr
          have hsd := hbd.size
          generalize (wr.alloc (.cells #[.int .i64 x1, .int .i64 x2] 26 (0, 0))).drewN nq = wd at *
          clear hown hownA hbA hbw hxc hdr a1 a2 b1 b2 b1' b2'
          go_wp2_with (at_builtin; refine wpList_append_own _ rfl _ _ 38 rfl w8.heap.size 26 i0 (.agg #[.int .i64 0, .int .i64 0]) 2 16 Try.underlying38 hi hz0 hz1 hz2 rfl (by decide) _ _ _ rfl (hownd.alloc _) ⟨wd.heap.size, 0, none⟩ 1 1 [.int .i64 x1, .int .i64 x2] rfl rfl (newsK _ #[.int .i64 x1, .int .i64 x2] _) (two1 _ _) (by unfold maxLen; omega) (by omega) (by simp; omega) ?_; intro v' w9 hown' hgrow hnn)
          have hbw9 := (nxAlloc hbd _).grown hgrow (by simp; omega) (fun k hk => ownsRow_ge hownd k hk)
          have hown1 := OwnF.snoc hown'
          clear hownd hown' hgrow hbd hnn
          go_wp2_with fail
          go_roundw
          case rel => exact ⟨j + 1, by omega, by go_num, by rw [HN.out]; exact hown1, hbw9⟩
          case measure => simp [intOf]; omega
        · rw [if_neg hxy, List.append_nil] at hnext
          have HN := Lib.hid hnext
          clear hnext hzs
          by_cases h1 : x1 = y1
          · have hne2 : ((x2 : Int) == (y2 : Int)) = false := by
              rw [beq_eq_false_iff_ne]; intro h; apply hxy; rw [h1, show x2 = y2 by omega]
            subst h1
            clear hxy
            go_wp2_with fail
            go_quiet (fail)
            have hdr := drewB (Below.refl (wr.alloc (.cells #[.int .i64 x1, .int .i64 x2] 26 (0, 0))).heap.size (wr.alloc (.cells #[.int .i64 x1, .int .i64 x2] 26 (0, 0)))) nq
            have hownd := OwnF.keep (xs := zs) hownA hdr
            have hbd := nx hbA hdr
            generalize (wr.alloc (.cells #[.int .i64 x1, .int .i64 x2] 26 (0, 0))).drewN nq = wd at *
            clear hown hownA hbA hbw hxc hdr a1 a2 b1 b2 b1' b2' c1 c2 c3
            go_wp2_with fail
            go_roundw
            case rel => exact ⟨j + 1, by omega, by go_num, by rw [HN.out]; exact hownd, hbd⟩
            case measure => simp [intOf]; omega
          · have hne1 : ((x1 : Int) == (y1 : Int)) = false := by rw [beq_eq_false_iff_ne]; omega
            clear hxy h1
            go_wp2_with fail
            go_quiet (fail)
            have hdr := drewB (Below.refl (wr.alloc (.cells #[.int .i64 x1, .int .i64 x2] 26 (0, 0))).heap.size (wr.alloc (.cells #[.int .i64 x1, .int .i64 x2] 26 (0, 0)))) nq
            have hownd := OwnF.keep (xs := zs) hownA hdr
            have hbd := nx hbA hdr
            generalize (wr.alloc (.cells #[.int .i64 x1, .int .i64 x2] 26 (0, 0))).drewN nq = wd at *
            clear hown hownA hbA hbw hxc hdr a1 a2 b1 b2 b1' b2' c1 c2 c3
            go_wp2_with fail
            go_roundw
            case rel => exact ⟨j + 1, by omega, by go_num, by rw [HN.out]; exact hownd, hbd⟩
            case measure => simp [intOf]; omega
      · obtain rfl : j = m := by omega
        go_wp2_with fail
        go_ret2
        exact ⟨_, hown.mono hbw8.size, nx hbw8 hbw, rfl⟩

set_option maxRecDepth 100000 in
set_option maxHeartbeats 1000000 in
theorem fnExactFixedFractions_walk (a : ByteArray) (ha : a.size ≤ maxLen) (b : ByteArray) (hb : b.size ≤ maxLen) (w : World) :
    Calls Try.prog 7 #[.agg #[.string a, .string b]] w fun e w' => e = .returned (.bool true) ∧ Below w.heap.size w w' := by
  unfold maxLen at ha hb
  have hsz := fun w => szPair_any a b w (by omega) (by omega) 1048576 (by omega) (by omega)
  by_cases hz : (a.size : Int) + b.size ≤ 1048576
  rotate_left
  · simp only [if_neg hz] at hsz
    go_enter Try.func7, Try.ntmps7
    go_wp2_with fail
    have hb0 : Below w.heap.size w (w.alloc (.cells #[.string a, .string b] 30 (0, 0))) := nxAlloc (Below.refl _ _) _
    have hx := heap_alloc_at w (.cells #[.string a, .string b] 30 (0, 0))
    generalize w.alloc (.cells #[.string a, .string b] 30 (0, 0)) = w0 at *
    obtain ⟨ka, kb, kc⟩ := two_facts hx
    refine (hsz _).mono ?_; rintro e w1 ⟨rfl, hb1⟩
    go_wp2_with fail
    go_ret
    exact ⟨rfl, nx hb0 hb1⟩
  simp only [if_pos hz] at hsz
  have hS := fun w => specFixedFractions_any a b w (by omega) (by omega)
  have hI := fun w => implFixedFractions_any a b w (by omega) (by omega)
  have hn9 := FixedFractions_len a b
  obtain ⟨o, ho⟩ : ∃ o, o = FixedFractions_o a b := ⟨_, rfl⟩
  rw [← ho] at hn9
  simp only [← ho] at hS hI
  clear ho
  obtain ⟨xs, ok, hx9, hk9⟩ : ∃ xs ok, xs = o.getD [] ∧ ok = o.isSome := ⟨_, _, rfl, rfl⟩
  have hS' : ∀ w, Calls Try.prog 26 #[.agg #[.string a, .string b]] w (AnsF2 xs ok w) := by rw [hx9, hk9]; exact hS
  have hI' : ∀ w, Calls Try.prog 27 #[.agg #[.string a, .string b]] w (AnsF2 xs ok w) := by rw [hx9, hk9]; exact hI
  rw [← hx9] at hn9
  clear hS hI hx9 hk9 o
  go_enter Try.func7, Try.ntmps7
  go_wp2_with fail
  have hb0 : Below w.heap.size w (w.alloc (.cells #[.string a, .string b] 30 (0, 0))) := nxAlloc (Below.refl _ _) _
  have hx := heap_alloc_at w (.cells #[.string a, .string b] 30 (0, 0))
  generalize w.alloc (.cells #[.string a, .string b] 30 (0, 0)) = w0 at *
  obtain ⟨ka, kb, kc⟩ := two_facts hx
  refine (hsz _).mono ?_; rintro e w1 ⟨rfl, hb1⟩
  have hbw1 := nx hb0 hb1
  replace hx := heap_keep hb1 hx
  clear ka kb kc
  obtain ⟨ka, kb, kc⟩ := two_facts hx
  go_wp2_with fail
  refine (toPair_any a b _).mono ?_; rintro e w2 ⟨rfl, hb2⟩
  have hbw2 := nx hbw1 hb2
  replace hx := heap_keep hb2 hx
  clear ka kb kc
  obtain ⟨ka, kb, kc⟩ := two_facts hx
  go_wp2_with fail
  refine (hS' _).mono ?_; rintro e w3 ⟨v0, own0, hb3, rfl⟩
  have hbw3 := nx hbw2 hb3
  replace hx := heap_keep hb3 hx
  clear ka kb kc
  obtain ⟨ka, kb, kc⟩ := two_facts hx
  go_wp2_with fail
  refine (toPair_any a b _).mono ?_; rintro e w4 ⟨rfl, hb4⟩
  have hbw4 := nx hbw3 hb4
  replace hx := heap_keep hb4 hx
  clear ka kb kc
  obtain ⟨ka, kb, kc⟩ := two_facts hx
  replace own0 := own0.keep hb4
  go_wp2_with fail
  have own04 := own0
  have hx4 := hx
  refine (hI' _).mono ?_; rintro e w5 ⟨v1, own1, hb5, rfl⟩
  have hbw5 := nx hbw4 hb5
  replace hx := heap_keep hb5 hx
  clear ka kb kc
  obtain ⟨ka, kb, kc⟩ := two_facts hx
  replace own0 := own0.keep hb5
  go_wp2_with fail
  refine (eqFractionS_any _ _ v1 v0 xs _ own1.cells own0.cells).mono ?_; rintro e w6 ⟨rfl, hb6⟩
  have hbw6 := nx hbw5 hb6
  replace hx := heap_keep hb6 hx
  clear ka kb kc
  obtain ⟨ka, kb, kc⟩ := two_facts hx
  replace own0 := own0.keep hb6
  replace own1 := own1.keep hb6
  go_wp2_with fail
  refine (markFractionS_any w4.heap.size v1 xs 1 _ (by omega) (by omega) hn9 own1).mono ?_; rintro e w7 ⟨rfl, own7, hb7⟩
  have hb47 : Below w4.heap.size w4 w7 := (hb5.trans (hb6.mono hb5.size)).trans hb7
  have hbw7 := nx hbw4 hb47
  clear own0 own1
  have own0 := own04.keep hb47
  clear hx ka kb kc
  have hx := heap_keep hb47 hx4
  clear hx4
  obtain ⟨ka, kb, kc⟩ := two_facts hx
  clear own04 hb47 hb7
  go_wp2_with fail
  refine (heldFractionS_any w4.heap.size v1 xs.length 1 _ (by omega) (by omega) hn9 own7.cells).mono ?_; rintro e w8 ⟨rfl, hb8⟩
  have hbw8 := nx hbw7 hb8
  replace hx := heap_keep hb8 hx
  clear ka kb kc
  obtain ⟨ka, kb, kc⟩ := two_facts hx
  replace own0 := own0.keep hb8
  replace own7 := own7.keep hb8
  go_wp2_with fail
  refine (toPair_any a b _).mono ?_; rintro e w9 ⟨rfl, hb9⟩
  have hbw9 := nx hbw8 hb9
  replace hx := heap_keep hb9 hx
  clear ka kb kc
  obtain ⟨ka, kb, kc⟩ := two_facts hx
  replace own0 := own0.keep hb9
  replace own7 := own7.keep hb9
  go_wp2_with fail
  refine (hI' _).mono ?_; rintro e w10 ⟨v2, own2, hb10, rfl⟩
  have hbw10 := nx hbw9 hb10
  replace hx := heap_keep hb10 hx
  clear ka kb kc
  obtain ⟨ka, kb, kc⟩ := two_facts hx
  replace own0 := own0.keep hb10
  replace own7 := own7.keep hb10
  go_wp2_with fail
  refine (eqFractionS_any _ _ v2 v0 xs _ own2.cells own0.cells).mono ?_; rintro e w11 ⟨rfl, hb11⟩
  have hbw11 := nx hbw10 hb11
  replace hx := heap_keep hb11 hx
  clear ka kb kc
  obtain ⟨ka, kb, kc⟩ := two_facts hx
  replace own7 := own7.keep hb11
  go_wp2_with fail
  refine (heldFractionS_any w4.heap.size v1 xs.length 1 _ (by omega) (by omega) hn9 own7.cells).mono ?_; rintro e w12 ⟨rfl, hb12⟩
  have hbw12 := nx hbw11 hb12
  replace hx := heap_keep hb12 hx
  clear ka kb kc
  obtain ⟨ka, kb, kc⟩ := two_facts hx
  go_wp2_with fail
  go_ret
  exact ⟨rfl, hbw12⟩
end Go.Proofs.Ytdhjchibhlcchaa

/-! LFnExactFixedFractions -/
namespace Go.Proofs.Ytdhjchibhlcchaa.fnExactFixedFractions
open Go.ChangeShapes Go.WideShapes Go.ChangeAt Go.RowKit
open Go.ChangeMaps (open_string shut_string)
open Go.Joins (open_agg2 shut_agg2)
set_option linter.unusedVariables false

theorem cellsPair : Try.prog.cellsOf 30 = 2 := by kernel_rfl
theorem own : ownKnob Try.prog.godebug = none := by kernel_rfl
theorem laidOut : laidOutB Try.prog = true := by kernel_rfl

set_option maxRecDepth 100000 in
theorem lifted (os : Os) (started : os.Started) (H : Type) (enc : TypeId × Value → H) :
    ReturnsInHanded {} Try.checked os 7 .any (Rows.fnExactFixedFractionsSpec.pre6 enc Try.prog Try.f7 Rows.fnExactFixedFractionsRow.domain false) (Rows.fnExactFixedFractionsSpec.post enc Try.prog Try.f7 false true false false) := by
  refine returnsInHanded_of_change (C := Try.checked) own started (by kernel_rfl) Try.func7
    (ChangeSpec.witness6 (enc := enc) (C := Try.checked) false ⟨#[], #[.agg #[.string ByteArray.empty, .string ByteArray.empty]], []⟩ 8 (by kernel_rfl) (by kernel_rfl) (by kernel_rfl) (by kernel_rfl)) ?_
  intro W base args ds gs before hval0 hW hcnd _
  have hval : ∀ (j : Nat) t v, Try.f7.params[j]? = some t → args[j]? = some v → Value.okWide Try.prog W .any base t v := hval0
  have hW' := hW
  obtain ⟨p, q, hA0, hV, rfl, hfz, hnd⟩ := hW
  have hA : DataW.TrodAll enc Try.prog W 0 (fun _ => true) true Try.f7.params.toList args.toList ds p := hA0
  rw [Try.params7] at hA hval
  obtain ⟨v0, vs0, d0, ds0, p0, q0, hargs, rfl, rfl, h0, r0⟩ := trodAll_cons hA
  obtain ⟨rfl, rfl, rfl⟩ := trodAll_nil r0
  obtain rfl : args = #[v0] := by cases args; simp_all
  obtain ⟨rfl, rfl⟩ := trodVars_none hV
  obtain ⟨c0a, c0b, y0a, y0b, m0, rfl, rfl, rfl, hy0a, hy0b⟩ := open_agg2 Try.underlying30 (by kernel_rfl) cellsPair (hval 0 30 v0 rfl rfl) h0
  obtain ⟨a0a, e0a, rfl, w0a⟩ := DataW.trod_string Try.underlying9 hy0a
  obtain ⟨a0b, e0b, rfl, w0b⟩ := DataW.trod_string Try.underlying9 hy0b
  simp at e0a e0b
  subst e0a e0b
  clear hA0 hval0
  simp only [List.append_nil] at hW'
  refine (fnExactFixedFractions_walk a0a w0a a0b w0b W).mono fun e W' ⟨he, bel⟩ => ?_
  subst he
  exact ⟨_, rfl, _, _, _, [], _, [], hW', trodAll_mk1 (shut_bool Try.underlying4 _), (trodAll_cons_mk (shut_agg2 (y0 := (.lit (.string a0a.data.toList), [])) (y1 := (.lit (.string a0b.data.toList), [])) Try.underlying30 (by kernel_rfl) cellsPair (Go.Deep.shut_string_cell Try.underlying9 w0a) (Go.Deep.shut_string_cell Try.underlying9 w0b)) trodAll_mk0), rfl, bel.frame _, fun h => by cases h⟩

theorem over : Rows.fnExactFixedFractionsRow.holds Try.pinned (OpenSpec.ofChange Rows.fnExactFixedFractionsSpec) :=
  OpenClaim.holds_of_wide 7 Try.f7 rfl rfl rfl rfl rfl rfl rfl ⟨rfl, rfl, rfl, rfl, rfl⟩ rfl rfl rfl rfl rfl (by kernel_rfl) Try.func7 (by kernel_rfl)
    (of_decide_eq_true (by kernel_rfl)) (by unfold Func.isWrapper; first | (rw [if_pos (by decide +kernel)]; kernel_rfl) | (rw [if_neg (by decide +kernel)]; exact ⟨rfl, rfl⟩))
    (fun os started H enc _ => lifted os started H enc)

theorem proved : Rows.FnExactFixedFractionsSaid := over
#print axioms proved
end Go.Proofs.Ytdhjchibhlcchaa.fnExactFixedFractions
