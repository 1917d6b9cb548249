/- Walks: slices.Grow of nil, slices.Concat, of texts. -/
import Derived.Test.YtkoebmdocenlkaaSrc
import Derived.Test.YtkoebmdocenlkaaBase
import Derived.Lib.AppendZeros
namespace Go.Proofs.Ytkoebmdocenlkaa
open Go.RowKit

/-- A call that hands back a slice of texts of its own, or none. -/
def GivesOwn (ss : List ByteArray) (w : World) (e : Ending) (w' : World) : Prop := ∃ v, OwnS w.heap.size w' v ss ∧ Below w.heap.size w w' ∧ e = .returned v

/-- A slice of texts as a source: its length, and that its cells can be read. -/
def SrcT (w : World) (u : Value) (xs : List ByteArray) : Prop := SrcV w u (xs.map (Value.string)) ∧ ∃ oa c, u = .slice oa xs.length c
theorem SrcT.keep {w w' : World} {u : Value} {xs : List ByteArray} (h : SrcT w u xs) (hb : Below w.heap.size w w') : SrcT w' u xs := ⟨h.1.keep hb, h.2⟩
theorem SrcT.of {w : World} {u : Value} {xs : List ByteArray} (h : SrcV w u (xs.map (Value.string))) : SrcT w u xs := by
  refine ⟨h, ?_⟩
  rcases h with ⟨rfl, hx⟩ | ⟨ad, c, rfl, _⟩
  · have : xs = [] := by simpa using hx
    subst this
    exact ⟨none, 0, rfl⟩
  · exact ⟨some ad, c, by rw [List.length_map]⟩
theorem oneTs (xs : List ByteArray) : ∀ u ∈ xs.map (Value.string), u.oneCell' = true := by
  intro u hu
  obtain ⟨x, _, rfl⟩ := List.mem_map.1 hu
  rfl

set_option maxRecDepth 100000 in
set_option maxHeartbeats 2000000 in
theorem growS_nil (n : Nat) (w : World) (hn : n ≤ 100000) :
    Calls Try.prog 110 #[.slice none 0 0, .int .i64 n] w (GivesOwn [] w) := by
  obtain ⟨i0, hi, hz0, hz1, hz2⟩ := info_parts info_str
  have h1 : (0 : Int) ≤ (n : Int) := by omega
  by_cases h0 : n = 0
  · subst h0
    go_enter Try.func110, Try.ntmps110
    go_wp2_with fail
    go_ret
    exact ⟨_, OwnS.nil _ _, Below.refl _ _, rfl⟩
  · have h2 : (0 : Int) < (n : Int) := by omega
    have happ := Lib.run_append_nil_zeros (P := Try.prog) w 25 3 25 9 i0 (.string ⟨#[]⟩) .i64 .i64 Try.underlying25 Try.underlying3 hi hz0 n (by omega) (by omega) (by omega) (by rw [hz2]; omega)
    have hge := grownCap_ge w n 0 9
    have hle := grownCap_le_maxLen w n 0 9 (by unfold maxLen; omega)
    have hown : (w.drew.alloc (.cells (Builtin.zeroCells (Value.string ⟨#[]⟩).cells n ++ Builtin.zeroCells (Value.string ⟨#[]⟩).cells (grownCap w n 0 9 - n)) 9)).ownsRow w.heap.size 9 1 (.slice (some ⟨w.heap.size, 0, none⟩) 0 (grownCap w n 0 9)) 0 [] :=
      World.ownsRow_made w.drew _ _ (Nat.le_refl _) hle (by rw [Array.size_append, size_zeroCells, size_zeroCells]; show n * 1 + _ * 1 = _; omega)
    have hbel : Below w.heap.size w (w.drew.alloc (.cells (Builtin.zeroCells (Value.string ⟨#[]⟩).cells n ++ Builtin.zeroCells (Value.string ⟨#[]⟩).cells (grownCap w n 0 9 - n)) 9)) := nxAlloc ((Below.refl _ _).drew) _
    unfold maxLen at hle
    generalize grownCap w n 0 9 = gc at *
    have HO := Lib.hid hown
    clear hown
    have HA := Lib.hid happ
    clear happ h0
    go_enter Try.func110, Try.ntmps110
    go_wp2_with (at_builtin; refine Lib.wpList_append_run _ rfl _ _ _ _ rfl _ _ rfl rfl _ _ HA.out ?_)
    go_ret
    exact ⟨_, HO.out, hbel, rfl⟩

/-- Slices in a row of their own, and what can be read of them. -/
def PartsS (w : World) (g : Nat) (us : List Value) (ps : List (List ByteArray)) : Prop := g < w.heap.size ∧ us.length = ps.length ∧ ∀ i, i < ps.length → w.cell? ⟨g, i, none⟩ = some (us.getD i undef) ∧ SrcT w (us.getD i undef) (ps.getD i [])
theorem PartsS.keep {w w' : World} {g : Nat} {us : List Value} {ps : List (List ByteArray)} (h : PartsS w g us ps) (hb : Below w.heap.size w w') : PartsS w' g us ps :=
  ⟨Nat.lt_of_lt_of_le h.1 hb.size, h.2.1, fun i hi => ⟨(hb.cell (p := ⟨g, i, none⟩) h.1).trans (h.2.2 i hi).1, (h.2.2 i hi).2.keep hb⟩⟩
theorem flatS_take {ps : List (List ByteArray)} {k : Nat} (h : k < ps.length) : (ps.take (k + 1)).flatten = (ps.take k).flatten ++ ps.getD k [] := by
  rw [List.take_succ_eq_append_getElem h, List.flatten_append]
  simp [h]
def flS (ps : List (List ByteArray)) (k : Nat) : Nat := (ps.take k).flatten.length
theorem flatS_le (ps : List (List ByteArray)) (k : Nat) : (ps.take k).flatten.length ≤ ps.flatten.length := by
  have := congrArg List.flatten (List.take_append_drop k ps)
  rw [List.flatten_append] at this
  have := congrArg List.length this
  rw [List.length_append] at this; omega

set_option maxRecDepth 100000 in
set_option maxHeartbeats 4000000 in
theorem concatS_any (g n : Nat) (us : List Value) (ps : List (List ByteArray)) (w : World) (h : PartsS w g us ps) (hn : ps.length = n) (hn9 : n ≤ 100) (hf : ps.flatten.length ≤ 10000) :
    Calls Try.prog 90 #[.slice (some ⟨g, 0, none⟩) n n] w (GivesOwn ps.flatten w) := by
  obtain ⟨i0, hi, hz0, hz1, hz2⟩ := info_parts info_str
  have HP := Lib.hid h
  have HN := Lib.hid hn
  obtain ⟨F, hF⟩ : ∃ F, F = ps.flatten.length := ⟨_, rfl⟩
  rw [← hF] at hf
  have hG := fun w => growS_nil F w (by omega)
  have HF := Lib.hid hF
  clear hF
  clear h hn
  go_enter Try.func90, Try.ntmps90
  go_wp2_with fail
  go_loop [3, 11] (fun m i => ∃ k : Nat, i = .int .i64 k ∧ k ≤ n ∧ m = .int .i64 ((flS ps k : Nat) : Int)) (fun _ i => n - (intOf i).toNat)
  case atStart => exact ⟨0, rfl, Nat.zero_le _, rfl⟩
  case round =>
    obtain ⟨k, rfl, hk, rfl⟩ := hrel
    by_cases hlt : k < n
    · have hlt' : (k : Int) < (n : Int) := by omega
      obtain ⟨c1, _, oa, c, hu⟩ := HP.out.2.2 k (by rw [HN.out]; exact hlt)
      rw [hu] at c1
      have hst : flS ps (k + 1) = flS ps k + (ps.getD k []).length := by
        have h8 := congrArg List.length (flatS_take (ps := ps) (k := k) (by rw [HN.out]; exact hlt))
        rwa [List.length_append] at h8
      have hle : flS ps (k + 1) ≤ F := by rw [HF.out]; exact flatS_le ps (k + 1)
      have HS := Lib.hid hst
      have h0 : (0 : Int) ≤ (flS ps k : Int) + ((ps.getD k []).length : Int) := by omega
      have h9 : flS ps k + (ps.getD k []).length ≤ 10000 := by omega
      generalize flS ps k = a at *
      generalize (ps.getD k []).length = b at *
      clear hu hst hle
      go_wp2_with fail
      go_round
      case rel => exact ⟨k + 1, by go_num, by omega, by rw [HS.out]; go_num⟩
      case measure => simp [intOf]; omega
    · obtain rfl : k = n := by omega
      rw [show flS ps k = F by rw [HF.out]; unfold flS; rw [show ps.take k = ps by rw [← HN.out]; exact List.take_length]]
      go_wp2_with fail
      refine (hG _).mono ?_; rintro e w1 ⟨v1, own1, hb1, rfl⟩
      go_wp2_with fail
      go_loopw [6, 27] (fun u i wr => ∃ q : Nat, i = .int .i64 q ∧ q ≤ k ∧ OwnS w.heap.size wr u (ps.take q).flatten ∧ Below w.heap.size w wr) (fun _ i _ => k - (intOf i).toNat)
      case atStart => exact ⟨0, rfl, Nat.zero_le _, own1, hb1⟩
      case round =>
        obtain ⟨q, rfl, hq, hown, hbw⟩ := hrel
        by_cases hlq : q < k
        · have hlq' : (q : Int) < (k : Int) := by omega
          have hPk := (HP.out.keep hbw).2.2 q (by rw [HN.out]; exact hlq)
          obtain ⟨c1, hsv, oa, c, hu⟩ := hPk
          rw [hu] at c1 hsv
          have hst := flatS_take (ps := ps) (k := q) (by rw [HN.out]; exact hlq)
          have hle := flatS_le ps (q + 1)
          rw [hst, List.length_append, ← HF.out] at hle
          have hone := oneTs (ps.getD q [])
          have hyl : ((ps.getD q []).map (Value.string)).length = (ps.getD q []).length := List.length_map _
          have HS := Lib.hid hst
          unfold OwnS at hown
          generalize (ps.take q).flatten = xa at *
          generalize ps.getD q [] = xb at *
          clear hu hst
          go_wp2_with (at_builtin; refine wpList_appSrc rfl _ _ 25 rfl w.heap.size 9 i0 (.string ⟨#[]⟩) 16 Try.underlying25 hi hz0 hz1 hz2 rfl _ _ _ rfl hown _ _ rfl hsv hone (by unfold maxLen; omega) (by omega) hbw.size ?_; intro v9 w9 o9 b9 n9)
          have hown1 : OwnS w.heap.size w9 v9 (xa ++ xb) := by
            unfold OwnS
            rw [List.length_append, List.map_append, ← hyl]
            exact o9
          have hbw9 := hbw.trans b9
          clear o9 b9 n9 hown hbw hsv
          go_wp2_with fail
          go_roundw
          case rel => exact ⟨q + 1, by go_num, by omega, by rw [HS.out]; exact hown1, hbw9⟩
          case measure => simp [intOf]; omega
        · obtain rfl : q = k := by omega
          have hx : ps.take q = ps := by rw [← HN.out]; exact List.take_length
          rw [hx] at hown
          clear hx
          go_wp2_with fail
          go_ret
          exact ⟨_, hown, hbw, rfl⟩
end Go.Proofs.Ytkoebmdocenlkaa
