/- Walks: impl.IsForest and what it calls; spec.foGood, spec.foCarets. -/
import Derived.Test.YtplmbdljhgicfaaFfR
import Derived.Test.YtplmbdljhgicfaaMarkS
import Derived.Test.YtplmbdljhgicfaaForm
import Derived.Test.YtplmbdljhgicfaaRead
import Derived.Test.YtplmbdljhgicfaaCount
import Derived.Test.YtplmbdljhgicfaaCarets
import Derived.Test.YtplmbdljhgicfaaAns
import Derived.Test.YtplmbdljhgicfaaTeS
namespace Go.Proofs.Ytplmbdljhgicfaa
open Go.RowKit

theorem info_bool : (Try.prog.info? 4).map (fun i => (i.zero, i.size, i.bytes)) = some (some (.bool false), 1, 1) := by kernel_rfl
/-- Slices of truths that a call has made. -/
def OwnB (base : Nat) (w : World) (v : Value) (xs : List Bool) : Prop := w.ownsRow base 4 1 v xs.length (xs.map Value.bool)
theorem OwnB.keep {base : Nat} {w w' : World} {v : Value} {xs : List Bool} (h : OwnB base w v xs) (hb : Below w.heap.size w w') : OwnB base w' v xs := ownsRow_keep h hb
theorem OwnB.nil (base : Nat) (w : World) : OwnB base w (.slice none 0 0) [] := World.ownsRow_nil _ _ _ _
def CellsB (base : Nat) (w : World) (v : Value) (xs : List Bool) : Prop :=
  ∃ oa cap, v = .slice oa xs.length cap ∧ xs.length ≤ cap ∧ cap ≤ maxLen ∧ ∀ i, i < xs.length → ∃ g, oa = some ⟨g, 0, none⟩ ∧ base ≤ g ∧ g < w.heap.size ∧ w.cell? ⟨g, i, none⟩ = some (.bool (xs.getD i false))
theorem OwnB.cells {base : Nat} {w : World} {v : Value} {xs : List Bool} (h : OwnB base w v xs) : CellsB base w v xs := by
  rcases h.2 with ⟨hv, hn⟩ | ⟨g, cap, cur, hv, hb, hr⟩
  · exact ⟨none, 0, by rw [hv, hn], by omega, by unfold maxLen; omega, fun i hi => by omega⟩
  · subst hv
    have hlt := World.ownsRow.lt h g rfl
    have hc := fun i (hi : i < xs.length) => World.ownsRow.cellAt h i (by omega)
    refine ⟨some ⟨g, 0, none⟩, cap, rfl, ?_, ?_, fun i hi => ⟨g, rfl, hlt.1, hlt.2, ?_⟩⟩
    · exact hr.2.1
    · exact hr.2.2.1
    · rw [hc i hi]; simp [List.getElem?_eq_getElem hi]
theorem oneB1 (b : Bool) : ∀ u ∈ [Value.bool b], u.oneCell' = true := by intro u hu; simp at hu; subst hu; rfl
theorem OwnB.snoc {base : Nat} {w : World} {v : Value} {xs : List Bool} {b : Bool} (h : w.ownsRow base 4 1 v (xs.length + 1) (xs.map Value.bool ++ [Value.bool b])) : OwnB base w v (xs ++ [b]) := by
  unfold OwnB; rw [List.length_append, List.map_append]; exact h

theorem implIsTree_b (s : ByteArray) (w : World) (hs : s.size ≤ 9223372036854775806) :
    Calls Try.prog 44 #[.string s] w (Gives (.bool (treeOf s).isSome) w) := by
  cases h : treeOf s with
  | none => exact (implIsTree_no s w hs h).mono fun e w' ⟨hb, he⟩ => ⟨he, hb⟩
  | some t =>
    obtain ⟨rfl, hc⟩ := treeOf_some h
    exact (implIsTree_yes t w hc).mono fun e w' ⟨hb, he⟩ => ⟨he, hb⟩

def okTs (L : List ByteArray) : List Bool := L.map fun s => (treeOf s).isSome
theorem okTs_snoc {L : List ByteArray} {k : Nat} (h : k < L.length) : okTs (L.take (k + 1)) = okTs (L.take k) ++ [(treeOf (L.getD k ⟨#[]⟩)).isSome] := by
  unfold okTs
  rw [List.take_succ_eq_append_getElem h, List.map_append]
  simp [h]
/-- A call that hands back truths of its own. -/
def GivesB (xs : List Bool) (w : World) (e : Ending) (w' : World) : Prop := ∃ v, OwnB w.heap.size w' v xs ∧ Below w.heap.size w w' ∧ e = .returned v

set_option maxRecDepth 100000 in
set_option maxHeartbeats 2000000 in
theorem listOfTree_any (v : Value) (b : Nat) (L : List ByteArray) (w : World) (h : CellsS b w v L) (hz : ∀ s ∈ L, s.size ≤ 1048576) (hn : L.length ≤ 8)
    (hcall : ∀ (args : Array Value) (w : World), (callFunc 44 args).run Try.prog w = .ok (.enter 44 args) w) :
    Calls Try.prog 43 #[v, .func (Fn.func 44) #[] #[]] w (GivesB (okTs L) w) := by
  obtain ⟨i0, hi, hz0, hz1, hz2⟩ := info_parts info_bool
  obtain ⟨oa, cap, rfl, hcl, hcm, hcc⟩ := h.form0
  unfold maxLen at hcm
  have HC := Lib.hid hcc
  have HZ := Lib.hid hz
  clear h hcc hz
  go_enter Try.func43, Try.ntmps43
  go_wp2_with fail
  go_loopw [5, 10] (fun v i wr => ∃ k : Nat, k ≤ L.length ∧ i = .int .i64 k ∧ OwnB w.heap.size wr v (okTs (L.take k)) ∧ Below w.heap.size w wr) (fun _ i _ => L.length - (intOf i).toNat)
  case atStart => exact ⟨0, Nat.zero_le _, rfl, OwnB.nil _ _, Below.refl _ _⟩
  case round =>
    obtain ⟨k, hk, rfl, hown, hbw⟩ := hrel
    by_cases hlt : k < L.length
    · have hlt' : (k : Int) < (L.length : Int) := by omega
      have hlen : (okTs (L.take k)).length = k := by simp [okTs]; omega
      obtain ⟨g, rfl, _, hgl, c0⟩ := HC.out k hlt
      have c1 := (hbw.cell (p := ⟨g, k, none⟩) hgl).trans c0
      have hsz := HZ.out (L.getD k ⟨#[]⟩) (by rw [List.getD_eq_getElem?_getD, List.getElem?_eq_getElem hlt]; exact List.getElem_mem hlt)
      have hnext := okTs_snoc hlt
      obtain ⟨xs, hxs⟩ : ∃ xs, xs = okTs (L.take k) := ⟨_, rfl⟩
      rw [← hxs] at hown hlen hnext
      have hT := fun w => implIsTree_b (L.getD k ⟨#[]⟩) w (by omega)
      generalize L.getD k ⟨#[]⟩ = s at *
      generalize (treeOf s).isSome = x at *
      have HN := Lib.hid hnext
      have hxl : xs.length ≤ 8 := by omega
      unfold OwnB at hown
      clear hnext hxs hlen hsz c0
      go_wp2_with fail
      refine (hT _).mono ?_; rintro e w3 ⟨rfl, hb3⟩
      have hown3 := ownsRow_keep hown hb3
      have hbw3 := nx hbw hb3
      clear hown hbw hb3
      go_wp2_with (at_builtin; refine wpList_append_own _ rfl _ _ 47 rfl w.heap.size 4 i0 (.bool false) 1 1 Try.underlying47 hi hz0 hz1 hz2 rfl (by decide) _ _ _ rfl (hown3.alloc _) ⟨w3.heap.size, 0, none⟩ 1 1 [.bool x] rfl rfl (new1 _ _ _) (oneB1 _) (by unfold maxLen; omega) (by omega) (size_al hbw3 _) ?_; intro v' w9 hown' hgrow hnn)
      have hbw9 := below_app hbw3 hown3 (Nat.le_refl _) hgrow
      have hown1 := OwnB.snoc hown'
      clear hown3 hown' hgrow hbw3 hnn
      go_wp2_with fail
      go_roundw
      case rel => exact ⟨k + 1, by omega, by go_num, by rw [HN.out]; exact hown1, hbw9⟩
      case measure => simp [intOf]; omega
    · obtain rfl : k = L.length := by omega
      rw [List.take_of_length_le (Nat.le_refl _)] at hown
      go_wp2_with fail
      go_ret
      exact ⟨_, hown, hbw, rfl⟩

/-- A place, or -1 where there is none. -/
def IndexB (xs : List Bool) (w : World) (e : Ending) (w' : World) : Prop := ∃ r : Int, e = .returned (.int .i64 r) ∧ -1 ≤ r ∧ r ≤ 8 ∧ Hid (decide (0 ≤ r) = xs.contains false) ∧ w = w'
theorem contains_take {xs : List Bool} {k : Nat} (h : k < xs.length) (hx : xs.getD k false = true) (hp : (xs.take k).contains false = false) : (xs.take (k + 1)).contains false = false := by
  rw [List.take_succ_eq_append_getElem h]
  rw [List.getD_eq_getElem?_getD, List.getElem?_eq_getElem h, Option.getD_some] at hx
  rw [hx]
  simpa using hp

set_option maxRecDepth 100000 in
set_option maxHeartbeats 2000000 in
theorem indexB_any (v : Value) (b : Nat) (xs : List Bool) (w : World) (h : CellsB b w v xs) (hn : xs.length ≤ 8) :
    Calls Try.prog 76 #[v, .bool false] w (IndexB xs w) := by
  obtain ⟨oa, cap, rfl, hcl, hcm, hcc⟩ := h
  unfold maxLen at hcm
  have HC := Lib.hid hcc
  clear hcc
  go_enter Try.func76, Try.ntmps76
  go_wp2_with fail
  go_loopw [8] (fun i wr => ∃ j : Nat, j ≤ xs.length ∧ i = .int .i64 j ∧ Hid ((xs.take j).contains false = false) ∧ wr = w) (fun i _ => xs.length - (intOf i).toNat)
  case atStart => exact ⟨0, by omega, rfl, by show (List.take 0 xs).contains false = false; simp, rfl⟩
  case round =>
    obtain ⟨j, hj, rfl, hp, rfl⟩ := hrel
    by_cases hlt : j < xs.length
    · have hlt' : (j : Int) < (xs.length : Int) := by omega
      obtain ⟨g, rfl, _, hgl, c1⟩ := HC.out j hlt
      cases hx : xs.getD j false with
      | true =>
        have HN : Hid ((xs.take (j + 1)).contains false = false) := contains_take hlt hx hp.out
        rw [hx] at c1
        clear hx hp
        go_wp2_with fail
        go_roundw
        case rel => exact ⟨j + 1, by omega, by go_num, HN, trivial⟩
        case measure => simp [intOf]; omega
      | false =>
        have HE : Hid (decide (0 ≤ (j : Int)) = xs.contains false) := by
          have hm : false ∈ xs := by
            rw [List.getD_eq_getElem?_getD, List.getElem?_eq_getElem hlt, Option.getD_some] at hx
            rw [← hx]; exact List.getElem_mem hlt
          show decide (0 ≤ (j : Int)) = xs.contains false
          rw [decide_eq_true (by omega)]
          simpa using hm
        rw [hx] at c1
        clear hx hp
        go_wp2_with fail
        go_ret
        exact ⟨_, rfl, by omega, by omega, HE, rfl⟩
    · obtain rfl : j = xs.length := by omega
      have HE : Hid (decide (0 ≤ (-1 : Int)) = xs.contains false) := by
        have h1 := hp.out
        rw [List.take_of_length_le (Nat.le_refl _)] at h1
        show decide (0 ≤ (-1 : Int)) = xs.contains false
        rw [h1]; decide
      clear hp
      go_wp2_with fail
      go_ret
      exact ⟨_, rfl, by omega, by omega, HE, rfl⟩

set_option maxRecDepth 100000 in
theorem containsB_any (v : Value) (b : Nat) (xs : List Bool) (w : World) (h : CellsB b w v xs) (hn : xs.length ≤ 8) :
    Calls Try.prog 42 #[v, .bool false] w fun e w' => e = .returned (.bool (xs.contains false)) ∧ w = w' := by
  have hi := indexB_any v b xs w h hn
  obtain ⟨oa, cap, rfl, _⟩ := h
  go_enter Try.func42, Try.ntmps42
  go_wp2_with fail
  refine hi.mono ?_; rintro e w1 ⟨r, rfl, h1, h2, hr, rfl⟩
  clear hi
  go_wp2_with fail
  go_ret
  exact ⟨ret_bool hr.out, rfl⟩

set_option maxRecDepth 100000 in
set_option maxHeartbeats 2000000 in
theorem caretsIn_any (v : Value) (b : Nat) (us : List Tr) (w : World) (h : CellsS b w v (strs us)) (hs : sumT us ≤ 1000) (_hn : us.length ≤ 1000) :
    Calls Try.prog 45 #[v] w (Gives (.int .i64 (sumT us)) w) := by
  obtain ⟨oa, cap, rfl, hcl, hcm, hcc⟩ := h.form0
  unfold maxLen at hcm
  rw [strs_length] at *
  have HC := Lib.hid hcc
  have HS := Lib.hid hs
  clear h hcc hs
  go_enter Try.func45, Try.ntmps45
  go_wp2_with fail
  go_loopw [3, 8] (fun c i wr => ∃ k n : Nat, k ≤ us.length ∧ i = .int .i64 k ∧ c = .int .i64 n ∧ Hid (n = sumT (us.take k)) ∧ n ≤ 1000 ∧ Below w.heap.size w wr) (fun _ i _ => us.length - (intOf i).toNat)
  case atStart => exact ⟨0, 0, Nat.zero_le _, rfl, rfl, rfl, by omega, Below.refl _ _⟩
  case round =>
    obtain ⟨k, n, hk, rfl, rfl, he, hnn, hbw⟩ := hrel
    by_cases hlt : k < us.length
    · have hlt' : (k : Int) < (us.length : Int) := by omega
      obtain ⟨g, rfl, _, hgl, c0⟩ := HC.out k hlt
      have c1 := (hbw.cell (p := ⟨g, k, none⟩) hgl).trans c0
      have hstep : sumT (us.take (k + 1)) = sumT (us.take k) + (us.getD k .lf).carets := by
        rw [List.take_succ_eq_append_getElem hlt, sumT_app]
        simp [sumT, hlt]
      have hle : sumT (us.take (k + 1)) ≤ sumT us := by
        have := sumT_app (us.take (k + 1)) (us.drop (k + 1))
        rw [List.take_append_drop] at this; omega
      rw [show (strs us).getD k ⟨#[]⟩ = (us.getD k .lf).str from map_getD us k hlt] at c1
      generalize us.getD k .lf = t at *
      have hsum := HS.out
      have hnew : n + t.carets = sumT (us.take (k + 1)) := by have := he.out; omega
      have HN := Lib.hid hnew
      have hct : t.carets ≤ 1000 := by omega
      have hnt : n + t.carets ≤ 1000 := by omega
      have hC := fun w => countCarets_any t w hct
      clear hstep hle hsum hnew he c0
      go_wp2_with fail
      refine (hC _).mono ?_; rintro e w3 ⟨rfl, hb3⟩
      go_wp2_with fail
      go_roundw
      case rel => exact ⟨k + 1, n + t.carets, by omega, by go_num, by go_num, HN, by omega, nx hbw hb3⟩
      case measure => simp [intOf]; omega
    · obtain rfl : k = us.length := by omega
      have h1 := he.out
      rw [List.take_of_length_le (Nat.le_refl _)] at h1
      have HE := Lib.hid h1
      clear he h1
      go_wp2_with fail
      go_ret
      exact ⟨by rw [HE.out]; rfl, hbw⟩
end Go.Proofs.Ytplmbdljhgicfaa
