/- FnExactWordOfForest: for every input the law returns true and leaves its arguments as they were. No conditions. -/
import Derived.Test.YtplmbdljhgicfaaDoorMgWordOfForest1
import Derived.Deep.RegionHeld3
import Derived.OwnWalk
import Derived.Maps.AppendAt
import Derived.IntWalk
import Derived.Test.YtplmbdljhgicfaaDoorCards
import Derived.Test.YtplmbdljhgicfaaDoorTie
import Derived.LaidMore
import Derived.Lay
import Derived.SevenTiedAt
import Derived.Stop.Joined
import Derived.ProofKit
import Derived.OpenShut
import Derived.ShutString
import Derived.ChangeOld
import Derived.Below
import Derived.SliceStrings
/-! Wo1 -/
namespace Go.Proofs.YtplmbdljhgicfaaDoor
open Go.RowKit

/-- A call that hands back a slice of numbers of its own. -/
def GivesOwnI (xs : List Int) (w : World) (e : Ending) (w' : World) : Prop := ∃ v, OwnI w.heap.size w' v xs ∧ Below w.heap.size w w' ∧ e = .returned v
set_option maxRecDepth 100000 in
set_option maxHeartbeats 200000 in
theorem repeatN_zero (g cap : Nat) (w : World) :
    Calls Tryd.prog 39 #[.slice (some ⟨g, 0, none⟩) 1 cap, .int .i64 0] w (fun e w' => ∃ g' : Nat, OwnI w.heap.size w' (.slice (some ⟨g', 0, none⟩) 0 0) [] ∧ Below w.heap.size w w' ∧ e = .returned (.slice (some ⟨g', 0, none⟩) 0 0)) := by
  obtain ⟨i0, hi, hz0, hz1, hz2⟩ := info_parts info_int
  have hsz1 : (Tryd.prog.info? 3).map (·.size) = some 1 := by rw [hi]; simp [hz1]
  have hM : ∀ w, Calls Tryd.prog 51 #[.int .u64 1, .int .u64 0] w fun e w' => e = .returned (.tuple #[.int .u64 0, .int .u64 0]) ∧ w = w' := fun w => bitsMul_one 0 (by omega) w
  have hmk := fun w => run_make (P := Tryd.prog) w 24 3 i0 (.int .i64 0) Tryd.underlying24 hi hz0 .i64 .i64 0 0 (by omega) (by omega) (by rw [hz2]; omega) (by omega)
  have hC : madeCells (Value.int .i64 0).cells ((0 : Int).toNat * i0.size) = #[] := by
    have h := size_madeCells (Value.int .i64 0).cells ((0 : Int).toNat * i0.size)
    rw [hz1] at h ⊢
    exact Array.eq_empty_of_size_eq_zero (by simpa using h)
  rw [hC] at hmk
  simp only [Int.toNat_zero] at hmk
  have HO := Lib.hid (ownsRow_empty w 3)
  have hb0 : Below w.heap.size w (w.alloc (.cells #[] 3)) := (Below.refl _ w).alloc (Nat.le_refl _) _
  clear hC
  go_enter Tryd.func39, Tryd.ntmps39
  go_wp2_with fail
  refine (hM _).mono ?_; rintro e w1 ⟨rfl, rfl⟩
  go_wp2_with (refine wpList_copy_nothing rfl (.tmp 31) (.tmp 32) 24 24 rfl 3 Tryd.underlying24 hsz1 _ _ _ _ _ _ rfl rfl rfl ?_)
  go_loopw [8] (fun i wr => i = .int .i64 0 ∧ wr = w.alloc (.cells #[] 3)) (fun _ _ => 0)
  case atStart => exact ⟨rfl, rfl⟩
  case round =>
    obtain ⟨rfl, rfl⟩ := hrel
    go_wp2_with fail
    go_ret
    exact ⟨_, HO.out, hb0, rfl⟩

theorem repeatN_any (x : Int) (n g cap : Nat) (w : World) (hn : n ≤ 20) (hc : w.cell? ⟨g, 0, none⟩ = some (.int .i64 x)) :
    Calls Tryd.prog 39 #[.slice (some ⟨g, 0, none⟩) 1 cap, .int .i64 n] w (GivesRep x n w) := by
  by_cases h0 : n = 0
  · subst h0
    exact repeatN_zero g cap w
  · exact repeat_any x n g cap w hn (by omega) hc
theorem src_ownI {b : Nat} {w : World} {g c : Nat} {xs : List Int} {n : Nat} (hn : xs.length = n) (h : OwnI b w (.slice (some ⟨g, 0, none⟩) n c) xs) : SrcV w (.slice (some ⟨g, 0, none⟩) n c) (xs.map (Value.int .i64)) := by
  subst hn
  unfold OwnI at h
  have := src_take h xs.length (Nat.le_refl _) c
  rwa [List.take_of_length_le (by simp)] at this
theorem one_ints9 (xs : List Int) : ∀ u ∈ xs.map (Value.int .i64), u.oneCell' = true := by
  intro u hu
  obtain ⟨x, _, rfl⟩ := List.mem_map.1 hu
  rfl

theorem addrs_small9 (t : Tr) : ∀ here : ByteArray, ∀ a ∈ t.addrs here, a.size ≤ here.size + t.carets := by
  induction t with
  | lf => intro here a ha; simp [Tr.addrs] at ha; subst ha; exact Nat.le_add_right _ _
  | nd l r ihl ihr =>
    intro here a ha
    have s0 : (here ++ (⟨#[48]⟩ : ByteArray)).size = here.size + 1 := ByteArray.size_append
    have s1 : (here ++ (⟨#[49]⟩ : ByteArray)).size = here.size + 1 := ByteArray.size_append
    have hc : (Tr.nd l r).carets = l.carets + r.carets + 1 := rfl
    have ha' : a ∈ l.addrs (here ++ ⟨#[48]⟩) ++ r.addrs (here ++ ⟨#[49]⟩) := ha
    rcases List.mem_append.1 ha' with h | h
    · have := ihl _ a h; omega
    · have := ihr _ a h; omega

def expoI9 (ss : List ByteArray) : List Int := ss.map fun a => ((expoL a.data.toList : Nat) : Int)
theorem expoI_take9 {ss : List ByteArray} {k : Nat} (h : k < ss.length) : expoI9 (ss.take (k + 1)) = expoI9 (ss.take k) ++ [((expoL (ss.getD k ⟨#[]⟩).data.toList : Nat) : Int)] := by
  unfold expoI9
  rw [List.take_succ_eq_append_getElem h, List.map_append]
  simp [h]
theorem expoI_all9 (t : Tr) : expoI9 (t.addrs ⟨#[]⟩) = ints t.expR := by
  rw [← exps_all t]
  unfold expoI9 ints
  rw [List.map_map]
  rfl
theorem expoL_le9 (l : List UInt8) : expoL l ≤ l.length := by
  have := zerosR_le l
  unfold expoL
  split <;> omega


set_option maxRecDepth 100000 in
set_option maxHeartbeats 400000 in
theorem exponentsIn_any (t : Tr) (w : World) (hc : t.carets ≤ 16) :
    Calls Tryd.prog 38 #[.string t.str] w (GivesOwnI (ints t.expR) w) := by
  obtain ⟨i0, hi, hz0, hz1, hz2⟩ := info_parts info_int
  have hz : (⟨#[]⟩ : ByteArray).size = 0 := rfl
  have hT := fun w => treeOf_any t w (by omega)
  have hA := fun b w h => addressesFrom_any t b ⟨#[]⟩ w h (by omega) (by omega)
  rw [← expoI_all9 t]
  have hsm := addrs_small9 t ⟨#[]⟩
  have hl := addrs_length t ⟨#[]⟩
  rw [hz] at hsm
  generalize t.addrs ⟨#[]⟩ = ss at *
  have hln : ss.length ≤ 17 := by omega
  have hsm' : ∀ a ∈ ss, a.size ≤ 16 := fun a ha => by have := hsm a ha; omega
  have HS := Lib.hid hsm'
  clear hsm hl hz hsm'
  go_enter Tryd.func38, Tryd.ntmps38
  go_wp2_with fail
  refine (hT _).mono ?_; rintro e w1 ⟨b1, hn1, hb1, rfl⟩
  go_wp2_with fail
  refine (hA b1 _ hn1).mono ?_; rintro e w2 ⟨g0, cap, own, hb2, rfl⟩
  replace hb1 := nx hb1 hb2
  obtain ⟨oa, cap', ev, hf1, hf2, hfc⟩ := own.cells.form0
  cases ev
  have HC := Lib.hid hfc
  clear own hfc hb2 hn1 hT hA
  go_wp2_with fail
  go_loopw [3, 10] (fun u i wr => ∃ (k : Nat) (xs : List Int), i = .int .i64 k ∧ k ≤ ss.length ∧ xs.length = k ∧ OwnI w2.heap.size wr u xs ∧ Below w2.heap.size w2 wr ∧ Hid (xs = expoI9 (ss.take k))) (fun _ i _ => ss.length - (intOf i).toNat)
  case atStart => exact ⟨0, [], rfl, Nat.zero_le _, rfl, OwnI.nil _ _, Below.refl _ _, rfl⟩
  case round =>
    obtain ⟨k, xs, rfl, hk, hxl, hown, hbw, he⟩ := hrel
    have HX := Lib.hid hxl
    unfold OwnI at hown
    rw [hxl] at hown
    clear hxl
    by_cases hlt : k < ss.length
    · have hlt' : (k : Int) < (ss.length : Int) := by omega
      obtain ⟨g, eg, _, hgl, c1⟩ := HC.out k hlt
      obtain rfl : g0 = g := by simpa using eg
      clear eg
      replace c1 := (hbw.cell (p := ⟨g0, k, none⟩) hgl).trans c1
      have hxm : ss.getD k ⟨#[]⟩ ∈ ss := by rw [List.getD_eq_getElem?_getD, List.getElem?_eq_getElem hlt]; exact List.getElem_mem _
      have hsz := HS.out _ hxm
      have hstep := expoI_take9 hlt
      rw [← he.out] at hstep
      have hE := fun w => exponentOf_any (ss.getD k ⟨#[]⟩) w (by omega)
      have hel := expoL_le9 (ss.getD k ⟨#[]⟩).data.toList
      rw [← Lib.size_eq] at hel
      generalize ss.getD k ⟨#[]⟩ = s at *
      have hy : expoL s.data.toList ≤ 40 := by omega
      generalize expoL s.data.toList = y at *
      have HT := Lib.hid hstep
      clear hxm he hgl hstep hsz hel
      go_wp2_with fail
      refine (hE _).mono ?_; rintro e w3 ⟨rfl, rfl⟩
      go_wp2_with (at_builtin; refine wpList_append_own _ rfl _ _ 24 rfl w2.heap.size 3 i0 (.int .i64 0) 1 8 Tryd.underlying24 hi hz0 hz1 hz2 rfl (by decide) _ _ _ rfl (hown.alloc _) ⟨wr.heap.size, 0, none⟩ 1 1 [.int .i64 (y : Int)] rfl rfl (new1 _ _ _) (one1 _) (by unfold maxLen; omega) (by omega) (size_al hbw _) ?_; intro v' w4 hown' hgrow hnn)
      have hbw1 := below_app hbw hown (Nat.le_refl _) hgrow
      have hown1 : OwnI w2.heap.size w4 v' (xs ++ [(y : Int)]) := OwnI.snoc (by rw [HX.out]; exact hown')
      clear hown hown' hgrow hbw hnn
      go_wp2_with fail
      go_roundw
      case rel => exact ⟨k + 1, _, by go_num, by omega, by have := HX.out; simp; omega, hown1, hbw1, HT.out.symm⟩
      case measure => simp [intOf]; omega
    · obtain rfl : k = ss.length := by omega
      have he' := he.out
      rw [List.take_length] at he'
      have HE := Lib.hid he'
      have hbw0 : Below w.heap.size w wr := nx hb1 hbw
      clear he he'
      go_wp2_with fail
      go_ret
      exact ⟨_, by rw [← HE.out]; refine OwnI.mono ?_ hb1.size; unfold OwnI; rw [HX.out]; exact hown, hbw0, rfl⟩



set_option maxRecDepth 100000 in
set_option maxHeartbeats 400000 in
theorem lettersOfTree_any (t : Tr) (w : World) (hc : t.carets ≤ 16) :
    Calls Tryd.prog 22 #[.string t.str] w (GivesOwnI (lettersE t.expR 0) w) := by
  obtain ⟨i0, hi, hz0, hz1, hz2⟩ := info_parts info_int
  have hE := fun w => exponentsIn_any t w hc
  have hEl : t.expR.length ≤ 17 := by rw [expR_length]; omega
  have hEs : t.expR.sum ≤ 16 := by have := expR_sum t; omega
  generalize t.expR = E at *
  generalize t.str = s at *
  have hbd : ∀ k, (E.take k).sum ≤ 16 := fun k => Nat.le_trans (sum_takeG E k) hEs
  have HB := Lib.hid hbd
  obtain ⟨n, hn⟩ : ∃ n, n = E.length := ⟨_, rfl⟩
  have HN := Lib.hid hn
  rw [← hn] at hEl
  clear hbd hEs
  go_enter Tryd.func22, Tryd.ntmps22
  go_wp2_with fail
  refine (hE _).mono ?_; rintro e w1 ⟨v1, own1, hb1, rfl⟩
  obtain ⟨oa, cap, rfl, hf1, hf2, hfc⟩ := own1.cells.form
  unfold maxLen at hf2
  rw [ints_length, ← hn] at hf1 hfc ⊢
  have HC := Lib.hid hfc
  clear own1 hfc hn hE
  go_wp2_with fail
  go_loopw [3, 9] (fun u i wr => ∃ (k : Nat) (xs : List Int), k ≤ n ∧ i = .int .i64 k ∧ OwnI w1.heap.size wr u xs ∧ xs.length ≤ 16 ∧ Hid (xs = lettersE (E.take k) 0) ∧ Below w1.heap.size w1 wr) (fun _ i _ => n - (intOf i).toNat)
  case atStart => exact ⟨0, [], Nat.zero_le _, rfl, OwnI.nil _ _, Nat.zero_le _, rfl, Below.refl _ _⟩
  case round =>
    obtain ⟨k, xs, hk, rfl, hown, hxl, hxs, hbw⟩ := hrel
    by_cases hlt : k < n
    · have hlt' : (k : Int) < (n : Int) := by omega
      obtain ⟨g, rfl, _, hgl, c0⟩ := HC.out k hlt
      have c1 := (hbw.cell (p := ⟨g, k, none⟩) hgl).trans c0
      have hkE : k < E.length := by rw [← HN.out]; exact hlt
      have hge : (ints E).getD k 0 = ((E.getD k 0 : Nat) : Int) := by unfold ints; simp [hkE]
      rw [hge] at c1
      have hstep := lettersE_step (E.take k) (E.getD k 0) k (by simp; omega)
      rw [← take_nextG E hkE, ← hxs.out] at hstep
      have hsm := HB.out (k + 1)
      rw [take_nextG E hkE, List.sum_append] at hsm
      have he16 : E.getD k 0 ≤ 16 := by simp only [List.sum_cons, List.sum_nil] at hsm; omega
      have hl2 := congrArg List.length hstep
      rw [lettersE_length, List.length_append, List.length_replicate] at hl2
      have hl3 := HB.out (k + 1)
      have HST := Lib.hid hstep
      generalize E.getD k 0 = x at *
      have hx16 : xs.length + x ≤ 16 := by omega
      unfold OwnI at hown
      have hcell : (wr.alloc (.cells #[.int .i64 ((k : Int) + 1)] 3 (0, 0))).cell? ⟨wr.heap.size, 0, none⟩ = some (.int .i64 ((k : Int) + 1)) := by
        have := heap_alloc_at wr (.cells #[.int .i64 ((k : Int) + 1)] 3 (0, 0))
        simp only [World.cell?, this]; rfl
      have hba := nxAlloc (Below.refl wr.heap.size wr) (.cells #[.int .i64 ((k : Int) + 1)] 3 (0, 0))
      clear hge hstep hsm hl2 hl3 c0 hxs hgl
      go_wp2_with fail
      refine (repeatN_any ((k : Int) + 1) x wr.heap.size 1 _ (by omega) hcell).mono ?_; rintro e w3 ⟨g3, own3, hb3, rfl⟩
      have hb9 := nx hba hb3
      replace hown := ownsRow_keep hown hb9
      replace hbw := nx hbw hb9
      have hsrc := src_ownI List.length_replicate own3
      have hone := one_ints9 (List.replicate x ((k : Int) + 1))
      have hrl : ((List.replicate x ((k : Int) + 1)).map (Value.int .i64)).length = x := by simp
      clear hb9 hba hb3 own3 hcell
      go_wp2_with (at_builtin; refine wpList_appSrc rfl _ _ 24 rfl w1.heap.size 3 i0 (.int .i64 0) 8 Tryd.underlying24 hi hz0 hz1 hz2 rfl _ _ _ rfl hown _ _ rfl hsrc hone (by rw [hrl]; unfold maxLen; omega) (by rw [hrl]; omega) hbw.size ?_; intro v9 w9 hown9 hb9 hnn9)
      have hbw9 := hbw.trans hb9
      have hown1 : OwnI w1.heap.size w9 v9 (xs ++ List.replicate x ((k : Int) + 1)) := by
        unfold OwnI
        rw [List.map_append, List.length_append]
        rw [hrl] at hown9
        rw [List.length_replicate]
        exact hown9
      clear hown hown9 hnn9 hbw hb9 hsrc hone hrl
      go_wp2_with fail
      go_roundw
      case rel => exact ⟨k + 1, _, by omega, by go_num, hown1, by simp; omega, HST.out.symm, hbw9⟩
      case measure => simp [intOf]; omega
    · obtain rfl : k = n := by omega
      have h1 := hxs.out
      rw [List.take_of_length_le (by rw [← HN.out]; exact Nat.le_refl _)] at h1
      have HX := Lib.hid h1
      clear h1 hxs
      go_wp2_with fail
      go_ret
      exact ⟨_, by rw [← HX.out]; exact OwnI.mono hown hb1.size, nx hb1 hbw, rfl⟩
end Go.Proofs.YtplmbdljhgicfaaDoor

/-! Ff1 -/
namespace Go.Proofs.YtplmbdljhgicfaaDoor
open Go.RowKit

theorem info_bool : (Tryd.prog.info? 4).map (fun i => (i.zero, i.size, i.bytes)) = some (some (.bool false), 1, 1) := by kernel_rfl
/-- Slices of truths that a call has made. -/
def OwnB (base : Nat) (w : World) (v : Value) (xs : List Bool) : Prop := w.ownsRow base 4 1 v xs.length (xs.map Value.bool)
theorem OwnB.keep {base : Nat} {w w' : World} {v : Value} {xs : List Bool} (h : OwnB base w v xs) (hb : Below w.heap.size w w') : OwnB base w' v xs := ownsRow_keep h hb
theorem OwnB.nil (base : Nat) (w : World) : OwnB base w (.slice none 0 0) [] := World.ownsRow_nil _ _ _ _
def CellsB (base : Nat) (w : World) (v : Value) (xs : List Bool) : Prop :=
  ∃ oa cap, v = .slice oa xs.length cap ∧ xs.length ≤ cap ∧ cap ≤ maxLen ∧ ∀ i, i < xs.length → ∃ g, oa = some ⟨g, 0, none⟩ ∧ base ≤ g ∧ g < w.heap.size ∧ w.cell? ⟨g, i, none⟩ = some (.bool (xs.getD i false))
theorem OwnB.cells {base : Nat} {w : World} {v : Value} {xs : List Bool} (h : OwnB base w v xs) : CellsB base w v xs := by
  rcases h.2 with ⟨hv, hn⟩ | ⟨g, cap, cur, hv, hb, hr⟩
  · exact ⟨none, 0, by rw [hv, hn], by omega, by unfold maxLen; omega, fun i hi => by omega⟩
  · subst hv
    have hlt := World.ownsRow.lt h g rfl
    have hc := fun i (hi : i < xs.length) => World.ownsRow.cellAt h i (by omega)
    refine ⟨some ⟨g, 0, none⟩, cap, rfl, ?_, ?_, fun i hi => ⟨g, rfl, hlt.1, hlt.2, ?_⟩⟩
    · exact hr.2.1
    · exact hr.2.2.1
    · rw [hc i hi]; simp [List.getElem?_eq_getElem hi]
theorem oneB1 (b : Bool) : ∀ u ∈ [Value.bool b], u.oneCell' = true := by intro u hu; simp at hu; subst hu; rfl
theorem OwnB.snoc {base : Nat} {w : World} {v : Value} {xs : List Bool} {b : Bool} (h : w.ownsRow base 4 1 v (xs.length + 1) (xs.map Value.bool ++ [Value.bool b])) : OwnB base w v (xs ++ [b]) := by
  unfold OwnB; rw [List.length_append, List.map_append]; exact h

theorem implIsTree_b (s : ByteArray) (w : World) (hs : s.size ≤ 9223372036854775806) :
    Calls Tryd.prog 35 #[.string s] w (Gives (.bool (treeOf s).isSome) w) := by
  cases h : treeOf s with
  | none => exact (implIsTree_no s w hs h).mono fun e w' ⟨hb, he⟩ => ⟨he, hb⟩
  | some t =>
    obtain ⟨rfl, hc⟩ := treeOf_some h
    exact (implIsTree_yes t w hc).mono fun e w' ⟨hb, he⟩ => ⟨he, hb⟩

def okTs (L : List ByteArray) : List Bool := L.map fun s => (treeOf s).isSome
theorem okTs_snoc {L : List ByteArray} {k : Nat} (h : k < L.length) : okTs (L.take (k + 1)) = okTs (L.take k) ++ [(treeOf (L.getD k ⟨#[]⟩)).isSome] := by
  unfold okTs
  rw [List.take_succ_eq_append_getElem h, List.map_append]
  simp [h]
/-- A call that hands back truths of its own. -/
def GivesB (xs : List Bool) (w : World) (e : Ending) (w' : World) : Prop := ∃ v, OwnB w.heap.size w' v xs ∧ Below w.heap.size w w' ∧ e = .returned v

set_option maxRecDepth 100000 in
set_option maxHeartbeats 2000000 in
theorem listOfTree_any (v : Value) (b : Nat) (L : List ByteArray) (w : World) (h : CellsS b w v L) (hz : ∀ s ∈ L, s.size ≤ 1048576) (hn : L.length ≤ 8)
    (hcall : ∀ (args : Array Value) (w : World), (callFunc 35 args).run Tryd.prog w = .ok (.enter 35 args) w) :
    Calls Tryd.prog 34 #[v, .func (Fn.func 35) #[] #[]] w (GivesB (okTs L) w) := by
  obtain ⟨i0, hi, hz0, hz1, hz2⟩ := info_parts info_bool
  obtain ⟨oa, cap, rfl, hcl, hcm, hcc⟩ := h.form0
  unfold maxLen at hcm
  have HC := Lib.hid hcc
  have HZ := Lib.hid hz
  clear h hcc hz
  go_enter Tryd.func34, Tryd.ntmps34
  go_wp2_with fail
  go_loopw [5, 10] (fun v i wr => ∃ k : Nat, k ≤ L.length ∧ i = .int .i64 k ∧ OwnB w.heap.size wr v (okTs (L.take k)) ∧ Below w.heap.size w wr) (fun _ i _ => L.length - (intOf i).toNat)
  case atStart => exact ⟨0, Nat.zero_le _, rfl, OwnB.nil _ _, Below.refl _ _⟩
  case round =>
    obtain ⟨k, hk, rfl, hown, hbw⟩ := hrel
    by_cases hlt : k < L.length
    · have hlt' : (k : Int) < (L.length : Int) := by omega
      have hlen : (okTs (L.take k)).length = k := by simp [okTs]; omega
      obtain ⟨g, rfl, _, hgl, c0⟩ := HC.out k hlt
      have c1 := (hbw.cell (p := ⟨g, k, none⟩) hgl).trans c0
      have hsz := HZ.out (L.getD k ⟨#[]⟩) (by rw [List.getD_eq_getElem?_getD, List.getElem?_eq_getElem hlt]; exact List.getElem_mem hlt)
      have hnext := okTs_snoc hlt
      obtain ⟨xs, hxs⟩ : ∃ xs, xs = okTs (L.take k) := ⟨_, rfl⟩
      rw [← hxs] at hown hlen hnext
      have hT := fun w => implIsTree_b (L.getD k ⟨#[]⟩) w (by omega)
      generalize L.getD k ⟨#[]⟩ = s at *
      generalize (treeOf s).isSome = x at *
      have HN := Lib.hid hnext
      have hxl : xs.length ≤ 8 := by omega
      unfold OwnB at hown
      clear hnext hxs hlen hsz c0
      go_wp2_with fail
      refine (hT _).mono ?_; rintro e w3 ⟨rfl, hb3⟩
      have hown3 := ownsRow_keep hown hb3
      have hbw3 := nx hbw hb3
      clear hown hbw hb3
      go_wp2_with (at_builtin; refine wpList_append_own _ rfl _ _ 47 rfl w.heap.size 4 i0 (.bool false) 1 1 Tryd.underlying47 hi hz0 hz1 hz2 rfl (by decide) _ _ _ rfl (hown3.alloc _) ⟨w3.heap.size, 0, none⟩ 1 1 [.bool x] rfl rfl (new1 _ _ _) (oneB1 _) (by unfold maxLen; omega) (by omega) (size_al hbw3 _) ?_; intro v' w9 hown' hgrow hnn)
      have hbw9 := below_app hbw3 hown3 (Nat.le_refl _) hgrow
      have hown1 := OwnB.snoc hown'
      clear hown3 hown' hgrow hbw3 hnn
      go_wp2_with fail
      go_roundw
      case rel => exact ⟨k + 1, by omega, by go_num, by rw [HN.out]; exact hown1, hbw9⟩
      case measure => simp [intOf]; omega
    · obtain rfl : k = L.length := by omega
      rw [List.take_of_length_le (Nat.le_refl _)] at hown
      go_wp2_with fail
      go_ret
      exact ⟨_, hown, hbw, rfl⟩

/-- A place, or -1 where there is none. -/
def IndexB (xs : List Bool) (w : World) (e : Ending) (w' : World) : Prop := ∃ r : Int, e = .returned (.int .i64 r) ∧ -1 ≤ r ∧ r ≤ 8 ∧ Hid (decide (0 ≤ r) = xs.contains false) ∧ w = w'
theorem contains_take {xs : List Bool} {k : Nat} (h : k < xs.length) (hx : xs.getD k false = true) (hp : (xs.take k).contains false = false) : (xs.take (k + 1)).contains false = false := by
  rw [List.take_succ_eq_append_getElem h]
  rw [List.getD_eq_getElem?_getD, List.getElem?_eq_getElem h, Option.getD_some] at hx
  rw [hx]
  simpa using hp

set_option maxRecDepth 100000 in
set_option maxHeartbeats 2000000 in
theorem indexB_any (v : Value) (b : Nat) (xs : List Bool) (w : World) (h : CellsB b w v xs) (hn : xs.length ≤ 8) :
    Calls Tryd.prog 45 #[v, .bool false] w (IndexB xs w) := by
  obtain ⟨oa, cap, rfl, hcl, hcm, hcc⟩ := h
  unfold maxLen at hcm
  have HC := Lib.hid hcc
  clear hcc
  go_enter Tryd.func45, Tryd.ntmps45
  go_wp2_with fail
  go_loopw [8] (fun i wr => ∃ j : Nat, j ≤ xs.length ∧ i = .int .i64 j ∧ Hid ((xs.take j).contains false = false) ∧ wr = w) (fun i _ => xs.length - (intOf i).toNat)
  case atStart => exact ⟨0, by omega, rfl, by show (List.take 0 xs).contains false = false; simp, rfl⟩
  case round =>
    obtain ⟨j, hj, rfl, hp, rfl⟩ := hrel
    by_cases hlt : j < xs.length
    · have hlt' : (j : Int) < (xs.length : Int) := by omega
      obtain ⟨g, rfl, _, hgl, c1⟩ := HC.out j hlt
      cases hx : xs.getD j false with
      | true =>
        have HN : Hid ((xs.take (j + 1)).contains false = false) := contains_take hlt hx hp.out
        rw [hx] at c1
        clear hx hp
        go_wp2_with fail
        go_roundw
        case rel => exact ⟨j + 1, by omega, by go_num, HN, trivial⟩
        case measure => simp [intOf]; omega
      | false =>
        have HE : Hid (decide (0 ≤ (j : Int)) = xs.contains false) := by
          have hm : false ∈ xs := by
            rw [List.getD_eq_getElem?_getD, List.getElem?_eq_getElem hlt, Option.getD_some] at hx
            rw [← hx]; exact List.getElem_mem hlt
          show decide (0 ≤ (j : Int)) = xs.contains false
          rw [decide_eq_true (by omega)]
          simpa using hm
        rw [hx] at c1
        clear hx hp
        go_wp2_with fail
        go_ret
        exact ⟨_, rfl, by omega, by omega, HE, rfl⟩
    · obtain rfl : j = xs.length := by omega
      have HE : Hid (decide (0 ≤ (-1 : Int)) = xs.contains false) := by
        have h1 := hp.out
        rw [List.take_of_length_le (Nat.le_refl _)] at h1
        show decide (0 ≤ (-1 : Int)) = xs.contains false
        rw [h1]; decide
      clear hp
      go_wp2_with fail
      go_ret
      exact ⟨_, rfl, by omega, by omega, HE, rfl⟩

set_option maxRecDepth 100000 in
theorem containsB_any (v : Value) (b : Nat) (xs : List Bool) (w : World) (h : CellsB b w v xs) (hn : xs.length ≤ 8) :
    Calls Tryd.prog 33 #[v, .bool false] w fun e w' => e = .returned (.bool (xs.contains false)) ∧ w = w' := by
  have hi := indexB_any v b xs w h hn
  obtain ⟨oa, cap, rfl, _⟩ := h
  go_enter Tryd.func33, Tryd.ntmps33
  go_wp2_with fail
  refine hi.mono ?_; rintro e w1 ⟨r, rfl, h1, h2, hr, rfl⟩
  clear hi
  go_wp2_with fail
  go_ret
  exact ⟨ret_bool hr.out, rfl⟩

set_option maxRecDepth 100000 in
set_option maxHeartbeats 2000000 in
theorem caretsIn_any (v : Value) (b : Nat) (us : List Tr) (w : World) (h : CellsS b w v (strs us)) (hs : sumT us ≤ 1000) (_hn : us.length ≤ 1000) :
    Calls Tryd.prog 36 #[v] w (Gives (.int .i64 (sumT us)) w) := by
  obtain ⟨oa, cap, rfl, hcl, hcm, hcc⟩ := h.form0
  unfold maxLen at hcm
  rw [strs_length] at *
  have HC := Lib.hid hcc
  have HS := Lib.hid hs
  clear h hcc hs
  go_enter Tryd.func36, Tryd.ntmps36
  go_wp2_with fail
  go_loopw [3, 8] (fun c i wr => ∃ k n : Nat, k ≤ us.length ∧ i = .int .i64 k ∧ c = .int .i64 n ∧ Hid (n = sumT (us.take k)) ∧ n ≤ 1000 ∧ Below w.heap.size w wr) (fun _ i _ => us.length - (intOf i).toNat)
  case atStart => exact ⟨0, 0, Nat.zero_le _, rfl, rfl, rfl, by omega, Below.refl _ _⟩
  case round =>
    obtain ⟨k, n, hk, rfl, rfl, he, hnn, hbw⟩ := hrel
    by_cases hlt : k < us.length
    · have hlt' : (k : Int) < (us.length : Int) := by omega
      obtain ⟨g, rfl, _, hgl, c0⟩ := HC.out k hlt
      have c1 := (hbw.cell (p := ⟨g, k, none⟩) hgl).trans c0
      have hstep : sumT (us.take (k + 1)) = sumT (us.take k) + (us.getD k .lf).carets := by
        rw [List.take_succ_eq_append_getElem hlt, sumT_app]
        simp [sumT, hlt]
      have hle : sumT (us.take (k + 1)) ≤ sumT us := by
        have := sumT_app (us.take (k + 1)) (us.drop (k + 1))
        rw [List.take_append_drop] at this; omega
      rw [show (strs us).getD k ⟨#[]⟩ = (us.getD k .lf).str from map_getD us k hlt] at c1
      generalize us.getD k .lf = t at *
      have hsum := HS.out
      have hnew : n + t.carets = sumT (us.take (k + 1)) := by have := he.out; omega
      have HN := Lib.hid hnew
      have hct : t.carets ≤ 1000 := by omega
      have hnt : n + t.carets ≤ 1000 := by omega
      have hC := fun w => countCarets_any t w hct
      clear hstep hle hsum hnew he c0
      go_wp2_with fail
      refine (hC _).mono ?_; rintro e w3 ⟨rfl, hb3⟩
      go_wp2_with fail
      go_roundw
      case rel => exact ⟨k + 1, n + t.carets, by omega, by go_num, by go_num, HN, by omega, nx hbw hb3⟩
      case measure => simp [intOf]; omega
    · obtain rfl : k = us.length := by omega
      have h1 := he.out
      rw [List.take_of_length_le (Nat.le_refl _)] at h1
      have HE := Lib.hid h1
      clear he h1
      go_wp2_with fail
      go_ret
      exact ⟨by rw [HE.out]; rfl, hbw⟩
end Go.Proofs.YtplmbdljhgicfaaDoor

/-! Ff3 -/
namespace Go.Proofs.YtplmbdljhgicfaaDoor
open Go.RowKit

theorem okTs_contains {L : List ByteArray} : (okTs L).contains false = (treesOf L).isNone := by
  induction L with
  | nil => rfl
  | cons s L ih =>
    show ((treeOf s).isSome :: okTs L).contains false = _
    rw [List.contains_cons, ih, treesOf]
    cases treeOf s with
    | none => rfl
    | some t => cases treesOf L <;> rfl

set_option maxRecDepth 100000 in
set_option maxHeartbeats 400000 in
theorem implIsForest_b (v : Value) (b : Nat) (L : List ByteArray) (w : World) (h : CellsS b w v L) (hz : ∀ s ∈ L, s.size ≤ 1048576) (_hn : L.length ≤ 1048576) :
    Calls Tryd.prog 20 #[v] w (Gives (.bool (forOf L).isSome) w) := by
  have hcall : ∀ (args : Array Value) (w : World), (callFunc 35 args).run Tryd.prog w = .ok (.enter 35 args) w := by intro args w; rfl
  have HH := Lib.hid h
  obtain ⟨oa, cap, rfl, hcl, hcm, hcc⟩ := h.form0
  unfold maxLen at hcm
  have HC := Lib.hid hcc
  clear h hcc
  by_cases h8 : (8 : Int) < L.length
  · rw [forOf_long (L := L) (by omega)]
    show Calls _ _ _ _ (Gives (.bool false) w)
    clear hz
    go_enter Tryd.func20, Tryd.ntmps20
    go_wp2_with fail
    go_ret
    exact ⟨rfl, Below.refl _ _⟩
  · have hl8 : L.length ≤ 8 := by omega
    have hL := fun w h => listOfTree_any (.slice oa L.length cap) b L w h hz hl8 hcall
    have hlen : (okTs L).length ≤ 8 := by simp [okTs]; omega
    have hcon := okTs_contains (L := L)
    cases ht : treesOf L with
    | none =>
      rw [show forOf L = none by unfold forOf; rw [ht]; rfl]
      rw [ht] at hcon
      show Calls _ _ _ _ (Gives (.bool false) w)
      generalize okTs L = xs at hL hlen hcon
      have HX := Lib.hid hcon
      clear hcon ht hz hcall
      go_enter Tryd.func20, Tryd.ntmps20
      go_wp2_with fail
      refine (hL _ HH.out).mono ?_; rintro e w1 ⟨v1, own1, hb1, rfl⟩
      go_wp2_with fail
      refine (containsB_any v1 _ xs _ own1.cells hlen).mono ?_; rintro e w2 ⟨rfl, rfl⟩
      rw [HX.out]
      go_wp2_with fail
      go_ret
      exact ⟨rfl, hb1⟩
    | some us =>
      have hus := (treesOf_some L us ht).1
      have hul := treesOf_length ht
      have hcar : ∀ u ∈ us, u.carets ≤ 8 := (treesOf_some L us ht).2
      have hsum : sumT us ≤ 8 * us.length := by
        clear hus hul ht
        induction us with
        | nil => simp [sumT]
        | cons u us ih =>
          have h1 := hcar u (by simp)
          have h2 := ih (fun x hx => hcar x (by simp [hx]))
          rw [sumT_cons, List.length_cons]; omega
      rw [ht] at hcon
      have hC := fun w h => caretsIn_any (.slice oa L.length cap) b us w h (by omega) (by omega)
      have hcs : ∀ w, CellsS b w (.slice oa L.length cap) L → CellsS b w (.slice oa L.length cap) (strs us) := fun w h => by rw [show strs us = L from hus.symm]; exact h
      have hres : L.length = 0 ∨ ((L.getD (L.length - 1) ⟨#[]⟩).toList == [46]) = false → (forOf L).isSome = decide (sumT us ≤ 8) := fun k => forOf_of ht hl8 k
      have hdot : 0 < L.length → ((L.getD (L.length - 1) ⟨#[]⟩).toList == [46]) = true → forOf L = none := fun a b => forOf_dot a b
      have hsb : sumT us ≤ 1000 := by omega
      have HR := Lib.hid hres
      have HD := Lib.hid hdot
      have HSC := Lib.hid hcs
      generalize okTs L = xs at hL hlen hcon
      generalize sumT us = n at *
      have HX := Lib.hid hcon
      clear hcon ht hz hcall hus hul hcar hsum hres hdot hcs
      by_cases hn8 : (n : Int) ≤ 8
      rotate_left
      · have HF : Hid ((forOf L).isSome = false) := by
          show (forOf L).isSome = false
          by_cases h0 : L.length = 0
          · rw [HR.out (.inl h0)]; simp; omega
          · cases hx : ((L.getD (L.length - 1) ⟨#[]⟩).toList == [46]) with
            | true => rw [HD.out (by omega) hx]; rfl
            | false => rw [HR.out (.inr hx)]; simp; omega
        clear HR HD HC
        go_enter Tryd.func20, Tryd.ntmps20
        go_wp2_with fail
        refine (hL _ HH.out).mono ?_; rintro e w1 ⟨v1, own1, hb1, rfl⟩
        go_wp2_with fail
        refine (containsB_any v1 _ xs _ own1.cells hlen).mono ?_; rintro e w2 ⟨rfl, rfl⟩
        rw [HX.out]
        go_wp2_with fail
        refine (hC _ (HSC.out _ (HH.out.keep hb1))).mono ?_; rintro e w3 ⟨rfl, hb3⟩
        go_wp2_with fail
        go_ret
        exact ⟨by rw [HF.out]; rfl, nx hb1 hb3⟩
      by_cases h0 : L.length = 0
      · have HF : Hid ((forOf L).isSome = true) := by show (forOf L).isSome = true; rw [HR.out (.inl h0)]; simp; omega
        have hd0 : ((L.length : Int) == 0) = true := by simp [h0]
        clear HR HD HC h0
        go_enter Tryd.func20, Tryd.ntmps20
        go_wp2_with fail
        refine (hL _ HH.out).mono ?_; rintro e w1 ⟨v1, own1, hb1, rfl⟩
        go_wp2_with fail
        refine (containsB_any v1 _ xs _ own1.cells hlen).mono ?_; rintro e w2 ⟨rfl, rfl⟩
        rw [HX.out]
        go_wp2_with fail
        refine (hC _ (HSC.out _ (HH.out.keep hb1))).mono ?_; rintro e w3 ⟨rfl, hb3⟩
        go_wp2_with fail
        go_ret
        exact ⟨by rw [HF.out]; rfl, nx hb1 hb3⟩
      · have hp0 : 0 < L.length := by omega
        have hd0 : ((L.length : Int) == 0) = false := by rw [beq_eq_false_iff_ne]; omega
        obtain ⟨g, rfl, _, hgl, c0⟩ := HC.out (L.length - 1) (by omega)
        have ei : (L.length : Int) - 1 = ((L.length - 1 : Nat) : Int) := by omega
        have hi9 : L.length - 1 < L.length := by omega
        have HRR := HR.out
        have HDD := HD.out
        generalize L.getD (L.length - 1) ⟨#[]⟩ = x at *
        obtain ⟨m, hm⟩ : ∃ m, m = L.length - 1 := ⟨_, rfl⟩
        rw [← hm] at c0 ei hi9
        have HM := Lib.hid hm
        clear hm HR HD HC h0
        have hd1 : (0 : Int) ≤ (m : Int) := by omega
        have hd2 : (m : Int) < (L.length : Int) := by omega
        cases hx : (x.toList == [46]) with
        | true =>
          have HF : Hid ((forOf L).isSome = false) := by show (forOf L).isSome = false; rw [HDD hp0 hx]; rfl
          clear HRR HDD
          go_enter Tryd.func20, Tryd.ntmps20
          go_wp2_with fail
          refine (hL _ HH.out).mono ?_; rintro e w1 ⟨v1, own1, hb1, rfl⟩
          go_wp2_with fail
          refine (containsB_any v1 _ xs _ own1.cells hlen).mono ?_; rintro e w2 ⟨rfl, rfl⟩
          rw [HX.out]
          go_wp2_with fail
          refine (hC _ (HSC.out _ (HH.out.keep hb1))).mono ?_; rintro e w3 ⟨rfl, hb3⟩
          have c1 := ((nx hb1 hb3).cell (p := ⟨g, m, none⟩) hgl).trans c0
          go_wp2_with fail
          go_ret
          exact ⟨by rw [HF.out]; rfl, nx hb1 hb3⟩
        | false =>
          have HF : Hid ((forOf L).isSome = true) := by show (forOf L).isSome = true; rw [HRR (.inr hx)]; simp; omega
          clear HRR HDD
          go_enter Tryd.func20, Tryd.ntmps20
          go_wp2_with fail
          refine (hL _ HH.out).mono ?_; rintro e w1 ⟨v1, own1, hb1, rfl⟩
          go_wp2_with fail
          refine (containsB_any v1 _ xs _ own1.cells hlen).mono ?_; rintro e w2 ⟨rfl, rfl⟩
          rw [HX.out]
          go_wp2_with fail
          refine (hC _ (HSC.out _ (HH.out.keep hb1))).mono ?_; rintro e w3 ⟨rfl, hb3⟩
          have c1 := ((nx hb1 hb3).cell (p := ⟨g, m, none⟩) hgl).trans c0
          go_wp2_with fail
          go_ret
          exact ⟨by rw [HF.out]; rfl, nx hb1 hb3⟩

/-- The trees of a forest, and what of a list that is none. -/
theorem forOf_none_or (L : List ByteArray) : forOf L = none ∨ ∃ us, forOf L = some us := by
  cases forOf L with
  | none => exact .inl rfl
  | some us => exact .inr ⟨us, rfl⟩

theorem trLeaf_raw (s : ByteArray) (w : World) : Calls Tryd.prog 28 #[.string s] w fun e w' => e = .returned (.bool (s.toList == [46])) ∧ w = w' := by
  go_enter Tryd.func28, Tryd.ntmps28
  go_wp2_with fail
  go_ret
  exact ⟨rfl, rfl⟩

set_option maxRecDepth 100000 in
set_option maxHeartbeats 2000000 in
theorem foGood_any (v : Value) (b : Nat) (L : List ByteArray) (w : World) (h : CellsS b w v L) (hz : ∀ s ∈ L, s.size ≤ 1048576) (_hn : L.length ≤ 1048576) :
    Calls Tryd.prog 17 #[v] w (Gives (.bool (forOf L).isSome) w) := by
  obtain ⟨oa, cap, rfl, hcl, hcm, hcc⟩ := h.form0
  unfold maxLen at hcm
  have HC := Lib.hid hcc
  have HZ := Lib.hid hz
  clear h hcc hz
  by_cases h8 : (8 : Int) < L.length
  · rw [forOf_long (L := L) (by omega)]
    show Calls _ _ _ _ (Gives (.bool false) w)
    go_enter Tryd.func17, Tryd.ntmps17
    go_wp2_with fail
    go_ret
    exact ⟨rfl, Below.refl _ _⟩
  · by_cases h0 : L.length = 0
    · obtain rfl := List.length_eq_zero_iff.1 h0
      rw [show (forOf []).isSome = true from rfl]
      clear HC HZ h0
      go_enter Tryd.func17, Tryd.ntmps17
      go_wp2_with fail
      go_loopw [3, 25] (fun c i wr => c = .int .i64 0 ∧ i = .int .i64 0 ∧ wr = w) (fun _ _ _ => 0)
      case atStart => exact ⟨rfl, rfl, rfl⟩
      case round =>
        obtain ⟨rfl, rfl, rfl⟩ := hrel
        go_wp2_with fail
        go_ret
        exact ⟨rfl, Below.refl _ _⟩
    · obtain ⟨g, rfl, _, hgl, c0⟩ := HC.out (L.length - 1) (by omega)
      have hp0 : (0 : Int) < (L.length : Int) := by omega
      have ei : (L.length : Int) - 1 = ((L.length - 1 : Nat) : Int) := by omega
      have hi9 : L.length - 1 < L.length := by omega
      have HDOT : ((L.getD (L.length - 1) ⟨#[]⟩).toList == [46]) = true → forOf L = none := fun hh => forOf_dot (by omega) hh
      have HOK : ∀ us, treesOf L = some us → ((L.getD (L.length - 1) ⟨#[]⟩).toList == [46]) = false → (forOf L).isSome = decide (sumT us ≤ 8) := fun us h1 h2 => forOf_of h1 (by omega) (.inr h2)
      have hT := fun w => trLeaf_raw (L.getD (L.length - 1) ⟨#[]⟩) w
      generalize L.getD (L.length - 1) ⟨#[]⟩ = x at *
      obtain ⟨m, hm⟩ : ∃ m, m = L.length - 1 := ⟨_, rfl⟩
      rw [← hm] at c0 ei hi9
      have hd1 : (0 : Int) ≤ (m : Int) := by omega
      have hd2 : (m : Int) < (L.length : Int) := by omega
      clear hm h0
      cases hx : (x.toList == [46]) with
      | true =>
        have HF : Hid (forOf L = none) := HDOT hx
        rw [hx] at hT
        clear HDOT HOK HC hx
        go_enter Tryd.func17, Tryd.ntmps17
        go_wp2_with fail
        refine (hT _).mono ?_; rintro e w1 ⟨rfl, rfl⟩
        go_wp2_with fail
        go_ret
        exact ⟨by rw [HF.out]; rfl, Below.refl _ _⟩
      | false =>
        rw [hx] at hT HOK
        have HK := Lib.hid HOK
        clear HDOT HOK hx
        go_enter Tryd.func17, Tryd.ntmps17
        go_wp2_with fail
        refine (hT _).mono ?_; rintro e w1 ⟨rfl, rfl⟩
        clear c0 hT
        go_wp2_with fail
        go_loopw [3, 25] (fun c i wr => ∃ (k n : Nat) (us : List Tr), k ≤ L.length ∧ i = .int .i64 k ∧ c = .int .i64 n ∧ Hid (treesOf (L.take k) = some us ∧ n = sumT us) ∧ n ≤ 8 * k ∧ wr = w) (fun _ i _ => L.length - (intOf i).toNat)
        case atStart => exact ⟨0, 0, [], Nat.zero_le _, rfl, rfl, ⟨rfl, rfl⟩, by omega, rfl⟩
        case round =>
          obtain ⟨k, n, us, hk, rfl, rfl, he, hnn, rfl⟩ := hrel
          by_cases hlt : k < L.length
          · have hlt' : (k : Int) < (L.length : Int) := by omega
            obtain ⟨g', eg, _, _, c1⟩ := HC.out k hlt
            obtain rfl : g = g' := by simpa using eg
            clear eg
            have hmem : L.getD k ⟨#[]⟩ ∈ L := by rw [List.getD_eq_getElem?_getD, List.getElem?_eq_getElem hlt]; exact List.getElem_mem hlt
            have hsz := HZ.out _ hmem
            have htk : L.take (k + 1) = L.take k ++ [L.getD k ⟨#[]⟩] := by rw [List.take_succ_eq_append_getElem hlt]; simp [hlt]
            have hbad : treeOf (L.getD k ⟨#[]⟩) = none → forOf L = none := fun hh => forOf_bad hmem hh
            generalize L.getD k ⟨#[]⟩ = s at *
            have hTR := fun w => trIs_any s w (by omega)
            rw [isTreeB_eq] at hTR
            cases ht : treeOf s with
            | none =>
              have HF : Hid (forOf L = none) := hbad ht
              rw [ht] at hTR
              have hTR' : ∀ w, Calls Tryd.prog 29 #[.string s] w fun e w' => e = .returned (.bool false) ∧ w = w' := hTR
              clear hTR hbad ht htk hmem he
              go_wp2_with fail
              refine (hTR' _).mono ?_; rintro e w2 ⟨rfl, rfl⟩
              go_wp2_with fail
              go_ret
              exact ⟨by rw [HF.out]; rfl, Below.refl _ _⟩
            | some t =>
              obtain ⟨rfl, hct⟩ := treeOf_some ht
              rw [ht] at hTR
              have hTR' : ∀ w, Calls Tryd.prog 29 #[.string t.str] w fun e w' => e = .returned (.bool true) ∧ w = w' := hTR
              have hnext := treesOf_snoc _ _ _ _ he.out.1 ht
              rw [← htk] at hnext
              have hsum : n + t.carets = sumT (us ++ [t]) := by rw [sumT_app, ← he.out.2]; simp [sumT]
              have HN : Hid (treesOf (L.take (k + 1)) = some (us ++ [t]) ∧ n + t.carets = sumT (us ++ [t])) := ⟨hnext, hsum⟩
              have hCT := fun w => carets_str t w (by omega)
              clear hTR hbad ht htk hmem he hnext hsum hsz
              go_wp2_with fail
              refine (hTR' _).mono ?_; rintro e w2 ⟨rfl, rfl⟩
              go_wp2_with fail
              refine (hCT _).mono ?_; rintro e w2 ⟨rfl, rfl⟩
              go_wp2_with fail
              go_roundw
              case rel => exact ⟨k + 1, n + t.carets, _, by omega, by go_num, by go_num, HN, by omega, trivial⟩
              case measure => simp [intOf]; omega
          · obtain rfl : k = L.length := by omega
            have h1 := he.out
            rw [List.take_of_length_le (Nat.le_refl _)] at h1
            have h2 := HK.out us h1.1 trivial
            rw [← h1.2] at h2
            have HF := Lib.hid h2
            clear h1 h2 he
            go_wp2_with fail
            go_ret
            exact ⟨ret_bool (by rw [HF.out]; exact decide_eq_decide.2 (by omega)), Below.refl _ _⟩
end Go.Proofs.YtplmbdljhgicfaaDoor

/-! Ff4 -/
namespace Go.Proofs.YtplmbdljhgicfaaDoor
open Go.RowKit

def natO (o : Option (List Tr)) (f : List Tr → Nat) : Value := .tuple #[.int .i64 (match o with | some us => (f us : Int) | none => 0), .bool o.isSome]
theorem forOf_strs {L : List ByteArray} {us : List Tr} (h : forOf L = some us) : L = strs us ∧ us.length ≤ 8 ∧ sumT us ≤ 8 ∧ lastB us = true := forOf_some h

theorem implIsForest_any (v : Value) (b : Nat) (L : List ByteArray) (w : World) (h : CellsS b w v L) (hz : ∀ s ∈ L, s.size ≤ 1048576) (hn : L.length ≤ 1048576) :
    Calls Tryd.prog 20 #[v] w (Gives (.bool (forOf L).isSome) w) := implIsForest_b v b L w h hz hn
end Go.Proofs.YtplmbdljhgicfaaDoor

/-! Join -/
namespace Go.Proofs.YtplmbdljhgicfaaDoor
open Go.RowKit

end Go.Proofs.YtplmbdljhgicfaaDoor

/-! Ff6 -/
namespace Go.Proofs.YtplmbdljhgicfaaDoor
open Go.RowKit

/-- The nodes of two forests, or none. -/
def TwoNodes (o p : Option (List Tr)) (w : World) (e : Ending) (w' : World) : Prop :=
  match o, p with
  | some us, some vs => ∃ b c, NodeAt w' (combT us) b ∧ NodeAt w' (combT vs) c ∧ Below w.heap.size w w' ∧ e = .returned (.tuple #[.pointer (some ⟨b, 0, none⟩), .pointer (some ⟨c, 0, none⟩), .bool true])
  | _, _ => e = .returned (.tuple #[.pointer none, .pointer none, .bool false]) ∧ Below w.heap.size w w'

theorem str_same (a c : Tr) (h : a = c) : (a.str.toList == c.str.toList) = true := by rw [h]; exact beq_self_eq_true _
theorem str_diff (a c : Tr) (h : a ≠ c) : (a.str.toList == c.str.toList) = false := by
  rw [beq_eq_false_iff_ne]
  simp only [Lib.toList_data, Tr.str_list]
  intro e
  exact h (Tr.text_inj (r := []) (q := []) (by rw [e])).1

def partO (o p : Option (List Tr)) : Value := .tuple #[.bool (match o, p with | some us, some vs => partF us vs | _, _ => false), .bool (o.isSome && p.isSome)]

end Go.Proofs.YtplmbdljhgicfaaDoor

/-! Ff7 -/
namespace Go.Proofs.YtplmbdljhgicfaaDoor
open Go.RowKit

def ptrN (b : Nat) : Value := .pointer (some ⟨b, 0, none⟩)
theorem info_ptrN : (Tryd.prog.info? 59).map (fun i => (i.zero, i.size, i.bytes)) = some (some (.pointer none), 1, 8) := by kernel_rfl
/-- Slices of nodes that a call has made. -/
def OwnP (base : Nat) (w : World) (v : Value) (bs : List Nat) : Prop := w.ownsRow base 59 1 v bs.length (bs.map ptrN)
theorem OwnP.keep {base : Nat} {w w' : World} {v : Value} {bs : List Nat} (h : OwnP base w v bs) (hb : Below w.heap.size w w') : OwnP base w' v bs := ownsRow_keep h hb
theorem OwnP.mono {base base' : Nat} {w : World} {v : Value} {bs : List Nat} (h : OwnP base w v bs) (hb : base' ≤ base) : OwnP base' w v bs := ownsRow_mono h hb
theorem OwnP.nil (base : Nat) (w : World) : OwnP base w (.slice none 0 0) [] := World.ownsRow_nil _ _ _ _
theorem OwnP.one (w : World) (b : Nat) : OwnP w.heap.size (w.alloc (.cells #[ptrN b] 59 (0, 0))) (.slice (some ⟨w.heap.size, 0, none⟩) 1 1) [b] := by
  refine ⟨rfl, .inr ⟨w.heap.size, 1, #[ptrN b], rfl, Nat.le_refl _, ?_, Nat.le_refl _, by unfold maxLen; omega, rfl, rfl⟩⟩
  show (w.heap.push _)[w.heap.size]? = _
  simp
theorem OwnP.app {base : Nat} {w : World} {v : Value} {A B : List Nat} (h : w.ownsRow base 59 1 v (A.length + (B.map ptrN).length) (A.map ptrN ++ B.map ptrN)) : OwnP base w v (A ++ B) := by
  unfold OwnP; rw [List.length_append, List.map_append]; rw [List.length_map] at h; exact h
theorem OwnP.snoc {base : Nat} {w : World} {v : Value} {A : List Nat} {b : Nat} (h : w.ownsRow base 59 1 v (A.length + 1) (A.map ptrN ++ [ptrN b])) : OwnP base w v (A ++ [b]) := by
  unfold OwnP; rw [List.length_append, List.map_append]; exact h
theorem onePtr (bs : List Nat) : ∀ u ∈ bs.map ptrN, u.oneCell' = true := by
  intro u hu
  obtain ⟨x, _, rfl⟩ := List.mem_map.1 hu
  rfl
theorem onePtr1 (b : Nat) : ∀ u ∈ [ptrN b], u.oneCell' = true := by intro u hu; simp at hu; subst hu; rfl
def CellsP (base : Nat) (w : World) (v : Value) (bs : List Nat) : Prop :=
  ∃ oa cap, v = .slice oa bs.length cap ∧ bs.length ≤ cap ∧ cap ≤ maxLen ∧ ∀ i, i < bs.length → ∃ g, oa = some ⟨g, 0, none⟩ ∧ base ≤ g ∧ g < w.heap.size ∧ w.cell? ⟨g, i, none⟩ = some (ptrN (bs.getD i 0))
theorem OwnP.cells {base : Nat} {w : World} {v : Value} {bs : List Nat} (h : OwnP base w v bs) : CellsP base w v bs := by
  rcases h.2 with ⟨hv, hn⟩ | ⟨g, cap, cur, hv, hb, hr⟩
  · exact ⟨none, 0, by rw [hv, hn], by omega, by unfold maxLen; omega, fun i hi => by omega⟩
  · subst hv
    have hlt := World.ownsRow.lt h g rfl
    have hc := fun i (hi : i < bs.length) => World.ownsRow.cellAt h i (by omega)
    refine ⟨some ⟨g, 0, none⟩, cap, rfl, hr.2.1, hr.2.2.1, fun i hi => ⟨g, rfl, hlt.1, hlt.2, ?_⟩⟩
    rw [hc i hi]; simp [List.getElem?_eq_getElem hi]
theorem OwnP.src {base : Nat} {w : World} {v : Value} {bs : List Nat} (h : OwnP base w v bs) : SrcV w v (bs.map ptrN) := by
  rcases h.2 with ⟨hv, hn⟩ | ⟨g, cap, cur, hv, hb, hr⟩
  · left
    exact ⟨hv, by rw [List.length_eq_zero_iff.1 hn]; rfl⟩
  · subst hv
    refine .inr ⟨⟨g, 0, none⟩, cap, by simp, fun j x hj => ?_⟩
    have hj' : j < bs.length := by have := (List.getElem?_eq_some_iff.1 hj).1; simpa using this
    rw [addr_add, World.ownsRow.cellAt h j (by omega), hj]

/-- The nodes of a list of trees. -/
def NodesAt (w : World) : List Tr → List Nat → Prop
  | [], [] => True
  | t :: ts, b :: bs => NodeAt w t b ∧ NodesAt w ts bs
  | _, _ => False
theorem NodesAt.keep {w w' : World} (hb : Below w.heap.size w w') : ∀ {ts : List Tr} {bs : List Nat}, NodesAt w ts bs → NodesAt w' ts bs := by
  intro ts
  induction ts with
  | nil => intro bs h; cases bs with | nil => trivial | cons b bs => exact h.elim
  | cons t ts ih => intro bs h; cases bs with | nil => exact h.elim | cons b bs => exact ⟨h.1.keep hb, ih h.2⟩
theorem NodesAt.len {w : World} : ∀ {ts : List Tr} {bs : List Nat}, NodesAt w ts bs → bs.length = ts.length := by
  intro ts
  induction ts with
  | nil => intro bs h; cases bs with | nil => rfl | cons b bs => exact h.elim
  | cons t ts ih => intro bs h; cases bs with | nil => exact h.elim | cons b bs => simp [ih h.2]
theorem NodesAt.get {w : World} : ∀ {ts : List Tr} {bs : List Nat}, NodesAt w ts bs → ∀ i, i < ts.length → NodeAt w (ts.getD i .lf) (bs.getD i 0) := by
  intro ts
  induction ts with
  | nil => intro bs h i hi; simp at hi
  | cons t ts ih =>
    intro bs h i hi
    cases bs with
    | nil => exact h.elim
    | cons b bs =>
      cases i with
      | zero => simpa using h.1
      | succ i => simpa using ih h.2 i (by simp at hi; omega)
theorem NodesAt.snoc {w : World} : ∀ {ts : List Tr} {bs : List Nat} {t : Tr} {b : Nat}, NodesAt w ts bs → NodeAt w t b → NodesAt w (ts ++ [t]) (bs ++ [b]) := by
  intro ts
  induction ts with
  | nil => intro bs t b h k; cases bs with | nil => exact ⟨k, trivial⟩ | cons b bs => exact h.elim
  | cons t ts ih => intro bs u c h k; cases bs with | nil => exact h.elim | cons b bs => exact ⟨h.1, ih h.2 k⟩

/-- The carets on the right side. -/
def onR : Tr → List Tr
  | .lf => []
  | .nd l r => .nd l r :: onR r
def leftT : Tr → Tr
  | .lf => .lf
  | .nd l _ => l
theorem onR_left (t : Tr) : (onR t).map leftT = sidesT t := by
  induction t with
  | lf => rfl
  | nd l r _ ihr => rw [onR, List.map_cons, ihr]; rfl
theorem onR_length (t : Tr) : (onR t).length ≤ t.carets := by
  induction t with
  | lf => exact Nat.le_refl _
  | nd l r _ ihr => rw [onR, List.length_cons, Tr.carets]; omega
theorem onR_nd (t : Tr) : ∀ x ∈ onR t, ∃ l r, x = .nd l r := by
  induction t with
  | lf => intro x h; cases h
  | nd l r _ ihr =>
    intro x h
    rcases List.mem_cons.1 h with rfl | h
    · exact ⟨l, r, rfl⟩
    · exact ihr x h
/-- A call that hands back nodes of trees that lay in w0. -/
def GivesNodes (w0 : World) (ts : List Tr) (w : World) (e : Ending) (w' : World) : Prop :=
  ∃ v bs, OwnP w.heap.size w' v bs ∧ NodesAt w0 ts bs ∧ Below w.heap.size w w' ∧ e = .returned v

end Go.Proofs.YtplmbdljhgicfaaDoor

/-! Ff8 -/
namespace Go.Proofs.YtplmbdljhgicfaaDoor
open Go.RowKit

theorem OwnS.cut {base : Nat} {w : World} {oa : Option Addr} {m cap : Nat} {xs : List ByteArray} (h : OwnS base w (.slice oa m cap) xs) (n : Nat) (hn : n ≤ xs.length) (hm : xs.length = m) : OwnS base w (.slice oa n cap) (xs.take n) := by
  obtain ⟨h1, h2⟩ := h
  have hl : (xs.take n).length = n := by rw [List.length_take]; omega
  unfold OwnS
  rw [hl]
  refine ⟨by simp; omega, ?_⟩
  rcases h2 with ⟨hv, hn0⟩ | ⟨g, cap', cur, hv, hb, hh, r1, r2, r3, r4⟩
  · cases hv
    obtain rfl : n = 0 := by omega
    exact .inl ⟨rfl, rfl⟩
  · cases hv
    refine .inr ⟨g, cap, cur, rfl, hb, hh, by omega, r2, r3, ?_⟩
    rw [List.map_take, ← r4, List.take_take, Nat.min_eq_left (by omega), Nat.mul_one]
def sliceN (v : Value) : Nat := match v with | .slice _ n _ => n | _ => 0
/-- A call that hands back texts of its own, or none. -/
def GivesOwn (ss : List ByteArray) (w : World) (e : Ending) (w' : World) : Prop := ∃ v, OwnS w.heap.size w' v ss ∧ Below w.heap.size w w' ∧ e = .returned v
theorem strip_snoc (ts : List Tr) (k : Nat) (h : k < ts.length) (hl : (ts.getD k .lf).isLf = true) : stripT (ts.take (k + 1)) = stripT (ts.take k) := by
  refine stripT_take (t := ts.getD k .lf) ?_ hl
  rw [List.getD_eq_getElem?_getD, List.getElem?_eq_getElem h]; rfl
theorem strip_end (ts : List Tr) (k : Nat) (h : k < ts.length) (hl : (ts.getD k .lf).isLf = false) : stripT (ts.take (k + 1)) = ts.take (k + 1) := by
  refine stripT_stop (t := ts.getD k .lf) ?_ hl
  rw [List.getD_eq_getElem?_getD, List.getElem?_eq_getElem h]; rfl

theorem treeOf_great {t : Tr} (h : 8 < t.carets) : treeOf t.str = none := by
  cases hf : treeOf t.str with
  | none => rfl
  | some u =>
    obtain ⟨h1, h2⟩ := treeOf_some hf
    have h3 : t.text = u.text := by rw [← Tr.str_list, ← Tr.str_list, h1]
    have : t = u := (Tr.text_inj (t := t) (u := u) (r := []) (q := []) (by rw [h3])).1
    rw [this] at h; omega
theorem forOf_any (ts : List Tr) : forOf (strs ts) = if okF ts = true then some ts else none := by
  by_cases h : okF ts = true
  · rw [if_pos h]; exact forOf_map h
  · rw [if_neg h]
    cases hf : forOf (strs ts) with
    | none => rfl
    | some us =>
      obtain ⟨h1, h2, h3, h4⟩ := forOf_some hf
      exfalso
      have h5 : ts = us := by
        have hi : ∀ (a c : List Tr), a.map Tr.str = c.map Tr.str → a = c := by
          intro a
          induction a with
          | nil => intro c hc; cases c with | nil => rfl | cons x c => cases hc
          | cons x a ih =>
            intro c hc
            cases c with
            | nil => cases hc
            | cons y c =>
              rw [List.map_cons, List.map_cons] at hc
              injection hc with e1 e2
              have e3 : x.text = y.text := by rw [← Tr.str_list, ← Tr.str_list, e1]
              have e4 : x = y := (Tr.text_inj (t := x) (u := y) (r := []) (q := []) (by rw [e3])).1
              rw [e4, ih c e2]
        exact hi ts us h1
      subst h5
      exact h (okF_iff.2 ⟨h2, h3, h4⟩)
theorem sz_strs {us : List Tr} (h : sumT us ≤ 1000) : ∀ x ∈ strs us, x.size ≤ 1048576 := by
  intro x hx
  obtain ⟨u, hu, rfl⟩ := List.mem_map.1 hx
  have := sumT_mem hu
  rw [u.str_size]; omega

set_option maxRecDepth 100000 in
theorem withinLimitsF_any (v : Value) (b : Nat) (ts : List Tr) (w : World) (h : CellsS b w v (strs ts)) (hs : sumT ts ≤ 1000) (hl : ts.length ≤ 1000) :
    Calls Tryd.prog 26 #[v] w fun e w' => e = .returned (.tuple #[if okF ts = true then v else .slice none 0 0, .bool (okF ts)]) ∧ Below w.heap.size w w' := by
  have hG := implIsForest_b v b (strs ts) w h (sz_strs hs) (by rw [strs_length]; omega)
  rw [forOf_any] at hG
  obtain ⟨oa, cap, rfl, hcl, hcm, _⟩ := h.form0
  unfold maxLen at hcm
  rw [strs_length] at *
  cases hk : okF ts with
  | true =>
    rw [if_pos hk] at hG
    have hG' : Calls Tryd.prog 20 #[.slice oa ts.length cap] w (Gives (.bool true) w) := hG
    rw [if_pos rfl]
    clear hG h
    go_enter Tryd.func26, Tryd.ntmps26
    go_wp2_with fail
    refine hG'.mono ?_; rintro e w1 ⟨rfl, hb1⟩
    go_wp2_with fail
    go_ret2
    exact ⟨rfl, hb1⟩
  | false =>
    rw [hk] at hG
    have hG' : Calls Tryd.prog 20 #[.slice oa ts.length cap] w (Gives (.bool false) w) := hG
    rw [if_neg (by decide)]
    clear hG h
    go_enter Tryd.func26, Tryd.ntmps26
    go_wp2_with fail
    refine hG'.mono ?_; rintro e w1 ⟨rfl, hb1⟩
    go_wp2_with fail
    go_ret2
    exact ⟨rfl, hb1⟩

end Go.Proofs.YtplmbdljhgicfaaDoor

/-! Wo2 -/
namespace Go.Proofs.YtplmbdljhgicfaaDoor
open Go.RowKit

/-- A block is as it was, and v does not lie in it. -/
def Far1 (w2 wr : World) (g1 : Nat) (v : Value) : Prop := wr.heap[g1]? = w2.heap[g1]? ∧ w2.heap.size ≤ wr.heap.size ∧ some g1 ≠ v.ownBlock
theorem ownI_lt {base : Nat} {w : World} {v : Value} {xs : List Int} (h : OwnI base w v xs) {b : Nat} (hb : some b = v.ownBlock) : b < w.heap.size := by
  rcases h.cells with ⟨rfl, _⟩ | ⟨g, cap, rfl, _, hg, _⟩
  · simp [Value.ownBlock] at hb
  · simp [Value.ownBlock] at hb; omega
theorem Far1.start {base : Nat} {wr w2 : World} {g1 : Nat} {v : Value} {xs : List Int} (h : OwnI base wr v xs) (h1 : wr.heap.size ≤ g1) : Far1 w2 w2 g1 v :=
  ⟨rfl, Nat.le_refl _, fun e => by have := ownI_lt h e; omega⟩
theorem Far1.app {w2 wr w' : World} {g1 : Nat} {v v' : Value} {x : Obj} (h : Far1 w2 wr g1 v) (h1 : g1 < w2.heap.size) (hg : (wr.alloc x).grownBy w' v.ownBlock) (ho : v'.ownBlock = v.ownBlock ∨ v'.ownBlock = some (wr.alloc x).heap.size) : Far1 w2 w' g1 v' := by
  obtain ⟨p1, p3, p4⟩ := h
  have hs : (wr.alloc x).heap.size = wr.heap.size + 1 := by simp
  have hb := nxAlloc (Below.refl wr.heap.size wr) x
  refine ⟨(hg.block g1 (by omega) p4).trans ((hb.block g1 (by omega)).trans p1), ?_, ?_⟩
  · have := hg.size; omega
  · rcases ho with ho | ho <;> rw [ho]
    · exact p4
    · intro e; injection e with e; omega
theorem OwnI.one1 {base : Nat} {w : World} {v : Value} {xs : List Int} {m : Int} (h : w.ownsRow base 3 1 v (xs.length + 1) (xs.map (Value.int .i64) ++ [Value.int .i64 m])) : OwnI base w v (xs ++ [m]) := OwnI.snoc h

set_option maxRecDepth 100000 in
set_option maxHeartbeats 400000 in
theorem foWord_any (v : Value) (b : Nat) (us : List Tr) (w : World) (h : CellsS b w v (strs us)) (hs : sumT us ≤ 8) (hl : us.length ≤ 8) :
    Calls Tryd.prog 19 #[v] w (GivesOwnI (worL us) w) := by
  obtain ⟨i0, hi, hz0, hz1, hz2⟩ := info_parts info_int
  obtain ⟨oa, cap, rfl, hcl, hcm, hcc⟩ := h.form0
  unfold maxLen at hcm
  obtain ⟨n, hn⟩ : ∃ n, n = us.length := ⟨_, rfl⟩
  have HN := Lib.hid hn
  rw [strs_length, ← hn] at hcl hcc ⊢
  have HC := Lib.hid hcc
  have hbd := fun k => exG_bd hs hl k
  have HB := Lib.hid hbd
  have hcar : ∀ k, k < us.length → (us.getD k .lf).carets ≤ 8 := fun k hk => by
    have hm : us.getD k .lf ∈ us := by rw [List.getD_eq_getElem?_getD, List.getElem?_eq_getElem hk]; exact List.getElem_mem hk
    have := sumT_mem hm
    omega
  have HD := Lib.hid hcar
  rw [← hn] at hl
  clear h hcc hbd hcar hn hs
  go_enter Tryd.func19, Tryd.ntmps19
  go_wp2_with fail
  go_loopw [3, 4, 11] (fun u lf i wr => ∃ (k p : Nat) (xs : List Int), k ≤ n ∧ i = .int .i64 k ∧ lf = .int .i64 p ∧ p ≤ 16 ∧ Hid (p = (exG (us.take k)).length) ∧ OwnI w.heap.size wr u xs ∧ xs.length ≤ 8 ∧ Hid (xs = lettersE (exG (us.take k)) 0) ∧ Below w.heap.size w wr) (fun _ _ i _ => n - (intOf i).toNat)
  case atStart => exact ⟨0, 0, [], Nat.zero_le _, rfl, rfl, Nat.zero_le _, rfl, OwnI.nil _ _, Nat.zero_le _, rfl, Below.refl _ _⟩
  case round =>
    obtain ⟨k, p, xs, hk, rfl, rfl, hp16, hp, hown, hxl, hxs, hbw⟩ := hrel
    by_cases hlt : k < n
    · have hlt' : (k : Int) < (n : Int) := by omega
      obtain ⟨g, rfl, _, hgl, c0⟩ := HC.out k hlt
      have c1 := (hbw.cell (p := ⟨g, k, none⟩) hgl).trans c0
      have hku : k < us.length := by rw [← HN.out]; exact hlt
      have hge : (strs us).getD k ⟨#[]⟩ = (us.getD k .lf).str := by unfold strs; simp [hku]
      rw [hge] at c1
      have hca := HD.out k hku
      have hX := fun w => wdExponents_any (us.getD k .lf) 0 w (by omega) (by omega)
      have hnx := exG_take hku
      have hbd := HB.out (k + 1)
      rw [hnx] at hbd
      have HNX := Lib.hid hnx
      obtain ⟨E, hE⟩ : ∃ E, E = exG (us.take k) := ⟨_, rfl⟩
      rw [← hE] at hp hxs hbd HNX
      generalize (us.getD k .lf).str = s at *
      generalize (us.getD k .lf).expN 0 = f at *
      rw [List.length_append, List.sum_append] at hbd
      obtain ⟨q, hq⟩ : ∃ q, q = f.length := ⟨_, rfl⟩
      have hq16 : p + q ≤ 16 := by rw [hp.out, hq]; exact hbd.1
      have hEs : E.sum + f.sum ≤ 8 := hbd.2
      have HS := Lib.hid hEs
      have HQ := Lib.hid hq
      have hX0 : ∀ w, Calls Tryd.prog 32 #[.string s, .int .i64 0] w (GivesNums (ints f) w) := hX
      have HPP := Lib.hid hp.out
      clear hge c0 hnx hbd hca hX hE hgl hp hEs hq
      go_wp2_with fail
      refine (hX0 _).mono ?_; rintro e w3 ⟨g3, cap3, own3, hb3, rfl⟩
      have hg3 := World.ownsRow.lt (show w3.ownsRow _ 3 1 (.slice (some ⟨g3, 0, none⟩) (ints f).length cap3) _ _ from own3) g3 rfl
      have hfar : Far1 w3 w3 g3 u3 := Far1.start hown hg3.1
      have hg3' := hg3.2
      obtain ⟨ob, cp3, ev3, hf1, hf2, hfc⟩ := own3.cells.form
      cases ev3
      unfold maxLen at hf2
      rw [ints_length, ← HQ.out] at hf1 hfc ⊢
      have HF := Lib.hid hfc
      replace hown := hown.keep hb3
      replace hbw := nx hbw hb3
      clear own3 hfc hX0 hb3 hg3
      go_wp2_with fail
      go_loopw [3, 4, 18] (fun u lf i w4 => ∃ (j r : Nat) (ys : List Int), j ≤ q ∧ i = .int .i64 j ∧ lf = .int .i64 r ∧ r = p + j ∧ OwnI w.heap.size w4 u ys ∧ ys.length ≤ 8 ∧ Hid (ys = lettersE (E ++ f.take j) 0) ∧ Below w.heap.size w w4 ∧ Far1 w3 w4 g3 u) (fun _ _ i _ => q - (intOf i).toNat)
      case atStart => exact ⟨0, p, xs, Nat.zero_le _, rfl, rfl, rfl, hown, hxl, by show _ = _; rw [List.take_zero, List.append_nil]; exact hxs.out, hbw, hfar⟩
      case round =>
        clear hown hxl hxs hbw hfar
        obtain ⟨j, r, ys, hj, rfl, rfl, hr, hown4, hyl, hys, hbw4, hbv4⟩ := hrel
        by_cases hlj : j < q
        · have hlj' : (j : Int) < (q : Int) := by omega
          obtain ⟨g4, eg, _, hgl4, d0⟩ := HF.out j hlj
          obtain rfl : g3 = g4 := by simpa using eg
          have d1 := (World.cell?_of_block (a := ⟨g3, j, none⟩) hbv4.1).trans d0
          have hjf : j < f.length := by rw [← HQ.out]; exact hlj
          have hge : (ints f).getD j 0 = ((f.getD j 0 : Nat) : Int) := by unfold ints; simp [hjf]
          rw [hge] at d1
          have hlen : r = (E ++ f.take j).length := by
            have := HPP.out
            rw [List.length_append, List.length_take]; omega
          have hstep := lettersE_step (E ++ f.take j) (f.getD j 0) r hlen
          rw [List.append_assoc, ← take_nextG f hjf, ← hys.out] at hstep
          have hl2 := congrArg List.length hstep
          rw [lettersE_length, List.sum_append, List.length_append, List.length_replicate] at hl2
          have hl3 := sum_takeG f (j + 1)
          have hl4 := HS.out
          have HST := Lib.hid hstep
          generalize f.getD j 0 = x at *
          have hx8 : ys.length + x ≤ 8 := by omega
          have hr16 : r ≤ 16 := by omega
          have HR := Lib.hid hr
          clear eg d0 hge hlen hstep hl2 hl3 hl4 hys hr
          go_wp2_with fail
          go_loopw [3, 8] (fun u a w5 => ∃ (m : Nat) (zs : List Int), a = .int .i64 m ∧ m ≤ x ∧ OwnI w.heap.size w5 u zs ∧ zs.length + m ≤ 8 ∧ Hid (zs = ys ++ List.replicate (x - m) ((r : Int) + 1)) ∧ Below w.heap.size w w5 ∧ Far1 w3 w5 g3 u) (fun _ a _ => (intOf a).toNat)
          case atStart => exact ⟨x, ys, rfl, Nat.le_refl _, hown4, hx8, by show _ = _; simp, hbw4, hbv4⟩
          case round =>
            clear hown4 hbw4 hbv4 d1 hyl hx8
            obtain ⟨m, zs, rfl, hm, hown5, hzl, hzs, hbw5, hbv5⟩ := hrel
            by_cases hm0 : 0 < m
            · have hm0' : (0 : Int) < (m : Int) := by omega
              have hz2' : zs ++ [(r : Int) + 1] = ys ++ List.replicate (x - (m - 1)) ((r : Int) + 1) := by
                rw [hzs.out, List.append_assoc, show x - (m - 1) = (x - m) + 1 by omega, List.replicate_succ']
              have HZ := Lib.hid hz2'
              have em : IntKind.i64.wrap ((m : Int) - 1) = ((m - 1 : Nat) : Int) := by rw [IntKind.wrap_i64]; omega
              unfold OwnI at hown5
              clear hz2' hzs
              go_wp2_with (at_builtin; refine wpList_append_own_at _ rfl _ _ 24 rfl w.heap.size 3 i0 (.int .i64 0) 1 8 Tryd.underlying24 hi hz0 hz1 hz2 rfl (by decide) _ _ _ rfl (hown5.alloc _) ⟨wr.heap.size, 0, none⟩ 1 1 [.int .i64 ((r : Int) + 1)] rfl rfl (new1 _ _ _) (one1 _) (by unfold maxLen; omega) (by omega) (size_al hbw5 _) ?_; intro v' w9 hown' hgrow hnn hob)
              have hbw9 := below_app hbw5 hown5 (Nat.le_refl _) hgrow
              have hbv9 := hbv5.app hg3' hgrow hob
              have hown1 : OwnI w.heap.size w9 v' (zs ++ [(r : Int) + 1]) := OwnI.snoc hown'
              clear hown5 hown' hgrow hbw5 hbv5 hnn hob
              go_wp2_with fail
              go_roundw
              case rel => exact ⟨m - 1, _, by first | rfl | (rw [em]) | go_num, by omega, hown1, by simp; omega, HZ, hbw9, hbv9⟩
              case measure => simp [intOf]; omega
            · obtain rfl : m = 0 := by omega
              have h1 := hzs.out
              rw [Nat.sub_zero, ← HST.out] at h1
              have HX := Lib.hid h1
              clear hzs h1
              go_wp2_with fail
              go_roundw
              case rel => exact ⟨j + 1, r + 1, zs, by omega, by go_num, by go_num, by have := HR.out; omega, hown5, by omega, HX, hbw5, hbv5⟩
              case measure => simp [intOf]; omega
        · obtain rfl : j = q := by omega
          have h1 := hys.out
          rw [List.take_of_length_le (by rw [← HQ.out]; exact Nat.le_refl _), ← HNX.out] at h1
          have HX := Lib.hid h1
          have hnl := congrArg List.length HNX.out
          rw [List.length_append, ← HPP.out, ← HQ.out, ← hr] at hnl
          have HNL := Lib.hid hnl.symm
          have hr16 : r ≤ 16 := by omega
          clear hys h1 hnl
          go_wp2_with fail
          go_roundw
          case rel => exact ⟨k + 1, r, ys, by omega, by go_num, rfl, hr16, HNL, hown4, hyl, HX, hbw4⟩
          case measure => simp [intOf]; omega
    · obtain rfl : k = n := by omega
      have h1 := hxs.out
      rw [List.take_of_length_le (by rw [← HN.out]; exact Nat.le_refl _)] at h1
      have HX : Hid (xs = worL us) := h1
      clear h1 hxs
      go_wp2_with fail
      go_ret
      exact ⟨_, by rw [← HX.out]; exact hown, hbw, rfl⟩
end Go.Proofs.YtplmbdljhgicfaaDoor

/-! Wd1 -/
namespace Go.Proofs.YtplmbdljhgicfaaDoor
open Go.RowKit

theorem decide_lt_false {a b : Int} (h : b ≤ a) : decide (a < b) = false := by simp; omega

set_option maxHeartbeats 1000000 in
theorem wdIs_any (v : Value) (b1 : Nat) (L : List Int) (m : Int) (w : World) (hv : CellsI b1 w v L) (hm : 0 ≤ m) (hm2 : m ≤ 1000) :
    Calls Tryd.prog 43 #[v, .int .i64 m] w fun e w' => e = .returned (.bool (isW (m + 1) L)) ∧ w = w' := by
  obtain ⟨oa, cap, rfl, hcl, hcm, hcc⟩ := hv.form
  unfold maxLen at hcm
  clear hv
  have HC := Lib.hid hcc
  clear hcc
  go_enter Tryd.func43, Tryd.ntmps43
  go_wp2_with fail
  go_loop [9] (fun i => ∃ k : Nat, i = .int .i64 k ∧ k ≤ L.length ∧ Hid (isW (m + 1) L = isW (m + 1) (L.drop k))) (fun i => L.length - (intOf i).toNat)
  case atStart => exact ⟨0, rfl, Nat.zero_le _, rfl⟩
  case round =>
    obtain ⟨k, rfl, hk, he⟩ := hrel
    by_cases hlt : k < L.length
    · have hlt' : (k : Int) < (L.length : Int) := by omega
      obtain ⟨g, rfl, _, _, c1⟩ := HC.out k hlt
      have he' := he.out
      rw [isW_drop hlt] at he'
      generalize L.getD k 0 = x at c1 he'
      clear he
      cases hx : okL (m + 1) x with
      | false =>
        rw [hx, Bool.false_and] at he'
        have HE := Lib.hid he'
        have hx' := okL_false.1 hx
        clear he' hx
        by_cases h0 : x = 0
        · subst h0
          clear hx'
          go_wp2_with fail
          go_ret
          exact ⟨ret_bool HE.out.symm, rfl⟩
        · have h0' : (x == 0) = false := by rw [beq_eq_false_iff_ne]; exact h0
          have hno : x < -m - 1 ∨ m + 1 < x := by omega
          have HN := Lib.hid hno
          clear hx' h0 hno
          go_wp2_with fail
          refine (l1In_no x (-m - 1) (m + 1) _ HN.out).mono ?_; rintro e w1 ⟨rfl, rfl⟩
          go_wp2_with fail
          go_ret
          exact ⟨ret_bool HE.out.symm, rfl⟩
      | true =>
        rw [hx, Bool.true_and] at he'
        have HE := Lib.hid he'
        obtain ⟨h0, h1, h2⟩ := okL_iff.1 hx
        have h0' : (x == 0) = false := by rw [beq_eq_false_iff_ne]; exact h0
        have h1' : -m - 1 ≤ x := by omega
        clear he' hx h0 h1
        go_wp2_with fail
        refine (l1In_yes x (-m - 1) (m + 1) _ h1' h2).mono ?_; rintro e w1 ⟨rfl, rfl⟩
        go_wp2_with fail
        go_round
        case rel => exact ⟨k + 1, by go_num, by omega, HE⟩
        case measure => simp [intOf]; omega
    · obtain rfl : k = L.length := by omega
      have he' := he.out
      rw [isW_end] at he'
      have HE := Lib.hid he'
      clear he he'
      go_wp2_with fail
      go_ret
      exact ⟨ret_bool HE.out.symm, rfl⟩

theorem wdGood_any (v : Value) (b1 : Nat) (L : List Int) (w : World) (hv : CellsI b1 w v L) :
    Calls Tryd.prog 31 #[v] w fun e w' => e = .returned (.bool (goodW L)) ∧ w = w' := by
  have hI := wdIs_any v b1 L 20 w hv (by omega) (by omega)
  obtain ⟨oa, cap, rfl, hcl, hcm, _⟩ := hv.form
  clear hv
  unfold maxLen at hcm
  unfold goodW
  by_cases h : L.length ≤ 20
  · have h' : decide ((L.length : Int) ≤ 20) = true := by simp; omega
    rw [show decide (L.length ≤ 20) = true by simpa using h, Bool.true_and]
    go_enter Tryd.func31, Tryd.ntmps31
    go_wp2_with fail
    refine hI.mono ?_; rintro e w1 ⟨rfl, rfl⟩
    go_wp2_with fail
    go_ret
    exact ⟨rfl, rfl⟩
  · have h' : decide ((L.length : Int) ≤ 20) = false := by simp; omega
    rw [show decide (L.length ≤ 20) = false by simpa using h, Bool.false_and]
    clear hI
    go_enter Tryd.func31, Tryd.ntmps31
    go_wp2_with fail
    go_ret
    exact ⟨rfl, rfl⟩

set_option maxHeartbeats 1000000 in
theorem implIsWord_any (v : Value) (b1 : Nat) (L : List Int) (w : World) (hv : CellsI b1 w v L) :
    Calls Tryd.prog 37 #[v] w fun e w' => e = .returned (.bool (goodW L)) ∧ w = w' := by
  obtain ⟨oa, cap, rfl, hcl, hcm, hcc⟩ := hv.form
  unfold maxLen at hcm
  clear hv
  have HC := Lib.hid hcc
  clear hcc
  unfold goodW
  by_cases h : L.length ≤ 20
  · rw [show decide (L.length ≤ 20) = true by simpa using h, Bool.true_and]
    have hn : (L.length : Int) ≤ 20 := by omega
    clear h
    go_enter Tryd.func37, Tryd.ntmps37
    go_wp2_with fail
    go_loop [10] (fun i => ∃ k : Nat, i = .int .i64 k ∧ k ≤ L.length ∧ Hid (isW 21 L = isW 21 (L.drop k))) (fun i => L.length - (intOf i).toNat)
    case atStart => exact ⟨0, rfl, Nat.zero_le _, rfl⟩
    case round =>
      obtain ⟨k, rfl, hk, he⟩ := hrel
      by_cases hlt : k < L.length
      · have hlt' : (k : Int) < (L.length : Int) := by omega
        obtain ⟨g, rfl, _, _, c1⟩ := HC.out k hlt
        have he' := he.out
        rw [isW_drop hlt] at he'
        generalize L.getD k 0 = x at c1 he'
        clear he
        cases hx : okL 21 x with
        | false =>
          rw [hx, Bool.false_and] at he'
          have HE := Lib.hid he'
          have hx' := okL_false.1 hx
          clear he' hx
          by_cases h0 : x = 0
          · subst h0
            clear hx'
            go_wp2_with fail
            go_ret
            exact ⟨ret_bool HE.out.symm, rfl⟩
          · have h0' : (x == 0) = false := by rw [beq_eq_false_iff_ne]; exact h0
            by_cases h1 : x < -21
            · have h1' : decide (x < -21) = true := by simpa using h1
              clear hx' h0 h1
              go_wp2_with fail
              go_ret
              exact ⟨ret_bool HE.out.symm, rfl⟩
            · have h1' : decide (x < -21) = false := by simpa using h1
              have h2 : 21 < x := by omega
              clear hx' h0 h1
              go_wp2_with fail
              go_ret
              exact ⟨ret_bool HE.out.symm, rfl⟩
        | true =>
          rw [hx, Bool.true_and] at he'
          have HE := Lib.hid he'
          obtain ⟨h0, h1, h2⟩ := okL_iff.1 hx
          have h0' : (x == 0) = false := by rw [beq_eq_false_iff_ne]; exact h0
          have h1' : decide (x < -21) = false := by simp; omega
          have h2' : decide (21 < x) = false := by simp; omega
          clear he' hx h0 h1 h2
          go_wp2_with fail
          go_round
          case rel => exact ⟨k + 1, by go_num, by omega, HE⟩
          case measure => simp [intOf]; omega
      · obtain rfl : k = L.length := by omega
        have he' := he.out
        rw [isW_end] at he'
        have HE := Lib.hid he'
        clear he he'
        go_wp2_with fail
        go_ret
        exact ⟨ret_bool HE.out.symm, rfl⟩
  · rw [show decide (L.length ≤ 20) = false by simpa using h, Bool.false_and]
    have hn : 20 < (L.length : Int) := by omega
    clear h
    go_enter Tryd.func37, Tryd.ntmps37
    go_wp2_with fail
    go_ret
    exact ⟨rfl, rfl⟩

/-- Contracts that say that nothing turns, as those that may make memory. -/
theorem gives_of {P : Program} {f : FuncId} {args : Array Value} {w : World} {v : Value} (h : Calls P f args w fun e w' => e = .returned v ∧ w = w') : Calls P f args w (Gives v w) := h.mono fun _ _ ⟨he, hw⟩ => ⟨he, by rw [← hw]; exact Below.refl _ _⟩
end Go.Proofs.YtplmbdljhgicfaaDoor

/-! Wd2 -/
namespace Go.Proofs.YtplmbdljhgicfaaDoor
open Go.RowKit

theorem OwnI.cut {base : Nat} {w : World} {oa : Option Addr} {m cap : Nat} {xs : List Int} (h : OwnI base w (.slice oa m cap) xs) (n : Nat) (hn : n ≤ xs.length) (hm : xs.length = m) : OwnI base w (.slice oa n cap) (xs.take n) := by
  obtain ⟨h1, h2⟩ := h
  have hl : (xs.take n).length = n := by rw [List.length_take]; omega
  unfold OwnI
  rw [hl]
  refine ⟨by simp; omega, ?_⟩
  rcases h2 with ⟨hv, hn0⟩ | ⟨g, cap', cur, hv, hb, hh, r1, r2, r3, r4⟩
  · cases hv
    obtain rfl : n = 0 := by omega
    exact .inl ⟨rfl, rfl⟩
  · cases hv
    refine .inr ⟨g, cap, cur, rfl, hb, hh, by omega, r2, r3, ?_⟩
    rw [List.map_take, ← r4, List.take_take, Nat.min_eq_left (by omega), Nat.mul_one]


end Go.Proofs.YtplmbdljhgicfaaDoor

/-! Wd3 -/
namespace Go.Proofs.YtplmbdljhgicfaaDoor
open Go.RowKit


theorem wdIf_yes (v : Value) (b1 : Nat) (L : List Int) (w : World) (hv : CellsI b1 w v L) (hg : goodW L = true) :
    Calls Tryd.prog 18 #[v] w fun e w' => e = .returned (.tuple #[v, .bool true]) ∧ w = w' := by
  have hG := wdGood_any v b1 L w hv
  rw [hg] at hG
  clear hg hv
  go_enter Tryd.func18, Tryd.ntmps18
  go_wp2_with fail
  refine hG.mono ?_; rintro e w1 ⟨rfl, rfl⟩
  go_wp2_with fail
  go_ret2
  exact ⟨rfl, rfl⟩

theorem wdIf_no (v : Value) (b1 : Nat) (L : List Int) (w : World) (hv : CellsI b1 w v L) (hg : goodW L = false) :
    Calls Tryd.prog 18 #[v] w fun e w' => e = .returned (.tuple #[.slice none 0 0, .bool false]) ∧ w = w' := by
  have hG := wdGood_any v b1 L w hv
  rw [hg] at hG
  clear hg hv
  go_enter Tryd.func18, Tryd.ntmps18
  go_wp2_with fail
  refine hG.mono ?_; rintro e w1 ⟨rfl, rfl⟩
  go_wp2_with fail
  go_ret2
  exact ⟨rfl, rfl⟩

/-- Of a slice of the call's own. -/
theorem wdIf_own (v : Value) (base : Nat) (L : List Int) (w : World) (hv : OwnI base w v L) :
    Calls Tryd.prog 18 #[v] w fun e w' => ∃ u, e = .returned (.tuple #[u, .bool (ifW L).isSome]) ∧ OwnI base w u ((ifW L).getD []) ∧ w = w' := by
  unfold ifW
  cases hg : goodW L with
  | false => exact (wdIf_no v base L w hv.cells hg).mono fun e w' ⟨he, hw⟩ => ⟨_, he, OwnI.nil _ _, hw⟩
  | true => exact (wdIf_yes v base L w hv.cells hg).mono fun e w' ⟨he, hw⟩ => ⟨_, he, hv, hw⟩

theorem wordWithinLimits_yes (v : Value) (b1 : Nat) (L : List Int) (w : World) (hv : CellsI b1 w v L) (hg : goodW L = true) :
    Calls Tryd.prog 21 #[v] w fun e w' => e = .returned (.tuple #[v, .bool true]) ∧ w = w' := by
  have hG := implIsWord_any v b1 L w hv
  rw [hg] at hG
  clear hg hv
  go_enter Tryd.func21, Tryd.ntmps21
  go_wp2_with fail
  refine hG.mono ?_; rintro e w1 ⟨rfl, rfl⟩
  go_wp2_with fail
  go_ret2
  exact ⟨rfl, rfl⟩

theorem wordWithinLimits_no (v : Value) (b1 : Nat) (L : List Int) (w : World) (hv : CellsI b1 w v L) (hg : goodW L = false) :
    Calls Tryd.prog 21 #[v] w fun e w' => e = .returned (.tuple #[.slice none 0 0, .bool false]) ∧ w = w' := by
  have hG := implIsWord_any v b1 L w hv
  rw [hg] at hG
  clear hg hv
  go_enter Tryd.func21, Tryd.ntmps21
  go_wp2_with fail
  refine hG.mono ?_; rintro e w1 ⟨rfl, rfl⟩
  go_wp2_with fail
  go_ret2
  exact ⟨rfl, rfl⟩

/-- Of a slice of the call's own. -/
theorem wordWithinLimits_own (v : Value) (base : Nat) (L : List Int) (w : World) (hv : OwnI base w v L) :
    Calls Tryd.prog 21 #[v] w fun e w' => ∃ u, e = .returned (.tuple #[u, .bool (ifW L).isSome]) ∧ OwnI base w u ((ifW L).getD []) ∧ w = w' := by
  unfold ifW
  cases hg : goodW L with
  | false => exact (wordWithinLimits_no v base L w hv.cells hg).mono fun e w' ⟨he, hw⟩ => ⟨_, he, OwnI.nil _ _, hw⟩
  | true => exact (wordWithinLimits_yes v base L w hv.cells hg).mono fun e w' ⟨he, hw⟩ => ⟨_, he, hv, hw⟩

theorem up_take {k : Int} {L : List Int} {j : Nat} (h : j < L.length) : upW k (L.take (j + 1)) = upW k (L.take j) ++ [up k (L.getD j 0)] := by
  unfold upW
  rw [List.take_succ_eq_append_getElem h, List.map_append]
  simp [h]

def ShiftWord_o (L : List Int) (q : Int) : Option (List Int) := if goodW L = true then if 0 ≤ q ∧ q ≤ 20 then ifW (upW q L) else none else none
theorem ShiftWord_len (L : List Int) (q : Int) : ((ShiftWord_o L q).getD []).length ≤ 1000000000 := by
  unfold ShiftWord_o ifW
  split
  · next h =>
    have := (goodW_iff.1 h).1
    split
    · split
      · simp [upW]; omega
      · simp
    · simp
  · simp
theorem up_pos {q x : Int} (h : 0 < x) : up q x = x + q := by unfold up; rw [if_neg (by omega)]
theorem up_neg {q x : Int} (h : ¬ 0 < x) (h0 : x ≠ 0) : up q x = x - q := by unfold up; rw [if_pos (by omega)]

end Go.Proofs.YtplmbdljhgicfaaDoor

/-! Wo3 -/
namespace Go.Proofs.YtplmbdljhgicfaaDoor
open Go.RowKit

def WordOfForest_o (L : List ByteArray) : Option (List Int) := (forOf L).map worL
theorem WordOfForest_len (L : List ByteArray) : ((WordOfForest_o L).getD []).length ≤ 1000000000 := by
  unfold WordOfForest_o
  cases h : forOf L with
  | none => simp
  | some us =>
    have := (forOf_some h).2.2.1
    show (worL us).length ≤ _
    rw [worL_length]; omega

set_option maxRecDepth 100000 in
set_option maxHeartbeats 400000 in
theorem specWordOfForest_any (v : Value) (b : Nat) (L : List ByteArray) (w : World) (h : CellsS b w v L) (hz : ∀ s ∈ L, s.size ≤ 1048576) (hn : L.length ≤ 1048576) :
    Calls Tryd.prog 6 #[v] w (AnsIs (WordOfForest_o L) w) := by
  have hG := fun w h => foGood_any v b L w h hz hn
  have HA := Lib.hid h
  obtain ⟨oa, cap, rfl, hcl, hcm, hcc⟩ := h.form0
  unfold maxLen at hcm
  clear h hz hcc
  unfold WordOfForest_o
  rcases hf : forOf L with _ | us
  · rw [hf] at hG
    have hG' : ∀ w, CellsS b w (.slice oa L.length cap) L → Calls Tryd.prog 17 #[.slice oa L.length cap] w (Gives (.bool false) w) := hG
    clear hG hf
    go_enter Tryd.func6, Tryd.ntmps6
    go_wp2_with fail
    refine (hG' _ HA.out).mono ?_; rintro e w1 ⟨rfl, hb1⟩
    go_wp2_with fail
    go_ret2
    exact ⟨_, OwnI.nil _ _, hb1, rfl⟩
  · rw [hf] at hG
    have hG' : ∀ w, CellsS b w (.slice oa L.length cap) L → Calls Tryd.prog 17 #[.slice oa L.length cap] w (Gives (.bool true) w) := hG
    obtain ⟨hL, hl, hs, hlast⟩ := forOf_some hf
    have hgw := worL_good hs hl
    rw [show Option.map worL (some us) = some (worL us) from rfl]
    have hc := combT_carets us
    have hF : ∀ w, CellsS b w (.slice oa L.length cap) L → Calls Tryd.prog 19 #[.slice oa L.length cap] w (GivesOwnI (worL us) w) := fun w h => foWord_any _ b us w (by unfold strs; rw [← hL]; exact h) hs hl
    have hI := fun v b w h => wdIf_yes v b (worL us) w h hgw
    generalize hWW : worL us = W at *
    clear hG hf hL hgw hc hWW
    go_enter Tryd.func6, Tryd.ntmps6
    go_wp2_with fail
    refine (hG' _ HA.out).mono ?_; rintro e w1 ⟨rfl, hb1⟩
    go_wp2_with fail
    refine (hF _ (HA.out.keep hb1)).mono ?_; rintro e w2 ⟨v2, own2, hb2, rfl⟩
    go_wp2_with fail
    refine (hI v2 _ _ own2.cells).mono ?_; rintro e w3 ⟨rfl, rfl⟩
    go_wp2_with fail
    go_ret2
    exact ⟨_, own2.mono hb1.size, nx hb1 hb2, rfl⟩

set_option maxRecDepth 100000 in
set_option maxHeartbeats 400000 in
theorem implWordOfForest_any (v : Value) (b : Nat) (L : List ByteArray) (w : World) (h : CellsS b w v L) (hz : ∀ s ∈ L, s.size ≤ 1048576) (hn : L.length ≤ 1048576) :
    Calls Tryd.prog 8 #[v] w (AnsIs (WordOfForest_o L) w) := by
  have hG := fun w h => implIsForest_b v b L w h hz hn
  have HA := Lib.hid h
  obtain ⟨oa, cap, rfl, hcl, hcm, hcc⟩ := h.form0
  unfold maxLen at hcm
  clear h hz hcc
  unfold WordOfForest_o
  rcases hf : forOf L with _ | us
  · rw [hf] at hG
    have hG' : ∀ w, CellsS b w (.slice oa L.length cap) L → Calls Tryd.prog 20 #[.slice oa L.length cap] w (Gives (.bool false) w) := hG
    clear hG hf
    go_enter Tryd.func8, Tryd.ntmps8
    go_wp2_with fail
    refine (hG' _ HA.out).mono ?_; rintro e w1 ⟨rfl, hb1⟩
    go_wp2_with fail
    go_ret2
    exact ⟨_, OwnI.nil _ _, hb1, rfl⟩
  · rw [hf] at hG
    have hG' : ∀ w, CellsS b w (.slice oa L.length cap) L → Calls Tryd.prog 20 #[.slice oa L.length cap] w (Gives (.bool true) w) := hG
    obtain ⟨hL, hl, hs, hlast⟩ := forOf_some hf
    have hgw := worL_good hs hl
    rw [show Option.map worL (some us) = some (worL us) from rfl]
    have hc := combT_carets us
    have hH : ∀ w, CellsS b w (.slice oa L.length cap) L → Calls Tryd.prog 23 #[.slice oa L.length cap] w (Gives (.string (combT us).str) w) := fun w h => hung_any _ b us w (by unfold strs; rw [← hL]; exact h) (by omega) (by omega)
    have hF := fun w => lettersOfTree_any (combT us) w (by omega)
    rw [worL_comb] at hF
    have hI := fun v b w h => wordWithinLimits_yes v b (worL us) w h hgw
    generalize hWW : worL us = W at *
    generalize (combT us).str = T at *
    clear hG hf hL hgw hc hWW
    go_enter Tryd.func8, Tryd.ntmps8
    go_wp2_with fail
    refine (hG' _ HA.out).mono ?_; rintro e w1 ⟨rfl, hb1⟩
    go_wp2_with fail
    refine (hH _ (HA.out.keep hb1)).mono ?_; rintro e w2 ⟨rfl, hb2⟩
    replace hb1 := nx hb1 hb2
    go_wp2_with fail
    refine (hF _).mono ?_; rintro e w3 ⟨v3, own3, hb3, rfl⟩
    go_wp2_with fail
    refine (hI v3 _ _ own3.cells).mono ?_; rintro e w4 ⟨rfl, rfl⟩
    go_wp2_with fail
    go_ret2
    exact ⟨_, own3.mono hb1.size, nx hb1 hb3, rfl⟩
end Go.Proofs.YtplmbdljhgicfaaDoor

/-! WWordOfForest -/

namespace Go.Proofs.YtplmbdljhgicfaaDoor
open Go.RowKit

set_option maxRecDepth 100000 in
set_option maxHeartbeats 4000000 in
theorem fnExactWordOfForest_law (W : World) (a0 : Option Addr) (len0 cap0 : Nat) (L : List ByteArray) (hl0 : L.length = len0) (hm0 : (len0 : Int) ≤ 9223372036854775807) (hz0 : ∀ s ∈ L, (s.size : Int) ≤ 9223372036854775807) (hin0 : InS W a0 L) :
    Calls Tryd.prog 3 #[.slice a0 len0 cap0] W fun e w' => e = .returned (.bool true) ∧ Below W.heap.size W w' := by
  have hsz0 := fun left h0 h1 => szStringS_at a0 cap0 len0 L left W h0 h1 hl0 hm0 hz0 hin0
  have HI0 := Lib.hid hin0
  have HL0 := Lib.hid hl0
  clear hin0 hz0 hl0
  go_enter Tryd.func3, Tryd.ntmps3
  go_wp2_with fail
  refine (hsz0 1048576 (by omega) (by omega)).mono ?_; rintro e w1 ⟨r0, rfl, rfl, hM0, hR0⟩
  by_cases hneg0 : r0 < 0
  · clear hM0 hR0
    go_wp2_with fail
    go_ret
    exact ⟨rfl, Below.refl _ _⟩
  have hM0' := hM0.out
  obtain ⟨hn0, hs0⟩ := hR0.out (by omega)
  have HS0 := Lib.hid hs0
  have HN0 := Lib.hid hn0
  clear hM0 hR0 hs0 hn0 hsz0
  have hn9 := WordOfForest_len L
  obtain ⟨o, ho⟩ : ∃ o, o = WordOfForest_o L := ⟨_, rfl⟩
  have hS : ∀ (v0 : Value) (b0 : Nat) (w : World), CellsS b0 w v0 L → Calls Tryd.prog 6 #[v0] w (AnsI2 (o.getD []) o.isSome w) := fun v0 b0 w h0 => by rw [ho]; exact specWordOfForest_any v0 b0 L w h0 HS0.out HN0.out
  have hI : ∀ (v0 : Value) (b0 : Nat) (w : World), CellsS b0 w v0 L → Calls Tryd.prog 8 #[v0] w (AnsI2 (o.getD []) o.isSome w) := fun v0 b0 w h0 => by rw [ho]; exact implWordOfForest_any v0 b0 L w h0 HS0.out HN0.out
  rw [← ho] at hn9
  clear ho
  generalize o.getD [] = xs at hS hI hn9
  generalize o.isSome = ok at hS hI
  clear o
  have hT0 := fun w h => toStringS_any a0 cap0 len0 L w HL0.out (by have := HN0.out; have := HL0.out; omega) h
  have hN0 : len0 ≤ 1048576 := by have := HN0.out; have := HL0.out; omega
  clear HS0 HN0
  have hc0 := Below.refl W.heap.size W
  go_wp2_with fail
  refine (hT0 _ (HI0.out.keep hc0)).mono ?_; rintro e u1 ⟨pg0, po0, hb, rfl⟩
  have hc1 := nx hc0 hb
  clear hb hc0
  go_wp2_with fail
  refine (hS _ _ _ po0.cells).mono ?_; rintro e u2 ⟨v0, own0, hb, rfl⟩
  clear po0
  have hc2 := nx hc1 hb
  clear hb hc1
  have hd0 := Below.refl u2.heap.size u2
  have hcW := hc2
  go_wp2_with fail
  refine (hT0 _ (HI0.out.keep (nx hcW hd0))).mono ?_; rintro e u3 ⟨qg0, qo0, hb, rfl⟩
  have ql0 := qo0.lt
  have qs0 := hb.size
  have hd1 := nx hd0 hb
  clear hb hd0
  have qd0 := hd1.size
  go_wp2_with fail
  refine (hI _ _ _ qo0.cells).mono ?_; rintro e u4 ⟨v1, own1, hb, rfl⟩
  have hszk := hb.size
  have hd2 := nx hd1 hb
  replace qo0 := qo0.keep hb
  clear hb hd1
  go_wp2_with fail
  refine (eqIntS_any _ _ v1 v0 xs _ own1.cells (own0.keep hd2).cells).mono ?_; rintro e u5 ⟨rfl, dd, hw⟩
  have hb : Below u4.heap.size u4 u5 := by rw [hw]; exact drewB (Below.refl _ _) dd
  clear hw
  have hd3 := nx hd2 hb
  replace qo0 := qo0.keep hb
  replace own1 := own1.keep hb
  replace hszk := Nat.le_trans hszk hb.size
  clear hb hd2
  go_wp2_with fail
  refine (hT0 _ (HI0.out.keep (nx hcW hd3))).mono ?_; rintro e u6 ⟨rg0, ro0, hb, rfl⟩
  have hd4 := nx hd3 hb
  replace qo0 := qo0.keep hb
  replace own1 := own1.keep hb
  replace hszk := Nat.le_trans hszk hb.size
  clear hb hd3
  go_wp2_with fail
  refine (eqStringS_any _ _ _ _ L _ qo0.cells ro0.cells).mono ?_; rintro e u7 ⟨rfl, dd, hw⟩
  have hb : Below u6.heap.size u6 u7 := by rw [hw]; exact drewB (Below.refl _ _) dd
  clear hw
  have hd5 := nx hd4 hb
  replace qo0 := qo0.keep hb
  replace own1 := own1.keep hb
  replace hszk := Nat.le_trans hszk hb.size
  clear hb hd4
  clear ro0
  go_wp2_with fail
  refine (markStringS_one1 _ qg0 _ len0 L HL0.out  _ (by omega) qo0).mono ?_; rintro e u8 ⟨rfl, _, hg⟩
  have hd6 := hd5.trans (grown_below hg hd5.size (by omega))
  replace own1 := own1.kept hg (by omega)
  replace hszk := Nat.le_trans hszk hg.size
  clear hg hd5 qo0
  go_wp2_with fail
  refine (eqIntS_any _ _ v1 v0 xs _ own1.cells (own0.keep hd6).cells).mono ?_; rintro e u9 ⟨rfl, dd, hw⟩
  have hb : Below u8.heap.size u8 u9 := by rw [hw]; exact drewB (Below.refl _ _) dd
  clear hw
  have hd7 := nx hd6 hb
  replace own1 := own1.keep hb
  replace hszk := Nat.le_trans hszk hb.size
  clear hb hd6
  go_wp2_with fail
  refine (markIntS_any u3.heap.size v1 xs xs.length rfl 1 _ (by omega) (by omega) hn9 own1).mono ?_; rintro e u10 ⟨rfl, own9, hb⟩
  have hd8 := hd7.trans (hb.mono (by omega))
  clear hb hd7 own1
  go_wp2_with fail
  refine (heldIntS_any _ v1 xs.length 1 _ (by omega) (by omega) hn9 own9.cells).mono ?_; rintro e u11 ⟨rfl, dd, hw⟩
  have hb : Below u10.heap.size u10 u11 := by rw [hw]; exact drewB (Below.refl _ _) dd
  clear hw
  have hd9 := nx hd8 hb
  replace own9 := own9.keep hb
  clear hb hd8
  go_wp2_with fail
  refine (hT0 _ (HI0.out.keep (nx hcW hd9))).mono ?_; rintro e u12 ⟨sg0, so0, hb, rfl⟩
  have sl0 := so0.lt
  have ss0 := hb.size
  have hd10 := nx hd9 hb
  replace own9 := own9.keep hb
  clear hb hd9
  have sd0 := hd10.size
  go_wp2_with fail
  refine (hI _ _ _ so0.cells).mono ?_; rintro e u13 ⟨v2, own2, hb, rfl⟩
  clear so0
  have hd11 := nx hd10 hb
  replace own9 := own9.keep hb
  clear hb hd10
  go_wp2_with fail
  refine (eqIntS_any _ _ v2 v0 xs _ own2.cells (own0.keep hd11).cells).mono ?_; rintro e u14 ⟨rfl, dd, hw⟩
  have hb : Below u13.heap.size u13 u14 := by rw [hw]; exact drewB (Below.refl _ _) dd
  clear hw
  have hd12 := nx hd11 hb
  replace own9 := own9.keep hb
  replace own2 := own2.keep hb
  clear hb hd11
  go_wp2_with fail
  refine (heldIntS_any _ v1 xs.length 1 _ (by omega) (by omega) hn9 own9.cells).mono ?_; rintro e u15 ⟨rfl, dd, hw⟩
  have hb : Below u14.heap.size u14 u15 := by rw [hw]; exact drewB (Below.refl _ _) dd
  clear hw
  have hd13 := nx hd12 hb
  replace own9 := own9.keep hb
  replace own2 := own2.keep hb
  clear hb hd12
  go_wp2_with fail
  go_ret
  exact ⟨rfl, nx hcW hd13⟩

theorem fnExactWordOfForest_walk (W : World) (a0 : Option Addr) (len0 cap0 : Nat) (z0 : List ByteArray) (h0 : IsStrs W a0 len0 cap0 z0) :
    Calls Tryd.prog 3 #[.slice a0 len0 cap0] W fun e w' => e = .returned (.bool true) ∧ Below W.heap.size W w' := by
  obtain ⟨x0, y0, s0, t0⟩ := h0.inS
  exact fnExactWordOfForest_law W a0 len0 cap0 (z0.take len0) y0 s0 t0 x0

end Go.Proofs.YtplmbdljhgicfaaDoor

/-! LFnExactWordOfForest -/
namespace Go.Proofs.YtplmbdljhgicfaaDoor.fnExactWordOfForest
open Go.ChangeShapes Go.WideShapes Go.ChangeAt Go.RowKit
open Go.ChangeMaps (open_string shut_string)
set_option linter.unusedVariables false

theorem own : ownKnob Tryd.prog.godebug = none := by kernel_rfl
theorem laidOut : laidOutB Tryd.prog = true := by kernel_rfl

set_option maxRecDepth 100000 in
theorem lifted (os : Os) (started : os.Started) (H : Type) (enc : TypeId × Value → H) :
    ReturnsInHanded {} Tryd.checked os 3 .any (fun w args => (Rows.fnExactWordOfForestSpec.pre enc Tryd.prog Tryd.f3 Rows.fnExactWordOfForestRow.domain false w args ∧ laidMetH Tryd.prog Rows.fnExactWordOfForestRow.laid w) ∧ sizedMet enc Tryd.prog Tryd.f3 (OpenSpec.ofChange Rows.fnExactWordOfForestSpec) false w args)
      (Rows.fnExactWordOfForestSpec.post enc Tryd.prog Tryd.f3 false true false false) := by
  refine returnsInHanded_of_change_and (C := Tryd.checked) (X := fun w _ => laidMetH Tryd.prog Rows.fnExactWordOfForestRow.laid w) (fun _ _ _ hh h => h.of_heap hh) own started (by kernel_rfl) Tryd.func3
    (ChangeSpec.witness_shaped (enc := enc) (C := Tryd.checked) (os := os) (X := fun w _ => laidMetH Tryd.prog Rows.fnExactWordOfForestRow.laid w) false (World.laidAll Tryd.prog os Rows.fnExactWordOfForestRow.laid) #[.slice none 0 0] 8 (World.laidAll_os _ _ _)
      (World.shaped_of_ZipB (by kernel_rfl) (by kernel_rfl)) (by kernel_rfl) (by kernel_rfl) (by kernel_rfl)
      (by rw [MakeChecks.laidMetH_plain _ _ _ (by kernel_rfl)]; exact laidMet_laidAll _ (by kernel_rfl) (by kernel_rfl))) ?_
  intro W base args ds gs before hval0 hW hc _ hL _
  have hval : ∀ (j : Nat) t v, Tryd.f3.params[j]? = some t → args[j]? = some v → Value.okWide Tryd.prog W .any base t v := hval0
  have hW' := hW
  obtain ⟨p, q, hA0, hV, rfl, hfz, hnd⟩ := hW
  have hA : DataW.TrodAll enc Tryd.prog W 0 (fun _ => true) true Tryd.f3.params.toList args.toList ds p := hA0
  rw [Tryd.params3] at hA hval
  obtain ⟨v0, vs0, d0, ds0, p0, q0, hargs, rfl, rfl, h0, r0⟩ := trodAll_cons hA
  obtain ⟨rfl, rfl, rfl⟩ := trodAll_nil r0
  obtain rfl : args = #[v0] := by cases args; simp_all
  obtain ⟨rfl, rfl⟩ := trodVars_none hV
  obtain ⟨a0, len0, cap0, rfl⟩ := okWide_slice Tryd.underlying22 (hval 0 22 v0 rfl rfl)
  have k0 := h0
  have lt0 : ∀ x ∈ p0, x.block < W.heap.size := by obtain ⟨m, hm⟩ := k0; exact DataW.trod_lt m _ _ _ hm
  obtain ⟨z0, w0⟩ : ∃ zs, IsStrs W a0 len0 cap0 zs := by
    obtain ⟨fuel, hf⟩ := h0
    rcases open_strings Tryd.underlying22 Tryd.underlying9 (by kernel_rfl) hf with ⟨hcs, _⟩ | ⟨x, l, c, zs, hcs, _, hl, hm, hz, _, hcell, hwz⟩
    · simp [Value.cells] at hcs
      obtain ⟨rfl, rfl, rfl⟩ := hcs
      exact ⟨[], .inl ⟨rfl, rfl, rfl, rfl⟩⟩
    · simp [Value.cells] at hcs
      obtain ⟨rfl, rfl, rfl⟩ := hcs
      exact ⟨zs, .inr ⟨_, rfl, hl, hm, by simpa using hz, hcell, hwz⟩⟩
  clear hA0 hval0
  simp only [List.append_nil] at hW'
  refine (fnExactWordOfForest_walk W a0 len0 cap0 z0 w0).mono fun e W' ⟨he, bel⟩ => ?_
  subst he
  exact ⟨_, rfl, _, _, _, [], _, [], hW', trodAll_mk1 (shut_bool Tryd.underlying4 _), (trodAll_cons_mk (Below.trod laidOut (by kernel_rfl) (of_decide_eq_true (by kernel_rfl)) k0 bel lt0) trodAll_mk0), rfl, bel.frame _, fun h => by cases h⟩

theorem over : Rows.fnExactWordOfForestRow.holds Tryd.pinned (OpenSpec.ofChange Rows.fnExactWordOfForestSpec) :=
  OpenClaim.holds_of_wide 3 Tryd.f3 rfl rfl rfl rfl rfl rfl rfl ⟨rfl, rfl, rfl, rfl, rfl⟩ rfl rfl rfl rfl rfl (by kernel_rfl) Tryd.func3 (by kernel_rfl)
    (of_decide_eq_true (by kernel_rfl)) (by unfold Func.isWrapper; first | (rw [if_pos (by decide +kernel)]; kernel_rfl) | (rw [if_neg (by decide +kernel)]; exact ⟨rfl, rfl⟩))
    (fun os started H enc _ => lifted os started H enc)

theorem plain (f : FuncId) (fn : Func) (hf : Tryd.pinned.checked.prog.funcNamed "loop.example/g01161/laws.FnExactWordOfForest" = some f) (hfn : Tryd.pinned.checked.prog.funcs[f]? = some fn) :
    Rows.fnExactWordOfForestCard.stood.looks = Tryd.pinned.checked.prog.looks [] ∧ ∀ (j : Nat) t, fn.params[j]? = some t → Tryd.pinned.checked.prog.wantsStandIn t = false := by
  obtain rfl : f = 3 := Option.some.inj ((show Tryd.prog.funcNamed "loop.example/g01161/laws.FnExactWordOfForest" = some 3 by kernel_rfl).symm.trans hf) |>.symm
  obtain rfl : fn = Tryd.f3 := (Option.some.inj (Tryd.func3.symm.trans hfn)).symm
  refine ⟨by kernel_rfl, fun j t ht => ?_⟩
  rw [Tryd.params3] at ht
  have hm : t ∈ [22] := by simpa using Array.mem_of_getElem? ht
  have hall : ([22].all fun u => !Tryd.prog.wantsStandIn u) = true := by kernel_rfl
  exact (show Tryd.prog.wantsStandIn t = false by simpa using List.all_eq_true.1 hall t hm)

theorem proved : Rows.FnExactWordOfForestCardSaid :=
  Claim7.holds_tied_plain_at .later [] _ _ _ _ over (fun _ h => by cases h) (by kernel_rfl) (fun _ h => by cases h) fnExactWordOfForest_row_tie rfl ⟨rfl, rfl⟩ (by kernel_rfl) rfl plain (by kernel_rfl)
#print axioms proved
end Go.Proofs.YtplmbdljhgicfaaDoor.fnExactWordOfForest
