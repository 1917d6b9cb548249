/- Walks: impl.exponentsIn. -/
import Derived.Test.YtkoebmdocenlkabDoorExpS
import Derived.Test.YtkoebmdocenlkabDoorExpG
import Derived.Test.YtkoebmdocenlkabDoorSrc
import Derived.Test.YtkoebmdocenlkabDoorAddr
import Derived.Test.YtkoebmdocenlkabDoorTreeO
namespace Go.Proofs.YtkoebmdocenlkabDoor
open Go.RowKit
def GivesOwnI (xs : List Int) (w : World) (e : Ending) (w' : World) : Prop := ∃ v, OwnI w.heap.size w' v xs ∧ Below w.heap.size w w' ∧ e = .returned v
theorem addrs_small9 (t : Tr) : ∀ here : ByteArray, ∀ a ∈ t.addrs here, a.size ≤ here.size + t.carets := by
  induction t with
  | lf => intro here a ha; simp [Tr.addrs] at ha; subst ha; exact Nat.le_add_right _ _
  | nd l r ihl ihr =>
    intro here a ha
    have s0 : (here ++ (⟨#[48]⟩ : ByteArray)).size = here.size + 1 := ByteArray.size_append
    have s1 : (here ++ (⟨#[49]⟩ : ByteArray)).size = here.size + 1 := ByteArray.size_append
    have hc : (Tr.nd l r).carets = l.carets + r.carets + 1 := rfl
    have ha' : a ∈ l.addrs (here ++ ⟨#[48]⟩) ++ r.addrs (here ++ ⟨#[49]⟩) := ha
    rcases List.mem_append.1 ha' with h | h
    · have := ihl _ a h; omega
    · have := ihr _ a h; omega

def expoI9 (ss : List ByteArray) : List Int := ss.map fun a => ((expoL a.data.toList : Nat) : Int)
theorem expoI_take9 {ss : List ByteArray} {k : Nat} (h : k < ss.length) : expoI9 (ss.take (k + 1)) = expoI9 (ss.take k) ++ [((expoL (ss.getD k ⟨#[]⟩).data.toList : Nat) : Int)] := by
  unfold expoI9
  rw [List.take_succ_eq_append_getElem h, List.map_append]
  simp [h]
theorem expoI_all9 (t : Tr) : expoI9 (t.addrs ⟨#[]⟩) = ints t.expR := by
  rw [← exps_all t]
  unfold expoI9 ints
  rw [List.map_map]
  rfl
theorem expoL_le9 (l : List UInt8) : expoL l ≤ l.length := by
  have := zerosR_le l
  unfold expoL
  split <;> omega



set_option maxRecDepth 100000 in
set_option maxHeartbeats 400000 in
theorem exponentsIn_any (t : Tr) (w : World) (hc : t.carets ≤ 16) :
    Calls Tryd.prog 29 #[.string t.str] w (GivesOwnI (ints t.expR) w) := by
  obtain ⟨i0, hi, hz0, hz1, hz2⟩ := info_parts info_int
  have hz : (⟨#[]⟩ : ByteArray).size = 0 := rfl
  have hT := fun w => treeOf_any t w (by omega)
  have hA := fun b w h => addressesFrom_any t b ⟨#[]⟩ w h (by omega) (by omega)
  rw [← expoI_all9 t]
  have hsm := addrs_small9 t ⟨#[]⟩
  have hl := addrs_length t ⟨#[]⟩
  rw [hz] at hsm
  generalize t.addrs ⟨#[]⟩ = ss at *
  have hln : ss.length ≤ 17 := by omega
  have hsm' : ∀ a ∈ ss, a.size ≤ 16 := fun a ha => by have := hsm a ha; omega
  have HS := Lib.hid hsm'
  clear hsm hl hz hsm'
  go_enter Tryd.func29, Tryd.ntmps29
  go_wp2_with fail
  refine (hT _).mono ?_; rintro e w1 ⟨b1, hn1, hb1, rfl⟩
  go_wp2_with fail
  refine (hA b1 _ hn1).mono ?_; rintro e w2 ⟨g0, cap, own, hb2, rfl⟩
  replace hb1 := nx hb1 hb2
  obtain ⟨oa, cap', ev, hf1, hf2, hfc⟩ := own.cells.form0
  cases ev
  have HC := Lib.hid hfc
  clear own hfc hb2 hn1 hT hA
  go_wp2_with fail
  go_loopw [3, 10] (fun u i wr => ∃ (k : Nat) (xs : List Int), i = .int .i64 k ∧ k ≤ ss.length ∧ xs.length = k ∧ OwnI w2.heap.size wr u xs ∧ Below w2.heap.size w2 wr ∧ Hid (xs = expoI9 (ss.take k))) (fun _ i _ => ss.length - (intOf i).toNat)
  case atStart => exact ⟨0, [], rfl, Nat.zero_le _, rfl, OwnI.nil _ _, Below.refl _ _, rfl⟩
  case round =>
    obtain ⟨k, xs, rfl, hk, hxl, hown, hbw, he⟩ := hrel
    have HX := Lib.hid hxl
    unfold OwnI at hown
    rw [hxl] at hown
    clear hxl
    by_cases hlt : k < ss.length
    · have hlt' : (k : Int) < (ss.length : Int) := by omega
      obtain ⟨g, eg, _, hgl, c1⟩ := HC.out k hlt
      obtain rfl : g0 = g := by simpa using eg
      clear eg
      replace c1 := (hbw.cell (p := ⟨g0, k, none⟩) hgl).trans c1
      have hxm : ss.getD k ⟨#[]⟩ ∈ ss := by rw [List.getD_eq_getElem?_getD, List.getElem?_eq_getElem hlt]; exact List.getElem_mem _
      have hsz := HS.out _ hxm
      have hstep := expoI_take9 hlt
      rw [← he.out] at hstep
      have hE := fun w => exponentOf_any (ss.getD k ⟨#[]⟩) w (by omega)
      have hel := expoL_le9 (ss.getD k ⟨#[]⟩).data.toList
      rw [← Lib.size_eq] at hel
      generalize ss.getD k ⟨#[]⟩ = s at *
      have hy : expoL s.data.toList ≤ 40 := by omega
      generalize expoL s.data.toList = y at *
      have HT := Lib.hid hstep
      clear hxm he hgl hstep hsz hel
      go_wp2_with fail
      refine (hE _).mono ?_; rintro e w3 ⟨rfl, rfl⟩
      go_wp2_with (at_builtin; refine wpList_append_own _ rfl _ _ 25 rfl w2.heap.size 3 i0 (.int .i64 0) 1 8 Tryd.underlying25 hi hz0 hz1 hz2 rfl (by decide) _ _ _ rfl (hown.alloc _) ⟨wr.heap.size, 0, none⟩ 1 1 [.int .i64 (y : Int)] rfl rfl (new1 _ _ _) (one1 _) (by unfold maxLen; omega) (by omega) (size_al hbw _) ?_; intro v' w4 hown' hgrow hnn)
      have hbw1 := below_app hbw hown (Nat.le_refl _) hgrow
      have hown1 : OwnI w2.heap.size w4 v' (xs ++ [(y : Int)]) := OwnI.snoc (by rw [HX.out]; exact hown')
      clear hown hown' hgrow hbw hnn
      go_wp2_with fail
      go_roundw
      case rel => exact ⟨k + 1, _, by go_num, by omega, by have := HX.out; simp; omega, hown1, hbw1, HT.out.symm⟩
      case measure => simp [intOf]; omega
    · obtain rfl : k = ss.length := by omega
      have he' := he.out
      rw [List.take_length] at he'
      have HE := Lib.hid he'
      have hbw0 : Below w.heap.size w wr := nx hb1 hbw
      clear he he'
      go_wp2_with fail
      go_ret
      exact ⟨_, by rw [← HE.out]; refine OwnI.mono ?_ hb1.size; unfold OwnI; rw [HX.out]; exact hown, hbw0, rfl⟩



end Go.Proofs.YtkoebmdocenlkabDoor
