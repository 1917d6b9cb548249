/- Walks: impl.ExponentsOf. -/
import Derived.Test.YtgmjchpcpocpoabDoorExpS
import Derived.Test.YtgmjchpcpocpoabDoorExpG
import Derived.Test.YtgmjchpcpocpoabDoorSrc
import Derived.Test.YtgmjchpcpocpoabDoorWAddressesOf
namespace Go.Proofs.YtgmjchpcpocpoabDoor
open Go.RowKit

theorem addrs_small (t : Tr) : ∀ here : ByteArray, ∀ a ∈ t.addrs here, a.size ≤ here.size + t.carets := by
  induction t with
  | lf => intro here a ha; simp [Tr.addrs] at ha; subst ha; exact Nat.le_add_right _ _
  | nd l r ihl ihr =>
    intro here a ha
    have s0 : (here ++ (⟨#[48]⟩ : ByteArray)).size = here.size + 1 := ByteArray.size_append
    have s1 : (here ++ (⟨#[49]⟩ : ByteArray)).size = here.size + 1 := ByteArray.size_append
    have hc : (Tr.nd l r).carets = l.carets + r.carets + 1 := rfl
    have ha' : a ∈ l.addrs (here ++ ⟨#[48]⟩) ++ r.addrs (here ++ ⟨#[49]⟩) := ha
    rcases List.mem_append.1 ha' with h | h
    · have := ihl _ a h; omega
    · have := ihr _ a h; omega

def expoI (ss : List ByteArray) : List Int := ss.map fun a => ((expoL a.data.toList : Nat) : Int)
theorem expoI_take {ss : List ByteArray} {k : Nat} (h : k < ss.length) : expoI (ss.take (k + 1)) = expoI (ss.take k) ++ [((expoL (ss.getD k ⟨#[]⟩).data.toList : Nat) : Int)] := by
  unfold expoI
  rw [List.take_succ_eq_append_getElem h, List.map_append]
  simp [h]
theorem expoI_all (t : Tr) : expoI (t.addrs ⟨#[]⟩) = ints t.expR := by
  rw [← exps_all t]
  unfold expoI ints
  rw [List.map_map]
  rfl
theorem expoL_le (l : List UInt8) : expoL l ≤ l.length := by
  have := zerosR_le l
  unfold expoL
  split <;> omega

set_option maxRecDepth 100000 in
set_option maxHeartbeats 2000000 in
theorem implExponentsOf_yes (t : Tr) (w : World) (hc : t.carets ≤ 8) :
    Calls Tryd.prog 12 #[.string t.str] w (AnsI2 (ints t.expR) true w) := by
  obtain ⟨i0, hi, hz0, hz1, hz2⟩ := info_parts info_int
  have st := t.str_size
  have hA := fun w => implAddressesOf_any t.str w (by omega)
  have ho : AddressesOf_o t.str = some (t.addrs ⟨#[]⟩) := by unfold AddressesOf_o; rw [treeOf_str t hc]
  rw [ho] at hA
  have hA' : ∀ w, Calls Tryd.prog 23 #[.string t.str] w (AnsS2 (t.addrs ⟨#[]⟩) true w) := hA
  rw [← expoI_all t]
  have hsm := addrs_small t ⟨#[]⟩
  have hl := addrs_length t ⟨#[]⟩
  have h00 : (⟨#[]⟩ : ByteArray).size = 0 := rfl
  rw [h00] at hsm
  generalize t.addrs ⟨#[]⟩ = ss at *
  have hln : ss.length ≤ 9 := by omega
  have HS := Lib.hid hsm
  clear hA ho hsm hl
  go_enter Tryd.func12, Tryd.ntmps12
  go_wp2_with fail
  refine (hA' _).mono ?_; rintro e w1 ⟨v, own, hb1, rfl⟩
  obtain ⟨oa, cap, rfl, hf1, hf2, hfc⟩ := own.cells.form0
  have HC := Lib.hid hfc
  clear own hfc
  go_wp2_with fail
  go_loopw [6, 18] (fun u i wr => ∃ (k : Nat) (xs : List Int), i = .int .i64 k ∧ k ≤ ss.length ∧ xs.length = k ∧ OwnI w1.heap.size wr u xs ∧ Below w1.heap.size w1 wr ∧ Hid (xs = expoI (ss.take k))) (fun _ i _ => ss.length - (intOf i).toNat)
  case atStart => exact ⟨0, [], rfl, Nat.zero_le _, rfl, OwnI.nil _ _, Below.refl _ _, rfl⟩
  case round =>
    obtain ⟨k, xs, rfl, hk, hxl, hown, hbw, he⟩ := hrel
    have HX := Lib.hid hxl
    unfold OwnI at hown
    rw [hxl] at hown
    clear hxl
    by_cases hlt : k < ss.length
    · have hlt' : (k : Int) < (ss.length : Int) := by omega
      obtain ⟨g, rfl, _, hgl, c1⟩ := HC.out k hlt
      replace c1 := (hbw.cell (p := ⟨g, k, none⟩) hgl).trans c1
      have hxm : ss.getD k ⟨#[]⟩ ∈ ss := by rw [List.getD_eq_getElem?_getD, List.getElem?_eq_getElem hlt]; exact List.getElem_mem _
      have hsz := HS.out _ hxm
      have hstep := expoI_take hlt
      rw [← he.out] at hstep
      have hE := fun w => exponentOf_any (ss.getD k ⟨#[]⟩) w (by omega)
      have hel := expoL_le (ss.getD k ⟨#[]⟩).data.toList
      rw [← Lib.size_eq] at hel
      generalize ss.getD k ⟨#[]⟩ = s at *
      have hy : expoL s.data.toList ≤ 8 := by omega
      generalize expoL s.data.toList = y at *
      have HT := Lib.hid hstep
      clear hxm he hgl hstep hsz hel
      go_wp2_with fail
      refine (hE _).mono ?_; rintro e w2 ⟨rfl, rfl⟩
      go_wp2_with (at_builtin; refine wpList_append_own _ rfl _ _ 22 rfl w1.heap.size 3 i0 (.int .i64 0) 1 8 Tryd.underlying22 hi hz0 hz1 hz2 rfl (by decide) _ _ _ rfl (hown.alloc _) ⟨wr.heap.size, 0, none⟩ 1 1 [.int .i64 (y : Int)] rfl rfl (new1 _ _ _) (one1 _) (by unfold maxLen; omega) (by omega) (size_al hbw _) ?_; intro v' w4 hown' hgrow hnn)
      have hbw1 := below_app hbw hown (Nat.le_refl _) hgrow
      have hown1 : OwnI w1.heap.size w4 v' (xs ++ [(y : Int)]) := OwnI.snoc (by rw [HX.out]; exact hown')
      clear hown hown' hgrow hbw hnn
      go_wp2_with fail
      go_roundw
      case rel => exact ⟨k + 1, _, by go_num, by omega, by have := HX.out; simp; omega, hown1, hbw1, HT.out.symm⟩
      case measure => simp [intOf]; omega
    · obtain rfl : k = ss.length := by omega
      have he' := he.out
      rw [List.take_length] at he'
      have HE := Lib.hid he'
      have hbw0 : Below w.heap.size w wr := nx hb1 hbw
      clear he he'
      go_wp2_with fail
      go_ret2
      exact ⟨_, by rw [← HE.out]; refine OwnI.mono ?_ hb1.size; unfold OwnI; rw [HX.out]; exact hown, hbw0, rfl⟩

theorem implExponentsOf_any (a : ByteArray) (w : World) (ha : a.size ≤ 9223372036854775806) :
    Calls Tryd.prog 12 #[.string a] w (AnsIs (ExponentsOf_o a) w) := by
  cases h : treeOf a with
  | some t =>
    obtain ⟨rfl, hc⟩ := treeOf_some h
    rw [show ExponentsOf_o t.str = some (ints t.expR) by simp [ExponentsOf_o, h]]
    exact implExponentsOf_yes t w hc
  | none =>
    rw [show ExponentsOf_o a = none by simp [ExponentsOf_o, h]]
    have hA := fun w => implAddressesOf_any a w ha
    rw [show AddressesOf_o a = none by simp [AddressesOf_o, h]] at hA
    have hA' : ∀ w, Calls Tryd.prog 23 #[.string a] w (AnsS2 [] false w) := hA
    clear hA h
    go_enter Tryd.func12, Tryd.ntmps12
    go_wp2_with fail
    refine (hA' _).mono ?_; rintro e w1 ⟨v, own, hb1, rfl⟩
    go_wp2_with fail
    go_ret2
    exact ⟨_, OwnI.nil _ _, hb1, rfl⟩
end Go.Proofs.YtgmjchpcpocpoabDoor
