/- The walk of laws.FnExactLeafStarts. -/
import Derived.Test.YtbmegkphmifokaaFt1
import Derived.Test.YtbmegkphmifokaaFt2
import Derived.Test.YtbmegkphmifokaaWAddressesOf
namespace Go.Proofs.Ytbmegkphmifokaa
open Go.RowKit

def LeafStarts_o (a : ByteArray) : Option (List (Nat × Nat)) :=
  match treeOf a with
  | some t => some (frs (t.addrs ⟨#[]⟩))
  | none => none
theorem LeafStarts_len (a : ByteArray) : ((LeafStarts_o a).getD []).length ≤ 1000000000 := by
  unfold LeafStarts_o
  cases h : treeOf a with
  | none => simp
  | some t =>
    have := addrs_length t ⟨#[]⟩
    have := (treeOf_some h).2
    simp [frs]; omega
set_option maxHeartbeats 1000000 in
theorem specLeafStarts_any (a : ByteArray) (w : World) (ha : a.size ≤ 9223372036854775806) :
    Calls Try.prog 18 #[.string a] w (AnsFs (LeafStarts_o a) w) := by
  cases h : treeOf a with
  | none =>
    rw [show LeafStarts_o a = none by simp [LeafStarts_o, h]]
    have H := Lib.hid h
    clear h
    go_enter Try.func18, Try.ntmps18
    go_wp2_with fail
    refine (trIs_no a _ ha H.out).mono ?_; rintro e w1 ⟨rfl, rfl⟩
    go_wp2_with fail
    go_ret2
    exact ⟨_, OwnW.nil _ _ _ _, Below.refl _ _, rfl⟩
  | some t =>
    obtain ⟨rfl, hc⟩ := treeOf_some h
    rw [show LeafStarts_o t.str = some (frs (t.addrs ⟨#[]⟩)) by simp [LeafStarts_o, h]]
    have hM := fun w => mpStarts_any t w hc
    generalize frs (t.addrs ⟨#[]⟩) = xs at *
    clear h
    go_enter Try.func18, Try.ntmps18
    go_wp2_with fail
    refine (trIs_yes t _ hc).mono ?_; rintro e w1 ⟨rfl, rfl⟩
    go_wp2_with fail
    refine (hM _).mono ?_; rintro e w2 ⟨v, own, hb2, rfl⟩
    go_wp2_with fail
    go_ret2
    exact ⟨_, own, hb2, rfl⟩
theorem call_startOf (args : Array Value) (w : World) : (callFunc 52 args).run Try.prog w = .ok (.enter 52 args) w := by kernel_rfl
set_option maxHeartbeats 1000000 in
theorem implLeafStarts_any (a : ByteArray) (w : World) (ha : a.size ≤ 9223372036854775806) :
    Calls Try.prog 19 #[.string a] w (AnsFs (LeafStarts_o a) w) := by
  have hA := fun w => implAddressesOf_any a w ha
  have hx : ∃ ss : List ByteArray, ∃ ok : Bool, AddressesOf_o a = (if ok then some ss else none) ∧ LeafStarts_o a = (if ok then some (frs ss) else none) ∧ (ok = false → ss = []) ∧ ss.length ≤ 1000 ∧ ∀ x ∈ ss, okAd x := by
    cases h : treeOf a with
    | none => exact ⟨[], false, by simp [AddressesOf_o, h], by simp [LeafStarts_o, h], fun _ => rfl, by simp, by simp⟩
    | some t =>
      have hl := addrs_length t ⟨#[]⟩
      have hc := (treeOf_some h).2
      exact ⟨t.addrs ⟨#[]⟩, true, by simp [AddressesOf_o, h], by simp [LeafStarts_o, h], by simp, by omega, addrs_ok t hc⟩
  obtain ⟨ss, ok, h1, h2, h3, h4, h5⟩ := hx
  rw [h2]
  have hA' : ∀ w, Calls Try.prog 50 #[.string a] w (AnsS2 ss ok w) := by
    intro w
    have := hA w
    rw [h1] at this
    cases ok with
    | false => obtain rfl := h3 rfl; exact this
    | true => exact this
  have e : AnsFs (if ok then some (frs ss) else none) w = AnsF2 (frs ss) ok w := by
    cases ok with
    | false => obtain rfl := h3 rfl; rfl
    | true => rfl
  rw [e]
  have H5 := Lib.hid h5
  clear hA h1 h2 h3 e h5
  go_enter Try.func19, Try.ntmps19
  go_wp2_with fail
  refine (hA' _).mono ?_; rintro e w1 ⟨v, own, hb1, rfl⟩
  have hF := fractionsOfStr_any _ v ss w1 own.cells h4 H5.out call_startOf
  clear own
  go_wp2_with fail
  refine hF.mono ?_; rintro e w2 ⟨v2, own2, hb2, rfl⟩
  go_wp2_with fail
  go_ret2
  exact ⟨_, own2.mono hb1.size, nx hb1 hb2, rfl⟩

set_option maxRecDepth 100000 in
set_option maxHeartbeats 1000000 in
theorem fnExactLeafStarts_walk (a : ByteArray) (ha : a.size ≤ maxLen) (w : World) :
    Calls Try.prog 5 #[.string a] w fun e w' => e = .returned (.bool true) ∧ Below w.heap.size w w' := by
  unfold maxLen at ha
  by_cases hbig : (1048576 : Int) < a.size
  · go_enter Try.func5, Try.ntmps5
    go_wp2_with fail
    go_ret
    exact ⟨rfl, Below.refl _ _⟩
  have hS := fun w => specLeafStarts_any a w (by omega)
  have hI := fun w => implLeafStarts_any a w (by omega)
  have hn9 := LeafStarts_len a
  obtain ⟨o, ho⟩ : ∃ o, o = LeafStarts_o a := ⟨_, rfl⟩
  rw [← ho] at hn9
  simp only [← ho] at hS hI
  clear ho
  obtain ⟨xs, ok, hx9, hk9⟩ : ∃ xs ok, xs = o.getD [] ∧ ok = o.isSome := ⟨_, _, rfl, rfl⟩
  have hS' : ∀ w, Calls Try.prog 18 #[.string a] w (AnsF2 xs ok w) := by rw [hx9, hk9]; exact hS
  have hI' : ∀ w, Calls Try.prog 19 #[.string a] w (AnsF2 xs ok w) := by rw [hx9, hk9]; exact hI
  rw [← hx9] at hn9
  clear hS hI hx9 hk9 o
  go_enter Try.func5, Try.ntmps5
  go_wp2_with fail
  refine (hS' _).mono ?_; rintro e w3 ⟨v0, own0, hb3, rfl⟩
  have hbw3 := nx (Below.refl _ _) hb3
  go_wp2_with fail
  have own04 := own0
  refine (hI' _).mono ?_; rintro e w5 ⟨v1, own1, hb5, rfl⟩
  have hbw5 := nx hbw3 hb5
  replace own0 := own0.keep hb5
  go_wp2_with fail
  refine (eqFractionS_any _ _ v1 v0 xs _ own1.cells own0.cells).mono ?_; rintro e w6 ⟨rfl, hb6⟩
  have hbw6 := nx hbw5 hb6
  replace own0 := own0.keep hb6
  replace own1 := own1.keep hb6
  go_wp2_with fail
  refine (markFractionS_any w3.heap.size v1 xs 1 _ (by omega) (by omega) hn9 own1).mono ?_; rintro e w7 ⟨rfl, own7, hb7⟩
  have hb47 : Below w3.heap.size w3 w7 := (hb5.trans (hb6.mono hb5.size)).trans hb7
  have hbw7 := nx hbw3 hb47
  clear own0 own1
  have own0 := own04.keep hb47
  clear own04 hb47 hb7
  go_wp2_with fail
  refine (heldFractionS_any w3.heap.size v1 xs.length 1 _ (by omega) (by omega) hn9 own7.cells).mono ?_; rintro e w8 ⟨rfl, hb8⟩
  have hbw8 := nx hbw7 hb8
  replace own0 := own0.keep hb8
  replace own7 := own7.keep hb8
  go_wp2_with fail
  refine (hI' _).mono ?_; rintro e w10 ⟨v2, own2, hb10, rfl⟩
  have hbw10 := nx hbw8 hb10
  replace own0 := own0.keep hb10
  replace own7 := own7.keep hb10
  go_wp2_with fail
  refine (eqFractionS_any _ _ v2 v0 xs _ own2.cells own0.cells).mono ?_; rintro e w11 ⟨rfl, hb11⟩
  have hbw11 := nx hbw10 hb11
  replace own7 := own7.keep hb11
  go_wp2_with fail
  refine (heldFractionS_any w3.heap.size v1 xs.length 1 _ (by omega) (by omega) hn9 own7.cells).mono ?_; rintro e w12 ⟨rfl, hb12⟩
  have hbw12 := nx hbw11 hb12
  go_wp2_with fail
  go_ret
  exact ⟨rfl, hbw12⟩
end Go.Proofs.Ytbmegkphmifokaa
