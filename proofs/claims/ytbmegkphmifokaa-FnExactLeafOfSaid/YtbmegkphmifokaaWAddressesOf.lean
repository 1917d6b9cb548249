/- The walk of laws.FnExactAddressesOf. -/
import Derived.Test.YtbmegkphmifokaaTailS
import Derived.Test.YtbmegkphmifokaaAddr
import Derived.Test.YtbmegkphmifokaaAns
namespace Go.Proofs.Ytbmegkphmifokaa
open Go.RowKit

def AddressesOf_o (a : ByteArray) : Option (List ByteArray) :=
  match treeOf a with
  | some t => some (t.addrs ⟨#[]⟩)
  | none => none

theorem AddressesOf_len (a : ByteArray) : ((AddressesOf_o a).getD []).length ≤ 1000000000 := by
  unfold AddressesOf_o
  cases h : treeOf a with
  | none => simp
  | some t =>
    have := addrs_length t ⟨#[]⟩
    have := (treeOf_some h).2
    simp; omega

theorem implAddressesOf_any (a : ByteArray) (w : World) (ha : a.size ≤ 9223372036854775806) :
    Calls Try.prog 50 #[.string a] w (AnsSs (AddressesOf_o a) w) := by
  cases h : treeOf a with
  | none =>
    rw [show AddressesOf_o a = none by simp [AddressesOf_o, h]]
    have H := Lib.hid h
    clear h
    go_enter Try.func50, Try.ntmps50
    go_wp2_with fail
    refine (read_no a _ ha H.out).mono ?_; rintro e w1 ⟨hb1, rfl⟩
    go_wp2_with fail
    go_ret2
    exact ⟨_, OwnS.nil _ _, hb1, rfl⟩
  | some t =>
    obtain ⟨rfl, hc⟩ := treeOf_some h
    rw [show AddressesOf_o t.str = some (t.addrs ⟨#[]⟩) by simp [AddressesOf_o, h]]
    have st := t.str_size
    clear h
    have hz : (⟨#[]⟩ : ByteArray).size = 0 := rfl
    have hA := fun b w h => addressesFrom_any t b ⟨#[]⟩ w h (by omega) (by omega)
    clear hz
    go_enter Try.func50, Try.ntmps50
    go_wp2_with fail
    refine (read_yes t _ hc).mono ?_; rintro e w1 ⟨b1, hn1, hb1, rfl⟩
    go_wp2_with fail
    refine (hA b1 _ hn1).mono ?_; rintro e w2 ⟨g, cap, own, hb2, rfl⟩
    go_wp2_with fail
    go_ret2
    exact ⟨_, own.mono hb1.size, nx hb1 hb2, rfl⟩

end Go.Proofs.Ytbmegkphmifokaa
