/- Walks: spec.trAt, SubtreeAt of both sides, and the law's walk. -/
import Derived.Test.YtdpfoeknphiheaaAns
import Derived.Test.YtdpfoeknphiheaaAt
namespace Go.Proofs.Ytdpfoeknphiheaa
open Go.RowKit

set_option maxRecDepth 100000 in
set_option maxHeartbeats 1000000 in
theorem trAt_any (t : Tr) (s : ByteArray) (w : World) (ht : t.carets ≤ 60) (hs : s.size ≤ 9223372036854775806) :
    Calls Try.prog 107 #[.string t.str, .string s] w (Gives (ansV (t.sub s.data.toList)) w) := by
  go_enter Try.func107, Try.ntmps107
  go_wp2_with fail
  go_loopw [0, 6] (fun n i wr => ∃ (k : Nat) (u : Tr), k ≤ s.size ∧ i = .int .i64 k ∧ n = .string u.str ∧ u.carets ≤ 60 ∧ Below w.heap.size w wr ∧ Hid (t.sub s.data.toList = u.sub (s.data.toList.drop k))) (fun _ i _ => s.size - (intOf i).toNat)
  case atStart => exact ⟨0, t, Nat.zero_le _, rfl, rfl, ht, Below.refl _ _, rfl⟩
  case round =>
    obtain ⟨k, u, hk, rfl, rfl, hu, hbw, he⟩ := hrel
    by_cases hlt : k < s.size
    · obtain ⟨x, r, hd, hb, hr⟩ := drop_of_byteAt hlt
      have hx : ((s[k]'hlt).toNat : Int) = (x.toNat : Int) := by rw [← hb]; exact (byteAt_eq s k hlt).symm
      have HD := Lib.hid hd
      have HR := Lib.hid hr
      have HX := Lib.hid hx
      clear hd hb hr hx
      cases u with
      | lf =>
        have hnone : Hid (t.sub s.data.toList = none) := by
          have := he.out
          rw [HD.out] at this
          exact this
        clear he
        go_wp2_with fail
        refine (trLeaf_any .lf _).mono ?_; rintro e w1 ⟨rfl, rfl⟩
        simp only [Tr.isLf]
        go_wp2_with fail
        go_ret2
        rw [hnone.out]
        exact ⟨rfl, hbw⟩
      | nd l rr =>
        have hc : l.carets + rr.carets + 1 ≤ 60 := hu
        by_cases h48 : x = 48
        · have h0 : Hid (((((s[k]'hlt).toNat : Nat) : Int) == 48) = true) := by show (_ == _) = true; rw [HX.out, h48]; rfl
          have h0' : Hid (((((s[k]'hlt).toNat : Nat) : Int) != 48) = false) := by show (_ != _) = false; rw [HX.out, h48]; rfl
          have h1 : Hid (((((s[k]'hlt).toNat : Nat) : Int) == 49) = false) := by show (_ == _) = false; rw [HX.out, h48]; rfl
          have hnext : Hid (t.sub s.data.toList = l.sub (s.data.toList.drop (k + 1))) := by
            have := he.out
            rw [HD.out, Tr.sub, if_pos h48] at this
            rw [HR.out]; exact this
          go_wp2_with fail
          refine (trLeaf_any (.nd l rr) _).mono ?_; rintro e w1 ⟨rfl, rfl⟩
          simp only [Tr.isLf]
          have g0 := h0'.out
          go_wp2_with fail
          refine (trSides_any l rr _ (by omega)).mono ?_; rintro e w1 ⟨rfl, hb1⟩
          have g1 := h1.out
          go_wp2_with fail
          clear g0 g1
          go_roundw
          case rel => exact ⟨k + 1, l, by omega, by go_num, rfl, by omega, nx hbw hb1, hnext⟩
          case measure => simp [intOf]; omega
        · have h0 : Hid (((((s[k]'hlt).toNat : Nat) : Int) != 48) = true) := by
            show (_ != _) = true; rw [HX.out]; simp; exact fun e => h48 (u8_eq (n := 48) (by omega) e)
          by_cases h49 : x = 49
          · have h1 : Hid (((((s[k]'hlt).toNat : Nat) : Int) != 49) = false) := by show (_ != _) = false; rw [HX.out, h49]; rfl
            have h2 : Hid (((((s[k]'hlt).toNat : Nat) : Int) == 49) = true) := by show (_ == _) = true; rw [HX.out, h49]; rfl
            have hnext : Hid (t.sub s.data.toList = rr.sub (s.data.toList.drop (k + 1))) := by
              have := he.out
              rw [HD.out, Tr.sub, if_neg h48, if_pos h49] at this
              rw [HR.out]; exact this
            go_wp2_with fail
            refine (trLeaf_any (.nd l rr) _).mono ?_; rintro e w1 ⟨rfl, rfl⟩
            simp only [Tr.isLf]
            have g0 := h0.out
            have g1 := h1.out
            go_wp2_with fail
            refine (trSides_any l rr _ (by omega)).mono ?_; rintro e w1 ⟨rfl, hb1⟩
            have g2 := h2.out
            go_wp2_with fail
            clear g0 g1 g2
            go_roundw
            case rel => exact ⟨k + 1, rr, by omega, by go_num, rfl, by omega, nx hbw hb1, hnext⟩
            case measure => simp [intOf]; omega
          · have h1 : Hid (((((s[k]'hlt).toNat : Nat) : Int) != 49) = true) := by
              show (_ != _) = true; rw [HX.out]; simp; exact fun e => h49 (u8_eq (n := 49) (by omega) e)
            have hnone : Hid (t.sub s.data.toList = none) := by
              have := he.out
              rw [HD.out, Tr.sub, if_neg h48, if_neg h49] at this
              exact this
            clear he
            go_wp2_with fail
            refine (trLeaf_any (.nd l rr) _).mono ?_; rintro e w1 ⟨rfl, rfl⟩
            simp only [Tr.isLf]
            have g0 := h0.out
            have g1 := h1.out
            go_wp2_with fail
            go_ret2
            rw [hnone.out]
            exact ⟨rfl, hbw⟩
    · obtain rfl : k = s.size := by omega
      have hend : Hid (t.sub s.data.toList = some u) := by
        have := he.out
        rw [List.drop_of_length_le (by rw [Lib.size_eq]; exact Nat.le_refl _)] at this
        show _ = _
        rw [this]
        cases u <;> rfl
      clear he
      go_wp2_with fail
      go_ret2
      rw [hend.out]
      exact ⟨rfl, hbw⟩

def subO (a b : ByteArray) : Option Tr :=
  match treeOf a with
  | some t => t.sub b.data.toList
  | none => none

theorem sub_long {t : Tr} {l : List UInt8} (h : t.carets < l.length) : t.sub l = none := by
  cases k : t.sub l with
  | none => rfl
  | some u => have := sub_carets _ _ _ k; omega

theorem specSubtreeAt_any (a b : ByteArray) (w : World) (ha : a.size ≤ 9223372036854775806) (hb : b.size ≤ 9223372036854775806) :
    Calls Try.prog 47 #[.string a, .string b] w (Gives (ansV (subO a b)) w) := by
  cases h : treeOf a with
  | none =>
    rw [show subO a b = none by simp [subO, h]]
    have H := Lib.hid h
    clear h
    go_enter Try.func47, Try.ntmps47
    go_wp2_with fail
    refine (trIs_no a _ ha H.out).mono ?_; rintro e w1 ⟨rfl, rfl⟩
    go_wp2_with fail
    go_ret2
    exact ⟨rfl, Below.refl _ _⟩
  | some t =>
    obtain ⟨rfl, hc⟩ := treeOf_some h
    rw [show subO t.str b = t.sub b.data.toList by simp [subO, h]]
    clear h
    by_cases hz : (b.size : Int) ≤ 8
    · go_enter Try.func47, Try.ntmps47
      go_wp2_with fail
      refine (trIs_yes t _ hc).mono ?_; rintro e w1 ⟨rfl, rfl⟩
      go_wp2_with fail
      refine (trAt_any t b _ (by omega) hb).mono ?_; rintro e w1 ⟨rfl, hb1⟩
      unfold ansV
      go_wp2_with fail
      go_ret2
      exact ⟨rfl, hb1⟩
    · rw [sub_long (t := t) (l := b.data.toList) (by rw [← Lib.size_eq]; omega)]
      go_enter Try.func47, Try.ntmps47
      go_wp2_with fail
      refine (trIs_yes t _ hc).mono ?_; rintro e w1 ⟨rfl, rfl⟩
      go_wp2_with fail
      go_ret2
      exact ⟨rfl, Below.refl _ _⟩

theorem implSubtreeAt_any (a b : ByteArray) (w : World) (ha : a.size ≤ 9223372036854775806) (hb : b.size ≤ 9223372036854775806) :
    Calls Try.prog 46 #[.string a, .string b] w (Gives (ansV (subO a b)) w) := by
  cases h : treeOf a with
  | none =>
    rw [show subO a b = none by simp [subO, h]]
    have H := Lib.hid h
    clear h
    go_enter Try.func46, Try.ntmps46
    go_wp2_with fail
    refine (read_no a _ ha H.out).mono ?_; rintro e w1 ⟨hb1, rfl⟩
    go_wp2_with fail
    go_ret2
    exact ⟨rfl, hb1⟩
  | some t =>
    obtain ⟨rfl, hc⟩ := treeOf_some h
    rw [show subO t.str b = t.sub b.data.toList by simp [subO, h]]
    clear h
    have hat := fun c w h => at_any t c b w h hb
    cases hu : t.sub b.data.toList with
    | none =>
      rw [hu] at hat
      have hat' : ∀ c w, NodeAt w t c → Calls Try.prog 106 #[.pointer (some ⟨c, 0, none⟩), .string b] w fun e w' => e = .returned (.pointer none) ∧ w = w' := hat
      clear hat hu
      go_enter Try.func46, Try.ntmps46
      go_wp2_with fail
      refine (read_yes t _ hc).mono ?_; rintro e w1 ⟨b1, hn1, hb1, rfl⟩
      go_wp2_with fail
      refine (hat' b1 _ hn1).mono ?_; rintro e w2 ⟨rfl, rfl⟩
      go_wp2_with fail
      go_ret2
      exact ⟨rfl, hb1⟩
    | some u =>
      have hcu := sub_carets _ _ _ hu
      rw [hu] at hat
      have hat' : ∀ c w, NodeAt w t c → Calls Try.prog 106 #[.pointer (some ⟨c, 0, none⟩), .string b] w fun e w' => ∃ d, NodeAt w u d ∧ e = .returned (.pointer (some ⟨d, 0, none⟩)) ∧ w = w' := hat
      clear hat hu
      go_enter Try.func46, Try.ntmps46
      go_wp2_with fail
      refine (read_yes t _ hc).mono ?_; rintro e w1 ⟨b1, hn1, hb1, rfl⟩
      go_wp2_with fail
      refine (hat' b1 _ hn1).mono ?_; rintro e w2 ⟨d, hd, rfl, rfl⟩
      go_wp2_with fail
      refine (text_any u d _ hd (by omega)).mono ?_; rintro e w3 ⟨rfl, n, rfl⟩
      go_wp2_with fail
      go_ret2
      exact ⟨rfl, drewB hb1 _⟩
end Go.Proofs.Ytdpfoeknphiheaa
