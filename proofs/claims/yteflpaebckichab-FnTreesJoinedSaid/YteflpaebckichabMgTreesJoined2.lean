/- FnTreesJoined: for every input the law returns true and leaves its arguments as they were. No conditions. -/
import Derived.Test.YteflpaebckichabMgTreesJoined1
import Derived.ProofKit
import Derived.OpenShut
import Derived.ShutString
import Derived.ChangeOld
import Derived.Below
/-! SpecAt -/
namespace Go.Proofs.Yteflpaebckichab
open Go.RowKit

set_option maxRecDepth 100000 in
set_option maxHeartbeats 1000000 in
theorem trAt_any (t : Tr) (s : ByteArray) (w : World) (ht : t.carets ≤ 60) (hs : s.size ≤ 9223372036854775806) :
    Calls Try.prog 111 #[.string t.str, .string s] w (Gives (ansV (t.sub s.data.toList)) w) := by
  go_enter Try.func111, Try.ntmps111
  go_wp2_with fail
  go_loopw [0, 6] (fun n i wr => ∃ (k : Nat) (u : Tr), k ≤ s.size ∧ i = .int .i64 k ∧ n = .string u.str ∧ u.carets ≤ 60 ∧ Below w.heap.size w wr ∧ Hid (t.sub s.data.toList = u.sub (s.data.toList.drop k))) (fun _ i _ => s.size - (intOf i).toNat)
  case atStart => exact ⟨0, t, Nat.zero_le _, rfl, rfl, ht, Below.refl _ _, rfl⟩
  case round =>
    obtain ⟨k, u, hk, rfl, rfl, hu, hbw, he⟩ := hrel
    by_cases hlt : k < s.size
    · obtain ⟨x, r, hd, hb, hr⟩ := drop_of_byteAt hlt
      have hx : ((s[k]'hlt).toNat : Int) = (x.toNat : Int) := by rw [← hb]; exact (byteAt_eq s k hlt).symm
      have HD := Lib.hid hd
      have HR := Lib.hid hr
      have HX := Lib.hid hx
      clear hd hb hr hx
      cases u with
      | lf =>
        have hnone : Hid (t.sub s.data.toList = none) := by
          have := he.out
          rw [HD.out] at this
          exact this
        clear he
        go_wp2_with fail
        refine (trLeaf_any .lf _).mono ?_; rintro e w1 ⟨rfl, rfl⟩
        simp only [Tr.isLf]
        go_wp2_with fail
        go_ret2
        rw [hnone.out]
        exact ⟨rfl, hbw⟩
      | nd l rr =>
        have hc : l.carets + rr.carets + 1 ≤ 60 := hu
        by_cases h48 : x = 48
        · have h0 : Hid (((((s[k]'hlt).toNat : Nat) : Int) == 48) = true) := by show (_ == _) = true; rw [HX.out, h48]; rfl
          have h0' : Hid (((((s[k]'hlt).toNat : Nat) : Int) != 48) = false) := by show (_ != _) = false; rw [HX.out, h48]; rfl
          have h1 : Hid (((((s[k]'hlt).toNat : Nat) : Int) == 49) = false) := by show (_ == _) = false; rw [HX.out, h48]; rfl
          have hnext : Hid (t.sub s.data.toList = l.sub (s.data.toList.drop (k + 1))) := by
            have := he.out
            rw [HD.out, Tr.sub, if_pos h48] at this
            rw [HR.out]; exact this
          go_wp2_with fail
          refine (trLeaf_any (.nd l rr) _).mono ?_; rintro e w1 ⟨rfl, rfl⟩
          simp only [Tr.isLf]
          have g0 := h0'.out
          go_wp2_with fail
          refine (trSides_any l rr _ (by omega)).mono ?_; rintro e w1 ⟨rfl, hb1⟩
          have g1 := h1.out
          go_wp2_with fail
          clear g0 g1
          go_roundw
          case rel => exact ⟨k + 1, l, by omega, by go_num, rfl, by omega, nx hbw hb1, hnext⟩
          case measure => simp [intOf]; omega
        · have h0 : Hid (((((s[k]'hlt).toNat : Nat) : Int) != 48) = true) := by
            show (_ != _) = true; rw [HX.out]; simp; exact fun e => h48 (u8_eq (n := 48) (by omega) e)
          by_cases h49 : x = 49
          · have h1 : Hid (((((s[k]'hlt).toNat : Nat) : Int) != 49) = false) := by show (_ != _) = false; rw [HX.out, h49]; rfl
            have h2 : Hid (((((s[k]'hlt).toNat : Nat) : Int) == 49) = true) := by show (_ == _) = true; rw [HX.out, h49]; rfl
            have hnext : Hid (t.sub s.data.toList = rr.sub (s.data.toList.drop (k + 1))) := by
              have := he.out
              rw [HD.out, Tr.sub, if_neg h48, if_pos h49] at this
              rw [HR.out]; exact this
            go_wp2_with fail
            refine (trLeaf_any (.nd l rr) _).mono ?_; rintro e w1 ⟨rfl, rfl⟩
            simp only [Tr.isLf]
            have g0 := h0.out
            have g1 := h1.out
            go_wp2_with fail
            refine (trSides_any l rr _ (by omega)).mono ?_; rintro e w1 ⟨rfl, hb1⟩
            have g2 := h2.out
            go_wp2_with fail
            clear g0 g1 g2
            go_roundw
            case rel => exact ⟨k + 1, rr, by omega, by go_num, rfl, by omega, nx hbw hb1, hnext⟩
            case measure => simp [intOf]; omega
          · have h1 : Hid (((((s[k]'hlt).toNat : Nat) : Int) != 49) = true) := by
              show (_ != _) = true; rw [HX.out]; simp; exact fun e => h49 (u8_eq (n := 49) (by omega) e)
            have hnone : Hid (t.sub s.data.toList = none) := by
              have := he.out
              rw [HD.out, Tr.sub, if_neg h48, if_neg h49] at this
              exact this
            clear he
            go_wp2_with fail
            refine (trLeaf_any (.nd l rr) _).mono ?_; rintro e w1 ⟨rfl, rfl⟩
            simp only [Tr.isLf]
            have g0 := h0.out
            have g1 := h1.out
            go_wp2_with fail
            go_ret2
            rw [hnone.out]
            exact ⟨rfl, hbw⟩
    · obtain rfl : k = s.size := by omega
      have hend : Hid (t.sub s.data.toList = some u) := by
        have := he.out
        rw [List.drop_of_length_le (by rw [Lib.size_eq]; exact Nat.le_refl _)] at this
        show _ = _
        rw [this]
        cases u <;> rfl
      clear he
      go_wp2_with fail
      go_ret2
      rw [hend.out]
      exact ⟨rfl, hbw⟩

def subO (a b : ByteArray) : Option Tr :=
  match treeOf a with
  | some t => t.sub b.data.toList
  | none => none

theorem sub_long {t : Tr} {l : List UInt8} (h : t.carets < l.length) : t.sub l = none := by
  cases k : t.sub l with
  | none => rfl
  | some u => have := sub_carets _ _ _ k; omega

theorem specSubtreeAt_any (a b : ByteArray) (w : World) (ha : a.size ≤ 9223372036854775806) (hb : b.size ≤ 9223372036854775806) :
    Calls Try.prog 39 #[.string a, .string b] w (Gives (ansV (subO a b)) w) := by
  cases h : treeOf a with
  | none =>
    rw [show subO a b = none by simp [subO, h]]
    have H := Lib.hid h
    clear h
    go_enter Try.func39, Try.ntmps39
    go_wp2_with fail
    refine (trIs_no a _ ha H.out).mono ?_; rintro e w1 ⟨rfl, rfl⟩
    go_wp2_with fail
    go_ret2
    exact ⟨rfl, Below.refl _ _⟩
  | some t =>
    obtain ⟨rfl, hc⟩ := treeOf_some h
    rw [show subO t.str b = t.sub b.data.toList by simp [subO, h]]
    clear h
    by_cases hz : (b.size : Int) ≤ 8
    · go_enter Try.func39, Try.ntmps39
      go_wp2_with fail
      refine (trIs_yes t _ hc).mono ?_; rintro e w1 ⟨rfl, rfl⟩
      go_wp2_with fail
      refine (trAt_any t b _ (by omega) hb).mono ?_; rintro e w1 ⟨rfl, hb1⟩
      unfold ansV
      go_wp2_with fail
      go_ret2
      exact ⟨rfl, hb1⟩
    · rw [sub_long (t := t) (l := b.data.toList) (by rw [← Lib.size_eq]; omega)]
      go_enter Try.func39, Try.ntmps39
      go_wp2_with fail
      refine (trIs_yes t _ hc).mono ?_; rintro e w1 ⟨rfl, rfl⟩
      go_wp2_with fail
      go_ret2
      exact ⟨rfl, Below.refl _ _⟩

theorem implSubtreeAt_any (a b : ByteArray) (w : World) (ha : a.size ≤ 9223372036854775806) (hb : b.size ≤ 9223372036854775806) :
    Calls Try.prog 38 #[.string a, .string b] w (Gives (ansV (subO a b)) w) := by
  cases h : treeOf a with
  | none =>
    rw [show subO a b = none by simp [subO, h]]
    have H := Lib.hid h
    clear h
    go_enter Try.func38, Try.ntmps38
    go_wp2_with fail
    refine (read_no a _ ha H.out).mono ?_; rintro e w1 ⟨hb1, rfl⟩
    go_wp2_with fail
    go_ret2
    exact ⟨rfl, hb1⟩
  | some t =>
    obtain ⟨rfl, hc⟩ := treeOf_some h
    rw [show subO t.str b = t.sub b.data.toList by simp [subO, h]]
    clear h
    have hat := fun c w h => at_any t c b w h hb
    cases hu : t.sub b.data.toList with
    | none =>
      rw [hu] at hat
      have hat' : ∀ c w, NodeAt w t c → Calls Try.prog 110 #[.pointer (some ⟨c, 0, none⟩), .string b] w fun e w' => e = .returned (.pointer none) ∧ w = w' := hat
      clear hat hu
      go_enter Try.func38, Try.ntmps38
      go_wp2_with fail
      refine (read_yes t _ hc).mono ?_; rintro e w1 ⟨b1, hn1, hb1, rfl⟩
      go_wp2_with fail
      refine (hat' b1 _ hn1).mono ?_; rintro e w2 ⟨rfl, rfl⟩
      go_wp2_with fail
      go_ret2
      exact ⟨rfl, hb1⟩
    | some u =>
      have hcu := sub_carets _ _ _ hu
      rw [hu] at hat
      have hat' : ∀ c w, NodeAt w t c → Calls Try.prog 110 #[.pointer (some ⟨c, 0, none⟩), .string b] w fun e w' => ∃ d, NodeAt w u d ∧ e = .returned (.pointer (some ⟨d, 0, none⟩)) ∧ w = w' := hat
      clear hat hu
      go_enter Try.func38, Try.ntmps38
      go_wp2_with fail
      refine (read_yes t _ hc).mono ?_; rintro e w1 ⟨b1, hn1, hb1, rfl⟩
      go_wp2_with fail
      refine (hat' b1 _ hn1).mono ?_; rintro e w2 ⟨d, hd, rfl, rfl⟩
      go_wp2_with fail
      refine (text_any u d _ hd (by omega)).mono ?_; rintro e w3 ⟨rfl, n, rfl⟩
      go_wp2_with fail
      go_ret2
      exact ⟨rfl, drewB hb1 _⟩
end Go.Proofs.Yteflpaebckichab

/-! Graft -/
namespace Go.Proofs.Yteflpaebckichab
open Go.RowKit

theorem trLeaves_yes (t : Tr) (n : Int) (w : World) (h : t.carets ≤ 8) (h1 : 0 ≤ n) (h2 : n ≤ t.carets) :
    Calls Try.prog 112 #[.string t.str, .int .i64 n] w fun e w' => e = .returned (.bool true) ∧ w = w' := by
  go_enter Try.func112, Try.ntmps112
  go_wp2_with fail
  refine (trIs_yes t _ h).mono ?_; rintro e w1 ⟨rfl, rfl⟩
  go_wp2_with fail
  refine (carets_str t _ (by omega)).mono ?_; rintro e w1 ⟨rfl, rfl⟩
  go_wp2_with fail
  refine (l1In_yes n 0 t.carets _ h1 h2).mono ?_; rintro e w1 ⟨rfl, rfl⟩
  go_wp2_with fail
  go_ret
  exact ⟨rfl, rfl⟩
theorem trLeaves_out (t : Tr) (n : Int) (w : World) (h : t.carets ≤ 8) (h1 : n < 0 ∨ t.carets < n) :
    Calls Try.prog 112 #[.string t.str, .int .i64 n] w fun e w' => e = .returned (.bool false) ∧ w = w' := by
  have H := Lib.hid h1
  clear h1
  go_enter Try.func112, Try.ntmps112
  go_wp2_with fail
  refine (trIs_yes t _ h).mono ?_; rintro e w1 ⟨rfl, rfl⟩
  go_wp2_with fail
  refine (carets_str t _ (by omega)).mono ?_; rintro e w1 ⟨rfl, rfl⟩
  go_wp2_with fail
  refine (l1In_no n 0 t.carets _ H.out).mono ?_; rintro e w1 ⟨rfl, rfl⟩
  go_wp2_with fail
  go_ret
  exact ⟨rfl, rfl⟩
theorem trLeaves_no (s : ByteArray) (n : Int) (w : World) (hs : s.size ≤ 9223372036854775806) (h : treeOf s = none) :
    Calls Try.prog 112 #[.string s, .int .i64 n] w fun e w' => e = .returned (.bool false) ∧ w = w' := by
  have H := Lib.hid h
  clear h
  go_enter Try.func112, Try.ntmps112
  go_wp2_with fail
  refine (trIs_no s _ hs H.out).mono ?_; rintro e w1 ⟨rfl, rfl⟩
  go_wp2_with fail
  go_ret
  exact ⟨rfl, rfl⟩

theorem limitS_yes (s : ByteArray) (w : World) (h : (s.size : Int) ≤ 25) : Calls Try.prog 94 #[.string s] w fun e w' => e = .returned (.tuple #[.string s, .bool true]) ∧ w = w' := by
  go_enter Try.func94, Try.ntmps94
  go_wp2_with fail
  go_ret2
  exact ⟨rfl, rfl⟩
theorem limitS_no (s : ByteArray) (w : World) (h : 25 < (s.size : Int)) : Calls Try.prog 94 #[.string s] w fun e w' => e = .returned (.tuple #[.string ⟨#[]⟩, .bool false]) ∧ w = w' := by
  go_enter Try.func94, Try.ntmps94
  go_wp2_with fail
  go_ret2
  exact ⟨rfl, rfl⟩

def graftO (a : ByteArray) (n : Int) (b : ByteArray) : Option ByteArray :=
  match treeOf a, treeOf b with
  | some t, some u => if 0 ≤ n ∧ n ≤ t.carets ∧ t.carets + u.carets ≤ 8 then some (graftS a n b) else none
  | _, _ => none

set_option maxHeartbeats 400000 in
theorem specGraftAt_any (a : ByteArray) (n : Int) (b : ByteArray) (w : World) (ha : a.size ≤ 9223372036854775806) (hb : b.size ≤ 9223372036854775806) (_hn' : -9223372036854775808 ≤ n) (hn : n ≤ 9223372036854775807) :
    Calls Try.prog 41 #[.string a, .int .i64 n, .string b] w (Gives (ans2 (graftO a n b)) w) := by
  cases h : treeOf a with
  | none =>
    rw [show graftO a n b = none by simp [graftO, h]]
    have H := Lib.hid h
    clear h
    go_enter Try.func41, Try.ntmps41
    go_wp2_with fail
    refine (trLeaves_no a n _ ha H.out).mono ?_; rintro e w1 ⟨rfl, rfl⟩
    go_wp2_with fail
    go_ret2
    exact ⟨rfl, Below.refl _ _⟩
  | some t =>
    obtain ⟨rfl, hc⟩ := treeOf_some h
    have hp := pos_str t n
    by_cases hr : n < 0 ∨ t.carets < n
    · rw [show graftO t.str n b = none by simp only [graftO, h]; cases treeOf b with | none => rfl | some u => simp only; rw [if_neg (by omega)]]
      have H := Lib.hid hr
      clear h hr hp
      go_enter Try.func41, Try.ntmps41
      go_wp2_with fail
      refine (trLeaves_out t n _ hc H.out).mono ?_; rintro e w1 ⟨rfl, rfl⟩
      go_wp2_with fail
      go_ret2
      exact ⟨rfl, Below.refl _ _⟩
    · have hr1 : 0 ≤ n := by omega
      have hr2 : n ≤ t.carets := by omega
      have hq : Hid (0 ≤ posFrom t.str.data.toList 0 n) := show _ ≤ _ by omega
      clear hr hp
      cases k : treeOf b with
      | none =>
        rw [show graftO t.str n b = none by simp [graftO, k]]
        have H := Lib.hid k
        clear h k
        go_enter Try.func41, Try.ntmps41
        go_wp2_with fail
        refine (trLeaves_yes t n _ hc hr1 hr2).mono ?_; rintro e w1 ⟨rfl, rfl⟩
        go_wp2_with fail
        refine (trIs_no b _ hb H.out).mono ?_; rintro e w1 ⟨rfl, rfl⟩
        go_wp2_with fail
        go_ret2
        exact ⟨rfl, Below.refl _ _⟩
      | some u =>
        obtain ⟨rfl, hd⟩ := treeOf_some k
        have st := t.str_size
        have su := u.str_size
        by_cases hz : (t.carets : Int) + u.carets ≤ 8
        · rw [show graftO t.str n u.str = some (graftS t.str n u.str) by simp only [graftO, h, k]; rw [if_pos (by omega)]]
          clear h k
          go_enter Try.func41, Try.ntmps41
          go_wp2_with fail
          refine (trLeaves_yes t n _ hc hr1 hr2).mono ?_; rintro e w1 ⟨rfl, rfl⟩
          go_wp2_with fail
          refine (trIs_yes u _ hd).mono ?_; rintro e w1 ⟨rfl, rfl⟩
          go_wp2_with fail
          refine (carets_str t _ (by omega)).mono ?_; rintro e w1 ⟨rfl, rfl⟩
          go_wp2_with fail
          refine (carets_str u _ (by omega)).mono ?_; rintro e w1 ⟨rfl, rfl⟩
          go_wp2_with fail
          refine (trGraft_any t.str u.str n _ (by omega) (by omega) hr1 hn hq.out).mono ?_; rintro e w1 ⟨rfl, hb1⟩
          go_wp2_with fail
          go_ret2
          exact ⟨rfl, hb1⟩
        · rw [show graftO t.str n u.str = none by simp only [graftO, h, k]; rw [if_neg (by omega)]]
          clear h k
          go_enter Try.func41, Try.ntmps41
          go_wp2_with fail
          refine (trLeaves_yes t n _ hc hr1 hr2).mono ?_; rintro e w1 ⟨rfl, rfl⟩
          go_wp2_with fail
          refine (trIs_yes u _ hd).mono ?_; rintro e w1 ⟨rfl, rfl⟩
          go_wp2_with fail
          refine (carets_str t _ (by omega)).mono ?_; rintro e w1 ⟨rfl, rfl⟩
          go_wp2_with fail
          refine (carets_str u _ (by omega)).mono ?_; rintro e w1 ⟨rfl, rfl⟩
          go_wp2_with fail
          go_ret2
          exact ⟨rfl, Below.refl _ _⟩

set_option maxRecDepth 100000 in
set_option maxHeartbeats 1000000 in
theorem leafPlace_neg (s : ByteArray) (n : Int) (w : World) (hs : s.size ≤ 1000) (hn : n < 0) (hn' : -9223372036854775808 ≤ n) :
    Calls Try.prog 93 #[.string s, .int .i64 n] w (Quietly (.int .i64 (-1)) w) := by
  go_enter Try.func93, Try.ntmps93
  go_wp2_with fail
  go_loopw [1, 8] (fun v i wr => ∃ (k : Nat) (m : Int) (d : Nat), k ≤ s.size ∧ i = .int .i64 k ∧ v = .int .i64 m ∧ -9223372036854775808 ≤ m ∧ m ≤ 9223372036854775807 ∧ Hid (m < 0 ∨ 9223372036854775807 - (k : Int) ≤ m) ∧ wr = w.drewN d) (fun _ i _ => s.size - (intOf i).toNat)
  case atStart => exact ⟨0, n, 0, Nat.zero_le _, rfl, rfl, by omega, by omega, .inl hn, rfl⟩
  case round =>
    obtain ⟨k, m, d, hk, rfl, rfl, hm, hm', hor, rfl⟩ := hrel
    by_cases hlt : k < s.size
    · cases h46 : (((s[k]'hlt).toNat : Int) == 46) with
      | true =>
        have h46' : Hid ((((s[k]'hlt).toNat : Int) != 46) = false) := by show (_ != _) = false; rw [bne, h46]; rfl
        clear h46
        have g0 : (m == 0) = false := by have := hor.out; simp; omega
        by_cases hmin : m = -9223372036854775808
        · obtain rfl := hmin
          go_wp2_with fail
          have g := h46'.out
          have gz : ((⟨#[46]⟩ : ByteArray)[0]'(by decide)).toNat = 46 := rfl
          go_quiet (fail)
          go_wp2_with fail
          clear g gz g0
          go_roundw
          case rel => exact ⟨k + 1, 9223372036854775807, _, by omega, by go_num, by unfold wrap64; rfl, by omega, by omega, .inr (by omega), rfl⟩
          case measure => simp [intOf]; omega
        · have hm2 : -9223372036854775807 ≤ m := by omega
          clear hmin
          go_wp2_with fail
          have g := h46'.out
          have gz : ((⟨#[46]⟩ : ByteArray)[0]'(by decide)).toNat = 46 := rfl
          go_quiet (fail)
          go_wp2_with fail
          clear g gz g0
          go_roundw
          case rel => exact ⟨k + 1, m - 1, _, by omega, by go_num, rfl, by omega, by omega, by have := hor.out; show _ ∨ _; omega, rfl⟩
          case measure => simp [intOf]; omega
      | false =>
        have h46' : Hid ((((s[k]'hlt).toNat : Int) != 46) = true) := by show (_ != _) = true; rw [bne, h46]; rfl
        clear h46
        go_wp2_with fail
        have g := h46'.out
        have gz : ((⟨#[46]⟩ : ByteArray)[0]'(by decide)).toNat = 46 := rfl
        go_quiet (fail)
        go_wp2_with fail
        clear g gz
        go_roundw
        case rel => exact ⟨k + 1, m, _, by omega, by go_num, rfl, by omega, by omega, by have := hor.out; show _ ∨ _; omega, rfl⟩
        case measure => simp [intOf]; omega
    · obtain rfl : k = s.size := by omega
      go_wp2_with fail
      go_ret
      exact ⟨rfl, _, rfl⟩

set_option maxHeartbeats 400000 in
theorem implGraftAt_any (a : ByteArray) (n : Int) (b : ByteArray) (w : World) (ha : a.size ≤ 9223372036854775806) (hb : b.size ≤ 9223372036854775806) (hn' : -9223372036854775808 ≤ n) (hn : n ≤ 9223372036854775807) :
    Calls Try.prog 24 #[.string a, .int .i64 n, .string b] w (Gives (ans2 (graftO a n b)) w) := by
  cases h : treeOf a with
  | none =>
    rw [show graftO a n b = none by simp [graftO, h]]
    have H := Lib.hid h
    clear h
    go_enter Try.func24, Try.ntmps24
    go_wp2_with fail
    refine (implIsTree_no a _ ha H.out).mono ?_; rintro e w1 ⟨hb1, rfl⟩
    go_wp2_with fail
    go_ret2
    exact ⟨rfl, hb1⟩
  | some t =>
    obtain ⟨rfl, hc⟩ := treeOf_some h
    have st := t.str_size
    cases k : treeOf b with
    | none =>
      rw [show graftO t.str n b = none by simp [graftO, k]]
      have H := Lib.hid k
      clear h k
      go_enter Try.func24, Try.ntmps24
      go_wp2_with fail
      refine (implIsTree_yes t _ hc).mono ?_; rintro e w1 ⟨hb1, rfl⟩
      go_wp2_with fail
      refine (implIsTree_no b _ hb H.out).mono ?_; rintro e w2 ⟨hb2, rfl⟩
      go_wp2_with fail
      go_ret2
      exact ⟨rfl, nx hb1 hb2⟩
    | some u =>
      obtain ⟨rfl, hd⟩ := treeOf_some k
      have su := u.str_size
      rcases pos_str t n with ⟨hn0, hn1, hp0, hp1⟩ | ⟨hout, hp⟩
      · have gs := graft_size t n u.str hp0 hp1
        have HG : graftO t.str n u.str = if (t.carets : Int) + u.carets ≤ 8 then some (graftS t.str n u.str) else none := by
          simp only [graftO, h, k]
          by_cases hz : (t.carets : Int) + u.carets ≤ 8
          · rw [if_pos hz, if_pos (by omega)]
          · rw [if_neg hz, if_neg (by omega)]
        clear h k
        obtain ⟨q, hq⟩ : ∃ q : Nat, posFrom t.str.data.toList 0 n = q := ⟨(posFrom t.str.data.toList 0 n).toNat, by omega⟩
        have hgr : graftS t.str n u.str = t.str.extract 0 q ++ u.str ++ t.str.extract (q + 1) t.str.size := by unfold graftS; rw [hq]; rfl
        have hlq : q < t.str.size := by omega
        have hzt : t.str.size ≤ 1000 := by omega
        have hzu : u.str.size ≤ 1000 := by omega
        have hc3 := leafPlace_any t.str n
        rw [hq] at hc3
        have HQ := Lib.hid hgr
        have GS := Lib.hid gs
        by_cases hz : (t.carets : Int) + u.carets ≤ 8
        · rw [HG, if_pos hz]
          have hsz : Hid (((t.str.extract 0 q ++ u.str ++ t.str.extract (q + 1) t.str.size).size : Int) ≤ 25) := by
            show _ ≤ _
            rw [← hgr, gs]; omega
          clear HG hq hgr gs hp0 hp1 st su
          go_enter Try.func24, Try.ntmps24
          go_wp2_with fail
          refine (implIsTree_yes t _ hc).mono ?_; rintro e w1 ⟨hb1, rfl⟩
          go_wp2_with fail
          refine (implIsTree_yes u _ hd).mono ?_; rintro e w2 ⟨hb2, rfl⟩
          go_wp2_with fail
          refine (hc3 _ ha hn0 hn).mono ?_; rintro e w3 ⟨rfl, d, hw3⟩; have hb3 : Below w.heap.size w w3 := by rw [hw3]; exact drewB (nx hb1 hb2) d
          clear hw3
          go_wp2_with fail
          have hq1 : (q : Int) ≤ (t.str.size : Int) := by omega
          have hq2 : (q : Int) + 1 ≤ (t.str.size : Int) := by omega
          go_quiet ((go_at_call 94; exact quiet_eq (limitS_yes _ _ hsz.out)))
          go_wp2_with fail
          go_ret2
          exact ⟨by rw [HQ.out]; rfl, drewB hb3 _⟩
        · rw [HG, if_neg hz]
          have hsz : Hid (25 < ((t.str.extract 0 q ++ u.str ++ t.str.extract (q + 1) t.str.size).size : Int)) := by
            show _ < _
            rw [← hgr, gs]; omega
          clear HG hq hgr gs hp0 hp1 st su
          go_enter Try.func24, Try.ntmps24
          go_wp2_with fail
          refine (implIsTree_yes t _ hc).mono ?_; rintro e w1 ⟨hb1, rfl⟩
          go_wp2_with fail
          refine (implIsTree_yes u _ hd).mono ?_; rintro e w2 ⟨hb2, rfl⟩
          go_wp2_with fail
          refine (hc3 _ ha hn0 hn).mono ?_; rintro e w3 ⟨rfl, d, hw3⟩; have hb3 : Below w.heap.size w w3 := by rw [hw3]; exact drewB (nx hb1 hb2) d
          clear hw3
          go_wp2_with fail
          have hq1 : (q : Int) ≤ (t.str.size : Int) := by omega
          have hq2 : (q : Int) + 1 ≤ (t.str.size : Int) := by omega
          go_quiet ((go_at_call 94; exact quiet_eq (limitS_no _ _ hsz.out)))
          go_wp2_with fail
          go_ret2
          exact ⟨rfl, drewB hb3 _⟩
      · have HG : graftO t.str n u.str = none := by
          simp only [graftO, h, k]
          rw [if_neg (by omega)]
        rw [HG]
        have hl : ∀ w, Calls Try.prog 93 #[.string t.str, .int .i64 n] w (Quietly (.int .i64 (-1)) w) := by
          intro w
          by_cases hneg : n < 0
          · exact leafPlace_neg t.str n w (by omega) hneg hn'
          · have := leafPlace_any t.str n w ha (by omega) hn
            rwa [hp] at this
        clear HG hp h k hout st su
        go_enter Try.func24, Try.ntmps24
        go_wp2_with fail
        refine (implIsTree_yes t _ hc).mono ?_; rintro e w1 ⟨hb1, rfl⟩
        go_wp2_with fail
        refine (implIsTree_yes u _ hd).mono ?_; rintro e w2 ⟨hb2, rfl⟩
        go_wp2_with fail
        refine (hl _).mono ?_; rintro e w3 ⟨rfl, d, rfl⟩
        go_wp2_with fail
        go_ret2
        exact ⟨rfl, drewB (nx hb1 hb2) _⟩
end Go.Proofs.Yteflpaebckichab

/-! WTreesJoined -/
namespace Go.Proofs.Yteflpaebckichab
open Go.RowKit

theorem joined (a b : ByteArray) : (joinO a b = none ∧ comO a b = none ∧ partO a b = none) ∨ ∃ t u : Tr, a = t.str ∧ b = u.str ∧ t.carets ≤ 8 ∧ u.carets ≤ 8 ∧ treeOf t.str = some t ∧ treeOf u.str = some u ∧ comO t.str u.str = some (t.com u) ∧ partO t.str u.str = some (t.part u) ∧ (joinO t.str u.str = none ∨ ((t.join u).carets ≤ 8 ∧ joinO t.str u.str = some (t.join u))) := by
  cases h : treeOf a with
  | none => exact .inl ⟨by simp [joinO, h], by simp [comO, h], by simp [partO, h]⟩
  | some t =>
    cases k : treeOf b with
    | none => exact .inl ⟨by simp [joinO, h, k], by simp [comO, h, k], by simp [partO, h, k]⟩
    | some u =>
      obtain ⟨rfl, hc⟩ := treeOf_some h
      obtain ⟨rfl, hd⟩ := treeOf_some k
      refine .inr ⟨t, u, rfl, rfl, hc, hd, h, k, by simp [comO, h, k], by simp [partO, h, k], ?_⟩
      by_cases hj : (t.join u).carets ≤ 8
      · exact .inr ⟨hj, by simp [joinO, h, k, lim, hj]⟩
      · exact .inl (by simp [joinO, h, k, lim, hj])
theorem graft_cases (a : ByteArray) (k : Int) (b : ByteArray) : graftO a k b = none ∨ ∃ (t u : Tr) (n : Nat), a = t.str ∧ b = u.str ∧ k = n ∧ t.carets + u.carets ≤ 8 ∧ u.carets ≤ 8 ∧ n ≤ t.carets ∧ treeOf t.str = some t ∧ graftO t.str n u.str = some (t.graft n u).str := by
  cases h : treeOf a with
  | none => exact .inl (by simp [graftO, h])
  | some t =>
    cases j : treeOf b with
    | none => exact .inl (by simp [graftO, h, j])
    | some u =>
      obtain ⟨rfl, hc⟩ := treeOf_some h
      obtain ⟨rfl, hd⟩ := treeOf_some j
      by_cases hz : 0 ≤ k ∧ k ≤ t.carets ∧ t.carets + u.carets ≤ 8
      · refine .inr ⟨t, u, k.toNat, rfl, rfl, by omega, by omega, by omega, by omega, h, ?_⟩
        simp only [graftO, h, j]
        rw [if_pos ⟨by omega, by omega, by omega⟩, graft_str t u _ (by omega) (by unfold Tr.leaves; omega)]
      · refine .inl ?_
        simp only [graftO, h, j]
        rw [if_neg (by omega)]
theorem ansB_some (b : Bool) : ansB (some b) = .tuple #[.bool b, .bool true] := by cases b <;> rfl

set_option maxRecDepth 100000 in
set_option maxHeartbeats 4000000 in
theorem treesJoined_law (W : World) (c d : Bts) (hc : InB W c) (hd : InB W d) (hn : c.n + d.n ≤ 1048576) :
    Calls Try.prog 4 #[.slice c.a c.n c.cap, .slice d.a d.n d.cap] W (SaysTrue W) := by
  go_enter Try.func4, Try.ntmps4
  go_wp2_with fail
  refine (big_no c d _ hn).mono ?_; rintro e w1 ⟨rfl, rfl⟩
  have HB := Lib.hid (Below.refl W.heap.size W)
  go_wp2_with fail
  refine (drawJoinTrees_any c _ hc).mono ?_; rintro e w31 ⟨a, b, ha, hb2, rfl, hb⟩
  replace HB := Lib.hid (nx HB.out hb)
  clear hb
  go_wp2_with fail
  have ha1 := fun w => implJoinTrees_any a b w (by omega) (by omega)
  have ha2 := fun w => specJoinTrees_any a b w (by omega) (by omega)
  have ha3 := fun w => implCommonTree_any a b w (by omega) (by omega)
  have ha4 := fun w => specCommonTree_any a b w (by omega) (by omega)
  rcases joined a b with ⟨hJ, hC, hP⟩ | ⟨t, u, rfl, rfl, ht, hu, hto, huo, hC, hP, hJ⟩
  · rw [hJ] at ha1 ha2
    rw [hC] at ha3 ha4
    simp only [ansV, trS, trB] at ha1 ha2 ha3 ha4
    clear hJ hC hP
    refine (ha1 _).mono ?_; rintro e w32 ⟨rfl, hb⟩
    replace HB := Lib.hid (nx HB.out hb)
    clear hb
    go_wp2_with fail
    refine (ha2 _).mono ?_; rintro e w33 ⟨rfl, hb⟩
    replace HB := Lib.hid (nx HB.out hb)
    clear hb
    go_wp2_with fail
    refine (ha3 _).mono ?_; rintro e w34 ⟨rfl, hb⟩
    replace HB := Lib.hid (nx HB.out hb)
    clear hb
    go_wp2_with fail
    refine (ha4 _).mono ?_; rintro e w35 ⟨rfl, hb⟩
    replace HB := Lib.hid (nx HB.out hb)
    clear hb
    clear ha1 ha2 ha3 ha4
    go_wp2_with fail
    refine (drawIsPartOf_any d _ (hd.keep HB.out)).mono ?_; rintro e w36 ⟨p, q, hp, hq, rfl, hb⟩
    replace HB := Lib.hid (nx HB.out hb)
    clear hb
    go_wp2_with fail
    have hp1 := fun w => implIsPartOf_any p q w (by omega) (by omega)
    have hp2 := fun w => specIsPartOf_any p q w (by omega) (by omega)
    have hp3 := fun w => implJoinTrees_any p q w (by omega) (by omega)
    rcases joined p q with ⟨hJ, hC, hP⟩ | ⟨t, u, rfl, rfl, ht, hu, hto, huo, hC, hP, hJ⟩
    · rw [hP] at hp1 hp2
      clear hJ hC hP hp3
      refine (hp1 _).mono ?_; rintro e w37 ⟨rfl, hb⟩
      replace HB := Lib.hid (nx HB.out hb)
      clear hb
      simp only [ansB]
      go_wp2_with fail
      refine (hp2 _).mono ?_; rintro e w38 ⟨rfl, hb⟩
      replace HB := Lib.hid (nx HB.out hb)
      clear hb
      simp only [ansB]
      go_wp2_with fail
      refine (drawSubtreeAt_any d _ (hd.keep HB.out)).mono ?_; rintro e w39 ⟨x1, x2, hx1, hx2, rfl, hb⟩
      replace HB := Lib.hid (nx HB.out hb)
      clear hb
      go_wp2_with fail
      refine (implSubtreeAt_any x1 x2 _ (by omega) (by omega)).mono ?_; rintro e w40 ⟨rfl, hb⟩
      replace HB := Lib.hid (nx HB.out hb)
      clear hb
      unfold ansV
      go_wp2_with fail
      refine (specSubtreeAt_any x1 x2 _ (by omega) (by omega)).mono ?_; rintro e w41 ⟨rfl, hb⟩
      replace HB := Lib.hid (nx HB.out hb)
      clear hb
      unfold ansV
      generalize trS (subO x1 x2) = y1
      generalize trB (subO x1 x2) = y2
      go_wp2_with fail
      refine (drawGraftAt_any c _ (hc.keep HB.out)).mono ?_; rintro e w42 ⟨x3, x4, k, hx3, hx4, hk1, hk2, rfl, hb⟩
      replace HB := Lib.hid (nx HB.out hb)
      clear hb
      go_wp2_with fail
      have hg1 := fun w => implGraftAt_any x3 k x4 w (by omega) (by omega) (by omega) (by omega)
      have hg2 := fun w => specGraftAt_any x3 k x4 w (by omega) (by omega) (by omega) (by omega)
      rcases graft_cases x3 k x4 with hG | ⟨t1, t2, n, rfl, rfl, rfl, ht1, ht2, hn1, ho1, hG⟩
      · rw [hG] at hg1 hg2
        clear hG
        refine (hg1 _).mono ?_; rintro e w43 ⟨rfl, hb⟩
        replace HB := Lib.hid (nx HB.out hb)
        clear hb
        simp only [ans2]
        go_wp2_with fail
        refine (hg2 _).mono ?_; rintro e w44 ⟨rfl, hb⟩
        replace HB := Lib.hid (nx HB.out hb)
        clear hb
        simp only [ans2]
        go_wp2_with fail
        go_ret
        exact ⟨by simp, HB.out⟩
      · rw [hG] at hg1 hg2
        have hA := fun w => implAddressesOf_any t1.str w (by omega)
        rw [show AddressesOf_o t1.str = some (t1.addrs ⟨#[]⟩) by simp [AddressesOf_o, ho1]] at hA
        have hln := addrs_length t1 ⟨#[]⟩
        obtain ⟨qq, hq1, hq2⟩ := sub_graft t1 t2 n ⟨#[]⟩ (by unfold Tr.leaves; omega)
        have hsz := addrs_size t1 ⟨#[]⟩
        have hgz : (t1.graft n t2).str.size ≤ 100 := by
          have := graft_carets t1 t2 n (by omega) (by unfold Tr.leaves; omega)
          rw [Tr.str_size]; omega
        have hgo : treeOf (t1.graft n t2).str = some (t1.graft n t2) := treeOf_str _ (by have := graft_carets t1 t2 n (by omega) (by unfold Tr.leaves; omega); omega)
        generalize t1.addrs ⟨#[]⟩ = A at *
        have hnA : n < A.length := by omega
        obtain ⟨x, hx⟩ : ∃ x, x = A.getD n ⟨#[]⟩ := ⟨_, rfl⟩
        have hxz : x.size ≤ 100 := by
          have := hsz x (by rw [hx]; exact getD_memT hnA)
          rw [empty_size] at this; omega
        have hS := fun w => implSubtreeAt_any (t1.graft n t2).str x w (by omega) (by omega)
        rw [show subO (t1.graft n t2).str x = some t2 by
          simp only [subO, hgo]
          rw [hx, hq1]
          simpa using hq2] at hS
        simp only [ansV, trS, trB] at hS
        generalize (t1.graft n t2).str = G at *
        generalize t2.str = T2 at *
        have HX := Lib.hid hx
        have HLN := Lib.hid hln
        clear hq1 hq2 hgo hsz hG hln hx
        refine (hg1 _).mono ?_; rintro e w45 ⟨rfl, hb⟩
        replace HB := Lib.hid (nx HB.out hb)
        clear hb
        simp only [ans2]
        go_wp2_with fail
        refine (hg2 _).mono ?_; rintro e w46 ⟨rfl, hb⟩
        replace HB := Lib.hid (nx HB.out hb)
        clear hb
        simp only [ans2]
        go_wp2_with fail
        clear hg1 hg2
        refine (hA _).mono ?_; rintro e w9 ⟨v, hO, hb, rfl⟩
        replace HB := Lib.hid (nx HB.out hb)
        obtain ⟨a1, cap1, hv, hI, hl1, hl2⟩ := (show OwnS _ _ v A from hO).flat
        subst hv
        obtain ⟨m, hm⟩ : ∃ m, m = A.length := ⟨_, rfl⟩
        have hR : ∃ g off, a1 = some ⟨g, off, none⟩ ∧ ReadS w9 g off A := by
          rcases hI with h | h
          · rw [h] at hnA; simp at hnA
          · exact h
        obtain ⟨g, off, rfl, R⟩ := hR
        have c1 := R n hnA
        rw [show A.getD n ⟨#[]⟩ = x from HX.out.symm] at c1
        rw [← hm] at hnA hl1 ⊢
        have HM := Lib.hid hm
        have hnA' : (n : Int) < (m : Int) := by omega
        clear hb hO hI hm R hA
        go_wp2_with fail
        refine (hS _).mono ?_; rintro e w47 ⟨rfl, hb⟩
        replace HB := Lib.hid (nx HB.out hb)
        clear hb
        go_wp2_with fail
        go_ret
        exact ⟨by simp, HB.out⟩
    · rw [hP] at hp1 hp2
      have hjs := join_str t u
      have htz := t.str_size
      have huz := u.str_size
      have hp1 : ∀ w, Calls Try.prog 34 #[.string t.str, .string u.str] w (Gives (.tuple #[.bool (t.part u), .bool true]) w) := fun w => by have := hp1 w; rwa [ansB_some] at this
      have hp2 : ∀ w, Calls Try.prog 36 #[.string t.str, .string u.str] w (Gives (.tuple #[.bool (t.part u), .bool true]) w) := fun w => by have := hp2 w; rwa [ansB_some] at this
      rcases hJ with hJ | ⟨hjc, hJ⟩
      · rw [hJ] at hp3
        generalize t.part u = B at *
        clear hJ hC hP hjs
        refine (hp1 _).mono ?_; rintro e w48 ⟨rfl, hb⟩
        replace HB := Lib.hid (nx HB.out hb)
        clear hb
        go_wp2_with fail
        refine (hp2 _).mono ?_; rintro e w49 ⟨rfl, hb⟩
        replace HB := Lib.hid (nx HB.out hb)
        clear hb
        go_wp2_with fail
        refine (hp3 _).mono ?_; rintro e w50 ⟨rfl, hb⟩
        replace HB := Lib.hid (nx HB.out hb)
        clear hb
        simp only [ansV, trS, trB]
        go_wp2_with fail
        refine (drawSubtreeAt_any d _ (hd.keep HB.out)).mono ?_; rintro e w51 ⟨x1, x2, hx1, hx2, rfl, hb⟩
        replace HB := Lib.hid (nx HB.out hb)
        clear hb
        go_wp2_with fail
        refine (implSubtreeAt_any x1 x2 _ (by omega) (by omega)).mono ?_; rintro e w52 ⟨rfl, hb⟩
        replace HB := Lib.hid (nx HB.out hb)
        clear hb
        unfold ansV
        go_wp2_with fail
        refine (specSubtreeAt_any x1 x2 _ (by omega) (by omega)).mono ?_; rintro e w53 ⟨rfl, hb⟩
        replace HB := Lib.hid (nx HB.out hb)
        clear hb
        unfold ansV
        generalize trS (subO x1 x2) = y1
        generalize trB (subO x1 x2) = y2
        go_wp2_with fail
        refine (drawGraftAt_any c _ (hc.keep HB.out)).mono ?_; rintro e w54 ⟨x3, x4, k, hx3, hx4, hk1, hk2, rfl, hb⟩
        replace HB := Lib.hid (nx HB.out hb)
        clear hb
        go_wp2_with fail
        have hg1 := fun w => implGraftAt_any x3 k x4 w (by omega) (by omega) (by omega) (by omega)
        have hg2 := fun w => specGraftAt_any x3 k x4 w (by omega) (by omega) (by omega) (by omega)
        rcases graft_cases x3 k x4 with hG | ⟨t1, t2, n, rfl, rfl, rfl, ht1, ht2, hn1, ho1, hG⟩
        · rw [hG] at hg1 hg2
          clear hG
          refine (hg1 _).mono ?_; rintro e w55 ⟨rfl, hb⟩
          replace HB := Lib.hid (nx HB.out hb)
          clear hb
          simp only [ans2]
          go_wp2_with fail
          refine (hg2 _).mono ?_; rintro e w56 ⟨rfl, hb⟩
          replace HB := Lib.hid (nx HB.out hb)
          clear hb
          simp only [ans2]
          go_wp2_with fail
          go_ret
          exact ⟨by simp, HB.out⟩
        · rw [hG] at hg1 hg2
          have hA := fun w => implAddressesOf_any t1.str w (by omega)
          rw [show AddressesOf_o t1.str = some (t1.addrs ⟨#[]⟩) by simp [AddressesOf_o, ho1]] at hA
          have hln := addrs_length t1 ⟨#[]⟩
          obtain ⟨qq, hq1, hq2⟩ := sub_graft t1 t2 n ⟨#[]⟩ (by unfold Tr.leaves; omega)
          have hsz := addrs_size t1 ⟨#[]⟩
          have hgz : (t1.graft n t2).str.size ≤ 100 := by
            have := graft_carets t1 t2 n (by omega) (by unfold Tr.leaves; omega)
            rw [Tr.str_size]; omega
          have hgo : treeOf (t1.graft n t2).str = some (t1.graft n t2) := treeOf_str _ (by have := graft_carets t1 t2 n (by omega) (by unfold Tr.leaves; omega); omega)
          generalize t1.addrs ⟨#[]⟩ = A at *
          have hnA : n < A.length := by omega
          obtain ⟨x, hx⟩ : ∃ x, x = A.getD n ⟨#[]⟩ := ⟨_, rfl⟩
          have hxz : x.size ≤ 100 := by
            have := hsz x (by rw [hx]; exact getD_memT hnA)
            rw [empty_size] at this; omega
          have hS := fun w => implSubtreeAt_any (t1.graft n t2).str x w (by omega) (by omega)
          rw [show subO (t1.graft n t2).str x = some t2 by
            simp only [subO, hgo]
            rw [hx, hq1]
            simpa using hq2] at hS
          simp only [ansV, trS, trB] at hS
          generalize (t1.graft n t2).str = G at *
          generalize t2.str = T2 at *
          have HX := Lib.hid hx
          have HLN := Lib.hid hln
          clear hq1 hq2 hgo hsz hG hln hx
          refine (hg1 _).mono ?_; rintro e w57 ⟨rfl, hb⟩
          replace HB := Lib.hid (nx HB.out hb)
          clear hb
          simp only [ans2]
          go_wp2_with fail
          refine (hg2 _).mono ?_; rintro e w58 ⟨rfl, hb⟩
          replace HB := Lib.hid (nx HB.out hb)
          clear hb
          simp only [ans2]
          go_wp2_with fail
          clear hg1 hg2
          refine (hA _).mono ?_; rintro e w9 ⟨v, hO, hb, rfl⟩
          replace HB := Lib.hid (nx HB.out hb)
          obtain ⟨a1, cap1, hv, hI, hl1, hl2⟩ := (show OwnS _ _ v A from hO).flat
          subst hv
          obtain ⟨m, hm⟩ : ∃ m, m = A.length := ⟨_, rfl⟩
          have hR : ∃ g off, a1 = some ⟨g, off, none⟩ ∧ ReadS w9 g off A := by
            rcases hI with h | h
            · rw [h] at hnA; simp at hnA
            · exact h
          obtain ⟨g, off, rfl, R⟩ := hR
          have c1 := R n hnA
          rw [show A.getD n ⟨#[]⟩ = x from HX.out.symm] at c1
          rw [← hm] at hnA hl1 ⊢
          have HM := Lib.hid hm
          have hnA' : (n : Int) < (m : Int) := by omega
          clear hb hO hI hm R hA
          go_wp2_with fail
          refine (hS _).mono ?_; rintro e w59 ⟨rfl, hb⟩
          replace HB := Lib.hid (nx HB.out hb)
          clear hb
          go_wp2_with fail
          go_ret
          exact ⟨by simp, HB.out⟩
      · rw [hJ] at hp3
        have hjz : (t.join u).str.size ≤ 100 := by rw [Tr.str_size]; omega
        generalize t.part u = B at *
        clear hJ hC hP
        refine (hp1 _).mono ?_; rintro e w60 ⟨rfl, hb⟩
        replace HB := Lib.hid (nx HB.out hb)
        clear hb
        go_wp2_with fail
        refine (hp2 _).mono ?_; rintro e w61 ⟨rfl, hb⟩
        replace HB := Lib.hid (nx HB.out hb)
        clear hb
        go_wp2_with fail
        simp only [ansV, trS, trB] at hp3
        generalize (t.join u).str = J at *
        refine (hp3 _).mono ?_; rintro e w62 ⟨rfl, hb⟩
        replace HB := Lib.hid (nx HB.out hb)
        clear hb
        go_wp2_with fail
        refine (drawSubtreeAt_any d _ (hd.keep HB.out)).mono ?_; rintro e w63 ⟨x1, x2, hx1, hx2, rfl, hb⟩
        replace HB := Lib.hid (nx HB.out hb)
        clear hb
        go_wp2_with fail
        refine (implSubtreeAt_any x1 x2 _ (by omega) (by omega)).mono ?_; rintro e w64 ⟨rfl, hb⟩
        replace HB := Lib.hid (nx HB.out hb)
        clear hb
        unfold ansV
        go_wp2_with fail
        refine (specSubtreeAt_any x1 x2 _ (by omega) (by omega)).mono ?_; rintro e w65 ⟨rfl, hb⟩
        replace HB := Lib.hid (nx HB.out hb)
        clear hb
        unfold ansV
        generalize trS (subO x1 x2) = y1
        generalize trB (subO x1 x2) = y2
        go_wp2_with fail
        refine (drawGraftAt_any c _ (hc.keep HB.out)).mono ?_; rintro e w66 ⟨x3, x4, k, hx3, hx4, hk1, hk2, rfl, hb⟩
        replace HB := Lib.hid (nx HB.out hb)
        clear hb
        go_wp2_with fail
        have hg1 := fun w => implGraftAt_any x3 k x4 w (by omega) (by omega) (by omega) (by omega)
        have hg2 := fun w => specGraftAt_any x3 k x4 w (by omega) (by omega) (by omega) (by omega)
        rcases graft_cases x3 k x4 with hG | ⟨t1, t2, n, rfl, rfl, rfl, ht1, ht2, hn1, ho1, hG⟩
        · rw [hG] at hg1 hg2
          clear hG
          refine (hg1 _).mono ?_; rintro e w67 ⟨rfl, hb⟩
          replace HB := Lib.hid (nx HB.out hb)
          clear hb
          simp only [ans2]
          go_wp2_with fail
          refine (hg2 _).mono ?_; rintro e w68 ⟨rfl, hb⟩
          replace HB := Lib.hid (nx HB.out hb)
          clear hb
          simp only [ans2]
          go_wp2_with fail
          go_ret
          exact ⟨by simp, HB.out⟩
        · rw [hG] at hg1 hg2
          have hA := fun w => implAddressesOf_any t1.str w (by omega)
          rw [show AddressesOf_o t1.str = some (t1.addrs ⟨#[]⟩) by simp [AddressesOf_o, ho1]] at hA
          have hln := addrs_length t1 ⟨#[]⟩
          obtain ⟨qq, hq1, hq2⟩ := sub_graft t1 t2 n ⟨#[]⟩ (by unfold Tr.leaves; omega)
          have hsz := addrs_size t1 ⟨#[]⟩
          have hgz : (t1.graft n t2).str.size ≤ 100 := by
            have := graft_carets t1 t2 n (by omega) (by unfold Tr.leaves; omega)
            rw [Tr.str_size]; omega
          have hgo : treeOf (t1.graft n t2).str = some (t1.graft n t2) := treeOf_str _ (by have := graft_carets t1 t2 n (by omega) (by unfold Tr.leaves; omega); omega)
          generalize t1.addrs ⟨#[]⟩ = A at *
          have hnA : n < A.length := by omega
          obtain ⟨x, hx⟩ : ∃ x, x = A.getD n ⟨#[]⟩ := ⟨_, rfl⟩
          have hxz : x.size ≤ 100 := by
            have := hsz x (by rw [hx]; exact getD_memT hnA)
            rw [empty_size] at this; omega
          have hS := fun w => implSubtreeAt_any (t1.graft n t2).str x w (by omega) (by omega)
          rw [show subO (t1.graft n t2).str x = some t2 by
            simp only [subO, hgo]
            rw [hx, hq1]
            simpa using hq2] at hS
          simp only [ansV, trS, trB] at hS
          generalize (t1.graft n t2).str = G at *
          generalize t2.str = T2 at *
          have HX := Lib.hid hx
          have HLN := Lib.hid hln
          clear hq1 hq2 hgo hsz hG hln hx
          refine (hg1 _).mono ?_; rintro e w69 ⟨rfl, hb⟩
          replace HB := Lib.hid (nx HB.out hb)
          clear hb
          simp only [ans2]
          go_wp2_with fail
          refine (hg2 _).mono ?_; rintro e w70 ⟨rfl, hb⟩
          replace HB := Lib.hid (nx HB.out hb)
          clear hb
          simp only [ans2]
          go_wp2_with fail
          clear hg1 hg2
          refine (hA _).mono ?_; rintro e w9 ⟨v, hO, hb, rfl⟩
          replace HB := Lib.hid (nx HB.out hb)
          obtain ⟨a1, cap1, hv, hI, hl1, hl2⟩ := (show OwnS _ _ v A from hO).flat
          subst hv
          obtain ⟨m, hm⟩ : ∃ m, m = A.length := ⟨_, rfl⟩
          have hR : ∃ g off, a1 = some ⟨g, off, none⟩ ∧ ReadS w9 g off A := by
            rcases hI with h | h
            · rw [h] at hnA; simp at hnA
            · exact h
          obtain ⟨g, off, rfl, R⟩ := hR
          have c1 := R n hnA
          rw [show A.getD n ⟨#[]⟩ = x from HX.out.symm] at c1
          rw [← hm] at hnA hl1 ⊢
          have HM := Lib.hid hm
          have hnA' : (n : Int) < (m : Int) := by omega
          clear hb hO hI hm R hA
          go_wp2_with fail
          refine (hS _).mono ?_; rintro e w71 ⟨rfl, hb⟩
          replace HB := Lib.hid (nx HB.out hb)
          clear hb
          go_wp2_with fail
          go_ret
          exact ⟨by simp, HB.out⟩
  · rw [hC] at ha3 ha4
    have hcc := com_carets t u
    have hcz : (t.com u).str.size ≤ 100 := by rw [Tr.str_size]; omega
    have hco : treeOf (t.com u).str = some (t.com u) := treeOf_str _ (by omega)
    have hq1 := fun w => implIsPartOf_any (t.com u).str t.str w (by omega) (by omega)
    have hq2 := fun w => implIsPartOf_any (t.com u).str u.str w (by omega) (by omega)
    rw [show partO (t.com u).str t.str = some true by simp [partO, hco, hto, com_part1], ansB_some] at hq1
    rw [show partO (t.com u).str u.str = some true by simp [partO, hco, huo, com_part2], ansB_some] at hq2
    have hv3 := fun w => implCaretsOf_any (t.com u).str w (by omega)
    rw [show caretsO (t.com u).str = some (t.com u).carets by simp [caretsO, hco]] at hv3
    have hv1 := fun w => implCaretsOf_any t.str w (by omega)
    rw [show caretsO t.str = some t.carets by simp [caretsO, hto]] at hv1
    have hv2 := fun w => implCaretsOf_any u.str w (by omega)
    rw [show caretsO u.str = some u.carets by simp [caretsO, huo]] at hv2
    have hsum := join_com_carets t u
    rcases hJ with hJ | ⟨hjc, hJ⟩
    · rw [hJ] at ha1 ha2
      clear hv1 hv2 hv3 hsum hcc hP hJ hC
      simp only [ansV, trS, trB] at ha1 ha2 ha3 ha4
      generalize (t.com u).str = K at *
      refine (ha1 _).mono ?_; rintro e w32 ⟨rfl, hb⟩
      replace HB := Lib.hid (nx HB.out hb)
      clear hb
      go_wp2_with fail
      refine (ha2 _).mono ?_; rintro e w33 ⟨rfl, hb⟩
      replace HB := Lib.hid (nx HB.out hb)
      clear hb
      go_wp2_with fail
      refine (ha3 _).mono ?_; rintro e w34 ⟨rfl, hb⟩
      replace HB := Lib.hid (nx HB.out hb)
      clear hb
      go_wp2_with fail
      refine (ha4 _).mono ?_; rintro e w35 ⟨rfl, hb⟩
      replace HB := Lib.hid (nx HB.out hb)
      clear hb
      clear ha1 ha2 ha3 ha4
      go_wp2_with fail
      refine (hq1 _).mono ?_; rintro e w72 ⟨rfl, hb⟩
      replace HB := Lib.hid (nx HB.out hb)
      clear hb
      go_wp2_with fail
      refine (hq2 _).mono ?_; rintro e w73 ⟨rfl, hb⟩
      replace HB := Lib.hid (nx HB.out hb)
      clear hb
      go_wp2_with fail
      clear hq1 hq2
      refine (drawIsPartOf_any d _ (hd.keep HB.out)).mono ?_; rintro e w74 ⟨p, q, hp, hq, rfl, hb⟩
      replace HB := Lib.hid (nx HB.out hb)
      clear hb
      go_wp2_with fail
      have hp1 := fun w => implIsPartOf_any p q w (by omega) (by omega)
      have hp2 := fun w => specIsPartOf_any p q w (by omega) (by omega)
      have hp3 := fun w => implJoinTrees_any p q w (by omega) (by omega)
      rcases joined p q with ⟨hJ, hC, hP⟩ | ⟨t, u, rfl, rfl, ht, hu, hto, huo, hC, hP, hJ⟩
      · rw [hP] at hp1 hp2
        clear hJ hC hP hp3
        refine (hp1 _).mono ?_; rintro e w75 ⟨rfl, hb⟩
        replace HB := Lib.hid (nx HB.out hb)
        clear hb
        simp only [ansB]
        go_wp2_with fail
        refine (hp2 _).mono ?_; rintro e w76 ⟨rfl, hb⟩
        replace HB := Lib.hid (nx HB.out hb)
        clear hb
        simp only [ansB]
        go_wp2_with fail
        refine (drawSubtreeAt_any d _ (hd.keep HB.out)).mono ?_; rintro e w77 ⟨x1, x2, hx1, hx2, rfl, hb⟩
        replace HB := Lib.hid (nx HB.out hb)
        clear hb
        go_wp2_with fail
        refine (implSubtreeAt_any x1 x2 _ (by omega) (by omega)).mono ?_; rintro e w78 ⟨rfl, hb⟩
        replace HB := Lib.hid (nx HB.out hb)
        clear hb
        unfold ansV
        go_wp2_with fail
        refine (specSubtreeAt_any x1 x2 _ (by omega) (by omega)).mono ?_; rintro e w79 ⟨rfl, hb⟩
        replace HB := Lib.hid (nx HB.out hb)
        clear hb
        unfold ansV
        generalize trS (subO x1 x2) = y1
        generalize trB (subO x1 x2) = y2
        go_wp2_with fail
        refine (drawGraftAt_any c _ (hc.keep HB.out)).mono ?_; rintro e w80 ⟨x3, x4, k, hx3, hx4, hk1, hk2, rfl, hb⟩
        replace HB := Lib.hid (nx HB.out hb)
        clear hb
        go_wp2_with fail
        have hg1 := fun w => implGraftAt_any x3 k x4 w (by omega) (by omega) (by omega) (by omega)
        have hg2 := fun w => specGraftAt_any x3 k x4 w (by omega) (by omega) (by omega) (by omega)
        rcases graft_cases x3 k x4 with hG | ⟨t1, t2, n, rfl, rfl, rfl, ht1, ht2, hn1, ho1, hG⟩
        · rw [hG] at hg1 hg2
          clear hG
          refine (hg1 _).mono ?_; rintro e w81 ⟨rfl, hb⟩
          replace HB := Lib.hid (nx HB.out hb)
          clear hb
          simp only [ans2]
          go_wp2_with fail
          refine (hg2 _).mono ?_; rintro e w82 ⟨rfl, hb⟩
          replace HB := Lib.hid (nx HB.out hb)
          clear hb
          simp only [ans2]
          go_wp2_with fail
          go_ret
          exact ⟨by simp, HB.out⟩
        · rw [hG] at hg1 hg2
          have hA := fun w => implAddressesOf_any t1.str w (by omega)
          rw [show AddressesOf_o t1.str = some (t1.addrs ⟨#[]⟩) by simp [AddressesOf_o, ho1]] at hA
          have hln := addrs_length t1 ⟨#[]⟩
          obtain ⟨qq, hq1, hq2⟩ := sub_graft t1 t2 n ⟨#[]⟩ (by unfold Tr.leaves; omega)
          have hsz := addrs_size t1 ⟨#[]⟩
          have hgz : (t1.graft n t2).str.size ≤ 100 := by
            have := graft_carets t1 t2 n (by omega) (by unfold Tr.leaves; omega)
            rw [Tr.str_size]; omega
          have hgo : treeOf (t1.graft n t2).str = some (t1.graft n t2) := treeOf_str _ (by have := graft_carets t1 t2 n (by omega) (by unfold Tr.leaves; omega); omega)
          generalize t1.addrs ⟨#[]⟩ = A at *
          have hnA : n < A.length := by omega
          obtain ⟨x, hx⟩ : ∃ x, x = A.getD n ⟨#[]⟩ := ⟨_, rfl⟩
          have hxz : x.size ≤ 100 := by
            have := hsz x (by rw [hx]; exact getD_memT hnA)
            rw [empty_size] at this; omega
          have hS := fun w => implSubtreeAt_any (t1.graft n t2).str x w (by omega) (by omega)
          rw [show subO (t1.graft n t2).str x = some t2 by
            simp only [subO, hgo]
            rw [hx, hq1]
            simpa using hq2] at hS
          simp only [ansV, trS, trB] at hS
          generalize (t1.graft n t2).str = G at *
          generalize t2.str = T2 at *
          have HX := Lib.hid hx
          have HLN := Lib.hid hln
          clear hq1 hq2 hgo hsz hG hln hx
          refine (hg1 _).mono ?_; rintro e w83 ⟨rfl, hb⟩
          replace HB := Lib.hid (nx HB.out hb)
          clear hb
          simp only [ans2]
          go_wp2_with fail
          refine (hg2 _).mono ?_; rintro e w84 ⟨rfl, hb⟩
          replace HB := Lib.hid (nx HB.out hb)
          clear hb
          simp only [ans2]
          go_wp2_with fail
          clear hg1 hg2
          refine (hA _).mono ?_; rintro e w9 ⟨v, hO, hb, rfl⟩
          replace HB := Lib.hid (nx HB.out hb)
          obtain ⟨a1, cap1, hv, hI, hl1, hl2⟩ := (show OwnS _ _ v A from hO).flat
          subst hv
          obtain ⟨m, hm⟩ : ∃ m, m = A.length := ⟨_, rfl⟩
          have hR : ∃ g off, a1 = some ⟨g, off, none⟩ ∧ ReadS w9 g off A := by
            rcases hI with h | h
            · rw [h] at hnA; simp at hnA
            · exact h
          obtain ⟨g, off, rfl, R⟩ := hR
          have c1 := R n hnA
          rw [show A.getD n ⟨#[]⟩ = x from HX.out.symm] at c1
          rw [← hm] at hnA hl1 ⊢
          have HM := Lib.hid hm
          have hnA' : (n : Int) < (m : Int) := by omega
          clear hb hO hI hm R hA
          go_wp2_with fail
          refine (hS _).mono ?_; rintro e w85 ⟨rfl, hb⟩
          replace HB := Lib.hid (nx HB.out hb)
          clear hb
          go_wp2_with fail
          go_ret
          exact ⟨by simp, HB.out⟩
      · rw [hP] at hp1 hp2
        have hjs := join_str t u
        have htz := t.str_size
        have huz := u.str_size
        have hp1 : ∀ w, Calls Try.prog 34 #[.string t.str, .string u.str] w (Gives (.tuple #[.bool (t.part u), .bool true]) w) := fun w => by have := hp1 w; rwa [ansB_some] at this
        have hp2 : ∀ w, Calls Try.prog 36 #[.string t.str, .string u.str] w (Gives (.tuple #[.bool (t.part u), .bool true]) w) := fun w => by have := hp2 w; rwa [ansB_some] at this
        rcases hJ with hJ | ⟨hjc, hJ⟩
        · rw [hJ] at hp3
          generalize t.part u = B at *
          clear hJ hC hP hjs
          refine (hp1 _).mono ?_; rintro e w86 ⟨rfl, hb⟩
          replace HB := Lib.hid (nx HB.out hb)
          clear hb
          go_wp2_with fail
          refine (hp2 _).mono ?_; rintro e w87 ⟨rfl, hb⟩
          replace HB := Lib.hid (nx HB.out hb)
          clear hb
          go_wp2_with fail
          refine (hp3 _).mono ?_; rintro e w88 ⟨rfl, hb⟩
          replace HB := Lib.hid (nx HB.out hb)
          clear hb
          simp only [ansV, trS, trB]
          go_wp2_with fail
          refine (drawSubtreeAt_any d _ (hd.keep HB.out)).mono ?_; rintro e w89 ⟨x1, x2, hx1, hx2, rfl, hb⟩
          replace HB := Lib.hid (nx HB.out hb)
          clear hb
          go_wp2_with fail
          refine (implSubtreeAt_any x1 x2 _ (by omega) (by omega)).mono ?_; rintro e w90 ⟨rfl, hb⟩
          replace HB := Lib.hid (nx HB.out hb)
          clear hb
          unfold ansV
          go_wp2_with fail
          refine (specSubtreeAt_any x1 x2 _ (by omega) (by omega)).mono ?_; rintro e w91 ⟨rfl, hb⟩
          replace HB := Lib.hid (nx HB.out hb)
          clear hb
          unfold ansV
          generalize trS (subO x1 x2) = y1
          generalize trB (subO x1 x2) = y2
          go_wp2_with fail
          refine (drawGraftAt_any c _ (hc.keep HB.out)).mono ?_; rintro e w92 ⟨x3, x4, k, hx3, hx4, hk1, hk2, rfl, hb⟩
          replace HB := Lib.hid (nx HB.out hb)
          clear hb
          go_wp2_with fail
          have hg1 := fun w => implGraftAt_any x3 k x4 w (by omega) (by omega) (by omega) (by omega)
          have hg2 := fun w => specGraftAt_any x3 k x4 w (by omega) (by omega) (by omega) (by omega)
          rcases graft_cases x3 k x4 with hG | ⟨t1, t2, n, rfl, rfl, rfl, ht1, ht2, hn1, ho1, hG⟩
          · rw [hG] at hg1 hg2
            clear hG
            refine (hg1 _).mono ?_; rintro e w93 ⟨rfl, hb⟩
            replace HB := Lib.hid (nx HB.out hb)
            clear hb
            simp only [ans2]
            go_wp2_with fail
            refine (hg2 _).mono ?_; rintro e w94 ⟨rfl, hb⟩
            replace HB := Lib.hid (nx HB.out hb)
            clear hb
            simp only [ans2]
            go_wp2_with fail
            go_ret
            exact ⟨by simp, HB.out⟩
          · rw [hG] at hg1 hg2
            have hA := fun w => implAddressesOf_any t1.str w (by omega)
            rw [show AddressesOf_o t1.str = some (t1.addrs ⟨#[]⟩) by simp [AddressesOf_o, ho1]] at hA
            have hln := addrs_length t1 ⟨#[]⟩
            obtain ⟨qq, hq1, hq2⟩ := sub_graft t1 t2 n ⟨#[]⟩ (by unfold Tr.leaves; omega)
            have hsz := addrs_size t1 ⟨#[]⟩
            have hgz : (t1.graft n t2).str.size ≤ 100 := by
              have := graft_carets t1 t2 n (by omega) (by unfold Tr.leaves; omega)
              rw [Tr.str_size]; omega
            have hgo : treeOf (t1.graft n t2).str = some (t1.graft n t2) := treeOf_str _ (by have := graft_carets t1 t2 n (by omega) (by unfold Tr.leaves; omega); omega)
            generalize t1.addrs ⟨#[]⟩ = A at *
            have hnA : n < A.length := by omega
            obtain ⟨x, hx⟩ : ∃ x, x = A.getD n ⟨#[]⟩ := ⟨_, rfl⟩
            have hxz : x.size ≤ 100 := by
              have := hsz x (by rw [hx]; exact getD_memT hnA)
              rw [empty_size] at this; omega
            have hS := fun w => implSubtreeAt_any (t1.graft n t2).str x w (by omega) (by omega)
            rw [show subO (t1.graft n t2).str x = some t2 by
              simp only [subO, hgo]
              rw [hx, hq1]
              simpa using hq2] at hS
            simp only [ansV, trS, trB] at hS
            generalize (t1.graft n t2).str = G at *
            generalize t2.str = T2 at *
            have HX := Lib.hid hx
            have HLN := Lib.hid hln
            clear hq1 hq2 hgo hsz hG hln hx
            refine (hg1 _).mono ?_; rintro e w95 ⟨rfl, hb⟩
            replace HB := Lib.hid (nx HB.out hb)
            clear hb
            simp only [ans2]
            go_wp2_with fail
            refine (hg2 _).mono ?_; rintro e w96 ⟨rfl, hb⟩
            replace HB := Lib.hid (nx HB.out hb)
            clear hb
            simp only [ans2]
            go_wp2_with fail
            clear hg1 hg2
            refine (hA _).mono ?_; rintro e w9 ⟨v, hO, hb, rfl⟩
            replace HB := Lib.hid (nx HB.out hb)
            obtain ⟨a1, cap1, hv, hI, hl1, hl2⟩ := (show OwnS _ _ v A from hO).flat
            subst hv
            obtain ⟨m, hm⟩ : ∃ m, m = A.length := ⟨_, rfl⟩
            have hR : ∃ g off, a1 = some ⟨g, off, none⟩ ∧ ReadS w9 g off A := by
              rcases hI with h | h
              · rw [h] at hnA; simp at hnA
              · exact h
            obtain ⟨g, off, rfl, R⟩ := hR
            have c1 := R n hnA
            rw [show A.getD n ⟨#[]⟩ = x from HX.out.symm] at c1
            rw [← hm] at hnA hl1 ⊢
            have HM := Lib.hid hm
            have hnA' : (n : Int) < (m : Int) := by omega
            clear hb hO hI hm R hA
            go_wp2_with fail
            refine (hS _).mono ?_; rintro e w97 ⟨rfl, hb⟩
            replace HB := Lib.hid (nx HB.out hb)
            clear hb
            go_wp2_with fail
            go_ret
            exact ⟨by simp, HB.out⟩
        · rw [hJ] at hp3
          have hjz : (t.join u).str.size ≤ 100 := by rw [Tr.str_size]; omega
          generalize t.part u = B at *
          clear hJ hC hP
          refine (hp1 _).mono ?_; rintro e w98 ⟨rfl, hb⟩
          replace HB := Lib.hid (nx HB.out hb)
          clear hb
          go_wp2_with fail
          refine (hp2 _).mono ?_; rintro e w99 ⟨rfl, hb⟩
          replace HB := Lib.hid (nx HB.out hb)
          clear hb
          go_wp2_with fail
          simp only [ansV, trS, trB] at hp3
          generalize (t.join u).str = J at *
          refine (hp3 _).mono ?_; rintro e w100 ⟨rfl, hb⟩
          replace HB := Lib.hid (nx HB.out hb)
          clear hb
          go_wp2_with fail
          refine (drawSubtreeAt_any d _ (hd.keep HB.out)).mono ?_; rintro e w101 ⟨x1, x2, hx1, hx2, rfl, hb⟩
          replace HB := Lib.hid (nx HB.out hb)
          clear hb
          go_wp2_with fail
          refine (implSubtreeAt_any x1 x2 _ (by omega) (by omega)).mono ?_; rintro e w102 ⟨rfl, hb⟩
          replace HB := Lib.hid (nx HB.out hb)
          clear hb
          unfold ansV
          go_wp2_with fail
          refine (specSubtreeAt_any x1 x2 _ (by omega) (by omega)).mono ?_; rintro e w103 ⟨rfl, hb⟩
          replace HB := Lib.hid (nx HB.out hb)
          clear hb
          unfold ansV
          generalize trS (subO x1 x2) = y1
          generalize trB (subO x1 x2) = y2
          go_wp2_with fail
          refine (drawGraftAt_any c _ (hc.keep HB.out)).mono ?_; rintro e w104 ⟨x3, x4, k, hx3, hx4, hk1, hk2, rfl, hb⟩
          replace HB := Lib.hid (nx HB.out hb)
          clear hb
          go_wp2_with fail
          have hg1 := fun w => implGraftAt_any x3 k x4 w (by omega) (by omega) (by omega) (by omega)
          have hg2 := fun w => specGraftAt_any x3 k x4 w (by omega) (by omega) (by omega) (by omega)
          rcases graft_cases x3 k x4 with hG | ⟨t1, t2, n, rfl, rfl, rfl, ht1, ht2, hn1, ho1, hG⟩
          · rw [hG] at hg1 hg2
            clear hG
            refine (hg1 _).mono ?_; rintro e w105 ⟨rfl, hb⟩
            replace HB := Lib.hid (nx HB.out hb)
            clear hb
            simp only [ans2]
            go_wp2_with fail
            refine (hg2 _).mono ?_; rintro e w106 ⟨rfl, hb⟩
            replace HB := Lib.hid (nx HB.out hb)
            clear hb
            simp only [ans2]
            go_wp2_with fail
            go_ret
            exact ⟨by simp, HB.out⟩
          · rw [hG] at hg1 hg2
            have hA := fun w => implAddressesOf_any t1.str w (by omega)
            rw [show AddressesOf_o t1.str = some (t1.addrs ⟨#[]⟩) by simp [AddressesOf_o, ho1]] at hA
            have hln := addrs_length t1 ⟨#[]⟩
            obtain ⟨qq, hq1, hq2⟩ := sub_graft t1 t2 n ⟨#[]⟩ (by unfold Tr.leaves; omega)
            have hsz := addrs_size t1 ⟨#[]⟩
            have hgz : (t1.graft n t2).str.size ≤ 100 := by
              have := graft_carets t1 t2 n (by omega) (by unfold Tr.leaves; omega)
              rw [Tr.str_size]; omega
            have hgo : treeOf (t1.graft n t2).str = some (t1.graft n t2) := treeOf_str _ (by have := graft_carets t1 t2 n (by omega) (by unfold Tr.leaves; omega); omega)
            generalize t1.addrs ⟨#[]⟩ = A at *
            have hnA : n < A.length := by omega
            obtain ⟨x, hx⟩ : ∃ x, x = A.getD n ⟨#[]⟩ := ⟨_, rfl⟩
            have hxz : x.size ≤ 100 := by
              have := hsz x (by rw [hx]; exact getD_memT hnA)
              rw [empty_size] at this; omega
            have hS := fun w => implSubtreeAt_any (t1.graft n t2).str x w (by omega) (by omega)
            rw [show subO (t1.graft n t2).str x = some t2 by
              simp only [subO, hgo]
              rw [hx, hq1]
              simpa using hq2] at hS
            simp only [ansV, trS, trB] at hS
            generalize (t1.graft n t2).str = G at *
            generalize t2.str = T2 at *
            have HX := Lib.hid hx
            have HLN := Lib.hid hln
            clear hq1 hq2 hgo hsz hG hln hx
            refine (hg1 _).mono ?_; rintro e w107 ⟨rfl, hb⟩
            replace HB := Lib.hid (nx HB.out hb)
            clear hb
            simp only [ans2]
            go_wp2_with fail
            refine (hg2 _).mono ?_; rintro e w108 ⟨rfl, hb⟩
            replace HB := Lib.hid (nx HB.out hb)
            clear hb
            simp only [ans2]
            go_wp2_with fail
            clear hg1 hg2
            refine (hA _).mono ?_; rintro e w9 ⟨v, hO, hb, rfl⟩
            replace HB := Lib.hid (nx HB.out hb)
            obtain ⟨a1, cap1, hv, hI, hl1, hl2⟩ := (show OwnS _ _ v A from hO).flat
            subst hv
            obtain ⟨m, hm⟩ : ∃ m, m = A.length := ⟨_, rfl⟩
            have hR : ∃ g off, a1 = some ⟨g, off, none⟩ ∧ ReadS w9 g off A := by
              rcases hI with h | h
              · rw [h] at hnA; simp at hnA
              · exact h
            obtain ⟨g, off, rfl, R⟩ := hR
            have c1 := R n hnA
            rw [show A.getD n ⟨#[]⟩ = x from HX.out.symm] at c1
            rw [← hm] at hnA hl1 ⊢
            have HM := Lib.hid hm
            have hnA' : (n : Int) < (m : Int) := by omega
            clear hb hO hI hm R hA
            go_wp2_with fail
            refine (hS _).mono ?_; rintro e w109 ⟨rfl, hb⟩
            replace HB := Lib.hid (nx HB.out hb)
            clear hb
            go_wp2_with fail
            go_ret
            exact ⟨by simp, HB.out⟩
    · rw [hJ] at ha1 ha2
      have hjo : treeOf (t.join u).str = some (t.join u) := treeOf_str _ hjc
      have hjz : (t.join u).str.size ≤ 100 := by rw [Tr.str_size]; omega
      have hq3 := fun w => implIsPartOf_any t.str (t.join u).str w (by omega) (by omega)
      have hq4 := fun w => implIsPartOf_any u.str (t.join u).str w (by omega) (by omega)
      rw [show partO t.str (t.join u).str = some true by simp [partO, hto, hjo, part_join], ansB_some] at hq3
      rw [show partO u.str (t.join u).str = some true by simp [partO, huo, hjo, part_join'], ansB_some] at hq4
      have hq5 := fun w => implJoinTrees_any u.str t.str w (by omega) (by omega)
      rw [show joinO u.str t.str = some (t.join u) by simp [joinO, hto, huo, lim, join_comm u t, hjc]] at hq5
      have hv4 := fun w => implCaretsOf_any (t.join u).str w (by omega)
      rw [show caretsO (t.join u).str = some (t.join u).carets by simp [caretsO, hjo]] at hv4
      simp only [ansI, Option.getD_some, Option.isSome_some] at hv1 hv2 hv3 hv4
      simp only [ansV, trS, trB] at ha1 ha2 ha3 ha4 hq5
      have htk : t.carets ≤ 8 := ht
      generalize (t.join u).str = J at *
      generalize (t.com u).str = K at *
      generalize (t.join u).carets = n1 at *
      generalize (t.com u).carets = n2 at *
      generalize t.carets = n3 at *
      generalize u.carets = n4 at *
      have hsum' : (n3 : Int) + n4 = (n1 : Int) + n2 := by omega
      clear hcc hP hJ hC hsum
      refine (ha1 _).mono ?_; rintro e w32 ⟨rfl, hb⟩
      replace HB := Lib.hid (nx HB.out hb)
      clear hb
      go_wp2_with fail
      refine (ha2 _).mono ?_; rintro e w33 ⟨rfl, hb⟩
      replace HB := Lib.hid (nx HB.out hb)
      clear hb
      go_wp2_with fail
      refine (ha3 _).mono ?_; rintro e w34 ⟨rfl, hb⟩
      replace HB := Lib.hid (nx HB.out hb)
      clear hb
      go_wp2_with fail
      refine (ha4 _).mono ?_; rintro e w35 ⟨rfl, hb⟩
      replace HB := Lib.hid (nx HB.out hb)
      clear hb
      clear ha1 ha2 ha3 ha4
      go_wp2_with fail
      refine (hq1 _).mono ?_; rintro e w72 ⟨rfl, hb⟩
      replace HB := Lib.hid (nx HB.out hb)
      clear hb
      go_wp2_with fail
      refine (hq2 _).mono ?_; rintro e w73 ⟨rfl, hb⟩
      replace HB := Lib.hid (nx HB.out hb)
      clear hb
      go_wp2_with fail
      refine (hq3 _).mono ?_; rintro e w110 ⟨rfl, hb⟩
      replace HB := Lib.hid (nx HB.out hb)
      clear hb
      go_wp2_with fail
      refine (hq4 _).mono ?_; rintro e w111 ⟨rfl, hb⟩
      replace HB := Lib.hid (nx HB.out hb)
      clear hb
      go_wp2_with fail
      refine (hq5 _).mono ?_; rintro e w112 ⟨rfl, hb⟩
      replace HB := Lib.hid (nx HB.out hb)
      clear hb
      go_wp2_with fail
      refine (hv1 _).mono ?_; rintro e w113 ⟨rfl, hb⟩
      replace HB := Lib.hid (nx HB.out hb)
      clear hb
      go_wp2_with fail
      refine (hv2 _).mono ?_; rintro e w114 ⟨rfl, hb⟩
      replace HB := Lib.hid (nx HB.out hb)
      clear hb
      go_wp2_with fail
      refine (hv4 _).mono ?_; rintro e w115 ⟨rfl, hb⟩
      replace HB := Lib.hid (nx HB.out hb)
      clear hb
      go_wp2_with fail
      refine (hv3 _).mono ?_; rintro e w116 ⟨rfl, hb⟩
      replace HB := Lib.hid (nx HB.out hb)
      clear hb
      go_wp2_with fail
      clear hq1 hq2 hq3 hq4 hq5 hv1 hv2 hv3 hv4 hsum'
      refine (drawIsPartOf_any d _ (hd.keep HB.out)).mono ?_; rintro e w117 ⟨p, q, hp, hq, rfl, hb⟩
      replace HB := Lib.hid (nx HB.out hb)
      clear hb
      go_wp2_with fail
      have hp1 := fun w => implIsPartOf_any p q w (by omega) (by omega)
      have hp2 := fun w => specIsPartOf_any p q w (by omega) (by omega)
      have hp3 := fun w => implJoinTrees_any p q w (by omega) (by omega)
      rcases joined p q with ⟨hJ, hC, hP⟩ | ⟨t, u, rfl, rfl, ht, hu, hto, huo, hC, hP, hJ⟩
      · rw [hP] at hp1 hp2
        clear hJ hC hP hp3
        refine (hp1 _).mono ?_; rintro e w118 ⟨rfl, hb⟩
        replace HB := Lib.hid (nx HB.out hb)
        clear hb
        simp only [ansB]
        go_wp2_with fail
        refine (hp2 _).mono ?_; rintro e w119 ⟨rfl, hb⟩
        replace HB := Lib.hid (nx HB.out hb)
        clear hb
        simp only [ansB]
        go_wp2_with fail
        refine (drawSubtreeAt_any d _ (hd.keep HB.out)).mono ?_; rintro e w120 ⟨x1, x2, hx1, hx2, rfl, hb⟩
        replace HB := Lib.hid (nx HB.out hb)
        clear hb
        go_wp2_with fail
        refine (implSubtreeAt_any x1 x2 _ (by omega) (by omega)).mono ?_; rintro e w121 ⟨rfl, hb⟩
        replace HB := Lib.hid (nx HB.out hb)
        clear hb
        unfold ansV
        go_wp2_with fail
        refine (specSubtreeAt_any x1 x2 _ (by omega) (by omega)).mono ?_; rintro e w122 ⟨rfl, hb⟩
        replace HB := Lib.hid (nx HB.out hb)
        clear hb
        unfold ansV
        generalize trS (subO x1 x2) = y1
        generalize trB (subO x1 x2) = y2
        go_wp2_with fail
        refine (drawGraftAt_any c _ (hc.keep HB.out)).mono ?_; rintro e w123 ⟨x3, x4, k, hx3, hx4, hk1, hk2, rfl, hb⟩
        replace HB := Lib.hid (nx HB.out hb)
        clear hb
        go_wp2_with fail
        have hg1 := fun w => implGraftAt_any x3 k x4 w (by omega) (by omega) (by omega) (by omega)
        have hg2 := fun w => specGraftAt_any x3 k x4 w (by omega) (by omega) (by omega) (by omega)
        rcases graft_cases x3 k x4 with hG | ⟨t1, t2, n, rfl, rfl, rfl, ht1, ht2, hn1, ho1, hG⟩
        · rw [hG] at hg1 hg2
          clear hG
          refine (hg1 _).mono ?_; rintro e w124 ⟨rfl, hb⟩
          replace HB := Lib.hid (nx HB.out hb)
          clear hb
          simp only [ans2]
          go_wp2_with fail
          refine (hg2 _).mono ?_; rintro e w125 ⟨rfl, hb⟩
          replace HB := Lib.hid (nx HB.out hb)
          clear hb
          simp only [ans2]
          go_wp2_with fail
          go_ret
          exact ⟨by simp, HB.out⟩
        · rw [hG] at hg1 hg2
          have hA := fun w => implAddressesOf_any t1.str w (by omega)
          rw [show AddressesOf_o t1.str = some (t1.addrs ⟨#[]⟩) by simp [AddressesOf_o, ho1]] at hA
          have hln := addrs_length t1 ⟨#[]⟩
          obtain ⟨qq, hq1, hq2⟩ := sub_graft t1 t2 n ⟨#[]⟩ (by unfold Tr.leaves; omega)
          have hsz := addrs_size t1 ⟨#[]⟩
          have hgz : (t1.graft n t2).str.size ≤ 100 := by
            have := graft_carets t1 t2 n (by omega) (by unfold Tr.leaves; omega)
            rw [Tr.str_size]; omega
          have hgo : treeOf (t1.graft n t2).str = some (t1.graft n t2) := treeOf_str _ (by have := graft_carets t1 t2 n (by omega) (by unfold Tr.leaves; omega); omega)
          generalize t1.addrs ⟨#[]⟩ = A at *
          have hnA : n < A.length := by omega
          obtain ⟨x, hx⟩ : ∃ x, x = A.getD n ⟨#[]⟩ := ⟨_, rfl⟩
          have hxz : x.size ≤ 100 := by
            have := hsz x (by rw [hx]; exact getD_memT hnA)
            rw [empty_size] at this; omega
          have hS := fun w => implSubtreeAt_any (t1.graft n t2).str x w (by omega) (by omega)
          rw [show subO (t1.graft n t2).str x = some t2 by
            simp only [subO, hgo]
            rw [hx, hq1]
            simpa using hq2] at hS
          simp only [ansV, trS, trB] at hS
          generalize (t1.graft n t2).str = G at *
          generalize t2.str = T2 at *
          have HX := Lib.hid hx
          have HLN := Lib.hid hln
          clear hq1 hq2 hgo hsz hG hln hx
          refine (hg1 _).mono ?_; rintro e w126 ⟨rfl, hb⟩
          replace HB := Lib.hid (nx HB.out hb)
          clear hb
          simp only [ans2]
          go_wp2_with fail
          refine (hg2 _).mono ?_; rintro e w127 ⟨rfl, hb⟩
          replace HB := Lib.hid (nx HB.out hb)
          clear hb
          simp only [ans2]
          go_wp2_with fail
          clear hg1 hg2
          refine (hA _).mono ?_; rintro e w9 ⟨v, hO, hb, rfl⟩
          replace HB := Lib.hid (nx HB.out hb)
          obtain ⟨a1, cap1, hv, hI, hl1, hl2⟩ := (show OwnS _ _ v A from hO).flat
          subst hv
          obtain ⟨m, hm⟩ : ∃ m, m = A.length := ⟨_, rfl⟩
          have hR : ∃ g off, a1 = some ⟨g, off, none⟩ ∧ ReadS w9 g off A := by
            rcases hI with h | h
            · rw [h] at hnA; simp at hnA
            · exact h
          obtain ⟨g, off, rfl, R⟩ := hR
          have c1 := R n hnA
          rw [show A.getD n ⟨#[]⟩ = x from HX.out.symm] at c1
          rw [← hm] at hnA hl1 ⊢
          have HM := Lib.hid hm
          have hnA' : (n : Int) < (m : Int) := by omega
          clear hb hO hI hm R hA
          go_wp2_with fail
          refine (hS _).mono ?_; rintro e w128 ⟨rfl, hb⟩
          replace HB := Lib.hid (nx HB.out hb)
          clear hb
          go_wp2_with fail
          go_ret
          exact ⟨by simp, HB.out⟩
      · rw [hP] at hp1 hp2
        have hjs := join_str t u
        have htz := t.str_size
        have huz := u.str_size
        have hp1 : ∀ w, Calls Try.prog 34 #[.string t.str, .string u.str] w (Gives (.tuple #[.bool (t.part u), .bool true]) w) := fun w => by have := hp1 w; rwa [ansB_some] at this
        have hp2 : ∀ w, Calls Try.prog 36 #[.string t.str, .string u.str] w (Gives (.tuple #[.bool (t.part u), .bool true]) w) := fun w => by have := hp2 w; rwa [ansB_some] at this
        rcases hJ with hJ | ⟨hjc, hJ⟩
        · rw [hJ] at hp3
          generalize t.part u = B at *
          clear hJ hC hP hjs
          refine (hp1 _).mono ?_; rintro e w129 ⟨rfl, hb⟩
          replace HB := Lib.hid (nx HB.out hb)
          clear hb
          go_wp2_with fail
          refine (hp2 _).mono ?_; rintro e w130 ⟨rfl, hb⟩
          replace HB := Lib.hid (nx HB.out hb)
          clear hb
          go_wp2_with fail
          refine (hp3 _).mono ?_; rintro e w131 ⟨rfl, hb⟩
          replace HB := Lib.hid (nx HB.out hb)
          clear hb
          simp only [ansV, trS, trB]
          go_wp2_with fail
          refine (drawSubtreeAt_any d _ (hd.keep HB.out)).mono ?_; rintro e w132 ⟨x1, x2, hx1, hx2, rfl, hb⟩
          replace HB := Lib.hid (nx HB.out hb)
          clear hb
          go_wp2_with fail
          refine (implSubtreeAt_any x1 x2 _ (by omega) (by omega)).mono ?_; rintro e w133 ⟨rfl, hb⟩
          replace HB := Lib.hid (nx HB.out hb)
          clear hb
          unfold ansV
          go_wp2_with fail
          refine (specSubtreeAt_any x1 x2 _ (by omega) (by omega)).mono ?_; rintro e w134 ⟨rfl, hb⟩
          replace HB := Lib.hid (nx HB.out hb)
          clear hb
          unfold ansV
          generalize trS (subO x1 x2) = y1
          generalize trB (subO x1 x2) = y2
          go_wp2_with fail
          refine (drawGraftAt_any c _ (hc.keep HB.out)).mono ?_; rintro e w135 ⟨x3, x4, k, hx3, hx4, hk1, hk2, rfl, hb⟩
          replace HB := Lib.hid (nx HB.out hb)
          clear hb
          go_wp2_with fail
          have hg1 := fun w => implGraftAt_any x3 k x4 w (by omega) (by omega) (by omega) (by omega)
          have hg2 := fun w => specGraftAt_any x3 k x4 w (by omega) (by omega) (by omega) (by omega)
          rcases graft_cases x3 k x4 with hG | ⟨t1, t2, n, rfl, rfl, rfl, ht1, ht2, hn1, ho1, hG⟩
          · rw [hG] at hg1 hg2
            clear hG
            refine (hg1 _).mono ?_; rintro e w136 ⟨rfl, hb⟩
            replace HB := Lib.hid (nx HB.out hb)
            clear hb
            simp only [ans2]
            go_wp2_with fail
            refine (hg2 _).mono ?_; rintro e w137 ⟨rfl, hb⟩
            replace HB := Lib.hid (nx HB.out hb)
            clear hb
            simp only [ans2]
            go_wp2_with fail
            go_ret
            exact ⟨by simp, HB.out⟩
          · rw [hG] at hg1 hg2
            have hA := fun w => implAddressesOf_any t1.str w (by omega)
            rw [show AddressesOf_o t1.str = some (t1.addrs ⟨#[]⟩) by simp [AddressesOf_o, ho1]] at hA
            have hln := addrs_length t1 ⟨#[]⟩
            obtain ⟨qq, hq1, hq2⟩ := sub_graft t1 t2 n ⟨#[]⟩ (by unfold Tr.leaves; omega)
            have hsz := addrs_size t1 ⟨#[]⟩
            have hgz : (t1.graft n t2).str.size ≤ 100 := by
              have := graft_carets t1 t2 n (by omega) (by unfold Tr.leaves; omega)
              rw [Tr.str_size]; omega
            have hgo : treeOf (t1.graft n t2).str = some (t1.graft n t2) := treeOf_str _ (by have := graft_carets t1 t2 n (by omega) (by unfold Tr.leaves; omega); omega)
            generalize t1.addrs ⟨#[]⟩ = A at *
            have hnA : n < A.length := by omega
            obtain ⟨x, hx⟩ : ∃ x, x = A.getD n ⟨#[]⟩ := ⟨_, rfl⟩
            have hxz : x.size ≤ 100 := by
              have := hsz x (by rw [hx]; exact getD_memT hnA)
              rw [empty_size] at this; omega
            have hS := fun w => implSubtreeAt_any (t1.graft n t2).str x w (by omega) (by omega)
            rw [show subO (t1.graft n t2).str x = some t2 by
              simp only [subO, hgo]
              rw [hx, hq1]
              simpa using hq2] at hS
            simp only [ansV, trS, trB] at hS
            generalize (t1.graft n t2).str = G at *
            generalize t2.str = T2 at *
            have HX := Lib.hid hx
            have HLN := Lib.hid hln
            clear hq1 hq2 hgo hsz hG hln hx
            refine (hg1 _).mono ?_; rintro e w138 ⟨rfl, hb⟩
            replace HB := Lib.hid (nx HB.out hb)
            clear hb
            simp only [ans2]
            go_wp2_with fail
            refine (hg2 _).mono ?_; rintro e w139 ⟨rfl, hb⟩
            replace HB := Lib.hid (nx HB.out hb)
            clear hb
            simp only [ans2]
            go_wp2_with fail
            clear hg1 hg2
            refine (hA _).mono ?_; rintro e w9 ⟨v, hO, hb, rfl⟩
            replace HB := Lib.hid (nx HB.out hb)
            obtain ⟨a1, cap1, hv, hI, hl1, hl2⟩ := (show OwnS _ _ v A from hO).flat
            subst hv
            obtain ⟨m, hm⟩ : ∃ m, m = A.length := ⟨_, rfl⟩
            have hR : ∃ g off, a1 = some ⟨g, off, none⟩ ∧ ReadS w9 g off A := by
              rcases hI with h | h
              · rw [h] at hnA; simp at hnA
              · exact h
            obtain ⟨g, off, rfl, R⟩ := hR
            have c1 := R n hnA
            rw [show A.getD n ⟨#[]⟩ = x from HX.out.symm] at c1
            rw [← hm] at hnA hl1 ⊢
            have HM := Lib.hid hm
            have hnA' : (n : Int) < (m : Int) := by omega
            clear hb hO hI hm R hA
            go_wp2_with fail
            refine (hS _).mono ?_; rintro e w140 ⟨rfl, hb⟩
            replace HB := Lib.hid (nx HB.out hb)
            clear hb
            go_wp2_with fail
            go_ret
            exact ⟨by simp, HB.out⟩
        · rw [hJ] at hp3
          have hjz : (t.join u).str.size ≤ 100 := by rw [Tr.str_size]; omega
          generalize t.part u = B at *
          clear hJ hC hP
          refine (hp1 _).mono ?_; rintro e w141 ⟨rfl, hb⟩
          replace HB := Lib.hid (nx HB.out hb)
          clear hb
          go_wp2_with fail
          refine (hp2 _).mono ?_; rintro e w142 ⟨rfl, hb⟩
          replace HB := Lib.hid (nx HB.out hb)
          clear hb
          go_wp2_with fail
          simp only [ansV, trS, trB] at hp3
          generalize (t.join u).str = J at *
          refine (hp3 _).mono ?_; rintro e w143 ⟨rfl, hb⟩
          replace HB := Lib.hid (nx HB.out hb)
          clear hb
          go_wp2_with fail
          refine (drawSubtreeAt_any d _ (hd.keep HB.out)).mono ?_; rintro e w144 ⟨x1, x2, hx1, hx2, rfl, hb⟩
          replace HB := Lib.hid (nx HB.out hb)
          clear hb
          go_wp2_with fail
          refine (implSubtreeAt_any x1 x2 _ (by omega) (by omega)).mono ?_; rintro e w145 ⟨rfl, hb⟩
          replace HB := Lib.hid (nx HB.out hb)
          clear hb
          unfold ansV
          go_wp2_with fail
          refine (specSubtreeAt_any x1 x2 _ (by omega) (by omega)).mono ?_; rintro e w146 ⟨rfl, hb⟩
          replace HB := Lib.hid (nx HB.out hb)
          clear hb
          unfold ansV
          generalize trS (subO x1 x2) = y1
          generalize trB (subO x1 x2) = y2
          go_wp2_with fail
          refine (drawGraftAt_any c _ (hc.keep HB.out)).mono ?_; rintro e w147 ⟨x3, x4, k, hx3, hx4, hk1, hk2, rfl, hb⟩
          replace HB := Lib.hid (nx HB.out hb)
          clear hb
          go_wp2_with fail
          have hg1 := fun w => implGraftAt_any x3 k x4 w (by omega) (by omega) (by omega) (by omega)
          have hg2 := fun w => specGraftAt_any x3 k x4 w (by omega) (by omega) (by omega) (by omega)
          rcases graft_cases x3 k x4 with hG | ⟨t1, t2, n, rfl, rfl, rfl, ht1, ht2, hn1, ho1, hG⟩
          · rw [hG] at hg1 hg2
            clear hG
            refine (hg1 _).mono ?_; rintro e w148 ⟨rfl, hb⟩
            replace HB := Lib.hid (nx HB.out hb)
            clear hb
            simp only [ans2]
            go_wp2_with fail
            refine (hg2 _).mono ?_; rintro e w149 ⟨rfl, hb⟩
            replace HB := Lib.hid (nx HB.out hb)
            clear hb
            simp only [ans2]
            go_wp2_with fail
            go_ret
            exact ⟨by simp, HB.out⟩
          · rw [hG] at hg1 hg2
            have hA := fun w => implAddressesOf_any t1.str w (by omega)
            rw [show AddressesOf_o t1.str = some (t1.addrs ⟨#[]⟩) by simp [AddressesOf_o, ho1]] at hA
            have hln := addrs_length t1 ⟨#[]⟩
            obtain ⟨qq, hq1, hq2⟩ := sub_graft t1 t2 n ⟨#[]⟩ (by unfold Tr.leaves; omega)
            have hsz := addrs_size t1 ⟨#[]⟩
            have hgz : (t1.graft n t2).str.size ≤ 100 := by
              have := graft_carets t1 t2 n (by omega) (by unfold Tr.leaves; omega)
              rw [Tr.str_size]; omega
            have hgo : treeOf (t1.graft n t2).str = some (t1.graft n t2) := treeOf_str _ (by have := graft_carets t1 t2 n (by omega) (by unfold Tr.leaves; omega); omega)
            generalize t1.addrs ⟨#[]⟩ = A at *
            have hnA : n < A.length := by omega
            obtain ⟨x, hx⟩ : ∃ x, x = A.getD n ⟨#[]⟩ := ⟨_, rfl⟩
            have hxz : x.size ≤ 100 := by
              have := hsz x (by rw [hx]; exact getD_memT hnA)
              rw [empty_size] at this; omega
            have hS := fun w => implSubtreeAt_any (t1.graft n t2).str x w (by omega) (by omega)
            rw [show subO (t1.graft n t2).str x = some t2 by
              simp only [subO, hgo]
              rw [hx, hq1]
              simpa using hq2] at hS
            simp only [ansV, trS, trB] at hS
            generalize (t1.graft n t2).str = G at *
            generalize t2.str = T2 at *
            have HX := Lib.hid hx
            have HLN := Lib.hid hln
            clear hq1 hq2 hgo hsz hG hln hx
            refine (hg1 _).mono ?_; rintro e w150 ⟨rfl, hb⟩
            replace HB := Lib.hid (nx HB.out hb)
            clear hb
            simp only [ans2]
            go_wp2_with fail
            refine (hg2 _).mono ?_; rintro e w151 ⟨rfl, hb⟩
            replace HB := Lib.hid (nx HB.out hb)
            clear hb
            simp only [ans2]
            go_wp2_with fail
            clear hg1 hg2
            refine (hA _).mono ?_; rintro e w9 ⟨v, hO, hb, rfl⟩
            replace HB := Lib.hid (nx HB.out hb)
            obtain ⟨a1, cap1, hv, hI, hl1, hl2⟩ := (show OwnS _ _ v A from hO).flat
            subst hv
            obtain ⟨m, hm⟩ : ∃ m, m = A.length := ⟨_, rfl⟩
            have hR : ∃ g off, a1 = some ⟨g, off, none⟩ ∧ ReadS w9 g off A := by
              rcases hI with h | h
              · rw [h] at hnA; simp at hnA
              · exact h
            obtain ⟨g, off, rfl, R⟩ := hR
            have c1 := R n hnA
            rw [show A.getD n ⟨#[]⟩ = x from HX.out.symm] at c1
            rw [← hm] at hnA hl1 ⊢
            have HM := Lib.hid hm
            have hnA' : (n : Int) < (m : Int) := by omega
            clear hb hO hI hm R hA
            go_wp2_with fail
            refine (hS _).mono ?_; rintro e w152 ⟨rfl, hb⟩
            replace HB := Lib.hid (nx HB.out hb)
            clear hb
            go_wp2_with fail
            go_ret
            exact ⟨by simp, HB.out⟩
end Go.Proofs.Yteflpaebckichab

/-! Lw2 -/
namespace Go.Proofs.Yteflpaebckichab
open Go.RowKit

theorem rawB_nil (W : World) : RawB W ⟨none, 0, 0⟩ := ⟨by simp, .inl rfl⟩
theorem rawB_of {W : World} {x : Addr} {len cap : Nat} {zs : List Int} (h1 : len ≤ cap) (h2 : cap ≤ maxLen) (h3 : zs.length = cap) (h4 : ∀ i, i < zs.length → W.cell? (x.add i) = some (.int .u8 (zs.getD i 0))) (h5 : ∀ s ∈ zs, (Lit.int .u8 s).wf = true) :
    RawB W ⟨some x, len, cap⟩ := by
  unfold maxLen at h2
  refine ⟨by show (len : Int) ≤ _; omega, ?_⟩
  by_cases h0 : len = 0
  · exact .inl h0
  · right
    obtain ⟨b, off, spot⟩ := x
    have hc := h4 0 (by omega)
    have hspot : spot = none := by simpa [Addr.add] using World.cell?_spot hc
    subst hspot
    refine ⟨b, off, rfl, fun i hi => ?_⟩
    have hi2 : i < len := hi
    have := h4 i (by omega)
    have e : (⟨b, off, none⟩ : Addr).add i = ⟨b, off + i, none⟩ := by
      unfold Addr.add
      split
      · next h => rw [h]; simp
      · rfl
    rw [e] at this
    have hm : zs.getD i 0 ∈ zs := by
      rw [List.getD_eq_getElem?_getD, List.getElem?_eq_getElem (show i < zs.length by omega)]; exact List.getElem_mem _
    have hw := h5 _ hm
    have e1 : IntKind.u8.min = 0 := rfl
    have e2 : IntKind.u8.max = 255 := rfl
    simp only [Lit.wf, Bool.and_eq_true, decide_eq_true_eq] at hw
    refine ⟨(zs.getD i 0).toNat, by omega, ?_⟩
    rw [this, show (((zs.getD i 0).toNat : Nat) : Int) = zs.getD i 0 by omega]
end Go.Proofs.Yteflpaebckichab

/-! LFnTreesJoined -/
namespace Go.Proofs.Yteflpaebckichab.fnTreesJoined
open Go.ChangeShapes Go.WideShapes Go.ChangeAt Go.RowKit
open Go.ChangeMaps (open_string shut_string)
set_option linter.unusedVariables false

theorem own : ownKnob Try.prog.godebug = none := by kernel_rfl
theorem laidOut : laidOutB Try.prog = true := by kernel_rfl

set_option maxRecDepth 100000 in
theorem walked (W : World) (c d : Bts) (hc : RawB W c) (hd : RawB W d) : Calls Try.prog 4 #[.slice c.a c.n c.cap, .slice d.a d.n d.cap] W (SaysTrue W) := by
  by_cases hbig : c.n + d.n ≤ 1048576
  · exact treesJoined_law W c d ⟨by omega, hc.2⟩ ⟨by omega, hd.2⟩ hbig
  · go_enter Try.func4, Try.ntmps4
    go_wp2_with fail
    refine (big_yes c d _ hc.1 hd.1 (by omega)).mono ?_; rintro e w1 ⟨rfl, rfl⟩
    go_wp2_with fail
    go_ret
    exact ⟨rfl, Below.refl _ _⟩

set_option maxRecDepth 100000 in
theorem lifted (os : Os) (started : os.Started) (H : Type) (enc : TypeId × Value → H) :
    ReturnsInHanded {} Try.checked os 4 .any (Rows.fnTreesJoinedSpec.pre6 enc Try.prog Try.f4 Rows.fnTreesJoinedRow.domain false) (Rows.fnTreesJoinedSpec.post enc Try.prog Try.f4 false true false false) := by
  refine returnsInHanded_of_change (C := Try.checked) own started (by kernel_rfl) Try.func4
    (ChangeSpec.witness6 (enc := enc) (C := Try.checked) false ⟨#[], #[.slice none 0 0, .slice none 0 0], []⟩ 8 (by kernel_rfl) (by kernel_rfl) (by kernel_rfl) (by kernel_rfl)) ?_
  intro W base args ds gs before hval0 hW hcnd _
  have hval : ∀ (j : Nat) t v, Try.f4.params[j]? = some t → args[j]? = some v → Value.okWide Try.prog W .any base t v := hval0
  have hW' := hW
  obtain ⟨p, q, hA0, hV, rfl, hfz, hnd⟩ := hW
  have hA : DataW.TrodAll enc Try.prog W 0 (fun _ => true) true Try.f4.params.toList args.toList ds p := hA0
  rw [Try.params4] at hA hval
  obtain ⟨v0, vs0, d0, ds0, p0, q0, hargs, rfl, rfl, h0, r0⟩ := trodAll_cons hA
  obtain ⟨v1, vs1, d1, ds1, p1, q1, rfl, rfl, rfl, h1, r1⟩ := trodAll_cons r0
  obtain ⟨rfl, rfl, rfl⟩ := trodAll_nil r1
  obtain rfl : args = #[v0, v1] := by cases args; simp_all
  obtain ⟨rfl, rfl⟩ := trodVars_none hV
  obtain ⟨a0, len0, cap0, rfl⟩ := okWide_slice Try.underlying22 (hval 0 22 v0 rfl rfl)
  have k0 := h0
  have lt0 : ∀ x ∈ p0, x.block < W.heap.size := by obtain ⟨m, hm⟩ := k0; exact DataW.trod_lt m _ _ _ hm
  have w0 : RawB W ⟨a0, len0, cap0⟩ := by
    obtain ⟨fuel, hf⟩ := h0
    rcases open_ints Try.underlying22 Try.underlying5 (by kernel_rfl) hf with ⟨hcs, _⟩ | ⟨x, l, c, zs, hcs, _, hl, hm, hz, _, hcell, hwz⟩
    · simp [Value.cells] at hcs
      obtain ⟨rfl, rfl, rfl⟩ := hcs
      exact rawB_nil W
    · simp [Value.cells] at hcs
      obtain ⟨rfl, rfl, rfl⟩ := hcs
      exact rawB_of hl hm (by simpa using hz) hcell hwz
  obtain ⟨a1, len1, cap1, rfl⟩ := okWide_slice Try.underlying22 (hval 1 22 v1 rfl rfl)
  have k1 := h1
  have lt1 : ∀ x ∈ p1, x.block < W.heap.size := by obtain ⟨m, hm⟩ := k1; exact DataW.trod_lt m _ _ _ hm
  have w1 : RawB W ⟨a1, len1, cap1⟩ := by
    obtain ⟨fuel, hf⟩ := h1
    rcases open_ints Try.underlying22 Try.underlying5 (by kernel_rfl) hf with ⟨hcs, _⟩ | ⟨x, l, c, zs, hcs, _, hl, hm, hz, _, hcell, hwz⟩
    · simp [Value.cells] at hcs
      obtain ⟨rfl, rfl, rfl⟩ := hcs
      exact rawB_nil W
    · simp [Value.cells] at hcs
      obtain ⟨rfl, rfl, rfl⟩ := hcs
      exact rawB_of hl hm (by simpa using hz) hcell hwz
  clear hA0 hval0
  simp only [List.append_nil] at hW'
  refine (walked W ⟨a0, len0, cap0⟩ ⟨a1, len1, cap1⟩ w0 w1).mono fun e W' ⟨he, bel⟩ => ?_
  subst he
  exact ⟨_, rfl, _, _, _, [], _, [], hW', trodAll_mk1 (shut_bool Try.underlying4 _), (trodAll_cons_mk (Below.trod laidOut (by kernel_rfl) (of_decide_eq_true (by kernel_rfl)) k0 bel lt0) (trodAll_cons_mk (Below.trod laidOut (by kernel_rfl) (of_decide_eq_true (by kernel_rfl)) k1 bel lt1) trodAll_mk0)), rfl, bel.frame _, fun h => by cases h⟩

theorem over : Rows.fnTreesJoinedRow.holds Try.pinned (OpenSpec.ofChange Rows.fnTreesJoinedSpec) :=
  OpenClaim.holds_of_wide 4 Try.f4 rfl rfl rfl rfl rfl rfl rfl ⟨rfl, rfl, rfl, rfl, rfl⟩ rfl rfl rfl rfl rfl (by kernel_rfl) Try.func4 (by kernel_rfl)
    (of_decide_eq_true (by kernel_rfl)) (by unfold Func.isWrapper; first | (rw [if_pos (by decide +kernel)]; kernel_rfl) | (rw [if_neg (by decide +kernel)]; exact ⟨rfl, rfl⟩))
    (fun os started H enc _ => lifted os started H enc)

theorem proved : Rows.FnTreesJoinedSaid := over
#print axioms proved
end Go.Proofs.Yteflpaebckichab.fnTreesJoined
