/- FnTreesByAddresses: for every input the law returns true and leaves its arguments as they were. No conditions. -/
import Derived.Test.YteflpaebckichabMgTreesByAddresses1
import Derived.ProofKit
import Derived.OpenShut
import Derived.ShutString
import Derived.ChangeOld
import Derived.Below
/-! Graft -/
namespace Go.Proofs.Yteflpaebckichab
open Go.RowKit

theorem trLeaves_yes (t : Tr) (n : Int) (w : World) (h : t.carets ≤ 8) (h1 : 0 ≤ n) (h2 : n ≤ t.carets) :
    Calls Try.prog 112 #[.string t.str, .int .i64 n] w fun e w' => e = .returned (.bool true) ∧ w = w' := by
  go_enter Try.func112, Try.ntmps112
  go_wp2_with fail
  refine (trIs_yes t _ h).mono ?_; rintro e w1 ⟨rfl, rfl⟩
  go_wp2_with fail
  refine (carets_str t _ (by omega)).mono ?_; rintro e w1 ⟨rfl, rfl⟩
  go_wp2_with fail
  refine (l1In_yes n 0 t.carets _ h1 h2).mono ?_; rintro e w1 ⟨rfl, rfl⟩
  go_wp2_with fail
  go_ret
  exact ⟨rfl, rfl⟩
theorem trLeaves_out (t : Tr) (n : Int) (w : World) (h : t.carets ≤ 8) (h1 : n < 0 ∨ t.carets < n) :
    Calls Try.prog 112 #[.string t.str, .int .i64 n] w fun e w' => e = .returned (.bool false) ∧ w = w' := by
  have H := Lib.hid h1
  clear h1
  go_enter Try.func112, Try.ntmps112
  go_wp2_with fail
  refine (trIs_yes t _ h).mono ?_; rintro e w1 ⟨rfl, rfl⟩
  go_wp2_with fail
  refine (carets_str t _ (by omega)).mono ?_; rintro e w1 ⟨rfl, rfl⟩
  go_wp2_with fail
  refine (l1In_no n 0 t.carets _ H.out).mono ?_; rintro e w1 ⟨rfl, rfl⟩
  go_wp2_with fail
  go_ret
  exact ⟨rfl, rfl⟩
theorem trLeaves_no (s : ByteArray) (n : Int) (w : World) (hs : s.size ≤ 9223372036854775806) (h : treeOf s = none) :
    Calls Try.prog 112 #[.string s, .int .i64 n] w fun e w' => e = .returned (.bool false) ∧ w = w' := by
  have H := Lib.hid h
  clear h
  go_enter Try.func112, Try.ntmps112
  go_wp2_with fail
  refine (trIs_no s _ hs H.out).mono ?_; rintro e w1 ⟨rfl, rfl⟩
  go_wp2_with fail
  go_ret
  exact ⟨rfl, rfl⟩

theorem limitS_yes (s : ByteArray) (w : World) (h : (s.size : Int) ≤ 25) : Calls Try.prog 94 #[.string s] w fun e w' => e = .returned (.tuple #[.string s, .bool true]) ∧ w = w' := by
  go_enter Try.func94, Try.ntmps94
  go_wp2_with fail
  go_ret2
  exact ⟨rfl, rfl⟩
theorem limitS_no (s : ByteArray) (w : World) (h : 25 < (s.size : Int)) : Calls Try.prog 94 #[.string s] w fun e w' => e = .returned (.tuple #[.string ⟨#[]⟩, .bool false]) ∧ w = w' := by
  go_enter Try.func94, Try.ntmps94
  go_wp2_with fail
  go_ret2
  exact ⟨rfl, rfl⟩

def graftO (a : ByteArray) (n : Int) (b : ByteArray) : Option ByteArray :=
  match treeOf a, treeOf b with
  | some t, some u => if 0 ≤ n ∧ n ≤ t.carets ∧ t.carets + u.carets ≤ 8 then some (graftS a n b) else none
  | _, _ => none

set_option maxHeartbeats 400000 in
theorem specGraftAt_any (a : ByteArray) (n : Int) (b : ByteArray) (w : World) (ha : a.size ≤ 9223372036854775806) (hb : b.size ≤ 9223372036854775806) (_hn' : -9223372036854775808 ≤ n) (hn : n ≤ 9223372036854775807) :
    Calls Try.prog 41 #[.string a, .int .i64 n, .string b] w (Gives (ans2 (graftO a n b)) w) := by
  cases h : treeOf a with
  | none =>
    rw [show graftO a n b = none by simp [graftO, h]]
    have H := Lib.hid h
    clear h
    go_enter Try.func41, Try.ntmps41
    go_wp2_with fail
    refine (trLeaves_no a n _ ha H.out).mono ?_; rintro e w1 ⟨rfl, rfl⟩
    go_wp2_with fail
    go_ret2
    exact ⟨rfl, Below.refl _ _⟩
  | some t =>
    obtain ⟨rfl, hc⟩ := treeOf_some h
    have hp := pos_str t n
    by_cases hr : n < 0 ∨ t.carets < n
    · rw [show graftO t.str n b = none by simp only [graftO, h]; cases treeOf b with | none => rfl | some u => simp only; rw [if_neg (by omega)]]
      have H := Lib.hid hr
      clear h hr hp
      go_enter Try.func41, Try.ntmps41
      go_wp2_with fail
      refine (trLeaves_out t n _ hc H.out).mono ?_; rintro e w1 ⟨rfl, rfl⟩
      go_wp2_with fail
      go_ret2
      exact ⟨rfl, Below.refl _ _⟩
    · have hr1 : 0 ≤ n := by omega
      have hr2 : n ≤ t.carets := by omega
      have hq : Hid (0 ≤ posFrom t.str.data.toList 0 n) := show _ ≤ _ by omega
      clear hr hp
      cases k : treeOf b with
      | none =>
        rw [show graftO t.str n b = none by simp [graftO, k]]
        have H := Lib.hid k
        clear h k
        go_enter Try.func41, Try.ntmps41
        go_wp2_with fail
        refine (trLeaves_yes t n _ hc hr1 hr2).mono ?_; rintro e w1 ⟨rfl, rfl⟩
        go_wp2_with fail
        refine (trIs_no b _ hb H.out).mono ?_; rintro e w1 ⟨rfl, rfl⟩
        go_wp2_with fail
        go_ret2
        exact ⟨rfl, Below.refl _ _⟩
      | some u =>
        obtain ⟨rfl, hd⟩ := treeOf_some k
        have st := t.str_size
        have su := u.str_size
        by_cases hz : (t.carets : Int) + u.carets ≤ 8
        · rw [show graftO t.str n u.str = some (graftS t.str n u.str) by simp only [graftO, h, k]; rw [if_pos (by omega)]]
          clear h k
          go_enter Try.func41, Try.ntmps41
          go_wp2_with fail
          refine (trLeaves_yes t n _ hc hr1 hr2).mono ?_; rintro e w1 ⟨rfl, rfl⟩
          go_wp2_with fail
          refine (trIs_yes u _ hd).mono ?_; rintro e w1 ⟨rfl, rfl⟩
          go_wp2_with fail
          refine (carets_str t _ (by omega)).mono ?_; rintro e w1 ⟨rfl, rfl⟩
          go_wp2_with fail
          refine (carets_str u _ (by omega)).mono ?_; rintro e w1 ⟨rfl, rfl⟩
          go_wp2_with fail
          refine (trGraft_any t.str u.str n _ (by omega) (by omega) hr1 hn hq.out).mono ?_; rintro e w1 ⟨rfl, hb1⟩
          go_wp2_with fail
          go_ret2
          exact ⟨rfl, hb1⟩
        · rw [show graftO t.str n u.str = none by simp only [graftO, h, k]; rw [if_neg (by omega)]]
          clear h k
          go_enter Try.func41, Try.ntmps41
          go_wp2_with fail
          refine (trLeaves_yes t n _ hc hr1 hr2).mono ?_; rintro e w1 ⟨rfl, rfl⟩
          go_wp2_with fail
          refine (trIs_yes u _ hd).mono ?_; rintro e w1 ⟨rfl, rfl⟩
          go_wp2_with fail
          refine (carets_str t _ (by omega)).mono ?_; rintro e w1 ⟨rfl, rfl⟩
          go_wp2_with fail
          refine (carets_str u _ (by omega)).mono ?_; rintro e w1 ⟨rfl, rfl⟩
          go_wp2_with fail
          go_ret2
          exact ⟨rfl, Below.refl _ _⟩

set_option maxRecDepth 100000 in
set_option maxHeartbeats 1000000 in
theorem leafPlace_neg (s : ByteArray) (n : Int) (w : World) (hs : s.size ≤ 1000) (hn : n < 0) (hn' : -9223372036854775808 ≤ n) :
    Calls Try.prog 93 #[.string s, .int .i64 n] w (Quietly (.int .i64 (-1)) w) := by
  go_enter Try.func93, Try.ntmps93
  go_wp2_with fail
  go_loopw [1, 8] (fun v i wr => ∃ (k : Nat) (m : Int) (d : Nat), k ≤ s.size ∧ i = .int .i64 k ∧ v = .int .i64 m ∧ -9223372036854775808 ≤ m ∧ m ≤ 9223372036854775807 ∧ Hid (m < 0 ∨ 9223372036854775807 - (k : Int) ≤ m) ∧ wr = w.drewN d) (fun _ i _ => s.size - (intOf i).toNat)
  case atStart => exact ⟨0, n, 0, Nat.zero_le _, rfl, rfl, by omega, by omega, .inl hn, rfl⟩
  case round =>
    obtain ⟨k, m, d, hk, rfl, rfl, hm, hm', hor, rfl⟩ := hrel
    by_cases hlt : k < s.size
    · cases h46 : (((s[k]'hlt).toNat : Int) == 46) with
      | true =>
        have h46' : Hid ((((s[k]'hlt).toNat : Int) != 46) = false) := by show (_ != _) = false; rw [bne, h46]; rfl
        clear h46
        have g0 : (m == 0) = false := by have := hor.out; simp; omega
        by_cases hmin : m = -9223372036854775808
        · obtain rfl := hmin
          go_wp2_with fail
          have g := h46'.out
          have gz : ((⟨#[46]⟩ : ByteArray)[0]'(by decide)).toNat = 46 := rfl
          go_quiet (fail)
          go_wp2_with fail
          clear g gz g0
          go_roundw
          case rel => exact ⟨k + 1, 9223372036854775807, _, by omega, by go_num, by unfold wrap64; rfl, by omega, by omega, .inr (by omega), rfl⟩
          case measure => simp [intOf]; omega
        · have hm2 : -9223372036854775807 ≤ m := by omega
          clear hmin
          go_wp2_with fail
          have g := h46'.out
          have gz : ((⟨#[46]⟩ : ByteArray)[0]'(by decide)).toNat = 46 := rfl
          go_quiet (fail)
          go_wp2_with fail
          clear g gz g0
          go_roundw
          case rel => exact ⟨k + 1, m - 1, _, by omega, by go_num, rfl, by omega, by omega, by have := hor.out; show _ ∨ _; omega, rfl⟩
          case measure => simp [intOf]; omega
      | false =>
        have h46' : Hid ((((s[k]'hlt).toNat : Int) != 46) = true) := by show (_ != _) = true; rw [bne, h46]; rfl
        clear h46
        go_wp2_with fail
        have g := h46'.out
        have gz : ((⟨#[46]⟩ : ByteArray)[0]'(by decide)).toNat = 46 := rfl
        go_quiet (fail)
        go_wp2_with fail
        clear g gz
        go_roundw
        case rel => exact ⟨k + 1, m, _, by omega, by go_num, rfl, by omega, by omega, by have := hor.out; show _ ∨ _; omega, rfl⟩
        case measure => simp [intOf]; omega
    · obtain rfl : k = s.size := by omega
      go_wp2_with fail
      go_ret
      exact ⟨rfl, _, rfl⟩

set_option maxHeartbeats 400000 in
theorem implGraftAt_any (a : ByteArray) (n : Int) (b : ByteArray) (w : World) (ha : a.size ≤ 9223372036854775806) (hb : b.size ≤ 9223372036854775806) (hn' : -9223372036854775808 ≤ n) (hn : n ≤ 9223372036854775807) :
    Calls Try.prog 24 #[.string a, .int .i64 n, .string b] w (Gives (ans2 (graftO a n b)) w) := by
  cases h : treeOf a with
  | none =>
    rw [show graftO a n b = none by simp [graftO, h]]
    have H := Lib.hid h
    clear h
    go_enter Try.func24, Try.ntmps24
    go_wp2_with fail
    refine (implIsTree_no a _ ha H.out).mono ?_; rintro e w1 ⟨hb1, rfl⟩
    go_wp2_with fail
    go_ret2
    exact ⟨rfl, hb1⟩
  | some t =>
    obtain ⟨rfl, hc⟩ := treeOf_some h
    have st := t.str_size
    cases k : treeOf b with
    | none =>
      rw [show graftO t.str n b = none by simp [graftO, k]]
      have H := Lib.hid k
      clear h k
      go_enter Try.func24, Try.ntmps24
      go_wp2_with fail
      refine (implIsTree_yes t _ hc).mono ?_; rintro e w1 ⟨hb1, rfl⟩
      go_wp2_with fail
      refine (implIsTree_no b _ hb H.out).mono ?_; rintro e w2 ⟨hb2, rfl⟩
      go_wp2_with fail
      go_ret2
      exact ⟨rfl, nx hb1 hb2⟩
    | some u =>
      obtain ⟨rfl, hd⟩ := treeOf_some k
      have su := u.str_size
      rcases pos_str t n with ⟨hn0, hn1, hp0, hp1⟩ | ⟨hout, hp⟩
      · have gs := graft_size t n u.str hp0 hp1
        have HG : graftO t.str n u.str = if (t.carets : Int) + u.carets ≤ 8 then some (graftS t.str n u.str) else none := by
          simp only [graftO, h, k]
          by_cases hz : (t.carets : Int) + u.carets ≤ 8
          · rw [if_pos hz, if_pos (by omega)]
          · rw [if_neg hz, if_neg (by omega)]
        clear h k
        obtain ⟨q, hq⟩ : ∃ q : Nat, posFrom t.str.data.toList 0 n = q := ⟨(posFrom t.str.data.toList 0 n).toNat, by omega⟩
        have hgr : graftS t.str n u.str = t.str.extract 0 q ++ u.str ++ t.str.extract (q + 1) t.str.size := by unfold graftS; rw [hq]; rfl
        have hlq : q < t.str.size := by omega
        have hzt : t.str.size ≤ 1000 := by omega
        have hzu : u.str.size ≤ 1000 := by omega
        have hc3 := leafPlace_any t.str n
        rw [hq] at hc3
        have HQ := Lib.hid hgr
        have GS := Lib.hid gs
        by_cases hz : (t.carets : Int) + u.carets ≤ 8
        · rw [HG, if_pos hz]
          have hsz : Hid (((t.str.extract 0 q ++ u.str ++ t.str.extract (q + 1) t.str.size).size : Int) ≤ 25) := by
            show _ ≤ _
            rw [← hgr, gs]; omega
          clear HG hq hgr gs hp0 hp1 st su
          go_enter Try.func24, Try.ntmps24
          go_wp2_with fail
          refine (implIsTree_yes t _ hc).mono ?_; rintro e w1 ⟨hb1, rfl⟩
          go_wp2_with fail
          refine (implIsTree_yes u _ hd).mono ?_; rintro e w2 ⟨hb2, rfl⟩
          go_wp2_with fail
          refine (hc3 _ ha hn0 hn).mono ?_; rintro e w3 ⟨rfl, d, hw3⟩; have hb3 : Below w.heap.size w w3 := by rw [hw3]; exact drewB (nx hb1 hb2) d
          clear hw3
          go_wp2_with fail
          have hq1 : (q : Int) ≤ (t.str.size : Int) := by omega
          have hq2 : (q : Int) + 1 ≤ (t.str.size : Int) := by omega
          go_quiet ((go_at_call 94; exact quiet_eq (limitS_yes _ _ hsz.out)))
          go_wp2_with fail
          go_ret2
          exact ⟨by rw [HQ.out]; rfl, drewB hb3 _⟩
        · rw [HG, if_neg hz]
          have hsz : Hid (25 < ((t.str.extract 0 q ++ u.str ++ t.str.extract (q + 1) t.str.size).size : Int)) := by
            show _ < _
            rw [← hgr, gs]; omega
          clear HG hq hgr gs hp0 hp1 st su
          go_enter Try.func24, Try.ntmps24
          go_wp2_with fail
          refine (implIsTree_yes t _ hc).mono ?_; rintro e w1 ⟨hb1, rfl⟩
          go_wp2_with fail
          refine (implIsTree_yes u _ hd).mono ?_; rintro e w2 ⟨hb2, rfl⟩
          go_wp2_with fail
          refine (hc3 _ ha hn0 hn).mono ?_; rintro e w3 ⟨rfl, d, hw3⟩; have hb3 : Below w.heap.size w w3 := by rw [hw3]; exact drewB (nx hb1 hb2) d
          clear hw3
          go_wp2_with fail
          have hq1 : (q : Int) ≤ (t.str.size : Int) := by omega
          have hq2 : (q : Int) + 1 ≤ (t.str.size : Int) := by omega
          go_quiet ((go_at_call 94; exact quiet_eq (limitS_no _ _ hsz.out)))
          go_wp2_with fail
          go_ret2
          exact ⟨rfl, drewB hb3 _⟩
      · have HG : graftO t.str n u.str = none := by
          simp only [graftO, h, k]
          rw [if_neg (by omega)]
        rw [HG]
        have hl : ∀ w, Calls Try.prog 93 #[.string t.str, .int .i64 n] w (Quietly (.int .i64 (-1)) w) := by
          intro w
          by_cases hneg : n < 0
          · exact leafPlace_neg t.str n w (by omega) hneg hn'
          · have := leafPlace_any t.str n w ha (by omega) hn
            rwa [hp] at this
        clear HG hp h k hout st su
        go_enter Try.func24, Try.ntmps24
        go_wp2_with fail
        refine (implIsTree_yes t _ hc).mono ?_; rintro e w1 ⟨hb1, rfl⟩
        go_wp2_with fail
        refine (implIsTree_yes u _ hd).mono ?_; rintro e w2 ⟨hb2, rfl⟩
        go_wp2_with fail
        refine (hl _).mono ?_; rintro e w3 ⟨rfl, d, rfl⟩
        go_wp2_with fail
        go_ret2
        exact ⟨rfl, drewB (nx hb1 hb2) _⟩
end Go.Proofs.Yteflpaebckichab

/-! Drop -/
namespace Go.Proofs.Yteflpaebckichab
open Go.RowKit

set_option maxRecDepth 100000 in
set_option maxHeartbeats 1000000 in
theorem trDrop_any (s : ByteArray) (n : Int) (q : Nat) (w : World) (hs : s.size ≤ 1000) (hn : 0 ≤ n) (hn' : n ≤ 9223372036854775807) (hp : posFrom s.data.toList 0 n = (q : Int) + 1) (hq : q + 4 ≤ s.size) :
    Calls Try.prog 102 #[.string s, .int .i64 n] w (Gives (.string (dropS s q)) w) := by
  have HP0 := Lib.hid hp
  clear hp
  go_enter Try.func102, Try.ntmps102
  go_wp2_with fail
  go_loopw [5, 6] (fun v i wr => ∃ (k : Nat) (c : Int), k ≤ s.size ∧ i = .int .i64 k ∧ v = .int .i64 c ∧ 0 ≤ c ∧ c ≤ n ∧ c ≤ k ∧ wr = w ∧ Hid (posFrom s.data.toList 0 n = posFrom (s.data.toList.drop k) k (n - c))) (fun _ i _ => s.size - (intOf i).toNat)
  case atStart => exact ⟨0, 0, Nat.zero_le _, rfl, rfl, by omega, by omega, by omega, rfl, by show _ = _; simp⟩
  case round =>
    obtain ⟨k, c, hk, rfl, rfl, hc1, hc2, hck, rfl, he⟩ := hrel
    by_cases hlt : k < s.size
    · cases h46 : (((s[k]'hlt).toNat : Int) == 46) with
      | true =>
        have h46n : Hid ((((s[k]'hlt).toNat : Int) != 46) = false) := by show (_ != _) = false; rw [bne, h46]; rfl
        have hp := posFrom_dot (off := k) (n := n - c) hlt h46
        have HP := Lib.hid hp
        clear hp h46
        by_cases hm0 : c = n
        · have g0 : (c == n) = true := by simp [hm0]
          have hkq : k = q + 1 := by
            have h1 := he.out
            rw [HP.out, if_pos (by omega), HP0.out] at h1
            omega
          have HM := Lib.hid hm0
          have HKQ := Lib.hid hkq
          have hk1 : (1 : Int) ≤ k := by omega
          have hk3 : (k : Int) + 3 ≤ s.size := by omega
          clear hm0 hkq
          have g := h46n.out
          go_wp2_with fail
          clear g g0
          go_quiet (fail)
          go_wp2_with fail
          go_ret
          exact ⟨ret_str (by unfold dropS; rw [HKQ.out, Nat.add_sub_cancel]), drewB (Below.refl _ _) _⟩
        · have g0 : (c == n) = false := by simp [hm0]
          have HM := Lib.hid hm0
          have hlt2 : c < n := by omega
          clear hm0
          have g := h46n.out
          go_wp2_with fail
          clear g g0
          go_roundw
          case rel => exact ⟨k + 1, c + 1, by omega, by go_num, rfl, by omega, by omega, by omega, trivial, by show _ = _; rw [he.out, HP.out, if_neg (by omega)]; congr 1; omega⟩
          case measure => simp [intOf]; omega
      | false =>
        have h46n : Hid ((((s[k]'hlt).toNat : Int) != 46) = true) := by show (_ != _) = true; rw [bne, h46]; rfl
        have hp := posFrom_other (off := k) (n := n - c) hlt h46
        have HP := Lib.hid hp
        clear hp h46
        have g := h46n.out
        go_wp2_with fail
        clear g
        go_roundw
        case rel => exact ⟨k + 1, c, by omega, by go_num, rfl, by omega, by omega, by omega, trivial, by show _ = _; rw [he.out, HP.out]⟩
        case measure => simp [intOf]; omega
    · obtain rfl : k = s.size := by omega
      exfalso
      have h1 := he.out
      rw [posFrom_end, HP0.out] at h1
      omega

def dropExpO (a : ByteArray) (n : Int) : Option ByteArray :=
  match treeOf a with
  | some _ => dropO a n
  | none => none

theorem has_exL (l : List UInt8) (n : Int) : (exL l 0).contains n = dropB l n := by
  rw [Bool.eq_iff_iff, List.contains_iff_mem, mem_exL]
  simp

set_option maxHeartbeats 400000 in
theorem specDropExposed_any (a : ByteArray) (n : Int) (w : World) (ha : a.size ≤ 9223372036854775806) (_lo : -9223372036854775808 ≤ n) (hi : n ≤ 9223372036854775807) :
    Calls Try.prog 28 #[.string a, .int .i64 n] w (Gives (ans2 (dropExpO a n)) w) := by
  cases h : treeOf a with
  | none =>
    rw [show dropExpO a n = none by simp [dropExpO, h]]
    have H := Lib.hid h
    clear h
    go_enter Try.func28, Try.ntmps28
    go_wp2_with fail
    refine (trIs_no a _ ha H.out).mono ?_; rintro e w1 ⟨rfl, rfl⟩
    go_wp2_with fail
    go_ret2
    exact ⟨rfl, Below.refl _ _⟩
  | some t =>
    rw [show dropExpO a n = dropO a n by simp [dropExpO, h]]
    obtain ⟨rfl, hc⟩ := treeOf_some h
    have st := t.str_size
    clear h
    have hex := trExposed_any t.str
    have hhas := fun b v w h => l1Has_any b v (exL t.str.data.toList 0) n w h
    simp only [has_exL] at hhas
    unfold dropO
    cases hd : dropB t.str.data.toList n with
    | false =>
      rw [hd] at hhas
      clear hd
      go_enter Try.func28, Try.ntmps28
      go_wp2_with fail
      refine (trIs_yes t _ hc).mono ?_; rintro e w1 ⟨rfl, rfl⟩
      go_wp2_with fail
      refine (hex _ (by omega)).mono ?_; rintro e w1 ⟨v, own, hb1, rfl⟩
      go_wp2_with fail
      refine (hhas _ _ _ own.cells).mono ?_; rintro e w2 ⟨rfl, d, rfl⟩
      go_wp2_with fail
      go_ret2
      exact ⟨rfl, drewB hb1 _⟩
    | true =>
      obtain ⟨q, hp, hq, hE, hn0⟩ := dropB_true hd
      rw [hd] at hhas
      have hv : Hid ((posFrom t.str.data.toList 0 n).toNat - 1 = q) := by show _ = _; rw [hp]; omega
      have HP := Lib.hid hp
      clear hd hE hp
      go_enter Try.func28, Try.ntmps28
      go_wp2_with fail
      refine (trIs_yes t _ hc).mono ?_; rintro e w1 ⟨rfl, rfl⟩
      go_wp2_with fail
      refine (hex _ (by omega)).mono ?_; rintro e w1 ⟨v, own, hb1, rfl⟩
      go_wp2_with fail
      refine (hhas _ _ _ own.cells).mono ?_; rintro e w2 ⟨rfl, d, hw2⟩
      have hb2 : Below w.heap.size w w2 := by rw [hw2]; exact drewB hb1 d
      clear hw2
      go_wp2_with fail
      refine (trDrop_any t.str n q _ (by omega) hn0 hi HP.out hq).mono ?_; rintro e w3 ⟨rfl, hb3⟩
      go_wp2_with fail
      go_ret2
      exact ⟨by rw [hv.out]; rfl, nx hb2 hb3⟩

set_option maxHeartbeats 1000000 in
theorem withoutExposed_any (s : ByteArray) (n : Int) (w : World) (hsm : s.size ≤ 1000) (lo : -9223372036854775808 ≤ n) (hi : n ≤ 9223372036854775807) :
    Calls Try.prog 92 #[.string s, .int .i64 n] w (Gives (ans2 (dropO s n)) w) := by
  have hl : ∀ w, Calls Try.prog 93 #[.string s, .int .i64 n] w (Quietly (.int .i64 (posFrom s.data.toList 0 n)) w) := by
    intro w
    by_cases hneg : n < 0
    · rw [posFrom_neg _ _ _ hneg]; exact leafPlace_neg s n w hsm hneg lo
    · exact leafPlace_any s n w (by omega) (by omega) hi
  have hr := posFrom_range s.data.toList 0 n
  have hrl : s.data.toList.length = s.size := (Lib.size_eq _).symm
  by_cases h1 : posFrom s.data.toList 0 n < 1
  · have hnone : dropO s n = none := by
      unfold dropO
      rw [if_neg]
      intro e
      obtain ⟨q, hp, _⟩ := dropB_true e
      omega
    rw [hnone]
    have hr' : -1 ≤ posFrom s.data.toList 0 n := by omega
    obtain ⟨p, hp⟩ : ∃ p, p = posFrom s.data.toList 0 n := ⟨_, rfl⟩
    rw [← hp] at hl h1 hr'
    clear hp hnone hr hrl
    go_enter Try.func92, Try.ntmps92
    go_wp2_with fail
    refine (hl _).mono ?_; rintro e w2 ⟨rfl, d, rfl⟩
    go_wp2_with fail
    go_ret2
    exact ⟨rfl, drewB (Below.refl _ _) _⟩
  · obtain ⟨q, hp⟩ : ∃ q : Nat, posFrom s.data.toList 0 n = (q : Int) + 1 := ⟨(posFrom s.data.toList 0 n).toNat - 1, by omega⟩
    have hql : (q : Int) ≤ s.size := by omega
    have hpc := hasPrefixS_any (s.extract q s.size) (ByteArray.mk #[40, 46, 46, 41])
    rw [expB_from] at hpc
    have hsz : (s.extract q s.size).size ≤ 9223372036854775806 := by simp; omega
    have hdB : dropB s.data.toList n = expB (s.data.toList.drop q) := by
      unfold dropB
      rw [hp]
      have t2 : ((q : Int) + 1).toNat - 1 = q := by omega
      rw [t2, decide_eq_true (by omega : 1 ≤ (q : Int) + 1), Bool.true_and]
    have hv : Hid ((posFrom s.data.toList 0 n).toNat - 1 = q) := by show _ = _; rw [hp]; omega
    rw [hp] at hl
    unfold dropO
    cases hE : expB (s.data.toList.drop q) with
    | false =>
      rw [hE] at hpc
      rw [hdB, hE]
      clear hp hr hrl h1 hdB hE
      go_enter Try.func92, Try.ntmps92
      go_wp2_with fail
      refine (hl _).mono ?_; rintro e w2 ⟨rfl, d, rfl⟩
      go_wp2_with fail
      refine (hpc _ hsz (by decide)).mono ?_; rintro e w3 ⟨rfl, rfl⟩
      go_wp2_with fail
      go_ret2
      exact ⟨rfl, drewB (Below.refl _ _) _⟩
    | true =>
      have hq4 := expB_drop hE
      rw [hrl] at hq4
      have hq4' : (q : Int) + 4 ≤ s.size := by omega
      rw [hE] at hpc
      rw [hdB, hE]
      clear hp hr hrl h1 hdB hE
      go_enter Try.func92, Try.ntmps92
      go_wp2_with fail
      refine (hl _).mono ?_; rintro e w2 ⟨rfl, d, hw2⟩
      have hb2 : Below w.heap.size w w2 := by rw [hw2]; exact drewB (Below.refl _ _) d
      clear hw2
      go_wp2_with fail
      refine (hpc _ hsz (by decide)).mono ?_; rintro e w3 ⟨rfl, rfl⟩
      go_wp2_with fail
      go_quiet (fail)
      go_wp2_with fail
      go_ret2
      exact ⟨by rw [hv.out]; rfl, drewB hb2 _⟩

set_option maxHeartbeats 1000000 in
theorem implDropExposed_any (a : ByteArray) (n : Int) (w : World) (ha : a.size ≤ 9223372036854775806) (lo : -9223372036854775808 ≤ n) (hi : n ≤ 9223372036854775807) :
    Calls Try.prog 23 #[.string a, .int .i64 n] w (Gives (ans2 (dropExpO a n)) w) := by
  cases h : treeOf a with
  | none =>
    rw [show dropExpO a n = none by simp [dropExpO, h]]
    have H := Lib.hid h
    clear h
    go_enter Try.func23, Try.ntmps23
    go_wp2_with fail
    refine (implIsTree_no a _ ha H.out).mono ?_; rintro e w1 ⟨hb1, rfl⟩
    go_wp2_with fail
    go_ret2
    exact ⟨rfl, hb1⟩
  | some t =>
    rw [show dropExpO a n = dropO a n by simp [dropExpO, h]]
    obtain ⟨rfl, hc⟩ := treeOf_some h
    have hs : t.str.size ≤ 1000 := by have := t.str_size; omega
    clear h
    go_enter Try.func23, Try.ntmps23
    go_wp2_with fail
    refine (implIsTree_yes t _ hc).mono ?_; rintro e w1 ⟨hb1, rfl⟩
    go_wp2_with fail
    refine (withoutExposed_any t.str n _ hs lo hi).mono ?_; rintro e w2 ⟨rfl, hb2⟩
    unfold ans2
    go_wp2_with fail
    go_ret2
    exact ⟨rfl, nx hb1 hb2⟩
end Go.Proofs.Yteflpaebckichab

/-! ArgI -/
namespace Go.Proofs.Yteflpaebckichab
open Go.RowKit

/-- A slice of integers that came in: it is nil, or leads to a row of 'cap' cells, the first 'len' of which are its elements. -/
def IsInts (w : World) (a : Option Addr) (len cap : Nat) (ss : List Int) : Prop :=
  (a = none ∧ len = 0 ∧ cap = 0 ∧ ss = []) ∨
  ∃ x, a = some x ∧ len ≤ cap ∧ cap ≤ maxLen ∧ ss.length = cap ∧ (∀ i, i < ss.length → w.cell? (x.add i) = some (.int .i64 (ss.getD i 0))) ∧ ∀ s ∈ ss, (Lit.int .i64 s).wf = true

/-- What can be read of a slice of integers: the cells from an address on. -/
def ReadI (w : World) (g off : Nat) (ss : List Int) : Prop := ∀ i, i < ss.length → w.cell? ⟨g, off + i, none⟩ = some (.int .i64 (ss.getD i 0))

theorem ReadI.keep {w w' : World} {g off : Nat} {ss : List Int} (h : ReadI w g off ss) (hb : Below w.heap.size w w') : ReadI w' g off ss := by
  intro i hi
  have := h i hi
  exact (hb.cell (p := ⟨g, off + i, none⟩) (World.block_lt_of_cell? w _ this)).trans this

/-- The slice as the walks take it: empty, or readable from an address on. -/
def InI (w : World) (a : Option Addr) (ss : List Int) : Prop := ss = [] ∨ ∃ g off, a = some ⟨g, off, none⟩ ∧ ReadI w g off ss

theorem IsInts.inI {w : World} {a : Option Addr} {len cap : Nat} {ss : List Int} (h : IsInts w a len cap ss) : InI w a (ss.take len) ∧ (ss.take len).length = len ∧ (len : Int) ≤ 9223372036854775807 ∧ ∀ s ∈ ss.take len, -9223372036854775808 ≤ s ∧ s ≤ 9223372036854775807 := by
  rcases h with ⟨rfl, rfl, rfl, rfl⟩ | ⟨x, rfl, h1, h2, h3, h4, h5⟩
  · exact ⟨.inl rfl, rfl, by omega, by simp⟩
  · have hl : (ss.take len).length = len := by rw [List.length_take]; omega
    unfold maxLen at h2
    refine ⟨?_, hl, by omega, fun s hs => i64_bounds (h5 s (List.mem_of_mem_take hs))⟩
    by_cases h0 : len = 0
    · left; subst h0; rfl
    · right
      obtain ⟨b, off, spot⟩ := x
      have hc := h4 0 (by omega)
      have hspot : spot = none := by simpa [Addr.add] using World.cell?_spot hc
      subst hspot
      refine ⟨b, off, rfl, fun i hi => ?_⟩
      rw [hl] at hi
      have := h4 i (by omega)
      have e : (⟨b, off, none⟩ : Addr).add i = ⟨b, off + i, none⟩ := by
        unfold Addr.add
        split
        · next h => rw [h]; simp
        · rfl
      rw [e] at this
      rw [this]
      simp [List.getD_eq_getElem?_getD, hi]

theorem InI.keep {w w' : World} {a : Option Addr} {ss : List Int} (h : InI w a ss) (hb : Below w.heap.size w w') : InI w' a ss := by
  rcases h with h | ⟨g, off, rfl, hr⟩
  · exact .inl h
  · exact .inr ⟨g, off, rfl, hr.keep hb⟩

/-- A call that hands back a copy, in new memory. -/
def CopyOfI (ss : List Int) (n : Nat) (w : World) (e : Ending) (w' : World) : Prop :=
  ∃ g : Nat, OwnI w.heap.size w' (.slice (some ⟨g, 0, none⟩) n n) ss ∧ Below w.heap.size w w' ∧ e = .returned (.slice (some ⟨g, 0, none⟩) n n)

theorem madeCells_int (n : Nat) : (madeCells (Value.int .i64 0).cells (n * 1)).toList = (List.replicate n (0 : Int)).map (Value.int .i64) := by
  rw [List.map_replicate, Nat.mul_one]
  exact toList_madeCells_one _ _

end Go.Proofs.Yteflpaebckichab

/-! WTreesByAddresses -/
namespace Go.Proofs.Yteflpaebckichab
open Go.RowKit

/-- The law's answer: true, and what was there is left. -/
def SaysTrue (w : World) (e : Ending) (w' : World) : Prop := e = .returned (.bool true) ∧ Below w.heap.size w w'

theorem OwnS.flat {base : Nat} {w : World} {v : Value} {L : List ByteArray} (h : OwnS base w v L) : ∃ (a : Option Addr) (cap : Nat), v = .slice a L.length cap ∧ InS w a L ∧ L.length ≤ cap ∧ cap ≤ 9223372036854775807 := by
  rcases h.cells with ⟨rfl, rfl⟩ | ⟨g, cap, rfl, _, _, h1, h2, h3, _⟩
  · exact ⟨none, 0, rfl, .inl rfl, Nat.le_refl _, by omega⟩
  · unfold maxLen at h2
    exact ⟨_, cap, rfl, .inr ⟨g, 0, rfl, fun i hi => by rw [Nat.zero_add]; exact h3 i hi⟩, h1, by omega⟩
theorem OwnI.flat {base : Nat} {w : World} {v : Value} {L : List Int} (h : OwnI base w v L) : ∃ (a : Option Addr) (cap : Nat), v = .slice a L.length cap ∧ InI w a L ∧ L.length ≤ cap ∧ cap ≤ 9223372036854775807 := by
  rcases h.cells with ⟨rfl, rfl⟩ | ⟨g, cap, rfl, _, _, h1, h2, h3, _⟩
  · exact ⟨none, 0, rfl, .inl rfl, Nat.le_refl _, by omega⟩
  · unfold maxLen at h2
    exact ⟨_, cap, rfl, .inr ⟨g, 0, rfl, fun i hi => by rw [Nat.zero_add]; exact h3 i hi⟩, h1, by omega⟩

set_option maxRecDepth 100000 in
set_option maxHeartbeats 4000000 in
theorem treesByAddresses_law (W : World) (c d : Bts) (hc : InB W c) (hd : InB W d) (hn : c.n + d.n ≤ 1048576) :
    Calls Try.prog 3 #[.slice c.a c.n c.cap, .slice d.a d.n d.cap] W (SaysTrue W) := by
  go_enter Try.func3, Try.ntmps3
  go_wp2_with fail
  refine (big_no c d _ hn).mono ?_; rintro e w1 ⟨rfl, rfl⟩
  go_wp2_with fail
  refine (drawAddressesOf_any c _ hc).mono ?_; rintro e w1 ⟨s, hs, rfl, hb1⟩
  have HB := Lib.hid hb1
  clear hb1
  rcases tree_or s with ⟨t, rfl, htc, hto⟩ | hno
  · obtain ⟨A, hA⟩ : ∃ A, A = t.addrs ⟨#[]⟩ := ⟨_, rfl⟩
    obtain ⟨D, hD⟩ : ∃ D, D = t.depths 0 := ⟨_, rfl⟩
    obtain ⟨E, hE⟩ : ∃ E, E = t.exps 0 := ⟨_, rfl⟩
    obtain ⟨q, hq⟩ : ∃ q, q = t.carets := ⟨_, rfl⟩
    obtain ⟨m, hm⟩ : ∃ m, m = t.mir.str := ⟨_, rfl⟩
    have eA : AddressesOf_o t.str = some A := by simp [AddressesOf_o, hto, hA]
    have eD : DepthsOf_o t.str = some D := by simp [DepthsOf_o, hto, hD]
    have eE : ExposedOf_o t.str = some E := by simp [ExposedOf_o, hto, hE, exps_text]
    have eC : caretsO t.str = some q := by simp [caretsO, hto, hq]
    have eM : mirO t.str = some t.mir := by simp [mirO, hto]
    have c1 : ∀ w, Calls Try.prog 9 #[.string t.str] w (fun e w' => ∃ v, OwnS w.heap.size w' v A ∧ Below w.heap.size w w' ∧ e = .returned (.tuple #[v, .bool true])) := fun w => by have := implAddressesOf_any t.str w (by omega); rw [eA] at this; exact this
    have c2 : ∀ w, Calls Try.prog 10 #[.string t.str] w (fun e w' => ∃ v, OwnS w.heap.size w' v A ∧ Below w.heap.size w w' ∧ e = .returned (.tuple #[v, .bool true])) := fun w => by have := specAddressesOf_any t.str w (by omega); rw [eA] at this; exact this
    have c3 : ∀ w, Calls Try.prog 11 #[.string t.str] w (fun e w' => ∃ v, OwnI w.heap.size w' v D ∧ Below w.heap.size w w' ∧ e = .returned (.tuple #[v, .bool true])) := fun w => by have := implDepthsOf_any t.str w (by omega); rw [eD] at this; exact this
    have c4 : ∀ w, Calls Try.prog 12 #[.string t.str] w (fun e w' => ∃ v, OwnI w.heap.size w' v D ∧ Below w.heap.size w w' ∧ e = .returned (.tuple #[v, .bool true])) := fun w => by have := specDepthsOf_any t.str w (by omega); rw [eD] at this; exact this
    have c5 : ∀ w, Calls Try.prog 13 #[.string t.str] w (fun e w' => ∃ v, OwnI w.heap.size w' v E ∧ Below w.heap.size w w' ∧ e = .returned (.tuple #[v, .bool true])) := fun w => by have := implExposedOf_any t.str w (by omega); rw [eE] at this; exact this
    have c6 : ∀ w, Calls Try.prog 14 #[.string t.str] w (fun e w' => ∃ v, OwnI w.heap.size w' v E ∧ Below w.heap.size w w' ∧ e = .returned (.tuple #[v, .bool true])) := fun w => by have := specExposedOf_any t.str w (by omega); rw [eE] at this; exact this
    have c7 : ∀ w, Calls Try.prog 15 #[.string t.str] w (Gives (.tuple #[.int .i64 q, .bool true]) w) := fun w => by have := implCaretsOf_any t.str w (by omega); rw [eC] at this; exact this
    have c8 : ∀ w, Calls Try.prog 16 #[.string t.str] w (Gives (.tuple #[.int .i64 q, .bool true]) w) := fun w => by have := specCaretsOf_any t.str w (by omega); rw [eC] at this; exact this
    have c9 : ∀ w, Calls Try.prog 17 #[.string t.str] w (Gives (.tuple #[.string m, .bool true]) w) := fun w => by have := implMirrorTree_any t.str w (by omega); rw [eM] at this; rw [hm]; exact this
    have c10 : ∀ w, Calls Try.prog 18 #[.string t.str] w (Gives (.tuple #[.string m, .bool true]) w) := fun w => by have := specMirrorTree_any t.str w (by omega); rw [eM] at this; rw [hm]; exact this
    have hAl : A.length = q + 1 := by rw [hA, hq]; exact addrs_length t _
    have hDl : D.length = q + 1 := by rw [hD, hq]; exact depths_length t _
    have hEl : E.length ≤ q := by rw [hE, hq]; exact exps_length t _
    have hE0 : 0 < q → E ≠ [] := by rw [hE, hq]; exact fun h => exps_any t h 0
    have hsz : t.str.size = 3 * q + 1 := by rw [hq]; exact t.str_size
    have hAD : ∀ i, i < q + 1 → D.getD i 0 = ((A.getD i ⟨#[]⟩).size : Int) := by
      intro i hi
      have h1 := depths_addrs t ⟨#[]⟩
      rw [← hA, empty_size] at h1
      rw [hD, show (0 : Int) = ((0 : Nat) : Int) from rfl, ← h1]
      simp [List.getD_eq_getElem?_getD, List.getElem?_eq_getElem (show i < A.length by omega)]
    have hAz : ∀ x ∈ A, x.size ≤ 8 := by
      intro x hx
      rw [hA] at hx
      have := addrs_size t ⟨#[]⟩ x hx
      rw [empty_size] at this
      omega
    have hW : withO A = some t := by rw [hA]; exact withO_addrs t htc
    have hSh : shareL A = 256 := by rw [hA]; exact share_addrs t ⟨#[]⟩ (by rw [empty_size]; omega)
    have hInc : ∀ i, i + 1 < q + 1 → (A.getD i ⟨#[]⟩).data.toList < (A.getD (i + 1) ⟨#[]⟩).data.toList := by
      intro i hi
      have h1 := addrs_inc t ⟨#[]⟩
      rw [← hA, List.pairwise_iff_getElem] at h1
      have h2 := h1 i (i + 1) (by omega) (by omega) (by omega)
      simpa [List.getD_eq_getElem?_getD, List.getElem?_eq_getElem (show i < A.length by omega), List.getElem?_eq_getElem (show i + 1 < A.length by omega)] using h2
    have hX : ∀ k ∈ E, dropExpO t.str k = some (t.dropAt k).str ∧ graftO (t.dropAt k).str k ⟨#[40, 46, 46, 41]⟩ = some t.str ∧ 0 ≤ k ∧ k ≤ 100 ∧ (t.dropAt k).str.size ≤ 60 := by
      intro k hk
      rw [hE] at hk
      have hr := exps_range t 0 k hk
      have hd := dropAt_carets t k hk
      have hb := (dropB_str t k).2 hk
      have hs1 := drop_str t k hk
      have hlv : t.leaves = t.carets + 1 := rfl
      have hlv2 : (t.dropAt k).leaves = (t.dropAt k).carets + 1 := rfl
      refine ⟨?_, ?_, by omega, by omega, by rw [Tr.str_size]; omega⟩
      · simp [dropExpO, hto, dropO, hb, hs1.2]
      · have h1 := graft_str (t.dropAt k) (.nd .lf .lf) k (by omega) (by omega)
        rw [put_back t k hk] at h1
        rw [two_str]
        simp only [graftO, treeOf_str (t.dropAt k) (by omega), treeOf_str (.nd .lf .lf) (by decide)]
        rw [if_pos ⟨by omega, by omega, by have e9 : (Tr.nd .lf .lf).carets = 1 := rfl; rw [e9]; omega⟩, h1]
    have hTW := fun a len cap w h1 h2 h3 h4 h5 => implTreeWith_any a len cap A w h1 h2 h3 h4 h5
    rw [hW] at hTW
    have hMM := fun w => implMirrorTree_any m w (by rw [hm, Tr.str_size, mir_carets]; omega)
    rw [show mirO m = some t by rw [hm]; simp [mirO, treeOf_str t.mir (by rw [mir_carets]; exact htc), mir_mir]] at hMM
    have hq8 : q ≤ 8 := by omega
    have HTO := Lib.hid hto
    have HTC := Lib.hid htc
    have Hq := Lib.hid hq
    have HX := Lib.hid hX
    have HInc := Lib.hid hInc
    have HSh := Lib.hid hSh
    have HAz := Lib.hid hAz
    have HAD := Lib.hid hAD
    have HE0 := Lib.hid hE0
    have HEl := Lib.hid hEl
    have HDl := Lib.hid hDl
    have HAl := Lib.hid hAl
    have Hsz := Lib.hid hsz
    clear eA eD eE eC eM hA hD hE hq hm hto htc hX hInc hSh hAz hAD hE0 hEl hDl hAl hsz hW
    go_wp2_with fail
    refine (c1 _).mono ?_; rintro e w1 ⟨v1, o1, hb, rfl⟩
    have O1 := Lib.hid o1
    replace HB := Lib.hid (nx HB.out hb)
    clear hb o1
    go_wp2_with fail
    refine (c2 _).mono ?_; rintro e w2 ⟨v2, o2, hb, rfl⟩
    replace O1 := Lib.hid (O1.out.keep hb)
    have O2 := Lib.hid o2
    replace HB := Lib.hid (nx HB.out hb)
    clear hb o2
    go_wp2_with fail
    refine (c3 _).mono ?_; rintro e w3 ⟨v3, o3, hb, rfl⟩
    replace O1 := Lib.hid (O1.out.keep hb)
    replace O2 := Lib.hid (O2.out.keep hb)
    have O3 := Lib.hid o3
    replace HB := Lib.hid (nx HB.out hb)
    clear hb o3
    go_wp2_with fail
    refine (c4 _).mono ?_; rintro e w4 ⟨v4, o4, hb, rfl⟩
    replace O1 := Lib.hid (O1.out.keep hb)
    replace O2 := Lib.hid (O2.out.keep hb)
    replace O3 := Lib.hid (O3.out.keep hb)
    have O4 := Lib.hid o4
    replace HB := Lib.hid (nx HB.out hb)
    clear hb o4
    go_wp2_with fail
    refine (c5 _).mono ?_; rintro e w5 ⟨v5, o5, hb, rfl⟩
    replace O1 := Lib.hid (O1.out.keep hb)
    replace O2 := Lib.hid (O2.out.keep hb)
    replace O3 := Lib.hid (O3.out.keep hb)
    replace O4 := Lib.hid (O4.out.keep hb)
    have O5 := Lib.hid o5
    replace HB := Lib.hid (nx HB.out hb)
    clear hb o5
    go_wp2_with fail
    refine (c6 _).mono ?_; rintro e w6 ⟨v6, o6, hb, rfl⟩
    replace O1 := Lib.hid (O1.out.keep hb)
    replace O2 := Lib.hid (O2.out.keep hb)
    replace O3 := Lib.hid (O3.out.keep hb)
    replace O4 := Lib.hid (O4.out.keep hb)
    replace O5 := Lib.hid (O5.out.keep hb)
    have O6 := Lib.hid o6
    replace HB := Lib.hid (nx HB.out hb)
    clear hb o6
    go_wp2_with fail
    refine (c7 _).mono ?_; rintro e w7 ⟨rfl, hb⟩
    replace O1 := Lib.hid (O1.out.keep hb)
    replace O2 := Lib.hid (O2.out.keep hb)
    replace O3 := Lib.hid (O3.out.keep hb)
    replace O4 := Lib.hid (O4.out.keep hb)
    replace O5 := Lib.hid (O5.out.keep hb)
    replace O6 := Lib.hid (O6.out.keep hb)
    replace HB := Lib.hid (nx HB.out hb)
    clear hb
    go_wp2_with fail
    refine (c8 _).mono ?_; rintro e w8 ⟨rfl, hb⟩
    replace O1 := Lib.hid (O1.out.keep hb)
    replace O2 := Lib.hid (O2.out.keep hb)
    replace O3 := Lib.hid (O3.out.keep hb)
    replace O4 := Lib.hid (O4.out.keep hb)
    replace O5 := Lib.hid (O5.out.keep hb)
    replace O6 := Lib.hid (O6.out.keep hb)
    replace HB := Lib.hid (nx HB.out hb)
    clear hb
    go_wp2_with fail
    refine (c9 _).mono ?_; rintro e w9 ⟨rfl, hb⟩
    replace O1 := Lib.hid (O1.out.keep hb)
    replace O2 := Lib.hid (O2.out.keep hb)
    replace O3 := Lib.hid (O3.out.keep hb)
    replace O4 := Lib.hid (O4.out.keep hb)
    replace O5 := Lib.hid (O5.out.keep hb)
    replace O6 := Lib.hid (O6.out.keep hb)
    replace HB := Lib.hid (nx HB.out hb)
    clear hb
    go_wp2_with fail
    refine (c10 _).mono ?_; rintro e w10 ⟨rfl, hb⟩
    replace O1 := Lib.hid (O1.out.keep hb)
    replace O2 := Lib.hid (O2.out.keep hb)
    replace O3 := Lib.hid (O3.out.keep hb)
    replace O4 := Lib.hid (O4.out.keep hb)
    replace O5 := Lib.hid (O5.out.keep hb)
    replace O6 := Lib.hid (O6.out.keep hb)
    replace HB := Lib.hid (nx HB.out hb)
    clear hb
    go_wp2_with fail
    refine (fTexts_any _ _ v1 v2 _ _ O1.out.cells O2.out.cells).mono ?_; rintro e w11 ⟨rfl, d11, rfl⟩
    go_wp2_with fail
    refine (fSame_any _ _ v3 v4 _ _ (O3.out.cells.drewN _) (O4.out.cells.drewN _)).mono ?_; rintro e w12 ⟨rfl, d12, rfl⟩
    go_wp2_with fail
    refine (fSame_any _ _ v5 v6 _ _ (O5.out.cells.drewN _) (O6.out.cells.drewN _)).mono ?_; rintro e w13 ⟨rfl, d13, rfl⟩
    go_wp2_with fail
    refine (implIsTree_yes t _ HTC.out).mono ?_; rintro e w14 ⟨hb, rfl⟩
    replace HB := Lib.hid (nx (drewB HB.out _) hb)
    replace O1 := Lib.hid (show OwnS _ _ _ _ from OwnS.keep (w := w10.drewN (d11 + d12 + d13)) O1.out hb)
    replace O3 := Lib.hid (OwnI.keep (w := w10.drewN (d11 + d12 + d13)) O3.out hb)
    replace O5 := Lib.hid (OwnI.keep (w := w10.drewN (d11 + d12 + d13)) O5.out hb)
    clear hb
    obtain ⟨a1, cap1, hv1, hI1, hlc1, hcm1⟩ := O1.out.flat
    obtain ⟨a3, cap3, hv3, hI3, hlc3, hcm3⟩ := O3.out.flat
    obtain ⟨a5, cap5, hv5, hI5, hlc5, hcm5⟩ := O5.out.flat
    rw [HAl.out] at hv1 hlc1
    rw [HDl.out] at hv3 hlc3
    obtain ⟨n5, hn5⟩ : ∃ n, n = E.length := ⟨_, rfl⟩
    rw [← hn5] at hv5 hlc5
    have Hn5 := Lib.hid hn5
    have hn58 : n5 ≤ q := by rw [hn5]; exact HEl.out
    subst hv1; subst hv3; subst hv5
    have I1 := Lib.hid hI1
    have I3 := Lib.hid hI3
    have I5 := Lib.hid hI5
    clear O1 O2 O3 O4 O5 O6 hI1 hI3 hI5 hn5 c1 c2 c3 c4 c5 c6 c7 c8 c9 c10
    go_wp2_with fail
    refine (hTW a1 (q + 1) cap1 _ HAl.out hlc1 hcm1 I1.out (fun s hs => by have := HAz.out s hs; omega)).mono ?_; rintro e w15 ⟨rfl, hb⟩
    replace I1 := Lib.hid (I1.out.keep hb)
    replace I3 := Lib.hid (I3.out.keep hb)
    replace I5 := Lib.hid (I5.out.keep hb)
    replace HB := Lib.hid (nx HB.out hb)
    clear hb
    simp only [ansV, trS, trB]
    go_wp2_with fail
    refine (hMM _).mono ?_; rintro e w16 ⟨rfl, hb⟩
    replace I1 := Lib.hid (I1.out.keep hb)
    replace I3 := Lib.hid (I3.out.keep hb)
    replace I5 := Lib.hid (I5.out.keep hb)
    replace HB := Lib.hid (nx HB.out hb)
    clear hb hTW hMM
    simp only [ansV, trS, trB]
    have hszi : (t.str.size : Int) = 3 * (q : Int) + 1 := by have := Hsz.out; omega
    have e3 : IntKind.i64.wrap (3 * (q : Int)) = 3 * (q : Int) := by rw [IntKind.wrap_i64] <;> omega
    have hI1 : ∃ g off, a1 = some ⟨g, off, none⟩ ∧ ReadS w16 g off A := by
      rcases I1.out with h | h
      · have := HAl.out; rw [h] at this; simp at this
      · exact h
    obtain ⟨g1, off1, rfl, R1⟩ := hI1
    have hI3 : ∃ g off, a3 = some ⟨g, off, none⟩ ∧ ReadI w16 g off D := by
      rcases I3.out with h | h
      · have := HDl.out; rw [h] at this; simp at this
      · exact h
    obtain ⟨g3, off3, rfl, R3⟩ := hI3
    have HR1 := Lib.hid R1
    have HR3 := Lib.hid R3
    clear I1 I3 R1 R3
    rcases Nat.eq_zero_or_pos q with h0 | h0
    · have h0' : (q : Int) ≤ 0 := by omega
      clear h0
      go_wp2_with fail
      go_loopw [30, 235] (fun sh i wr => ∃ k : Nat, k ≤ q + 1 ∧ i = .int .i64 k ∧ sh = .int .i64 (shareL (A.take k)) ∧ wr = w16) (fun _ i _ => q + 1 - (intOf i).toNat)
      case atStart => exact ⟨0, by omega, rfl, rfl, rfl⟩
      case round =>
        obtain ⟨k, hk, rfl, rfl, rfl⟩ := hrel
        by_cases hlt : k < q + 1
        · have hlt' : (k : Int) < (q : Int) + 1 := by omega
          have hkA : k < A.length := by have := HAl.out; omega
          have hkD : k < D.length := by have := HDl.out; omega
          have c1 := HR1.out k hkA
          have c3 := HR3.out k hkD
          rw [HAD.out k hlt] at c3
          obtain ⟨x, hx⟩ : ∃ x, x = A.getD k ⟨#[]⟩ := ⟨_, rfl⟩
          rw [← hx] at c1 c3
          have hxz : x.size ≤ 8 := by rw [hx]; exact HAz.out _ (getD_memT hkA)
          have hsh : shareL (A.take (k + 1)) = shareL (A.take k) + 2 ^ (8 - x.size) := by
            rw [List.take_succ_eq_append_getElem hkA, shareL_append, hx]
            simp [shareL, List.getD_eq_getElem?_getD, List.getElem?_eq_getElem hkA]
          have hshb := share_le (A.take (k + 1))
          rw [List.length_take] at hshb
          obtain ⟨S0, hS0⟩ : ∃ S0, S0 = shareL (A.take k) := ⟨_, rfl⟩
          rw [← hS0] at hsh ⊢
          have HSH := Lib.hid hsh
          have HXE := Lib.hid hx
          clear hsh hS0 hx
          have hP : 2 ^ (8 - x.size) ≤ 2 ^ 8 := Nat.pow_le_pow_right (by decide) (by omega)
          have hP1 : (2 : Int) ^ (8 - x.size) = ((2 ^ (8 - x.size) : Nat) : Int) := pow_cast2 _
          have hval : wrap64 ((S0 : Int) + wrap64 (2 ^ (8 - x.size))) = ((shareL (A.take (k + 1)) : Nat) : Int) := by
            rw [hP1]
            exact share_step _ _ _ HSH.out (Nat.le_trans hP (by decide)) (by omega)
          have HVAL := Lib.hid hval
          clear hP hP1 hval
          by_cases hk0 : k = 0
          · have hk0' : (k : Int) ≤ 0 := by omega
            clear hk0
            go_wp2_with fail
            go_roundw
            case rel => exact ⟨k + 1, by omega, by go_num, by rw [HVAL.out], trivial⟩
            case measure => simp [intOf]; omega
          · exfalso; omega
        · obtain rfl : k = q + 1 := by omega
          have hfull : shareL (A.take (q + 1)) = 256 := by rw [List.take_of_length_le (by have := HAl.out; omega)]; exact HSh.out
          rw [hfull]
          clear hfull
          go_wp2_with fail
          go_loopw [271] (fun i wr => ∃ k : Nat, k ≤ n5 ∧ i = .int .i64 k ∧ Hid (Below W.heap.size W wr) ∧ Hid (InI wr a5 E)) (fun i _ => n5 - (intOf i).toNat)
          case atStart => exact ⟨0, by omega, rfl, HB, I5⟩
          case round =>
            clear HB I5
            obtain ⟨k, hk, rfl, HB, I5⟩ := hrel
            by_cases hlt : k < n5
            · have hlt' : (k : Int) < (n5 : Int) := by omega
              have hkE : k < E.length := by have := Hn5.out; omega
              have hI5 : ∃ g off, a5 = some ⟨g, off, none⟩ ∧ ReadI wr g off E := by
                rcases I5.out with h | h
                · rw [h] at hkE; simp at hkE
                · exact h
              obtain ⟨g5, off5, rfl, R5⟩ := hI5
              have c5 := R5 k hkE
              obtain ⟨x5, hx5⟩ : ∃ x, x = E.getD k 0 := ⟨_, rfl⟩
              rw [← hx5] at c5
              obtain ⟨e1, e2, e3, e4, e5⟩ := HX.out x5 (by rw [hx5]; exact getD_memI hkE)
              have HE2 := Lib.hid e2
              obtain ⟨less, hless⟩ : ∃ l, l = (t.dropAt x5).str := ⟨_, rfl⟩
              have hz5 := t.str_size
              have hc5 := fun w => implDropExposed_any t.str x5 w (by omega) (by omega) (by omega)
              rw [e1, ← hless] at hc5
              rw [← hless] at e2 e5
              have hc6 := fun w => implGraftAt_any less x5 ⟨#[40, 46, 46, 41]⟩ w (by omega) (by decide) (by omega) (by omega)
              rw [e2] at hc6
              clear R5 hx5 e1 e2 HE2 hless hz5
              go_wp2_with fail
              refine (hc5 _).mono ?_; rintro e w17 ⟨rfl, hb⟩
              replace HB := Lib.hid (nx HB.out hb)
              replace I5 := Lib.hid (I5.out.keep hb)
              clear hb
              simp only [ans2]
              go_wp2_with fail
              refine (hc6 _).mono ?_; rintro e w18 ⟨rfl, hb⟩
              replace HB := Lib.hid (nx HB.out hb)
              replace I5 := Lib.hid (I5.out.keep hb)
              clear hb
              simp only [ans2]
              go_wp2_with fail
              go_roundw
              case rel => exact ⟨k + 1, by omega, by go_num, HB, I5⟩
              case measure => simp [intOf]; omega
            · obtain rfl : k = n5 := by omega
              go_wp2_with fail
              refine (drawTreeWith_any d _ (hd.keep HB.out)).mono ?_; rintro e w20 ⟨a, n9, cap9, L9, hL, hlc, hn9, hcm, hI, hz9, rfl, hb20⟩
              have HL := Lib.hid hL
              have HI := Lib.hid hI
              have HZ := Lib.hid hz9
              replace HB := Lib.hid (nx HB.out hb20)
              clear hL hI hz9 hb20
              go_wp2_with fail
              refine (implTreeWith_any a n9 cap9 L9 _ HL.out hlc hcm HI.out (fun s hs => by have := HZ.out s hs; omega)).mono ?_; rintro e w21 ⟨rfl, hb21⟩
              replace HI := Lib.hid (HI.out.keep hb21)
              replace HB := Lib.hid (nx HB.out hb21)
              clear hb21
              unfold ansV
              go_wp2_with fail
              refine (specTreeWith_any a n9 cap9 L9 _ HL.out hlc hcm HI.out).mono ?_; rintro e w22 ⟨rfl, hb22⟩
              replace HB := Lib.hid (nx HB.out hb22)
              clear hb22
              unfold ansV
              generalize trS (withO L9) = z1
              generalize trB (withO L9) = z2
              go_wp2_with fail
              refine (drawDropExposed_any d _ (hd.keep HB.out)).mono ?_; rintro e w23 ⟨u, k, hu, hk1, hk2, rfl, hb23⟩
              replace HB := Lib.hid (nx HB.out hb23)
              clear hb23
              go_wp2_with fail
              refine (implDropExposed_any u k _ (by omega) (by omega) (by omega)).mono ?_; rintro e w24 ⟨rfl, hb24⟩
              replace HB := Lib.hid (nx HB.out hb24)
              clear hb24
              unfold ans2
              go_wp2_with fail
              refine (specDropExposed_any u k _ (by omega) (by omega) (by omega)).mono ?_; rintro e w25 ⟨rfl, hb25⟩
              replace HB := Lib.hid (nx HB.out hb25)
              clear hb25
              unfold ans2
              generalize (dropExpO u k).getD ⟨#[]⟩ = z3
              generalize (dropExpO u k).isSome = z4
              go_wp2_with fail
              go_ret
              exact ⟨by simp, HB.out⟩
    · have h0' : (0 : Int) < (q : Int) := by omega
      have h5' : ((n5 : Int) == 0) = false := by
        have h1 := HE0.out h0
        have h2 : n5 ≠ 0 := by rw [Hn5.out]; intro h; exact h1 (List.length_eq_zero_iff.1 h)
        simpa using h2
      go_wp2_with fail
      go_loopw [30, 235] (fun sh i wr => ∃ k : Nat, k ≤ q + 1 ∧ i = .int .i64 k ∧ sh = .int .i64 (shareL (A.take k)) ∧ wr = w16) (fun _ i _ => q + 1 - (intOf i).toNat)
      case atStart => exact ⟨0, by omega, rfl, rfl, rfl⟩
      case round =>
        obtain ⟨k, hk, rfl, rfl, rfl⟩ := hrel
        by_cases hlt : k < q + 1
        · have hlt' : (k : Int) < (q : Int) + 1 := by omega
          have hkA : k < A.length := by have := HAl.out; omega
          have hkD : k < D.length := by have := HDl.out; omega
          have c1 := HR1.out k hkA
          have c3 := HR3.out k hkD
          rw [HAD.out k hlt] at c3
          obtain ⟨x, hx⟩ : ∃ x, x = A.getD k ⟨#[]⟩ := ⟨_, rfl⟩
          rw [← hx] at c1 c3
          have hxz : x.size ≤ 8 := by rw [hx]; exact HAz.out _ (getD_memT hkA)
          have hsh : shareL (A.take (k + 1)) = shareL (A.take k) + 2 ^ (8 - x.size) := by
            rw [List.take_succ_eq_append_getElem hkA, shareL_append, hx]
            simp [shareL, List.getD_eq_getElem?_getD, List.getElem?_eq_getElem hkA]
          have hshb := share_le (A.take (k + 1))
          rw [List.length_take] at hshb
          obtain ⟨S0, hS0⟩ : ∃ S0, S0 = shareL (A.take k) := ⟨_, rfl⟩
          rw [← hS0] at hsh ⊢
          have HSH := Lib.hid hsh
          have HXE := Lib.hid hx
          clear hsh hS0 hx
          have hP : 2 ^ (8 - x.size) ≤ 2 ^ 8 := Nat.pow_le_pow_right (by decide) (by omega)
          have hP1 : (2 : Int) ^ (8 - x.size) = ((2 ^ (8 - x.size) : Nat) : Int) := pow_cast2 _
          have hval : wrap64 ((S0 : Int) + wrap64 (2 ^ (8 - x.size))) = ((shareL (A.take (k + 1)) : Nat) : Int) := by
            rw [hP1]
            exact share_step _ _ _ HSH.out (Nat.le_trans hP (by decide)) (by omega)
          have HVAL := Lib.hid hval
          clear hP hP1 hval
          by_cases hk0 : k = 0
          · have hk0' : (k : Int) ≤ 0 := by omega
            clear hk0
            go_wp2_with fail
            go_roundw
            case rel => exact ⟨k + 1, by omega, by go_num, by rw [HVAL.out], trivial⟩
            case measure => simp [intOf]; omega
          · obtain ⟨j, rfl⟩ : ∃ j, k = j + 1 := ⟨k - 1, by omega⟩
            have c1p := HR1.out j (by omega)
            have hlt2 := HInc.out j hlt
            rw [← HXE.out] at hlt2
            obtain ⟨p, hp⟩ : ∃ p, p = A.getD j ⟨#[]⟩ := ⟨_, rfl⟩
            rw [← hp] at c1p hlt2
            have ege : (binOp BinOp.geq 9 (.string p) (.string x)).run Try.prog wr = .ok (.bool false) wr := by
              show Result.ok (Value.bool (!Go.Op.bytesLess p.toList x.toList)) wr = _
              rw [less_data, show decide (p.data.toList < x.data.toList) = true from by simpa using hlt2]; rfl
            have ej : (j : Int) ≤ (q : Int) := by omega
            clear hlt2 hp
            go_wp2_with fail
            go_roundw
            case rel => exact ⟨j + 2, by omega, by go_num, by rw [HVAL.out], trivial⟩
            case measure => simp [intOf]; omega
        · obtain rfl : k = q + 1 := by omega
          have hfull : shareL (A.take (q + 1)) = 256 := by rw [List.take_of_length_le (by have := HAl.out; omega)]; exact HSh.out
          rw [hfull]
          clear hfull
          go_wp2_with fail
          go_loopw [271] (fun i wr => ∃ k : Nat, k ≤ n5 ∧ i = .int .i64 k ∧ Hid (Below W.heap.size W wr) ∧ Hid (InI wr a5 E)) (fun i _ => n5 - (intOf i).toNat)
          case atStart => exact ⟨0, by omega, rfl, HB, I5⟩
          case round =>
            clear HB I5
            obtain ⟨k, hk, rfl, HB, I5⟩ := hrel
            by_cases hlt : k < n5
            · have hlt' : (k : Int) < (n5 : Int) := by omega
              have hkE : k < E.length := by have := Hn5.out; omega
              have hI5 : ∃ g off, a5 = some ⟨g, off, none⟩ ∧ ReadI wr g off E := by
                rcases I5.out with h | h
                · rw [h] at hkE; simp at hkE
                · exact h
              obtain ⟨g5, off5, rfl, R5⟩ := hI5
              have c5 := R5 k hkE
              obtain ⟨x5, hx5⟩ : ∃ x, x = E.getD k 0 := ⟨_, rfl⟩
              rw [← hx5] at c5
              obtain ⟨e1, e2, e3, e4, e5⟩ := HX.out x5 (by rw [hx5]; exact getD_memI hkE)
              have HE2 := Lib.hid e2
              obtain ⟨less, hless⟩ : ∃ l, l = (t.dropAt x5).str := ⟨_, rfl⟩
              have hz5 := t.str_size
              have hc5 := fun w => implDropExposed_any t.str x5 w (by omega) (by omega) (by omega)
              rw [e1, ← hless] at hc5
              rw [← hless] at e2 e5
              have hc6 := fun w => implGraftAt_any less x5 ⟨#[40, 46, 46, 41]⟩ w (by omega) (by decide) (by omega) (by omega)
              rw [e2] at hc6
              clear R5 hx5 e1 e2 HE2 hless hz5
              go_wp2_with fail
              refine (hc5 _).mono ?_; rintro e w17 ⟨rfl, hb⟩
              replace HB := Lib.hid (nx HB.out hb)
              replace I5 := Lib.hid (I5.out.keep hb)
              clear hb
              simp only [ans2]
              go_wp2_with fail
              refine (hc6 _).mono ?_; rintro e w18 ⟨rfl, hb⟩
              replace HB := Lib.hid (nx HB.out hb)
              replace I5 := Lib.hid (I5.out.keep hb)
              clear hb
              simp only [ans2]
              go_wp2_with fail
              go_roundw
              case rel => exact ⟨k + 1, by omega, by go_num, HB, I5⟩
              case measure => simp [intOf]; omega
            · obtain rfl : k = n5 := by omega
              go_wp2_with fail
              refine (drawTreeWith_any d _ (hd.keep HB.out)).mono ?_; rintro e w20 ⟨a, n9, cap9, L9, hL, hlc, hn9, hcm, hI, hz9, rfl, hb20⟩
              have HL := Lib.hid hL
              have HI := Lib.hid hI
              have HZ := Lib.hid hz9
              replace HB := Lib.hid (nx HB.out hb20)
              clear hL hI hz9 hb20
              go_wp2_with fail
              refine (implTreeWith_any a n9 cap9 L9 _ HL.out hlc hcm HI.out (fun s hs => by have := HZ.out s hs; omega)).mono ?_; rintro e w21 ⟨rfl, hb21⟩
              replace HI := Lib.hid (HI.out.keep hb21)
              replace HB := Lib.hid (nx HB.out hb21)
              clear hb21
              unfold ansV
              go_wp2_with fail
              refine (specTreeWith_any a n9 cap9 L9 _ HL.out hlc hcm HI.out).mono ?_; rintro e w22 ⟨rfl, hb22⟩
              replace HB := Lib.hid (nx HB.out hb22)
              clear hb22
              unfold ansV
              generalize trS (withO L9) = z1
              generalize trB (withO L9) = z2
              go_wp2_with fail
              refine (drawDropExposed_any d _ (hd.keep HB.out)).mono ?_; rintro e w23 ⟨u, k, hu, hk1, hk2, rfl, hb23⟩
              replace HB := Lib.hid (nx HB.out hb23)
              clear hb23
              go_wp2_with fail
              refine (implDropExposed_any u k _ (by omega) (by omega) (by omega)).mono ?_; rintro e w24 ⟨rfl, hb24⟩
              replace HB := Lib.hid (nx HB.out hb24)
              clear hb24
              unfold ans2
              go_wp2_with fail
              refine (specDropExposed_any u k _ (by omega) (by omega) (by omega)).mono ?_; rintro e w25 ⟨rfl, hb25⟩
              replace HB := Lib.hid (nx HB.out hb25)
              clear hb25
              unfold ans2
              generalize (dropExpO u k).getD ⟨#[]⟩ = z3
              generalize (dropExpO u k).isSome = z4
              go_wp2_with fail
              go_ret
              exact ⟨by simp, HB.out⟩
  · have eA : AddressesOf_o s = none := by simp [AddressesOf_o, hno]
    have eD : DepthsOf_o s = none := by simp [DepthsOf_o, hno]
    have eE : ExposedOf_o s = none := by simp [ExposedOf_o, hno]
    have eC : caretsO s = none := by simp [caretsO, hno]
    have eM : mirO s = none := by simp [mirO, hno]
    have c1 : ∀ w, Calls Try.prog 9 #[.string s] w (fun e w' => ∃ v, OwnS w.heap.size w' v [] ∧ Below w.heap.size w w' ∧ e = .returned (.tuple #[v, .bool false])) := fun w => by have := implAddressesOf_any s w (by omega); rw [eA] at this; exact this
    have c2 : ∀ w, Calls Try.prog 10 #[.string s] w (fun e w' => ∃ v, OwnS w.heap.size w' v [] ∧ Below w.heap.size w w' ∧ e = .returned (.tuple #[v, .bool false])) := fun w => by have := specAddressesOf_any s w (by omega); rw [eA] at this; exact this
    have c3 : ∀ w, Calls Try.prog 11 #[.string s] w (fun e w' => ∃ v, OwnI w.heap.size w' v [] ∧ Below w.heap.size w w' ∧ e = .returned (.tuple #[v, .bool false])) := fun w => by have := implDepthsOf_any s w (by omega); rw [eD] at this; exact this
    have c4 : ∀ w, Calls Try.prog 12 #[.string s] w (fun e w' => ∃ v, OwnI w.heap.size w' v [] ∧ Below w.heap.size w w' ∧ e = .returned (.tuple #[v, .bool false])) := fun w => by have := specDepthsOf_any s w (by omega); rw [eD] at this; exact this
    have c5 : ∀ w, Calls Try.prog 13 #[.string s] w (fun e w' => ∃ v, OwnI w.heap.size w' v [] ∧ Below w.heap.size w w' ∧ e = .returned (.tuple #[v, .bool false])) := fun w => by have := implExposedOf_any s w (by omega); rw [eE] at this; exact this
    have c6 : ∀ w, Calls Try.prog 14 #[.string s] w (fun e w' => ∃ v, OwnI w.heap.size w' v [] ∧ Below w.heap.size w w' ∧ e = .returned (.tuple #[v, .bool false])) := fun w => by have := specExposedOf_any s w (by omega); rw [eE] at this; exact this
    have c7 : ∀ w, Calls Try.prog 15 #[.string s] w (Gives (.tuple #[.int .i64 0, .bool false]) w) := fun w => by have := implCaretsOf_any s w (by omega); rw [eC] at this; exact this
    have c8 : ∀ w, Calls Try.prog 16 #[.string s] w (Gives (.tuple #[.int .i64 0, .bool false]) w) := fun w => by have := specCaretsOf_any s w (by omega); rw [eC] at this; exact this
    have c9 : ∀ w, Calls Try.prog 17 #[.string s] w (Gives (.tuple #[.string ⟨#[]⟩, .bool false]) w) := fun w => by have := implMirrorTree_any s w (by omega); rw [eM] at this; exact this
    have c10 : ∀ w, Calls Try.prog 18 #[.string s] w (Gives (.tuple #[.string ⟨#[]⟩, .bool false]) w) := fun w => by have := specMirrorTree_any s w (by omega); rw [eM] at this; exact this
    have HN := Lib.hid hno
    clear eA eD eE eC eM hno
    go_wp2_with fail
    refine (c1 _).mono ?_; rintro e w1 ⟨v1, o1, hb, rfl⟩
    have O1 := Lib.hid o1
    replace HB := Lib.hid (nx HB.out hb)
    clear hb o1
    go_wp2_with fail
    refine (c2 _).mono ?_; rintro e w2 ⟨v2, o2, hb, rfl⟩
    replace O1 := Lib.hid (O1.out.keep hb)
    have O2 := Lib.hid o2
    replace HB := Lib.hid (nx HB.out hb)
    clear hb o2
    go_wp2_with fail
    refine (c3 _).mono ?_; rintro e w3 ⟨v3, o3, hb, rfl⟩
    replace O1 := Lib.hid (O1.out.keep hb)
    replace O2 := Lib.hid (O2.out.keep hb)
    have O3 := Lib.hid o3
    replace HB := Lib.hid (nx HB.out hb)
    clear hb o3
    go_wp2_with fail
    refine (c4 _).mono ?_; rintro e w4 ⟨v4, o4, hb, rfl⟩
    replace O1 := Lib.hid (O1.out.keep hb)
    replace O2 := Lib.hid (O2.out.keep hb)
    replace O3 := Lib.hid (O3.out.keep hb)
    have O4 := Lib.hid o4
    replace HB := Lib.hid (nx HB.out hb)
    clear hb o4
    go_wp2_with fail
    refine (c5 _).mono ?_; rintro e w5 ⟨v5, o5, hb, rfl⟩
    replace O1 := Lib.hid (O1.out.keep hb)
    replace O2 := Lib.hid (O2.out.keep hb)
    replace O3 := Lib.hid (O3.out.keep hb)
    replace O4 := Lib.hid (O4.out.keep hb)
    have O5 := Lib.hid o5
    replace HB := Lib.hid (nx HB.out hb)
    clear hb o5
    go_wp2_with fail
    refine (c6 _).mono ?_; rintro e w6 ⟨v6, o6, hb, rfl⟩
    replace O1 := Lib.hid (O1.out.keep hb)
    replace O2 := Lib.hid (O2.out.keep hb)
    replace O3 := Lib.hid (O3.out.keep hb)
    replace O4 := Lib.hid (O4.out.keep hb)
    replace O5 := Lib.hid (O5.out.keep hb)
    have O6 := Lib.hid o6
    replace HB := Lib.hid (nx HB.out hb)
    clear hb o6
    go_wp2_with fail
    refine (c7 _).mono ?_; rintro e w7 ⟨rfl, hb⟩
    replace O1 := Lib.hid (O1.out.keep hb)
    replace O2 := Lib.hid (O2.out.keep hb)
    replace O3 := Lib.hid (O3.out.keep hb)
    replace O4 := Lib.hid (O4.out.keep hb)
    replace O5 := Lib.hid (O5.out.keep hb)
    replace O6 := Lib.hid (O6.out.keep hb)
    replace HB := Lib.hid (nx HB.out hb)
    clear hb
    go_wp2_with fail
    refine (c8 _).mono ?_; rintro e w8 ⟨rfl, hb⟩
    replace O1 := Lib.hid (O1.out.keep hb)
    replace O2 := Lib.hid (O2.out.keep hb)
    replace O3 := Lib.hid (O3.out.keep hb)
    replace O4 := Lib.hid (O4.out.keep hb)
    replace O5 := Lib.hid (O5.out.keep hb)
    replace O6 := Lib.hid (O6.out.keep hb)
    replace HB := Lib.hid (nx HB.out hb)
    clear hb
    go_wp2_with fail
    refine (c9 _).mono ?_; rintro e w9 ⟨rfl, hb⟩
    replace O1 := Lib.hid (O1.out.keep hb)
    replace O2 := Lib.hid (O2.out.keep hb)
    replace O3 := Lib.hid (O3.out.keep hb)
    replace O4 := Lib.hid (O4.out.keep hb)
    replace O5 := Lib.hid (O5.out.keep hb)
    replace O6 := Lib.hid (O6.out.keep hb)
    replace HB := Lib.hid (nx HB.out hb)
    clear hb
    go_wp2_with fail
    refine (c10 _).mono ?_; rintro e w10 ⟨rfl, hb⟩
    replace O1 := Lib.hid (O1.out.keep hb)
    replace O2 := Lib.hid (O2.out.keep hb)
    replace O3 := Lib.hid (O3.out.keep hb)
    replace O4 := Lib.hid (O4.out.keep hb)
    replace O5 := Lib.hid (O5.out.keep hb)
    replace O6 := Lib.hid (O6.out.keep hb)
    replace HB := Lib.hid (nx HB.out hb)
    clear hb
    go_wp2_with fail
    refine (fTexts_any _ _ v1 v2 _ _ O1.out.cells O2.out.cells).mono ?_; rintro e w11 ⟨rfl, d11, rfl⟩
    go_wp2_with fail
    refine (fSame_any _ _ v3 v4 _ _ (O3.out.cells.drewN _) (O4.out.cells.drewN _)).mono ?_; rintro e w12 ⟨rfl, d12, rfl⟩
    go_wp2_with fail
    refine (fSame_any _ _ v5 v6 _ _ (O5.out.cells.drewN _) (O6.out.cells.drewN _)).mono ?_; rintro e w13 ⟨rfl, d13, rfl⟩
    go_wp2_with fail
    refine (implIsTree_no s _ (by omega) HN.out).mono ?_; rintro e w14 ⟨hb, rfl⟩
    replace HB := Lib.hid (nx (drewB HB.out _) hb)
    clear hb
    go_wp2_with fail
    refine (drawTreeWith_any d _ (hd.keep HB.out)).mono ?_; rintro e w20 ⟨a, n9, cap9, L9, hL, hlc, hn9, hcm, hI, hz9, rfl, hb20⟩
    have HL := Lib.hid hL
    have HI := Lib.hid hI
    have HZ := Lib.hid hz9
    replace HB := Lib.hid (nx HB.out hb20)
    clear hL hI hz9 hb20
    go_wp2_with fail
    refine (implTreeWith_any a n9 cap9 L9 _ HL.out hlc hcm HI.out (fun s hs => by have := HZ.out s hs; omega)).mono ?_; rintro e w21 ⟨rfl, hb21⟩
    replace HI := Lib.hid (HI.out.keep hb21)
    replace HB := Lib.hid (nx HB.out hb21)
    clear hb21
    unfold ansV
    go_wp2_with fail
    refine (specTreeWith_any a n9 cap9 L9 _ HL.out hlc hcm HI.out).mono ?_; rintro e w22 ⟨rfl, hb22⟩
    replace HB := Lib.hid (nx HB.out hb22)
    clear hb22
    unfold ansV
    generalize trS (withO L9) = z1
    generalize trB (withO L9) = z2
    go_wp2_with fail
    refine (drawDropExposed_any d _ (hd.keep HB.out)).mono ?_; rintro e w23 ⟨u, k, hu, hk1, hk2, rfl, hb23⟩
    replace HB := Lib.hid (nx HB.out hb23)
    clear hb23
    go_wp2_with fail
    refine (implDropExposed_any u k _ (by omega) (by omega) (by omega)).mono ?_; rintro e w24 ⟨rfl, hb24⟩
    replace HB := Lib.hid (nx HB.out hb24)
    clear hb24
    unfold ans2
    go_wp2_with fail
    refine (specDropExposed_any u k _ (by omega) (by omega) (by omega)).mono ?_; rintro e w25 ⟨rfl, hb25⟩
    replace HB := Lib.hid (nx HB.out hb25)
    clear hb25
    unfold ans2
    generalize (dropExpO u k).getD ⟨#[]⟩ = z3
    generalize (dropExpO u k).isSome = z4
    go_wp2_with fail
    go_ret
    exact ⟨by simp, HB.out⟩

end Go.Proofs.Yteflpaebckichab

/-! Lw2 -/
namespace Go.Proofs.Yteflpaebckichab
open Go.RowKit

theorem rawB_nil (W : World) : RawB W ⟨none, 0, 0⟩ := ⟨by simp, .inl rfl⟩
theorem rawB_of {W : World} {x : Addr} {len cap : Nat} {zs : List Int} (h1 : len ≤ cap) (h2 : cap ≤ maxLen) (h3 : zs.length = cap) (h4 : ∀ i, i < zs.length → W.cell? (x.add i) = some (.int .u8 (zs.getD i 0))) (h5 : ∀ s ∈ zs, (Lit.int .u8 s).wf = true) :
    RawB W ⟨some x, len, cap⟩ := by
  unfold maxLen at h2
  refine ⟨by show (len : Int) ≤ _; omega, ?_⟩
  by_cases h0 : len = 0
  · exact .inl h0
  · right
    obtain ⟨b, off, spot⟩ := x
    have hc := h4 0 (by omega)
    have hspot : spot = none := by simpa [Addr.add] using World.cell?_spot hc
    subst hspot
    refine ⟨b, off, rfl, fun i hi => ?_⟩
    have hi2 : i < len := hi
    have := h4 i (by omega)
    have e : (⟨b, off, none⟩ : Addr).add i = ⟨b, off + i, none⟩ := by
      unfold Addr.add
      split
      · next h => rw [h]; simp
      · rfl
    rw [e] at this
    have hm : zs.getD i 0 ∈ zs := by
      rw [List.getD_eq_getElem?_getD, List.getElem?_eq_getElem (show i < zs.length by omega)]; exact List.getElem_mem _
    have hw := h5 _ hm
    have e1 : IntKind.u8.min = 0 := rfl
    have e2 : IntKind.u8.max = 255 := rfl
    simp only [Lit.wf, Bool.and_eq_true, decide_eq_true_eq] at hw
    refine ⟨(zs.getD i 0).toNat, by omega, ?_⟩
    rw [this, show (((zs.getD i 0).toNat : Nat) : Int) = zs.getD i 0 by omega]
end Go.Proofs.Yteflpaebckichab

/-! LFnTreesByAddresses -/
namespace Go.Proofs.Yteflpaebckichab.fnTreesByAddresses
open Go.ChangeShapes Go.WideShapes Go.ChangeAt Go.RowKit
open Go.ChangeMaps (open_string shut_string)
set_option linter.unusedVariables false

theorem own : ownKnob Try.prog.godebug = none := by kernel_rfl
theorem laidOut : laidOutB Try.prog = true := by kernel_rfl

set_option maxRecDepth 100000 in
theorem walked (W : World) (c d : Bts) (hc : RawB W c) (hd : RawB W d) : Calls Try.prog 3 #[.slice c.a c.n c.cap, .slice d.a d.n d.cap] W (SaysTrue W) := by
  by_cases hbig : c.n + d.n ≤ 1048576
  · exact treesByAddresses_law W c d ⟨by omega, hc.2⟩ ⟨by omega, hd.2⟩ hbig
  · go_enter Try.func3, Try.ntmps3
    go_wp2_with fail
    refine (big_yes c d _ hc.1 hd.1 (by omega)).mono ?_; rintro e w1 ⟨rfl, rfl⟩
    go_wp2_with fail
    go_ret
    exact ⟨rfl, Below.refl _ _⟩

set_option maxRecDepth 100000 in
theorem lifted (os : Os) (started : os.Started) (H : Type) (enc : TypeId × Value → H) :
    ReturnsInHanded {} Try.checked os 3 .any (Rows.fnTreesByAddressesSpec.pre6 enc Try.prog Try.f3 Rows.fnTreesByAddressesRow.domain false) (Rows.fnTreesByAddressesSpec.post enc Try.prog Try.f3 false true false false) := by
  refine returnsInHanded_of_change (C := Try.checked) own started (by kernel_rfl) Try.func3
    (ChangeSpec.witness6 (enc := enc) (C := Try.checked) false ⟨#[], #[.slice none 0 0, .slice none 0 0], []⟩ 8 (by kernel_rfl) (by kernel_rfl) (by kernel_rfl) (by kernel_rfl)) ?_
  intro W base args ds gs before hval0 hW hcnd _
  have hval : ∀ (j : Nat) t v, Try.f3.params[j]? = some t → args[j]? = some v → Value.okWide Try.prog W .any base t v := hval0
  have hW' := hW
  obtain ⟨p, q, hA0, hV, rfl, hfz, hnd⟩ := hW
  have hA : DataW.TrodAll enc Try.prog W 0 (fun _ => true) true Try.f3.params.toList args.toList ds p := hA0
  rw [Try.params3] at hA hval
  obtain ⟨v0, vs0, d0, ds0, p0, q0, hargs, rfl, rfl, h0, r0⟩ := trodAll_cons hA
  obtain ⟨v1, vs1, d1, ds1, p1, q1, rfl, rfl, rfl, h1, r1⟩ := trodAll_cons r0
  obtain ⟨rfl, rfl, rfl⟩ := trodAll_nil r1
  obtain rfl : args = #[v0, v1] := by cases args; simp_all
  obtain ⟨rfl, rfl⟩ := trodVars_none hV
  obtain ⟨a0, len0, cap0, rfl⟩ := okWide_slice Try.underlying22 (hval 0 22 v0 rfl rfl)
  have k0 := h0
  have lt0 : ∀ x ∈ p0, x.block < W.heap.size := by obtain ⟨m, hm⟩ := k0; exact DataW.trod_lt m _ _ _ hm
  have w0 : RawB W ⟨a0, len0, cap0⟩ := by
    obtain ⟨fuel, hf⟩ := h0
    rcases open_ints Try.underlying22 Try.underlying5 (by kernel_rfl) hf with ⟨hcs, _⟩ | ⟨x, l, c, zs, hcs, _, hl, hm, hz, _, hcell, hwz⟩
    · simp [Value.cells] at hcs
      obtain ⟨rfl, rfl, rfl⟩ := hcs
      exact rawB_nil W
    · simp [Value.cells] at hcs
      obtain ⟨rfl, rfl, rfl⟩ := hcs
      exact rawB_of hl hm (by simpa using hz) hcell hwz
  obtain ⟨a1, len1, cap1, rfl⟩ := okWide_slice Try.underlying22 (hval 1 22 v1 rfl rfl)
  have k1 := h1
  have lt1 : ∀ x ∈ p1, x.block < W.heap.size := by obtain ⟨m, hm⟩ := k1; exact DataW.trod_lt m _ _ _ hm
  have w1 : RawB W ⟨a1, len1, cap1⟩ := by
    obtain ⟨fuel, hf⟩ := h1
    rcases open_ints Try.underlying22 Try.underlying5 (by kernel_rfl) hf with ⟨hcs, _⟩ | ⟨x, l, c, zs, hcs, _, hl, hm, hz, _, hcell, hwz⟩
    · simp [Value.cells] at hcs
      obtain ⟨rfl, rfl, rfl⟩ := hcs
      exact rawB_nil W
    · simp [Value.cells] at hcs
      obtain ⟨rfl, rfl, rfl⟩ := hcs
      exact rawB_of hl hm (by simpa using hz) hcell hwz
  clear hA0 hval0
  simp only [List.append_nil] at hW'
  refine (walked W ⟨a0, len0, cap0⟩ ⟨a1, len1, cap1⟩ w0 w1).mono fun e W' ⟨he, bel⟩ => ?_
  subst he
  exact ⟨_, rfl, _, _, _, [], _, [], hW', trodAll_mk1 (shut_bool Try.underlying4 _), (trodAll_cons_mk (Below.trod laidOut (by kernel_rfl) (of_decide_eq_true (by kernel_rfl)) k0 bel lt0) (trodAll_cons_mk (Below.trod laidOut (by kernel_rfl) (of_decide_eq_true (by kernel_rfl)) k1 bel lt1) trodAll_mk0)), rfl, bel.frame _, fun h => by cases h⟩

theorem over : Rows.fnTreesByAddressesRow.holds Try.pinned (OpenSpec.ofChange Rows.fnTreesByAddressesSpec) :=
  OpenClaim.holds_of_wide 3 Try.f3 rfl rfl rfl rfl rfl rfl rfl ⟨rfl, rfl, rfl, rfl, rfl⟩ rfl rfl rfl rfl rfl (by kernel_rfl) Try.func3 (by kernel_rfl)
    (of_decide_eq_true (by kernel_rfl)) (by unfold Func.isWrapper; first | (rw [if_pos (by decide +kernel)]; kernel_rfl) | (rw [if_neg (by decide +kernel)]; exact ⟨rfl, rfl⟩))
    (fun os started H enc _ => lifted os started H enc)

theorem proved : Rows.FnTreesByAddressesSaid := over
#print axioms proved
end Go.Proofs.Yteflpaebckichab.fnTreesByAddresses
