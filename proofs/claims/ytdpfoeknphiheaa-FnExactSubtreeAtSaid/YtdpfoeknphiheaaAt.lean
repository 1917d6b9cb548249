/- Walks: (*node).at. -/
import Derived.Test.YtdpfoeknphiheaaText
import Derived.Test.YtdpfoeknphiheaaAtP
import Derived.Test.YtdpfoeknphiheaaTrOf
namespace Go.Proofs.Ytdpfoeknphiheaa
open Go.RowKit

theorem side0 (b : Nat) (x : Int) (w : World) (h : (x == 48) = true) :
    Calls Try.prog 135 #[.pointer (some ⟨b, 0, none⟩), .int .u8 x] w fun e w' => e = .returned (.func (Fn.func 140) #[.pointer (some ⟨b, 0, none⟩)] #[]) ∧ w = w' := by
  go_enter Try.func135, Try.ntmps135
  go_wp2_with fail
  go_ret
  exact ⟨rfl, rfl⟩

theorem side1 (b : Nat) (x : Int) (w : World) (h0 : (x == 48) = false) (h : (x == 49) = true) :
    Calls Try.prog 135 #[.pointer (some ⟨b, 0, none⟩), .int .u8 x] w fun e w' => e = .returned (.func (Fn.func 141) #[.pointer (some ⟨b, 0, none⟩)] #[]) ∧ w = w' := by
  go_enter Try.func135, Try.ntmps135
  go_wp2_with fail
  go_ret
  exact ⟨rfl, rfl⟩

theorem sideN (b : Nat) (x : Int) (w : World) (h0 : (x == 48) = false) (h : (x == 49) = false) :
    Calls Try.prog 135 #[.pointer (some ⟨b, 0, none⟩), .int .u8 x] w fun e w' => e = .returned Value.nilFunc ∧ w = w' := by
  go_enter Try.func135, Try.ntmps135
  go_wp2_with fail
  go_ret
  exact ⟨rfl, rfl⟩

theorem eqFn (f b : Nat) (w : World) : (binOp .eql 73 (.func (.func f) #[.pointer (some ⟨b, 0, none⟩)] #[]) .nilFunc).run Try.prog w = .ok (.bool false) w := by kernel_rfl
theorem eqNil (w : World) : (binOp .eql 73 .nilFunc .nilFunc).run Try.prog w = .ok (.bool true) w := by kernel_rfl

theorem leftSide_any (b : Nat) (v : Value) (w : World) (h : w.cell? ⟨b, 0, none⟩ = some v) :
    Calls Try.prog 140 #[.pointer (some ⟨b, 0, none⟩)] w fun e w' => e = .returned v ∧ w = w' := by
  go_enter Try.func140, Try.ntmps140
  go_wp2_with fail
  go_ret
  exact ⟨rfl, rfl⟩

theorem rightSide_any (b : Nat) (v : Value) (w : World) (h : w.cell? ⟨b, 1, none⟩ = some v) :
    Calls Try.prog 141 #[.pointer (some ⟨b, 0, none⟩)] w fun e w' => e = .returned v ∧ w = w' := by
  go_enter Try.func141, Try.ntmps141
  go_wp2_with fail
  go_ret
  exact ⟨rfl, rfl⟩

def AtPost (o : Option Tr) (w : World) (e : Ending) (w' : World) : Prop :=
  match o with
  | some u => ∃ b, NodeAt w u b ∧ e = .returned (.pointer (some ⟨b, 0, none⟩)) ∧ w = w'
  | none => e = .returned (.pointer none) ∧ w = w'

set_option maxRecDepth 100000 in
set_option maxHeartbeats 1000000 in
theorem at_any (t : Tr) (b : Nat) (s : ByteArray) (w : World) (h : NodeAt w t b) (hs : s.size ≤ 9223372036854775806) :
    Calls Try.prog 106 #[.pointer (some ⟨b, 0, none⟩), .string s] w (AtPost (t.sub s.data.toList) w) := by
  have H := Lib.hid h
  clear h
  go_enter Try.func106, Try.ntmps106
  have ef := eqFn
  have en := eqNil
  go_wp2_with fail
  go_loop [0, 9] (fun n i => ∃ (k : Nat) (u : Tr) (c : Nat), k ≤ s.size ∧ i = .int .i64 k ∧ n = .pointer (some ⟨c, 0, none⟩) ∧ Hid (NodeAt w u c) ∧ Hid (t.sub s.data.toList = u.sub (s.data.toList.drop k))) (fun _ i => s.size - (intOf i).toNat)
  case atStart => exact ⟨0, t, b, Nat.zero_le _, rfl, rfl, H, rfl⟩
  case round =>
    obtain ⟨k, u, c, hk, rfl, rfl, hn, he⟩ := hrel
    by_cases hlt : k < s.size
    · obtain ⟨x, r, hd, hb, hr⟩ := drop_of_byteAt hlt
      have hx : ((s[k]'hlt).toNat : Int) = (x.toNat : Int) := by rw [← hb]; exact (byteAt_eq s k hlt).symm
      have HD := Lib.hid hd
      have HR := Lib.hid hr
      have HX := Lib.hid hx
      clear hd hb hr hx
      cases u with
      | lf =>
        have hnone : Hid (t.sub s.data.toList = none) := by
          have := he.out
          rw [HD.out] at this
          exact this
        have hw : AtPost (t.sub s.data.toList) w (.returned (.pointer none)) w := by rw [hnone.out]; exact ⟨rfl, rfl⟩
        have HW := Lib.hid hw
        clear hw he
        by_cases h48 : x = 48
        · have h0 : Hid (((((s[k]'hlt).toNat : Nat) : Int) == 48) = true) := by show (_ == _) = true; rw [HX.out, h48]; rfl
          go_wp2_with fail
          refine (side0 c _ _ h0.out).mono ?_; rintro e w1 ⟨rfl, rfl⟩
          go_wp2_with fail
          refine (isLeaf_any _ c _ hn.out).mono ?_; rintro e w1 ⟨rfl, rfl⟩
          simp only [Tr.isLf]
          go_wp2_with fail
          go_ret
          exact HW.out
        · have h0 : Hid (((((s[k]'hlt).toNat : Nat) : Int) == 48) = false) := by
            show (_ == _) = false; rw [HX.out]; simp; exact fun e => h48 (u8_eq (n := 48) (by omega) e)
          by_cases h49 : x = 49
          · have h1 : Hid (((((s[k]'hlt).toNat : Nat) : Int) == 49) = true) := by show (_ == _) = true; rw [HX.out, h49]; rfl
            go_wp2_with fail
            refine (side1 c _ _ h0.out h1.out).mono ?_; rintro e w1 ⟨rfl, rfl⟩
            go_wp2_with fail
            refine (isLeaf_any _ c _ hn.out).mono ?_; rintro e w1 ⟨rfl, rfl⟩
            simp only [Tr.isLf]
            go_wp2_with fail
            go_ret
            exact HW.out
          · have h1 : Hid (((((s[k]'hlt).toNat : Nat) : Int) == 49) = false) := by
              show (_ == _) = false; rw [HX.out]; simp; exact fun e => h49 (u8_eq (n := 49) (by omega) e)
            go_wp2_with fail
            refine (sideN c _ _ h0.out h1.out).mono ?_; rintro e w1 ⟨rfl, rfl⟩
            go_wp2_with fail
            go_ret
            exact HW.out
      | nd l rr =>
        obtain ⟨bl, br, hn1, hl, hrr⟩ := hn.out
        have c1 := two_left hn1
        have c2 := two_right hn1
        have HL := Lib.hid hl
        have HRR := Lib.hid hrr
        clear hn1 hl hrr
        by_cases h48 : x = 48
        · have h0 : Hid (((((s[k]'hlt).toNat : Nat) : Int) == 48) = true) := by show (_ == _) = true; rw [HX.out, h48]; rfl
          have hnext : Hid (t.sub s.data.toList = l.sub (s.data.toList.drop (k + 1))) := by
            have := he.out
            rw [HD.out, Tr.sub, if_pos h48] at this
            rw [HR.out]; exact this
          go_wp2_with fail
          refine (side0 c _ _ h0.out).mono ?_; rintro e w1 ⟨rfl, rfl⟩
          go_wp2_with fail
          refine (isLeaf_any _ c _ hn.out).mono ?_; rintro e w1 ⟨rfl, rfl⟩
          simp only [Tr.isLf]
          go_wp2_with fail
          refine (leftSide_any c _ _ c1).mono ?_; rintro e w1 ⟨rfl, rfl⟩
          go_wp2_with fail
          go_round
          case rel => exact ⟨k + 1, l, bl, by omega, by go_num, rfl, HL, hnext⟩
          case measure => simp [intOf]; omega
        · have h0 : Hid (((((s[k]'hlt).toNat : Nat) : Int) == 48) = false) := by
            show (_ == _) = false; rw [HX.out]; simp; exact fun e => h48 (u8_eq (n := 48) (by omega) e)
          by_cases h49 : x = 49
          · have h1 : Hid (((((s[k]'hlt).toNat : Nat) : Int) == 49) = true) := by show (_ == _) = true; rw [HX.out, h49]; rfl
            have hnext : Hid (t.sub s.data.toList = rr.sub (s.data.toList.drop (k + 1))) := by
              have := he.out
              rw [HD.out, Tr.sub, if_neg h48, if_pos h49] at this
              rw [HR.out]; exact this
            go_wp2_with fail
            refine (side1 c _ _ h0.out h1.out).mono ?_; rintro e w1 ⟨rfl, rfl⟩
            go_wp2_with fail
            refine (isLeaf_any _ c _ hn.out).mono ?_; rintro e w1 ⟨rfl, rfl⟩
            simp only [Tr.isLf]
            go_wp2_with fail
            refine (rightSide_any c _ _ c2).mono ?_; rintro e w1 ⟨rfl, rfl⟩
            go_wp2_with fail
            go_round
            case rel => exact ⟨k + 1, rr, br, by omega, by go_num, rfl, HRR, hnext⟩
            case measure => simp [intOf]; omega
          · have h1 : Hid (((((s[k]'hlt).toNat : Nat) : Int) == 49) = false) := by
              show (_ == _) = false; rw [HX.out]; simp; exact fun e => h49 (u8_eq (n := 49) (by omega) e)
            have hnone : t.sub s.data.toList = none := by
              have := he.out
              rw [HD.out, Tr.sub, if_neg h48, if_neg h49] at this
              exact this
            have hw : AtPost (t.sub s.data.toList) w (.returned (.pointer none)) w := by rw [hnone]; exact ⟨rfl, rfl⟩
            have HW := Lib.hid hw
            clear hw he hnone
            go_wp2_with fail
            refine (sideN c _ _ h0.out h1.out).mono ?_; rintro e w1 ⟨rfl, rfl⟩
            go_wp2_with fail
            go_ret
            exact HW.out
    · obtain rfl : k = s.size := by omega
      have hw : AtPost (t.sub s.data.toList) w (.returned (.pointer (some ⟨c, 0, none⟩))) w := by
        have := he.out
        rw [List.drop_of_length_le (by rw [Lib.size_eq]; exact Nat.le_refl _)] at this
        rw [this]
        cases u <;> exact ⟨c, hn.out, rfl, rfl⟩
      have HW := Lib.hid hw
      clear hw he
      go_wp2_with fail
      go_ret
      exact HW.out
end Go.Proofs.Ytdpfoeknphiheaa
