/- Walks: rotations at an address: spec.brAt, (*node).turnedAt. -/
import Derived.Test.YtkoebmdocenlkaaBr1
import Derived.Test.YtkoebmdocenlkaaSpecAt
namespace Go.Proofs.Ytkoebmdocenlkaa
open Go.RowKit

theorem trOf_two (a b : ByteArray) (w : World) (ha : a.size ≤ 1000000) (hb : b.size ≤ 1000000) :
    Calls Try.prog 108 #[.string a, .string b] w fun e w' => e = .returned (.string (⟨#[40]⟩ ++ a ++ b ++ ⟨#[41]⟩)) ∧ w = w' := by
  go_enter Try.func108, Try.ntmps108
  go_wp2_with fail
  go_ret
  exact ⟨rfl, rfl⟩

/-- The answer of brAt: where there is none, some text and false. -/
def AtV (o : Option Tr) (m : Nat) (v : Value) : Prop :=
  match o with
  | some u => v = .tuple #[.string u.str, .bool true]
  | none => ∃ s : ByteArray, s.size ≤ m ∧ v = .tuple #[.string s, .bool false]
def GivesAt (o : Option Tr) (m : Nat) (w : World) (e : Ending) (w' : World) : Prop := ∃ v, AtV o m v ∧ Below w.heap.size w w' ∧ e = .returned v

theorem tail_list {s : ByteArray} {c : UInt8} {cs : List UInt8} (h : s.data.toList = c :: cs) : (s.extract 1 s.size).data.toList = cs := by
  rw [ext_end, h]; rfl
theorem byte0 {s : ByteArray} {c : UInt8} {cs : List UInt8} (h : s.data.toList = c :: cs) : ∃ hz : 0 < s.size, ((s[0]'hz).toNat : Int) = (c.toNat : Int) := by
  have hb := byteAt_drop (s := s) (a := 0) (c := c) (r := cs) (by simpa using h)
  exact ⟨hb.1, (byteAt_eq s ((0 : Nat) : Int) hb.1).symm.trans hb.2⟩
theorem u8_ne {c : UInt8} {n : Nat} (hn : n < 256) (h : c ≠ UInt8.ofNat n) : ¬ (c.toNat : Int) = (n : Int) := fun e => h (u8_eq hn e)

set_option maxRecDepth 100000 in
set_option maxHeartbeats 1000000 in
theorem brAt_any (k : Bool) : ∀ (p : List UInt8) (t : Tr) (s : ByteArray) (w : World), s.data.toList = p → t.carets ≤ 60 → p.length ≤ 100 →
    Calls Try.prog 81 #[.string t.str, .string s, .bool k] w (GivesAt (t.rotAt k p) (400 * (p.length + 1)) w) := by
  intro p
  induction p with
  | nil =>
    intro t s w hs ht _
    have hz : s.size = 0 := by rw [Lib.size_eq, hs]; rfl
    have e2 : s.toList = [] := by rw [Lib.toList_data, hs]
    have hs0 : s = ⟨#[]⟩ := ba_ext (by rw [hs])
    rw [rotAt_nil]
    have hR := fun w => brRotate_any k t w ht
    have hfin : ∀ w', Below w.heap.size w w' → GivesAt (t.rot k) (400 * (([] : List UInt8).length + 1)) w (.returned (ansV (t.rot k))) w' := by
      intro w' hb
      refine ⟨_, ?_, hb, rfl⟩
      cases t.rot k with
      | none => exact ⟨⟨#[]⟩, Nat.zero_le _, rfl⟩
      | some u => rfl
    have HF := Lib.hid hfin
    clear hfin hs
    subst hs0
    unfold ansV at hR HF
    generalize trS (t.rot k) = A at hR HF
    generalize trB (t.rot k) = B at hR HF
    go_enter Try.func81, Try.ntmps81
    go_wp2_with fail
    refine (hR _).mono ?_; rintro e w1 ⟨rfl, hb1⟩
    go_wp2_with fail
    go_ret2
    exact HF.out _ hb1
  | cons c cs ih =>
    intro t s w hs ht hp
    have hp' : cs.length ≤ 99 := by simp at hp; omega
    have hz : s.size ≤ 9223372036854775806 := by rw [Lib.size_eq, hs]; show cs.length + 1 ≤ _; omega
    have hz1 : 1 ≤ s.size := by rw [Lib.size_eq, hs]; show 1 ≤ cs.length + 1; omega
    have hne : (s.toList == []) = false := by rw [Lib.toList_data, hs]; rfl
    have hne2 : s.toList.isEmpty = false := by rw [Lib.toList_data, hs]; rfl
    obtain ⟨hz0, hx⟩ := byte0 hs
    have ht1 := tail_list hs
    have HX := Lib.hid hx
    have HT := Lib.hid ht1
    have hm : Hid ((c :: cs).length = cs.length + 1) := rfl
    cases t with
    | lf =>
      rw [show Tr.lf.rotAt k (c :: cs) = none by rfl]
      clear hs ih hx ht1
      go_enter Try.func81, Try.ntmps81
      go_wp2_with fail
      refine (trLeaf_any .lf _).mono ?_; rintro e w1 ⟨rfl, rfl⟩
      simp only [Tr.isLf]
      go_wp2_with fail
      go_ret2
      exact ⟨_, ⟨⟨#[]⟩, Nat.zero_le _, rfl⟩, Below.refl _ _, rfl⟩
    | nd l r =>
      have hc : l.carets + r.carets + 1 ≤ 60 := ht
      have sl : l.str.size ≤ 200 := by have := l.str_size; omega
      have sr : r.str.size ≤ 200 := by have := r.str_size; omega
      by_cases h48 : c = 48
      · have h0 : Hid ((((s[0]'hz0).toNat : Int) == 48) = true) := by show (_ == _) = true; rw [HX.out, h48]; rfl
        have h0' : Hid ((((s[0]'hz0).toNat : Int) != 48) = false) := by show (_ != _) = false; rw [HX.out, h48]; rfl
        have hJ := fun w => ih l (s.extract 1 s.size) w HT.out (by omega) (by omega)
        rw [show (Tr.nd l r).rotAt k (c :: cs) = (l.rotAt k cs).map (fun x => .nd x r) by rw [Tr.rotAt, if_pos h48]]
        cases hg : l.rotAt k cs with
        | none =>
          rw [hg] at hJ
          have hJ' : ∀ w, Calls Try.prog 81 #[.string l.str, .string (s.extract 1 s.size), .bool k] w (fun e w' => ∃ s', s'.size ≤ 400 * (cs.length + 1) ∧ Below w.heap.size w w' ∧ e = .returned (.tuple #[.string s', .bool false])) := fun w => (hJ w).mono fun e w' ⟨v, ⟨s', h1, h2⟩, h3, h4⟩ => ⟨s', h1, h3, by rw [h4, h2]⟩
          clear hs ih hx ht1 hJ hg
          go_enter Try.func81, Try.ntmps81
          go_wp2_with fail
          refine (trLeaf_any (.nd l r) _).mono ?_; rintro e w1 ⟨rfl, rfl⟩
          simp only [Tr.isLf]
          have g0 := h0'.out
          go_wp2_with fail
          refine (trSides_any l r _ (by omega)).mono ?_; rintro e w1 ⟨rfl, hb1⟩
          have g1 := h0.out
          go_wp2_with fail
          refine (hJ' _).mono ?_; rintro e w2 ⟨s', hs', hb2, rfl⟩
          have hs2 : s'.size ≤ 1000000 := by omega
          go_wp2_with fail
          refine (trOf_two s' r.str _ (by omega) (by omega)).mono ?_; rintro e w3 ⟨rfl, rfl⟩
          go_wp2_with fail
          go_ret2
          refine ⟨_, ⟨_, ?_, rfl⟩, nx hb1 hb2, rfl⟩
          simp only [ByteArray.size_append]
          have e1 : (⟨#[40]⟩ : ByteArray).size = 1 := rfl
          have e2 : (⟨#[41]⟩ : ByteArray).size = 1 := rfl
          omega
        | some u =>
          rw [hg] at hJ
          have hcu := rotAt_carets _ hg
          have hJ' : ∀ w, Calls Try.prog 81 #[.string l.str, .string (s.extract 1 s.size), .bool k] w (fun e w' => Below w.heap.size w w' ∧ e = .returned (.tuple #[.string u.str, .bool true])) := fun w => (hJ w).mono fun e w' ⟨v, h2, h3, h4⟩ => ⟨h3, by rw [h4, h2]⟩
          clear hs ih hx ht1 hJ hg
          go_enter Try.func81, Try.ntmps81
          go_wp2_with fail
          refine (trLeaf_any (.nd l r) _).mono ?_; rintro e w1 ⟨rfl, rfl⟩
          simp only [Tr.isLf]
          have g0 := h0'.out
          go_wp2_with fail
          refine (trSides_any l r _ (by omega)).mono ?_; rintro e w1 ⟨rfl, hb1⟩
          have g1 := h0.out
          go_wp2_with fail
          refine (hJ' _).mono ?_; rintro e w2 ⟨hb2, rfl⟩
          go_wp2_with fail
          refine (trOf_any u r _ (by omega)).mono ?_; rintro e w3 ⟨rfl, rfl⟩
          go_wp2_with fail
          go_ret2
          exact ⟨_, rfl, nx hb1 hb2, rfl⟩
      · have h0 : Hid ((((s[0]'hz0).toNat : Int) == 48) = false) := by show (_ == _) = false; rw [HX.out]; simpa using u8_ne (n := 48) (by omega) h48
        have h0' : Hid ((((s[0]'hz0).toNat : Int) != 48) = true) := by show (_ != _) = true; rw [HX.out]; simpa using u8_ne (n := 48) (by omega) h48
        by_cases h49 : c = 49
        · have h1' : Hid ((((s[0]'hz0).toNat : Int) != 49) = false) := by show (_ != _) = false; rw [HX.out, h49]; rfl
          have hJ := fun w => ih r (s.extract 1 s.size) w HT.out (by omega) (by omega)
          rw [show (Tr.nd l r).rotAt k (c :: cs) = (r.rotAt k cs).map (fun x => .nd l x) by rw [Tr.rotAt, if_neg h48, if_pos h49]]
          cases hg : r.rotAt k cs with
          | none =>
            rw [hg] at hJ
            have hJ' : ∀ w, Calls Try.prog 81 #[.string r.str, .string (s.extract 1 s.size), .bool k] w (fun e w' => ∃ s', s'.size ≤ 400 * (cs.length + 1) ∧ Below w.heap.size w w' ∧ e = .returned (.tuple #[.string s', .bool false])) := fun w => (hJ w).mono fun e w' ⟨v, ⟨s', h1, h2⟩, h3, h4⟩ => ⟨s', h1, h3, by rw [h4, h2]⟩
            clear hs ih hx ht1 hJ hg
            go_enter Try.func81, Try.ntmps81
            go_wp2_with fail
            refine (trLeaf_any (.nd l r) _).mono ?_; rintro e w1 ⟨rfl, rfl⟩
            simp only [Tr.isLf]
            have g0 := h0'.out
            have g2 := h1'.out
            go_wp2_with fail
            refine (trSides_any l r _ (by omega)).mono ?_; rintro e w1 ⟨rfl, hb1⟩
            have g1 := h0.out
            go_wp2_with fail
            refine (hJ' _).mono ?_; rintro e w2 ⟨s', hs', hb2, rfl⟩
            have hs2 : s'.size ≤ 1000000 := by omega
            go_wp2_with fail
            refine (trOf_two l.str s' _ (by omega) (by omega)).mono ?_; rintro e w3 ⟨rfl, rfl⟩
            go_wp2_with fail
            go_ret2
            refine ⟨_, ⟨_, ?_, rfl⟩, nx hb1 hb2, rfl⟩
            simp only [ByteArray.size_append]
            have e1 : (⟨#[40]⟩ : ByteArray).size = 1 := rfl
            have e2 : (⟨#[41]⟩ : ByteArray).size = 1 := rfl
            omega
          | some u =>
            rw [hg] at hJ
            have hcu := rotAt_carets _ hg
            have hJ' : ∀ w, Calls Try.prog 81 #[.string r.str, .string (s.extract 1 s.size), .bool k] w (fun e w' => Below w.heap.size w w' ∧ e = .returned (.tuple #[.string u.str, .bool true])) := fun w => (hJ w).mono fun e w' ⟨v, h2, h3, h4⟩ => ⟨h3, by rw [h4, h2]⟩
            clear hs ih hx ht1 hJ hg
            go_enter Try.func81, Try.ntmps81
            go_wp2_with fail
            refine (trLeaf_any (.nd l r) _).mono ?_; rintro e w1 ⟨rfl, rfl⟩
            simp only [Tr.isLf]
            have g0 := h0'.out
            have g2 := h1'.out
            go_wp2_with fail
            refine (trSides_any l r _ (by omega)).mono ?_; rintro e w1 ⟨rfl, hb1⟩
            have g1 := h0.out
            go_wp2_with fail
            refine (hJ' _).mono ?_; rintro e w2 ⟨hb2, rfl⟩
            go_wp2_with fail
            refine (trOf_any l u _ (by omega)).mono ?_; rintro e w3 ⟨rfl, rfl⟩
            go_wp2_with fail
            go_ret2
            exact ⟨_, rfl, nx hb1 hb2, rfl⟩
        · have h1' : Hid ((((s[0]'hz0).toNat : Int) != 49) = true) := by show (_ != _) = true; rw [HX.out]; simpa using u8_ne (n := 49) (by omega) h49
          rw [show (Tr.nd l r).rotAt k (c :: cs) = none by rw [Tr.rotAt, if_neg h48, if_neg h49]]
          clear hs ih hx ht1
          go_enter Try.func81, Try.ntmps81
          go_wp2_with fail
          refine (trLeaf_any (.nd l r) _).mono ?_; rintro e w1 ⟨rfl, rfl⟩
          simp only [Tr.isLf]
          have g0 := h0'.out
          have g2 := h1'.out
          go_wp2_with fail
          go_ret2
          exact ⟨_, ⟨⟨#[]⟩, Nat.zero_le _, rfl⟩, Below.refl _ _, rfl⟩

/-- Which function makes a turn. -/
def turnF (k : Bool) : FuncId := if k = true then 51 else 50
theorem turn_any (k : Bool) (t : Tr) (b : Nat) (w : World) (h : NodeAt w t b) : Calls Try.prog (turnF k) #[.pointer (some ⟨b, 0, none⟩)] w (RotP (t.rot k) w) := by
  cases k with
  | true => exact rotatedBack_any t b w h
  | false => exact rotated_any t b w h
theorem turn_call (k : Bool) (args : Array Value) (w : World) : (callFunc (turnF k) args).run Try.prog w = .ok (.enter (turnF k) args) w := by
  cases k with
  | true => kernel_rfl
  | false => kernel_rfl
def fnV (k : Bool) : Value := .func (Fn.func (turnF k)) #[] #[]

set_option maxRecDepth 100000 in
set_option maxHeartbeats 2000000 in
theorem turnedAt_any (k : Bool) : ∀ (p : List UInt8) (t : Tr) (b : Nat) (s : ByteArray) (w : World), s.data.toList = p → NodeAt w t b → p.length ≤ 1048576 →
    Calls Try.prog 82 #[.pointer (some ⟨b, 0, none⟩), .string s, .func (Fn.func (turnF k)) #[] #[]] w (RotP (t.rotAt k p) w) := by
  have hcall := turn_call k
  intro p
  induction p with
  | nil =>
    intro t b s w hs hn _
    have hs0 : s = ⟨#[]⟩ := ba_ext (by rw [hs])
    rw [rotAt_nil]
    have hR := turn_any k t b w hn
    generalize turnF k = fk at *
    clear hs hn
    subst hs0
    cases hg : t.rot k with
    | none =>
      rw [hg] at hR
      go_enter Try.func82, Try.ntmps82
      go_wp2_with fail
      refine hR.mono ?_; rintro e w1 ⟨hb1, rfl⟩
      go_wp2_with fail
      go_ret
      exact ⟨hb1, rfl⟩
    | some u =>
      rw [hg] at hR
      go_enter Try.func82, Try.ntmps82
      go_wp2_with fail
      refine hR.mono ?_; rintro e w1 ⟨b1, hn1, hb1, rfl⟩
      go_wp2_with fail
      go_ret
      exact ⟨b1, hn1, hb1, rfl⟩
  | cons c cs ih =>
    intro t b s w hs hn hp
    have hp' : cs.length ≤ 1048576 := by simp at hp; omega
    have hz : s.size ≤ 9223372036854775806 := by rw [Lib.size_eq, hs]; show cs.length + 1 ≤ _; omega
    have hz1 : 1 ≤ s.size := by rw [Lib.size_eq, hs]; show 1 ≤ cs.length + 1; omega
    have hz9 : cs.length + 1 ≤ 1048576 := by simpa using hp
    have hne : (s.toList == []) = false := by rw [Lib.toList_data, hs]; rfl
    have hne2 : s.toList.isEmpty = false := by rw [Lib.toList_data, hs]; rfl
    obtain ⟨hz0, hx⟩ := byte0 hs
    have HX := Lib.hid hx
    have HT := Lib.hid (tail_list hs)
    have H := Lib.hid hn
    generalize turnF k = fk at *
    cases t with
    | lf =>
      rw [show Tr.lf.rotAt k (c :: cs) = none by rfl]
      clear hs ih hx hn
      go_enter Try.func82, Try.ntmps82
      go_wp2_with fail
      refine (isLeaf_any .lf b _ H.out).mono ?_; rintro e w1 ⟨rfl, rfl⟩
      simp only [Tr.isLf]
      go_wp2_with fail
      go_ret
      exact ⟨Below.refl _ _, rfl⟩
    | nd l r =>
      obtain ⟨bl, br, h, hl, hr⟩ := hn
      have h1 := two_left h
      have h2 := two_right h
      have HL := Lib.hid hl
      have HR := Lib.hid hr
      clear h hl hr
      by_cases h48 : c = 48
      · have h0 : Hid ((((s[0]'hz0).toNat : Int) == 48) = true) := by show (_ == _) = true; rw [HX.out, h48]; rfl
        have hJ := fun w h => ih l bl (s.extract 1 s.size) w HT.out h (by omega)
        rw [show (Tr.nd l r).rotAt k (c :: cs) = (l.rotAt k cs).map (fun x => .nd x r) by rw [Tr.rotAt, if_pos h48]]
        cases hg : l.rotAt k cs with
        | none =>
          rw [hg] at hJ
          have hJ' : ∀ w, NodeAt w l bl → Calls Try.prog 82 #[.pointer (some ⟨bl, 0, none⟩), .string (s.extract 1 s.size), .func (Fn.func fk) #[] #[]] w (fun e w' => Below w.heap.size w w' ∧ e = .returned (.pointer none)) := hJ
          clear hs ih hx hJ hg
          go_enter Try.func82, Try.ntmps82
          go_wp2_with fail
          refine (isLeaf_any _ b _ H.out).mono ?_; rintro e w1 ⟨rfl, rfl⟩
          simp only [Tr.isLf]
          go_wp2_with fail
          go_region
          have g1 := h0.out
          go_wp2_with fail
          refine (hJ' _ (HL.out.keep (Below.refl _ _).drew)).mono ?_; rintro e w2 ⟨hb2, rfl⟩
          go_wp2_with fail
          go_ret
          exact ⟨nx (Below.refl _ _).drew hb2, rfl⟩
        | some u =>
          rw [hg] at hJ
          have hJ' : ∀ w, NodeAt w l bl → Calls Try.prog 82 #[.pointer (some ⟨bl, 0, none⟩), .string (s.extract 1 s.size), .func (Fn.func fk) #[] #[]] w (fun e w' => ∃ b', NodeAt w' u b' ∧ Below w.heap.size w w' ∧ e = .returned (.pointer (some ⟨b', 0, none⟩))) := hJ
          clear hs ih hx hJ hg
          go_enter Try.func82, Try.ntmps82
          go_wp2_with fail
          refine (isLeaf_any _ b _ H.out).mono ?_; rintro e w1 ⟨rfl, rfl⟩
          simp only [Tr.isLf]
          go_wp2_with fail
          go_region
          have g1 := h0.out
          go_wp2_with fail
          refine (hJ' _ (HL.out.keep (Below.refl _ _).drew)).mono ?_; rintro e w2 ⟨b', hn', hb2, rfl⟩
          go_wp2_with fail
          go_ret
          exact ⟨_, node_new hn' (Below.refl _ _) (HR.out.keep (nx (Below.refl _ _).drew hb2)), nxAlloc (nx (Below.refl _ _).drew hb2) _, rfl⟩
      · have h0 : Hid ((((s[0]'hz0).toNat : Int) == 48) = false) := by show (_ == _) = false; rw [HX.out]; simpa using u8_ne (n := 48) (by omega) h48
        by_cases h49 : c = 49
        · have h1' : Hid ((((s[0]'hz0).toNat : Int) == 49) = true) := by show (_ == _) = true; rw [HX.out, h49]; rfl
          have hJ := fun w h => ih r br (s.extract 1 s.size) w HT.out h (by omega)
          rw [show (Tr.nd l r).rotAt k (c :: cs) = (r.rotAt k cs).map (fun x => .nd l x) by rw [Tr.rotAt, if_neg h48, if_pos h49]]
          cases hg : r.rotAt k cs with
          | none =>
            rw [hg] at hJ
            have hJ' : ∀ w, NodeAt w r br → Calls Try.prog 82 #[.pointer (some ⟨br, 0, none⟩), .string (s.extract 1 s.size), .func (Fn.func fk) #[] #[]] w (fun e w' => Below w.heap.size w w' ∧ e = .returned (.pointer none)) := hJ
            clear hs ih hx hJ hg
            go_enter Try.func82, Try.ntmps82
            go_wp2_with fail
            refine (isLeaf_any _ b _ H.out).mono ?_; rintro e w1 ⟨rfl, rfl⟩
            simp only [Tr.isLf]
            go_wp2_with fail
            go_region
            have g1 := h0.out
            have g2 := h1'.out
            go_wp2_with fail
            refine (hJ' _ (HR.out.keep (Below.refl _ _).drew)).mono ?_; rintro e w2 ⟨hb2, rfl⟩
            go_wp2_with fail
            go_ret
            exact ⟨nx (Below.refl _ _).drew hb2, rfl⟩
          | some u =>
            rw [hg] at hJ
            have hJ' : ∀ w, NodeAt w r br → Calls Try.prog 82 #[.pointer (some ⟨br, 0, none⟩), .string (s.extract 1 s.size), .func (Fn.func fk) #[] #[]] w (fun e w' => ∃ b', NodeAt w' u b' ∧ Below w.heap.size w w' ∧ e = .returned (.pointer (some ⟨b', 0, none⟩))) := hJ
            clear hs ih hx hJ hg
            go_enter Try.func82, Try.ntmps82
            go_wp2_with fail
            refine (isLeaf_any _ b _ H.out).mono ?_; rintro e w1 ⟨rfl, rfl⟩
            simp only [Tr.isLf]
            go_wp2_with fail
            go_region
            have g1 := h0.out
            have g2 := h1'.out
            go_wp2_with fail
            refine (hJ' _ (HR.out.keep (Below.refl _ _).drew)).mono ?_; rintro e w2 ⟨b', hn', hb2, rfl⟩
            go_wp2_with fail
            go_ret
            exact ⟨_, node_new (HL.out.keep (Below.refl _ _).drew) hb2 hn', nxAlloc (nx (Below.refl _ _).drew hb2) _, rfl⟩
        · have h1' : Hid ((((s[0]'hz0).toNat : Int) == 49) = false) := by show (_ == _) = false; rw [HX.out]; simpa using u8_ne (n := 49) (by omega) h49
          rw [show (Tr.nd l r).rotAt k (c :: cs) = none by rw [Tr.rotAt, if_neg h48, if_neg h49]]
          clear hs ih hx
          go_enter Try.func82, Try.ntmps82
          go_wp2_with fail
          refine (isLeaf_any _ b _ H.out).mono ?_; rintro e w1 ⟨rfl, rfl⟩
          simp only [Tr.isLf]
          go_wp2_with fail
          go_region
          have g1 := h0.out
          have g2 := h1'.out
          go_wp2_with fail
          go_ret
          exact ⟨(Below.refl _ _).drew, rfl⟩
end Go.Proofs.Ytkoebmdocenlkaa
