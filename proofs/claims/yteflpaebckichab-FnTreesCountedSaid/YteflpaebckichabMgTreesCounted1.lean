/- Texts that the claim needs, part 2. -/
import Derived.Test.YteflpaebckichabMgTreesCounted0
import Derived.Deep.RegionWith
import Derived.OwnWalk
import Derived.Lib.Bytealg
import Derived.Deep.RegionHeld3
import Derived.StillTail
import Derived.Deep.QuietTactic
import Derived.BigQuiet
import Derived.Lib.SmallJoins
/-! ImplExp -/
namespace Go.Proofs.Yteflpaebckichab
open Go.RowKit

/-- A call that hands back a slice of integers of its own, and true. -/
def IntsOk (xs : List Int) (w : World) (e : Ending) (w' : World) : Prop :=
  ∃ v, OwnI w.heap.size w' v xs ∧ Below w.heap.size w w' ∧ e = .returned (.tuple #[v, .bool true])

theorem expB_from (s : ByteArray) (k : Nat) : ((s.extract k s.size).data.toList.take (ByteArray.mk #[40, 46, 46, 41]).size == (ByteArray.mk #[40, 46, 46, 41]).data.toList) = expB (s.data.toList.drop k) := by
  unfold expB
  rw [ext_end]
  rfl

set_option maxRecDepth 100000 in
set_option maxHeartbeats 2000000 in
theorem exposedIn_any (s : ByteArray) (w : World) (hs : s.size ≤ 1000) :
    Calls Try.prog 84 #[.string s] w (GivesInts (exL s.data.toList 0) w) := by
  obtain ⟨i0, hi, hz0, hz1, hz2⟩ := info_parts info_int
  go_enter Try.func84, Try.ntmps84
  go_wp2_with fail
  go_loopw [3, 4, 8] (fun v n i wr => ∃ (k : Nat) (m : Int) (xs : List Int), k ≤ s.size ∧ 0 ≤ m ∧ m ≤ k ∧ i = .int .i64 k ∧ n = .int .i64 m ∧ xs.length ≤ k ∧ OwnI w.heap.size wr v xs ∧ Below w.heap.size w wr ∧ Hid (exL s.data.toList 0 = xs ++ exL (s.data.toList.drop k) m)) (fun _ _ i _ => s.size - (intOf i).toNat)
  case atStart => exact ⟨0, 0, [], Nat.zero_le _, by omega, by omega, rfl, rfl, Nat.le_refl _, OwnI.nil _ _, Below.refl _ _, rfl⟩
  case round =>
    obtain ⟨k, m, xs, hk, hm0, hm1, rfl, rfl, hxl, hown, hbw, he⟩ := hrel
    by_cases hlt : k < s.size
    · obtain ⟨c, r, hd, hb, hr⟩ := drop_of_byteAt hlt
      have hx : ((s[k]'hlt).toNat : Int) = (c.toNat : Int) := by rw [← hb]; exact (byteAt_eq s k hlt).symm
      have h46 : (((s[k]'hlt).toNat : Int) == 46) = decide (c = 46) := by
        rw [hx, Bool.eq_iff_iff]
        simp only [beq_iff_eq, decide_eq_true_eq]
        exact ⟨fun e => u8_eq (n := 46) (by omega) e, fun e => by rw [e]; rfl⟩
      have hstep : exL (s.data.toList.drop k) m = (if expB (s.data.toList.drop k) = true then [m] else []) ++ exL (s.data.toList.drop (k + 1)) (if c = 46 then m + 1 else m) := by
        rw [hr, hd, exL]
      have H46 := Lib.hid h46
      have HS := Lib.hid hstep
      have hpc := hasPrefixS_any (s.extract k s.size) (ByteArray.mk #[40, 46, 46, 41])
      rw [expB_from] at hpc
      have hsz : (s.extract k s.size).size ≤ 9223372036854775806 := by simp; omega
      clear hd hb hr hx h46 hstep
      cases hE : expB (s.data.toList.drop k) with
      | true =>
        rw [hE] at hpc
        have HE1 := Lib.hid hE
        clear hE
        by_cases hc : c = 46
        all_goals
          have h4 := H46.out
          simp only [hc, decide_true, decide_false] at h4
          have HC := Lib.hid hc
          have H4 := Lib.hid h4
          clear hc h4
          go_wp2_with fail
          refine (hpc _ hsz (by decide)).mono ?_; rintro e wx ⟨rfl, rfl⟩
          go_wp2_with (at_builtin; refine wpList_append_own _ rfl _ _ 28 rfl w.heap.size 3 i0 (.int .i64 0) 1 8 Try.underlying28 hi hz0 hz1 hz2 rfl (by decide) _ _ _ rfl (hown.alloc _) ⟨wr.heap.size, 0, none⟩ 1 1 [.int .i64 m] rfl rfl (new1 _ _ _) (one1 _) (by unfold maxLen; omega) (by omega) (size_al hbw _) ?_; intro v' w1 hown' hgrow hnn)
          have hbw' := below_app hbw hown (Nat.le_refl _) hgrow
          have hown1 := OwnI.snoc hown'
          have he' : exL s.data.toList 0 = (xs ++ [m]) ++ exL (s.data.toList.drop (k + 1)) (if c = 46 then m + 1 else m) := by
            rw [he.out, HS.out, if_pos HE1.out, List.append_assoc]
          have HE := Lib.hid he'
          have g := H4.out
          have gz : ((⟨#[46]⟩ : ByteArray)[0]'(by decide)).toNat = 46 := rfl
          clear hown hown' hgrow hbw hnn he' he
          go_wp2_with fail
          go_quiet (fail)
          go_wp2_with fail
          clear g gz
          go_roundw
          case rel =>
            have he' := HE.out
            have hc := HC.out
            first | rw [if_pos hc] at he' | rw [if_neg hc] at he'
            exact ⟨k + 1, _, xs ++ [m], by omega, by omega, by omega, by go_num, rfl, by simp; omega, hown1.keep (drewB (Below.refl _ _) _), drewB hbw' _, he'⟩
          case measure => simp [intOf]; omega
      | false =>
        rw [hE] at hpc
        have he' : exL s.data.toList 0 = xs ++ exL (s.data.toList.drop (k + 1)) (if c = 46 then m + 1 else m) := by
          rw [he.out, HS.out, if_neg (by rw [hE]; decide), List.nil_append]
        have HE := Lib.hid he'
        clear hE he' he
        by_cases hc : c = 46
        all_goals
          have h4 := H46.out
          simp only [hc, decide_true, decide_false] at h4
          have HC := Lib.hid hc
          have H4 := Lib.hid h4
          clear hc h4
          go_wp2_with fail
          refine (hpc _ hsz (by decide)).mono ?_; rintro e wx ⟨rfl, rfl⟩
          have g := H4.out
          have gz : ((⟨#[46]⟩ : ByteArray)[0]'(by decide)).toNat = 46 := rfl
          go_wp2_with fail
          go_quiet (fail)
          go_wp2_with fail
          clear g gz
          go_roundw
          case rel =>
            have he' := HE.out
            have hc := HC.out
            first | rw [if_pos hc] at he' | rw [if_neg hc] at he'
            exact ⟨k + 1, _, xs, by omega, by omega, by omega, by go_num, rfl, by omega, hown.keep (drewB (Below.refl _ _) _), drewB hbw _, he'⟩
          case measure => simp [intOf]; omega
    · obtain rfl : k = s.size := by omega
      have hend : exL s.data.toList 0 = xs := by
        have h1 : s.data.toList.drop s.size = [] := List.drop_of_length_le (by rw [Lib.size_eq]; exact Nat.le_refl _)
        have := he.out
        rw [h1] at this
        simpa [exL] using this
      have HE := Lib.hid hend
      clear hend he
      go_wp2_with fail
      go_ret
      exact ⟨_, by rw [HE.out]; exact hown, hbw, rfl⟩

theorem implExposedOf_yes (t : Tr) (w : World) (h : t.carets ≤ 8) :
    Calls Try.prog 13 #[.string t.str] w (IntsOk (exL t.text 0) w) := by
  rw [← Tr.str_list]
  have hs : t.str.size ≤ 1000 := by have := t.str_size; omega
  go_enter Try.func13, Try.ntmps13
  go_wp2_with fail
  refine (implIsTree_yes t _ h).mono ?_; rintro e w0 ⟨hb0, rfl⟩
  go_wp2_with fail
  refine (exposedIn_any t.str _ hs).mono ?_; rintro e w1 ⟨v, own, hb1, rfl⟩
  go_wp2_with fail
  go_ret2
  exact ⟨_, own.mono hb0.size, nx hb0 hb1, rfl⟩
end Go.Proofs.Yteflpaebckichab

/-! SpecMir -/
namespace Go.Proofs.Yteflpaebckichab
open Go.RowKit

set_option maxHeartbeats 400000 in
theorem trMirror_any (t : Tr) : ∀ (w : World), t.carets ≤ 60 →
    Calls Try.prog 90 #[.string t.str] w (Gives (.string t.mir.str) w) := by
  induction t with
  | lf =>
    intro w h
    go_enter Try.func90, Try.ntmps90
    go_wp2_with fail
    refine (trLeaf_any .lf _).mono ?_; rintro e w1 ⟨rfl, rfl⟩
    simp only [Tr.isLf]
    go_wp2_with fail
    go_ret
    exact ⟨rfl, Below.refl _ _⟩
  | nd l r ihl ihr =>
    intro w h
    have h' : l.carets + r.carets + 1 ≤ 60 := h
    have ml := mir_carets l
    have mr := mir_carets r
    go_enter Try.func90, Try.ntmps90
    go_wp2_with fail
    refine (trLeaf_any (.nd l r) _).mono ?_; rintro e w1 ⟨rfl, rfl⟩
    simp only [Tr.isLf]
    go_wp2_with fail
    refine (trSides_any l r _ (by omega)).mono ?_; rintro e w1 ⟨rfl, hb1⟩
    go_wp2_with fail
    refine (ihr _ (by omega)).mono ?_; rintro e w2 ⟨rfl, hb2⟩
    go_wp2_with fail
    refine (ihl _ (by omega)).mono ?_; rintro e w3 ⟨rfl, hb3⟩
    go_wp2_with fail
    refine (trOf_any r.mir l.mir _ (by omega)).mono ?_; rintro e w4 ⟨rfl, rfl⟩
    go_wp2_with fail
    go_ret
    exact ⟨rfl, nx (nx hb1 hb2) hb3⟩

set_option maxHeartbeats 400000 in
theorem trJoin_any (a : Tr) : ∀ (b : Tr) (w : World), a.carets ≤ 60 → b.carets ≤ 60 →
    Calls Try.prog 105 #[.string a.str, .string b.str] w (Gives (.string (a.join b).str) w) := by
  induction a with
  | lf =>
    intro b w ha hb
    go_enter Try.func105, Try.ntmps105
    go_wp2_with fail
    refine (trLeaf_any .lf _).mono ?_; rintro e w1 ⟨rfl, rfl⟩
    simp only [Tr.isLf]
    go_wp2_with fail
    go_ret
    exact ⟨rfl, Below.refl _ _⟩
  | nd l r ihl ihr =>
    intro b w ha hb
    have h' : l.carets + r.carets + 1 ≤ 60 := ha
    cases b with
    | lf =>
      go_enter Try.func105, Try.ntmps105
      go_wp2_with fail
      refine (trLeaf_any (.nd l r) _).mono ?_; rintro e w1 ⟨rfl, rfl⟩
      simp only [Tr.isLf]
      go_wp2_with fail
      refine (trLeaf_any .lf _).mono ?_; rintro e w1 ⟨rfl, rfl⟩
      simp only [Tr.isLf]
      go_wp2_with fail
      go_ret
      exact ⟨rfl, Below.refl _ _⟩
    | nd p q =>
      have h2 : p.carets + q.carets + 1 ≤ 60 := hb
      have ml := join_carets l p
      have mr := join_carets r q
      go_enter Try.func105, Try.ntmps105
      go_wp2_with fail
      refine (trLeaf_any (.nd l r) _).mono ?_; rintro e w1 ⟨rfl, rfl⟩
      simp only [Tr.isLf]
      go_wp2_with fail
      refine (trLeaf_any (.nd p q) _).mono ?_; rintro e w1 ⟨rfl, rfl⟩
      simp only [Tr.isLf]
      go_wp2_with fail
      refine (trSides_any l r _ (by omega)).mono ?_; rintro e w1 ⟨rfl, hb1⟩
      go_wp2_with fail
      refine (trSides_any p q _ (by omega)).mono ?_; rintro e w2 ⟨rfl, hb2⟩
      go_wp2_with fail
      refine (ihl p _ (by omega) (by omega)).mono ?_; rintro e w3 ⟨rfl, hb3⟩
      go_wp2_with fail
      refine (ihr q _ (by omega) (by omega)).mono ?_; rintro e w4 ⟨rfl, hb4⟩
      go_wp2_with fail
      refine (trOf_any (l.join p) (r.join q) _ (by omega)).mono ?_; rintro e w5 ⟨rfl, rfl⟩
      go_wp2_with fail
      go_ret
      exact ⟨rfl, nx (nx (nx hb1 hb2) hb3) hb4⟩

set_option maxHeartbeats 400000 in
theorem trCommon_any (a : Tr) : ∀ (b : Tr) (w : World), a.carets ≤ 60 → b.carets ≤ 60 →
    Calls Try.prog 107 #[.string a.str, .string b.str] w (Gives (.string (a.com b).str) w) := by
  induction a with
  | lf =>
    intro b w ha hb
    go_enter Try.func107, Try.ntmps107
    go_wp2_with fail
    refine (trLeaf_any .lf _).mono ?_; rintro e w1 ⟨rfl, rfl⟩
    simp only [Tr.isLf]
    go_wp2_with fail
    go_ret
    exact ⟨rfl, Below.refl _ _⟩
  | nd l r ihl ihr =>
    intro b w ha hb
    have h' : l.carets + r.carets + 1 ≤ 60 := ha
    cases b with
    | lf =>
      go_enter Try.func107, Try.ntmps107
      go_wp2_with fail
      refine (trLeaf_any (.nd l r) _).mono ?_; rintro e w1 ⟨rfl, rfl⟩
      simp only [Tr.isLf]
      go_wp2_with fail
      refine (trLeaf_any .lf _).mono ?_; rintro e w1 ⟨rfl, rfl⟩
      simp only [Tr.isLf]
      go_wp2_with fail
      go_ret
      exact ⟨rfl, Below.refl _ _⟩
    | nd p q =>
      have h2 : p.carets + q.carets + 1 ≤ 60 := hb
      have ml := com_carets l p
      have mr := com_carets r q
      go_enter Try.func107, Try.ntmps107
      go_wp2_with fail
      refine (trLeaf_any (.nd l r) _).mono ?_; rintro e w1 ⟨rfl, rfl⟩
      simp only [Tr.isLf]
      go_wp2_with fail
      refine (trLeaf_any (.nd p q) _).mono ?_; rintro e w1 ⟨rfl, rfl⟩
      simp only [Tr.isLf]
      go_wp2_with fail
      refine (trSides_any l r _ (by omega)).mono ?_; rintro e w1 ⟨rfl, hb1⟩
      go_wp2_with fail
      refine (trSides_any p q _ (by omega)).mono ?_; rintro e w2 ⟨rfl, hb2⟩
      go_wp2_with fail
      refine (ihl p _ (by omega) (by omega)).mono ?_; rintro e w3 ⟨rfl, hb3⟩
      go_wp2_with fail
      refine (ihr q _ (by omega) (by omega)).mono ?_; rintro e w4 ⟨rfl, hb4⟩
      go_wp2_with fail
      refine (trOf_any (l.com p) (r.com q) _ (by omega)).mono ?_; rintro e w5 ⟨rfl, rfl⟩
      go_wp2_with fail
      go_ret
      exact ⟨rfl, nx (nx (nx hb1 hb2) hb3) hb4⟩

end Go.Proofs.Yteflpaebckichab

/-! Ans -/
namespace Go.Proofs.Yteflpaebckichab
open Go.RowKit

def trS : Option Tr → ByteArray
  | some t => t.str
  | none => ⟨#[]⟩
def trB : Option Tr → Bool
  | some _ => true
  | none => false
/-- An answer of a text and a bool. -/
def ansV (o : Option Tr) : Value := .tuple #[.string (trS o), .bool (trB o)]
/-- A tree, if it has no more carets than allowed. -/
def lim (t : Tr) : Option Tr := if t.carets ≤ 8 then some t else none

theorem trIs_yes (t : Tr) (w : World) (h : t.carets ≤ 8) : Calls Try.prog 81 #[.string t.str] w fun e w' => e = .returned (.bool true) ∧ w = w' := by
  have := trIs_any t.str w (by have := t.str_size; omega)
  rwa [isTreeB_str t h] at this
theorem trIs_no (s : ByteArray) (w : World) (hs : s.size ≤ 9223372036854775806) (h : treeOf s = none) : Calls Try.prog 81 #[.string s] w fun e w' => e = .returned (.bool false) ∧ w = w' := by
  have := trIs_any s w hs
  rwa [isTreeB_eq, h] at this
theorem carets_str (t : Tr) (w : World) (h : t.carets ≤ 1000) : Calls Try.prog 87 #[.string t.str] w fun e w' => e = .returned (.int .i64 t.carets) ∧ w = w' := by
  have := carets_any t.str w (by have := t.str_size; omega)
  rwa [cnt_str] at this

theorem limit_yes (t : Tr) (w : World) (h : t.carets ≤ 8) : Calls Try.prog 94 #[.string t.str] w fun e w' => e = .returned (.tuple #[.string t.str, .bool true]) ∧ w = w' := by
  have hz := t.str_size
  have hz' : t.str.size ≤ 25 := by omega
  clear hz
  go_enter Try.func94, Try.ntmps94
  go_wp2_with fail
  go_ret2
  exact ⟨rfl, rfl⟩
theorem limit_no (t : Tr) (w : World) (h : 8 < t.carets) : Calls Try.prog 94 #[.string t.str] w fun e w' => e = .returned (.tuple #[.string ⟨#[]⟩, .bool false]) ∧ w = w' := by
  have hz := t.str_size
  have hz' : 25 < t.str.size := by omega
  clear hz
  go_enter Try.func94, Try.ntmps94
  go_wp2_with fail
  go_ret2
  exact ⟨rfl, rfl⟩
theorem limit_any (t : Tr) (w : World) : Calls Try.prog 94 #[.string t.str] w fun e w' => e = .returned (ansV (lim t)) ∧ w = w' := by
  by_cases h : t.carets ≤ 8
  · have := limit_yes t w h
    rw [show ansV (lim t) = .tuple #[.string t.str, .bool true] by simp [lim, h, ansV, trS, trB]]
    exact this
  · have := limit_no t w (by omega)
    rw [show ansV (lim t) = .tuple #[.string ⟨#[]⟩, .bool false] by simp [lim, h, ansV, trS, trB]]
    exact this

def TreesOk (t u : Tr) (w : World) (e : Ending) (w' : World) : Prop :=
  ∃ b c : Nat, NodeAt w' t b ∧ NodeAt w' u c ∧ Below w.heap.size w w' ∧ e = .returned (.tuple #[.pointer (some ⟨b, 0, none⟩), .pointer (some ⟨c, 0, none⟩), .bool true])
def TreesNo (w : World) (e : Ending) (w' : World) : Prop :=
  Below w.heap.size w w' ∧ e = .returned (.tuple #[.pointer none, .pointer none, .bool false])

theorem trees_yes (t u : Tr) (w : World) (h : t.carets ≤ 8) (k : u.carets ≤ 8) :
    Calls Try.prog 103 #[.string t.str, .string u.str] w (TreesOk t u w) := by
  go_enter Try.func103, Try.ntmps103
  go_wp2_with fail
  refine (read_yes t _ h).mono ?_; rintro e w1 ⟨b1, hn1, hb1, rfl⟩
  go_wp2_with fail
  refine (read_yes u _ k).mono ?_; rintro e w2 ⟨b2, hn2, hb2, rfl⟩
  go_wp2_with fail
  go_ret3
  exact ⟨b1, b2, hn1.keep hb2, hn2, nx hb1 hb2, rfl⟩

theorem trees_no1 (s u : ByteArray) (w : World) (hs : s.size ≤ 9223372036854775806) (h : treeOf s = none) :
    Calls Try.prog 103 #[.string s, .string u] w (TreesNo w) := by
  have H := Lib.hid h
  clear h
  go_enter Try.func103, Try.ntmps103
  go_wp2_with fail
  refine (read_no s _ hs H.out).mono ?_; rintro e w1 ⟨hb1, rfl⟩
  go_wp2_with fail
  go_ret3
  exact ⟨hb1, rfl⟩

theorem trees_no2 (t : Tr) (s : ByteArray) (w : World) (k : t.carets ≤ 8) (hs : s.size ≤ 9223372036854775806) (h : treeOf s = none) :
    Calls Try.prog 103 #[.string t.str, .string s] w (TreesNo w) := by
  have H := Lib.hid h
  clear h
  go_enter Try.func103, Try.ntmps103
  go_wp2_with fail
  refine (read_yes t _ k).mono ?_; rintro e w1 ⟨b1, hn1, hb1, rfl⟩
  go_wp2_with fail
  refine (read_no s _ hs H.out).mono ?_; rintro e w2 ⟨hb2, rfl⟩
  go_wp2_with fail
  go_ret3
  exact ⟨nx hb1 hb2, rfl⟩
end Go.Proofs.Yteflpaebckichab

/-! WExposedOf -/
namespace Go.Proofs.Yteflpaebckichab
open Go.RowKit

def ExposedOf_o (a : ByteArray) : Option (List Int) :=
  match treeOf a with
  | some t => some (exL t.text 0)
  | none => none

theorem ExposedOf_len (a : ByteArray) : ((ExposedOf_o a).getD []).length ≤ 1000000000 := by
  unfold ExposedOf_o
  cases h : treeOf a with
  | none => simp
  | some t =>
    have := exL_length t.text 0
    have := t.text_len
    have := (treeOf_some h).2
    simp; omega

theorem specExposedOf_any (a : ByteArray) (w : World) (ha : a.size ≤ 9223372036854775806) :
    Calls Try.prog 14 #[.string a] w (AnsIs (ExposedOf_o a) w) := by
  cases h : treeOf a with
  | none =>
    rw [show ExposedOf_o a = none by simp [ExposedOf_o, h]]
    have H := Lib.hid h
    clear h
    go_enter Try.func14, Try.ntmps14
    go_wp2_with fail
    refine (trIs_no a _ ha H.out).mono ?_; rintro e w1 ⟨rfl, rfl⟩
    go_wp2_with fail
    go_ret2
    exact ⟨_, OwnI.nil _ _, Below.refl _ _, rfl⟩
  | some t =>
    obtain ⟨rfl, hc⟩ := treeOf_some h
    rw [show ExposedOf_o t.str = some (exL t.text 0) by simp [ExposedOf_o, h]]
    have st := t.str_size
    have he := trExposed_any t.str
    rw [Tr.str_list] at he
    clear h
    go_enter Try.func14, Try.ntmps14
    go_wp2_with fail
    refine (trIs_yes t _ hc).mono ?_; rintro e w1 ⟨rfl, rfl⟩
    go_wp2_with fail
    refine (he _ (by omega)).mono ?_; rintro e w1 ⟨v, own, hb1, rfl⟩
    go_wp2_with fail
    go_ret2
    exact ⟨_, own, hb1, rfl⟩

theorem implExposedOf_any (a : ByteArray) (w : World) (ha : a.size ≤ 9223372036854775806) :
    Calls Try.prog 13 #[.string a] w (AnsIs (ExposedOf_o a) w) := by
  cases h : treeOf a with
  | none =>
    rw [show ExposedOf_o a = none by simp [ExposedOf_o, h]]
    have H := Lib.hid h
    clear h
    go_enter Try.func13, Try.ntmps13
    go_wp2_with fail
    refine (implIsTree_no a _ ha H.out).mono ?_; rintro e w1 ⟨hb1, rfl⟩
    go_wp2_with fail
    go_ret2
    exact ⟨_, OwnI.nil _ _, hb1, rfl⟩
  | some t =>
    obtain ⟨rfl, hc⟩ := treeOf_some h
    rw [show ExposedOf_o t.str = some (exL t.text 0) by simp [ExposedOf_o, h]]
    exact implExposedOf_yes t w hc

end Go.Proofs.Yteflpaebckichab

/-! Dw8 -/
namespace Go.Proofs.Yteflpaebckichab
open Go.RowKit

/-- A call that draws a list of texts. -/
def GivesL (w : World) (e : Ending) (w' : World) : Prop :=
  ∃ (a : Option Addr) (n cap : Nat) (L : List ByteArray), L.length = n ∧ n ≤ cap ∧ n ≤ 1000 ∧ cap ≤ 9223372036854775807 ∧ InS w' a L ∧ (∀ s ∈ L, s.size ≤ 1000) ∧ e = .returned (.slice a n cap) ∧ Below w.heap.size w w'

theorem OwnS.inSD {base : Nat} {w : World} {g n cap : Nat} {L : List ByteArray} (h : OwnS base w (.slice (some ⟨g, 0, none⟩) n cap) L) (hn : L.length = n) : InS w (some ⟨g, 0, none⟩) L ∧ n ≤ cap ∧ cap ≤ 9223372036854775807 := by
  rcases h.cells with ⟨h1, h2⟩ | ⟨g2, cap2, h1, _, _, h3, h4, h5, _⟩
  · cases h1
  · simp only [Value.slice.injEq, Option.some.injEq, Addr.mk.injEq, and_true] at h1
    obtain ⟨rfl, rfl, rfl⟩ := h1
    unfold maxLen at h4
    exact ⟨.inr ⟨_, 0, rfl, fun i hi => by rw [Nat.zero_add]; exact h5 i hi⟩, h3, by omega⟩

theorem own_kept {base b : Nat} {w w' : World} {g n cap : Nat} {L : List ByteArray} (h : OwnS base w (.slice (some ⟨g, 0, none⟩) n cap) L) (hg : w.grownBy w' (some b)) (hb : b < g) : OwnS base w' (.slice (some ⟨g, 0, none⟩) n cap) L :=
  World.ownsRow.kept h hg (.inr (fun e => by simp only [Value.ownBlock, Option.some.injEq] at e; omega))
theorem own_n {base : Nat} {w : World} {v : Value} {n : Nat} {L : List ByteArray} (h : OwnS base w v L) (hn : n = L.length) : w.ownsRow base 9 1 v n (L.map Value.string) := by subst hn; exact h
theorem own_ge {base : Nat} {w : World} {g n cap : Nat} {L : List ByteArray} (h : OwnS base w (.slice (some ⟨g, 0, none⟩) n cap) L) : base ≤ g := by
  rcases h.cells with ⟨h1, h2⟩ | ⟨g2, cap2, h1, h3, _⟩
  · cases h1
  · simp only [Value.slice.injEq, Option.some.injEq, Addr.mk.injEq, and_true] at h1
    obtain ⟨rfl, _⟩ := h1
    exact h3
theorem InS.takeD {w : World} {a : Option Addr} {L : List ByteArray} (h : InS w a L) (m : Nat) : InS w a (L.take m) := by
  rcases h with rfl | ⟨g, off, ha, hr⟩
  · exact .inl (by simp)
  · refine .inr ⟨g, off, ha, fun i hi => ?_⟩
    rw [List.length_take] at hi
    rw [hr i (by omega)]
    have : i < m := by omega
    simp [List.getD_eq_getElem?_getD, this]
theorem empty_size : (⟨#[]⟩ : ByteArray).size = 0 := rfl
theorem set_mem {α : Type} {L : List α} {i : Nat} {x y : α} (h : y ∈ L.set i x) : y ∈ L ∨ y = x := by
  rcases List.mem_or_eq_of_mem_set h with h | h
  · exact .inl h
  · exact .inr h

set_option maxRecDepth 100000 in
set_option maxHeartbeats 1000000 in
theorem drawTreeWith_any (c : Bts) (w : World) (h : InB w c) : Calls Try.prog 25 #[.slice c.a c.n c.cap] w (GivesL w) := by
  have H := Lib.hid (cur_new h)
  clear h
  go_enter Try.func25, Try.ntmps25
  go_wp2_with fail
  refine (drawPick_any 7 _ c 0 _ H.out (by omega) (by omega) (by omega)).mono ?_; rintro e w1 ⟨x, hx, rfl, hT, hg⟩
  have HT := Lib.hid hT
  have HG := Lib.hid hg
  clear hT hg
  go_wp2_with fail
  refine (sureTree_any x _ c _ _ HT.out (by omega) (by omega)).mono ?_; rintro e w2 ⟨t, ht, rfl, hT, hg⟩
  have HT2 := Lib.hid hT
  have HG2 := Lib.hid (grown_trans HG.out hg)
  clear hT hg
  go_wp2_with fail
  refine (trAddresses_any t ⟨#[]⟩ _ (by omega) (by show 0 + _ ≤ _; omega)).mono ?_; rintro e w3 ⟨g, cap, hO, hb3, rfl⟩
  have hsz := addrs_size t ⟨#[]⟩
  have hln := addrs_length t ⟨#[]⟩
  have hge := own_ge hO
  generalize t.addrs ⟨#[]⟩ = L at *
  have hlt2 := HT2.out.lt
  have HT3 := Lib.hid (HT2.out.keep hb3)
  have HG3 := Lib.hid (grown_below HG2.out hb3)
  have hsz2 : Hid (∀ s ∈ L, s.size ≤ 500) := fun s hs => by have := hsz s hs; rw [empty_size] at this; omega
  have HLN := Lib.hid hln
  obtain ⟨n, hn⟩ : ∃ n, n = L.length := ⟨_, rfl⟩
  have hn1 : 1 ≤ n ∧ n ≤ 50 := by omega
  have hO2 : OwnS w2.heap.size w3 (.slice (some ⟨g, 0, none⟩) n cap) L := by rw [hn]; exact hO
  have HO := Lib.hid hO2
  rw [← hn]
  have HN := Lib.hid hn
  clear hsz hln hb3 hO hn hO2
  go_wp2_with fail
  refine (drawPick_any 6 _ c _ _ HT3.out (by omega) (by omega) (by omega)).mono ?_; rintro e w4 ⟨y, hy, rfl, hT, hg⟩
  have HT4 := Lib.hid hT
  have HG4 := Lib.hid (grown_trans HG3.out hg)
  have HO4 := Lib.hid (own_kept HO.out hg (by omega))
  have hgw : g < w4.heap.size := by
    rcases HO4.out.cells with ⟨h1, h2⟩ | ⟨g2, cap2, h1, h2, h3, _⟩
    · cases h1
    · simp only [Value.slice.injEq, Option.some.injEq, Addr.mk.injEq, and_true] at h1
      obtain ⟨rfl, _⟩ := h1
      exact h3
  clear hT hg
  by_cases h0 : y = 0
  · subst h0
    go_wp2_with fail
    refine (drawPick_any n _ c _ _ HT4.out (by omega) (by omega) (by omega)).mono ?_; rintro e w5 ⟨z, hz, rfl, hT, hg⟩
    have HT5 := Lib.hid hT
    have HG5 := Lib.hid (grown_trans HG4.out hg)
    have HO5 := Lib.hid (own_kept HO4.out hg (by omega))
    have hlt5 := HT5.out.lt
    clear hT hg
    go_wp2_with fail
    refine (drawOf_any [⟨#[]⟩, ⟨#[48]⟩, ⟨#[49]⟩, ⟨#[48, 49]⟩, ⟨#[50]⟩, ⟨#[48, 48, 48, 48, 48, 48, 48, 48, 48]⟩] 6 _ 6 _ c _ _ (HT5.out.keep (allocB _ _)) (rowT_alloc _ [⟨#[]⟩, ⟨#[48]⟩, ⟨#[49]⟩, ⟨#[48, 49]⟩, ⟨#[50]⟩, ⟨#[48, 48, 48, 48, 48, 48, 48, 48, 48]⟩] _) rfl (by omega) (by omega) (by omega) (by omega)).mono ?_; rintro e w6 ⟨s, hs, rfl, hT, hg⟩
    have hs2 : s.size ≤ 9 := by
      simp only [List.mem_cons, List.not_mem_nil, or_false] at hs
      rcases hs with rfl | rfl | rfl | rfl | rfl | rfl <;> decide
    have HG6 := Lib.hid (grown_trans (grown_below HG5.out (allocB _ _)) hg)
    have HO6 := Lib.hid (own_kept (HO5.out.keep (allocB _ _)) hg (by omega))
    clear hT hg hs
    have hfz : w6.frozen? ⟨g, z, none⟩ = false := World.ownsRow.frozenAt (own_n HO6.out HN.out) z
    obtain ⟨x9, hcell⟩ : ∃ x, w6.cell? ⟨g, z, none⟩ = some x := by
      have h1 := World.ownsRow.cellAt (own_n HO6.out HN.out) z (by omega)
      rw [h1]
      exact ⟨_, List.getElem?_eq_getElem (by rw [List.length_map, ← HN.out]; exact hz)⟩
    have hset := OwnS.set HN.out.symm HO6.out z s
    have hz' : (z : Int) < (n : Int) := by omega
    have hgr6 : Below w.heap.size w (w6.setCell ⟨g, z, none⟩ (.string s)) := (cur_below HG6.out).setCell (by have := HT2.out.lt; show w.heap.size ≤ g; omega) _
    have HS := Lib.hid hset
    clear hset
    go_wp2_with fail
    go_ret
    obtain ⟨q1, q2, q3⟩ := HS.out.inSD (by rw [List.length_set]; exact HN.out.symm)
    exact ⟨_, n, cap, _, by rw [List.length_set]; exact HN.out.symm, q2, by omega, q3, q1, fun u hu => by
      rcases set_mem hu with hu | rfl
      · have := hsz2.out u hu; omega
      · omega, rfl, hgr6⟩
  by_cases h1 : y = 1
  · subst h1
    obtain ⟨q1, q2, q3⟩ := HO4.out.inSD HN.out.symm
    have QI := Lib.hid q1
    obtain ⟨m, rfl⟩ : ∃ m, n = m + 1 := ⟨n - 1, by omega⟩
    have hm1 : (m : Int) ≤ (cap : Int) := by omega
    clear q1
    go_wp2_with fail
    go_ret
    exact ⟨_, m, cap, L.take m, by rw [List.length_take]; have := HN.out; omega, by omega, by omega, q3, QI.out.takeD m, fun u hu => by have := hsz2.out u (List.mem_of_mem_take hu); omega, rfl, cur_below HG4.out⟩
  by_cases h2 : y = 2
  · subst h2
    obtain ⟨i0, hi, hz0, hz1, hz2⟩ := info_parts info_str
    have hN := HN.out
    subst hN
    clear HN
    go_wp2_with (at_builtin; refine wpList_append_own _ rfl _ _ 25 rfl w2.heap.size 9 i0 (.string ⟨#[]⟩) 1 16 Try.underlying25 hi hz0 hz1 hz2 rfl (by decide) _ _ _ rfl (HO4.out.keep (allocB _ _)) ⟨w4.heap.size, 0, none⟩ 1 1 [.string ⟨#[49]⟩] rfl rfl (new1 _ _ _) (oneS [⟨#[49]⟩]) (by unfold maxLen; omega) (by omega) (by simp; omega) ?_; intro v' w5 hown' hgrow hnn)
    have hown1 : OwnS w2.heap.size w5 v' (L ++ [⟨#[49]⟩]) := OwnS.app hown'
    obtain ⟨g5, cap5, hv⟩ := hown1.shape (by simp)
    have hbw5 : Below w.heap.size w w5 := below_app0 ((cur_below HG4.out).trans ((allocB _ _).mono (cur_below HG4.out).size)) (HO4.out.keep (allocB _ _)) (by have := HT2.out.lt; omega) hgrow
    have HV := Lib.hid hv
    have HW := Lib.hid hown1
    clear hown' hgrow hv hnn hown1
    go_wp2_with fail
    go_ret
    have h9 := HW.out
    rw [HV.out] at h9
    obtain ⟨q1, q2, q3⟩ := h9.inSD rfl
    exact ⟨_, _, cap5, L ++ [⟨#[49]⟩], rfl, q2, by rw [List.length_append]; simp; omega, q3, q1, fun u hu => by
      rw [List.mem_append, List.mem_singleton] at hu
      rcases hu with hu | rfl
      · have := hsz2.out u hu; omega
      · decide, by rw [← HV.out]; rfl, hbw5⟩
  · have h0' : ¬ (y : Int) = 0 := by omega
    have h1' : ¬ (y : Int) = 1 := by omega
    have h2' : ¬ (y : Int) = 2 := by omega
    have e0 : ((y : Int) == 0) = false := by simpa using h0'
    have e1 : ((y : Int) == 1) = false := by simpa using h1'
    have e2 : ((y : Int) == 2) = false := by simpa using h2'
    clear h0 h1 h0' h1' h2 h2'
    go_wp2_with fail
    go_ret
    obtain ⟨q1, q2, q3⟩ := HO4.out.inSD HN.out.symm
    exact ⟨_, n, cap, L, HN.out.symm, q2, by omega, q3, q1, fun u hu => by have := hsz2.out u hu; omega, rfl, cur_below HG4.out⟩
end Go.Proofs.Yteflpaebckichab

/-! In0 -/
namespace Go.Proofs.Yteflpaebckichab
open Go.RowKit

theorem l1In_yes (n lo hi : Int) (w : World) (h1 : lo ≤ n) (h2 : n ≤ hi) :
    Calls Try.prog 118 #[.int .i64 n, .int .i64 lo, .int .i64 hi] w fun e w' => e = .returned (.bool true) ∧ w = w' := by
  go_enter Try.func118, Try.ntmps118
  go_wp2_with fail
  go_ret
  exact ⟨rfl, rfl⟩
theorem l1In_no (n lo hi : Int) (w : World) (h : n < lo ∨ hi < n) :
    Calls Try.prog 118 #[.int .i64 n, .int .i64 lo, .int .i64 hi] w fun e w' => e = .returned (.bool false) ∧ w = w' := by
  by_cases h1 : n < lo
  · clear h
    go_enter Try.func118, Try.ntmps118
    go_wp2_with fail
    go_ret
    exact ⟨rfl, rfl⟩
  · have h1' : lo ≤ n := by omega
    have h2 : hi < n := by omega
    clear h h1
    go_enter Try.func118, Try.ntmps118
    go_wp2_with fail
    go_ret
    exact ⟨ret_bool (by simp; omega), rfl⟩

end Go.Proofs.Yteflpaebckichab

/-! In -/
namespace Go.Proofs.Yteflpaebckichab
open Go.RowKit

/-- An answer of a text and a bool. -/
def ans2 (o : Option ByteArray) : Value := .tuple #[.string (o.getD ⟨#[]⟩), .bool o.isSome]

end Go.Proofs.Yteflpaebckichab

/-! Comb -/
namespace Go.Proofs.Yteflpaebckichab
open Go.RowKit

theorem trSize_yes (n : Int) (w : World) (h1 : 0 ≤ n) (h2 : n ≤ 8) : Calls Try.prog 114 #[.int .i64 n] w fun e w' => e = .returned (.bool true) ∧ w = w' := by
  go_enter Try.func114, Try.ntmps114
  go_wp2_with fail
  refine (l1In_yes n 0 8 _ h1 h2).mono ?_; rintro e w1 ⟨rfl, rfl⟩
  go_wp2_with fail
  go_ret
  exact ⟨rfl, rfl⟩
theorem trSize_no (n : Int) (w : World) (h : n < 0 ∨ 8 < n) : Calls Try.prog 114 #[.int .i64 n] w fun e w' => e = .returned (.bool false) ∧ w = w' := by
  have H := Lib.hid h
  clear h
  go_enter Try.func114, Try.ntmps114
  go_wp2_with fail
  refine (l1In_no n 0 8 _ H.out).mono ?_; rintro e w1 ⟨rfl, rfl⟩
  go_wp2_with fail
  go_ret
  exact ⟨rfl, rfl⟩

def rcomb : Nat → Tr
  | 0 => .lf
  | n + 1 => .nd .lf (rcomb n)
def lcomb : Nat → Tr
  | 0 => .lf
  | n + 1 => .nd (lcomb n) .lf
theorem rcomb_carets (n : Nat) : (rcomb n).carets = n := by induction n with | zero => rfl | succ n ih => simp [rcomb, Tr.carets, ih]
theorem lcomb_carets (n : Nat) : (lcomb n).carets = n := by induction n with | zero => rfl | succ n ih => simp [lcomb, Tr.carets, ih]
theorem rcomb_mir (n : Nat) : (rcomb n).mir = lcomb n := by induction n with | zero => rfl | succ n ih => simp [rcomb, lcomb, Tr.mir, ih]

theorem under_right (k : Nat) (w : World) (h : k ≤ 100) :
    Calls Try.prog 123 #[.string (rcomb k).str] w fun e w' => e = .returned (.string (rcomb (k + 1)).str) ∧ w = w' := by
  have hz := (rcomb k).str_size
  rw [rcomb_carets] at hz
  have e1 : (rcomb (k + 1)).str = ⟨#[40, 46]⟩ ++ (rcomb k).str ++ ⟨#[41]⟩ := by
    apply ba_ext
    rw [rcomb]
    simp [Tr.str, Tr.text]
  have E1 := Lib.hid e1
  clear e1
  go_enter Try.func123, Try.ntmps123
  go_wp2_with fail
  go_ret
  exact ⟨ret_str (by rw [E1.out]), rfl⟩
theorem under_left (k : Nat) (w : World) (h : k ≤ 100) :
    Calls Try.prog 122 #[.string (lcomb k).str] w fun e w' => e = .returned (.string (lcomb (k + 1)).str) ∧ w = w' := by
  have hz := (lcomb k).str_size
  rw [lcomb_carets] at hz
  have e1 : (lcomb (k + 1)).str = ⟨#[40]⟩ ++ (lcomb k).str ++ ⟨#[46]⟩ ++ ⟨#[41]⟩ := by
    apply ba_ext
    rw [lcomb]
    simp [Tr.str, Tr.text]
  have E1 := Lib.hid e1
  clear e1
  go_enter Try.func122, Try.ntmps122
  go_wp2_with fail
  go_ret
  exact ⟨ret_str (by rw [E1.out]), rfl⟩

def combO (g : Nat → Tr) (n : Int) : Option Tr := if 0 ≤ n ∧ n ≤ 8 then some (g n.toNat) else none

set_option maxHeartbeats 400000 in
theorem comb_any (g : Nat → Tr) (f : FuncId) (n : Int) (w : World) (h0 : g 0 = .lf)
    (hf : ∀ k w, k ≤ 100 → Calls Try.prog f #[.string (g k).str] w fun e w' => e = .returned (.string (g (k + 1)).str) ∧ w = w')
    (hcall : ∀ (args : Array Value) (w : World), (callFunc f args).run Try.prog w = .ok (.enter f args) w) :
    Calls Try.prog 121 #[.int .i64 n, .func (Fn.func f) #[] #[]] w fun e w' => e = .returned (ansV (combO g n)) ∧ w = w' := by
  unfold combO
  by_cases h1 : n < 0
  · rw [if_neg (by omega)]
    clear hf
    go_enter Try.func121, Try.ntmps121
    go_wp2_with fail
    go_ret2
    exact ⟨rfl, rfl⟩
  · by_cases h2 : 8 < n
    · rw [if_neg (by omega)]
      clear hf
      go_enter Try.func121, Try.ntmps121
      go_wp2_with fail
      go_ret2
      exact ⟨rfl, rfl⟩
    · rw [if_pos (by omega)]
      have HF := Lib.hid hf
      have H0 := Lib.hid h0
      clear hf h0
      go_enter Try.func121, Try.ntmps121
      go_wp2_with fail
      go_loop [6, 14] (fun t i => ∃ k : Nat, (k : Int) ≤ n ∧ i = .int .i64 k ∧ t = .string (g k).str) (fun _ i => n.toNat - (intOf i).toNat)
      case atStart => exact ⟨0, by omega, rfl, by rw [H0.out]; rfl⟩
      case round =>
        obtain ⟨k, hk, rfl, rfl⟩ := hrel
        by_cases hlt : (k : Int) < n
        · go_wp2_with fail
          refine (HF.out k _ (by omega)).mono ?_; rintro e w1 ⟨rfl, rfl⟩
          go_wp2_with fail
          go_round
          case rel => exact ⟨k + 1, by omega, by go_num, rfl⟩
          case measure => simp [intOf]; omega
        · obtain rfl : n = k := by omega
          go_wp2_with fail
          go_ret2
          exact ⟨rfl, rfl⟩

theorem implRightComb_any (n : Int) (w : World) (_lo : -9223372036854775808 ≤ n) (_hi : n ≤ 9223372036854775807) :
    Calls Try.prog 51 #[.int .i64 n] w (Gives (ansV (combO rcomb n)) w) := by
  go_enter Try.func51, Try.ntmps51
  go_wp2_with fail
  refine (comb_any rcomb 123 n _ rfl under_right (fun _ _ => by kernel_rfl)).mono ?_; rintro e w1 ⟨rfl, rfl⟩
  unfold ansV
  go_wp2_with fail
  go_ret2
  exact ⟨rfl, Below.refl _ _⟩

theorem implLeftComb_any (n : Int) (w : World) (_lo : -9223372036854775808 ≤ n) (_hi : n ≤ 9223372036854775807) :
    Calls Try.prog 50 #[.int .i64 n] w (Gives (ansV (combO lcomb n)) w) := by
  go_enter Try.func50, Try.ntmps50
  go_wp2_with fail
  refine (comb_any lcomb 122 n _ rfl under_left (fun _ _ => by kernel_rfl)).mono ?_; rintro e w1 ⟨rfl, rfl⟩
  unfold ansV
  go_wp2_with fail
  go_ret2
  exact ⟨rfl, Below.refl _ _⟩

theorem trRight_any (n : Nat) (w : World) (h : n ≤ 100) :
    Calls Try.prog 124 #[.int .i64 n] w fun e w' => e = .returned (.string (rcomb n).str) ∧ w = w' := by
  go_enter Try.func124, Try.ntmps124
  go_wp2_with fail
  go_loop [0, 3] (fun i t => ∃ k : Nat, k ≤ n ∧ i = .int .i64 k ∧ t = .string (rcomb (n - k)).str) (fun i _ => (intOf i).toNat)
  case atStart => exact ⟨n, Nat.le_refl _, rfl, by rw [Nat.sub_self]; rfl⟩
  case round =>
    obtain ⟨k, hk, rfl, rfl⟩ := hrel
    by_cases hlt : (0 : Int) < k
    · have hc := rcomb_carets (n - k)
      have he : Hid (rcomb (n - k + 1) = rcomb (n - (k - 1))) := by show _ = _; congr 1; omega
      go_wp2_with fail
      refine (trOf_any .lf (rcomb (n - k)) _ (by simp [Tr.carets, hc]; omega)).mono ?_; rintro e w1 ⟨rfl, rfl⟩
      go_wp2_with fail
      go_round
      case rel => exact ⟨k - 1, by omega, by go_num, by rw [← he.out]; rfl⟩
      case measure => simp [intOf]; omega
    · obtain rfl : k = 0 := by omega
      go_wp2_with fail
      go_ret
      exact ⟨rfl, rfl⟩

theorem specRightComb_any (n : Int) (w : World) (_lo : -9223372036854775808 ≤ n) (_hi : n ≤ 9223372036854775807) :
    Calls Try.prog 53 #[.int .i64 n] w (Gives (ansV (combO rcomb n)) w) := by
  unfold combO
  by_cases h : 0 ≤ n ∧ n ≤ 8
  · rw [if_pos h]
    obtain ⟨k, rfl⟩ : ∃ k : Nat, n = k := ⟨n.toNat, by omega⟩
    have h8 : k ≤ 8 := by omega
    clear h
    go_enter Try.func53, Try.ntmps53
    go_wp2_with fail
    refine (trSize_yes k _ (by omega) (by omega)).mono ?_; rintro e w1 ⟨rfl, rfl⟩
    go_wp2_with fail
    refine (trRight_any k _ (by omega)).mono ?_; rintro e w1 ⟨rfl, rfl⟩
    go_wp2_with fail
    go_ret2
    exact ⟨rfl, Below.refl _ _⟩
  · rw [if_neg h]
    have H : Hid (n < 0 ∨ 8 < n) := show _ ∨ _ by omega
    clear h
    go_enter Try.func53, Try.ntmps53
    go_wp2_with fail
    refine (trSize_no n _ H.out).mono ?_; rintro e w1 ⟨rfl, rfl⟩
    go_wp2_with fail
    go_ret2
    exact ⟨rfl, Below.refl _ _⟩

theorem specLeftComb_any (n : Int) (w : World) (_lo : -9223372036854775808 ≤ n) (_hi : n ≤ 9223372036854775807) :
    Calls Try.prog 54 #[.int .i64 n] w (Gives (ansV (combO lcomb n)) w) := by
  unfold combO
  by_cases h : 0 ≤ n ∧ n ≤ 8
  · rw [if_pos h]
    obtain ⟨k, rfl⟩ : ∃ k : Nat, n = k := ⟨n.toNat, by omega⟩
    have h8 : k ≤ 8 := by omega
    have hc := rcomb_carets k
    have hm := trMirror_any (rcomb k)
    rw [rcomb_mir] at hm
    clear h
    go_enter Try.func54, Try.ntmps54
    go_wp2_with fail
    refine (trSize_yes k _ (by omega) (by omega)).mono ?_; rintro e w1 ⟨rfl, rfl⟩
    go_wp2_with fail
    refine (trRight_any k _ (by omega)).mono ?_; rintro e w1 ⟨rfl, rfl⟩
    go_wp2_with fail
    refine (hm _ (by omega)).mono ?_; rintro e w1 ⟨rfl, hb1⟩
    go_wp2_with fail
    go_ret2
    exact ⟨rfl, hb1⟩
  · rw [if_neg h]
    have H : Hid (n < 0 ∨ 8 < n) := show _ ∨ _ by omega
    clear h
    go_enter Try.func54, Try.ntmps54
    go_wp2_with fail
    refine (trSize_no n _ H.out).mono ?_; rintro e w1 ⟨rfl, rfl⟩
    go_wp2_with fail
    go_ret2
    exact ⟨rfl, Below.refl _ _⟩
end Go.Proofs.Yteflpaebckichab

/-! CountP -/
namespace Go.Proofs.Yteflpaebckichab

/-- p choose k, step by step. -/
def chM (p : Nat) : Nat → Nat
  | 0 => 1
  | k + 1 => chM p k * (p - k) / (k + 1)

/-- How many lists of t trees have c carets together. -/
def listsN (t c : Nat) : Nat := chM (2 * c + t) c * t / (2 * c + t)

/-- How many trees have k carets. -/
def catN : Nat → Nat
  | 0 => 1
  | k + 1 => catN k * 2 * (2 * k + 1) / (k + 2)

theorem chM_le (p : Nat) (hp : p ≤ 40) : ∀ k, k ≤ 8 → chM p k ≤ 40 ^ k := by
  intro k
  induction k with
  | zero => intro _; simp [chM]
  | succ k ih =>
    intro h
    have h1 := ih (by omega)
    rw [chM, Nat.pow_succ]
    refine Nat.le_trans (Nat.div_le_self _ _) ?_
    exact Nat.mul_le_mul h1 (by omega)

theorem chM_bd (p k : Nat) (hp : p ≤ 40) (hk : k ≤ 8) : chM p k ≤ 6553600000000 := by
  have h1 := chM_le p hp k hk
  have h2 : 40 ^ k ≤ 40 ^ 8 := Nat.pow_le_pow_right (by omega) hk
  have h3 : (40 : Nat) ^ 8 = 6553600000000 := by decide
  omega

theorem catN_bd : ∀ k, k ≤ 8 → catN k ≤ 1430 := by decide
theorem lists_cat : ∀ k, k ≤ 8 → listsN 1 k = catN k := by decide

end Go.Proofs.Yteflpaebckichab

/-! CountT -/
namespace Go.Proofs.Yteflpaebckichab
open Go.RowKit

set_option maxHeartbeats 1000000 in
theorem countLists_any (t c : Nat) (w : World) (ht : 1 ≤ t) (ht' : t ≤ 20) (hc : c ≤ 8) :
    Calls Try.prog 120 #[.int .i64 t, .int .i64 c] w fun e w' => e = .returned (.int .i64 (listsN t c)) ∧ w = w' := by
  go_enter Try.func120, Try.ntmps120
  go_wp2_with fail
  go_loop [6, 13] (fun v i => ∃ k : Nat, k ≤ c ∧ i = .int .i64 k ∧ v = .int .i64 (chM (2 * c + t) k)) (fun _ i => c - (intOf i).toNat)
  case atStart => exact ⟨0, Nat.zero_le _, rfl, rfl⟩
  case round =>
    obtain ⟨k, hk, rfl, rfl⟩ := hrel
    have hb := chM_bd (2 * c + t) k (by omega) (by omega)
    by_cases hlt : (k : Int) < c
    · have hb1 : (0 : Int) ≤ (chM (2 * c + t) k : Int) * (2 * (c : Int) + t - k) ∧ (chM (2 * c + t) k : Int) * (2 * (c : Int) + t - k) ≤ 6553600000000 * 40 := by
        have e : (2 * (c : Int) + t - k) = ((2 * c + t - k : Nat) : Int) := by omega
        rw [e, ← Int.natCast_mul]
        have := Nat.mul_le_mul hb (show 2 * c + t - k ≤ 40 by omega)
        omega
      have hs : Hid (((chM (2 * c + t) k : Nat) : Int) * (2 * (c : Int) + t - k) / ((k : Int) + 1) = (chM (2 * c + t) (k + 1) : Nat)) := by
        show _ = _
        have e : (2 * (c : Int) + t - k) = ((2 * c + t - k : Nat) : Int) := by omega
        rw [e, ← Int.natCast_mul, chM]
        rfl
      go_wp2_with fail
      go_round
      case rel => exact ⟨k + 1, by omega, by go_num, by rw [hs.out]⟩
      case measure => simp [intOf]; omega
    · obtain rfl : k = c := by omega
      have hb1 : (0 : Int) ≤ (chM (2 * k + t) k : Int) * (t : Int) ∧ (chM (2 * k + t) k : Int) * (t : Int) ≤ 6553600000000 * 40 := by
        rw [← Int.natCast_mul]
        have := Nat.mul_le_mul hb (show t ≤ 40 by omega)
        omega
      have hs : Hid (((chM (2 * k + t) k : Nat) : Int) * (t : Int) / (2 * (k : Int) + t) = (listsN t k : Nat)) := by
        show _ = _
        unfold listsN
        rw [← Int.natCast_mul]
        have e : (2 * (k : Int) + t) = ((2 * k + t : Nat) : Int) := by omega
        rw [e]
        rfl
      go_wp2_with fail
      go_ret
      exact ⟨ret_int hs.out, rfl⟩

set_option maxHeartbeats 1000000 in
theorem trCount_any (n : Nat) (w : World) (hn : n ≤ 8) :
    Calls Try.prog 116 #[.int .i64 n] w fun e w' => e = .returned (.int .i64 (catN n)) ∧ w = w' := by
  go_enter Try.func116, Try.ntmps116
  go_wp2_with fail
  go_loop [3, 4] (fun v i => ∃ k : Nat, k ≤ n ∧ i = .int .i64 k ∧ v = .int .i64 (catN k)) (fun _ i => n - (intOf i).toNat)
  case atStart => exact ⟨0, Nat.zero_le _, rfl, rfl⟩
  case round =>
    obtain ⟨k, hk, rfl, rfl⟩ := hrel
    have hb := catN_bd k (by omega)
    by_cases hlt : (k : Int) < n
    · have hb1 : (0 : Int) ≤ (catN k : Int) * 2 * (2 * (k : Int) + 1) ∧ (catN k : Int) * 2 * (2 * (k : Int) + 1) ≤ 1000000 := by
        have e : (catN k : Int) * 2 * (2 * (k : Int) + 1) = ((catN k * 2 * (2 * k + 1) : Nat) : Int) := by simp
        rw [e]
        have := Nat.mul_le_mul (Nat.mul_le_mul_right 2 hb) (show 2 * k + 1 ≤ 17 by omega)
        omega
      have hs : Hid ((catN k : Int) * 2 * (2 * (k : Int) + 1) / ((k : Int) + 2) = (catN (k + 1) : Nat)) := by
        show _ = _
        rw [catN]
        simp
      go_wp2_with fail
      go_round
      case rel => exact ⟨k + 1, by omega, by go_num, by rw [hs.out]⟩
      case measure => simp [intOf]; omega
    · obtain rfl : k = n := by omega
      go_wp2_with fail
      go_ret
      exact ⟨rfl, rfl⟩

/-- An answer of a number and a bool. -/
def ansN (o : Option Nat) : Value := .tuple #[.int .i64 (o.getD 0), .bool o.isSome]
def countO (n : Int) : Option Nat := if 0 ≤ n ∧ n ≤ 8 then some (catN n.toNat) else none

theorem specCountTrees_any (n : Int) (w : World) (_lo : -9223372036854775808 ≤ n) (_hi : n ≤ 9223372036854775807) :
    Calls Try.prog 46 #[.int .i64 n] w (Gives (ansN (countO n)) w) := by
  unfold countO
  by_cases h : 0 ≤ n ∧ n ≤ 8
  · rw [if_pos h]
    obtain ⟨k, rfl⟩ : ∃ k : Nat, n = k := ⟨n.toNat, by omega⟩
    have h8 : k ≤ 8 := by omega
    clear h
    go_enter Try.func46, Try.ntmps46
    go_wp2_with fail
    refine (trSize_yes k _ (by omega) (by omega)).mono ?_; rintro e w1 ⟨rfl, rfl⟩
    go_wp2_with fail
    refine (trCount_any k _ h8).mono ?_; rintro e w1 ⟨rfl, rfl⟩
    go_wp2_with fail
    go_ret2
    exact ⟨rfl, Below.refl _ _⟩
  · rw [if_neg h]
    have H : Hid (n < 0 ∨ 8 < n) := show _ ∨ _ by omega
    clear h
    go_enter Try.func46, Try.ntmps46
    go_wp2_with fail
    refine (trSize_no n _ H.out).mono ?_; rintro e w1 ⟨rfl, rfl⟩
    go_wp2_with fail
    go_ret2
    exact ⟨rfl, Below.refl _ _⟩

theorem implCountTrees_any (n : Int) (w : World) (_lo : -9223372036854775808 ≤ n) (_hi : n ≤ 9223372036854775807) :
    Calls Try.prog 45 #[.int .i64 n] w (Gives (ansN (countO n)) w) := by
  unfold countO
  by_cases h1 : n < 0
  · rw [if_neg (by omega)]
    go_enter Try.func45, Try.ntmps45
    go_wp2_with fail
    go_ret2
    exact ⟨rfl, Below.refl _ _⟩
  · by_cases h2 : 8 < n
    · rw [if_neg (by omega)]
      go_enter Try.func45, Try.ntmps45
      go_wp2_with fail
      go_ret2
      exact ⟨rfl, Below.refl _ _⟩
    · rw [if_pos (by omega)]
      obtain ⟨k, rfl⟩ : ∃ k : Nat, n = k := ⟨n.toNat, by omega⟩
      have h8 : k ≤ 8 := by omega
      have hk := fun w => countLists_any 1 k w (by omega) (by omega) h8
      rw [lists_cat k h8] at hk
      clear h1 h2
      go_enter Try.func45, Try.ntmps45
      go_wp2_with fail
      refine (hk _).mono ?_; rintro e w1 ⟨rfl, rfl⟩
      go_wp2_with fail
      go_ret2
      exact ⟨rfl, Below.refl _ _⟩
end Go.Proofs.Yteflpaebckichab

/-! Dw9 -/
namespace Go.Proofs.Yteflpaebckichab
open Go.RowKit

/-- A tree's text, or none. -/
theorem tree_or (s : ByteArray) : (∃ t : Tr, s = t.str ∧ t.carets ≤ 8 ∧ treeOf s = some t) ∨ treeOf s = none := by
  cases h : treeOf s with
  | none => exact .inr rfl
  | some t => obtain ⟨e, hc⟩ := treeOf_some h; exact .inl ⟨t, e, hc, rfl⟩

/-- A place of a row is drawn, and what stands there is told. -/
theorem pickI_any (L : List Int) (n g b : Nat) (c : Bts) (k : Nat) (w : World) (h : Cur w b c k) (hL : ∀ i, i < n → w.cell? ⟨g, i, none⟩ = some (.int .i64 (L.getD i 0))) (hn : n = L.length) (hgb : g ≠ b) (hk : k ≤ 900000000) (h1 : 1 ≤ n) (hm : n ≤ 60000) :
    Calls Try.prog 96 #[.pointer (some ⟨b, 0, none⟩), .int .i64 n] w (fun e w' => ∃ (y : Nat) (z : Int), y < n ∧ z ∈ L ∧ w'.cell? ⟨g, y, none⟩ = some (.int .i64 z) ∧ e = .returned (.int .i64 y) ∧ Turns b c (k + 2) w w') := by
  refine (drawPick_any n b c k w h hk h1 hm).mono ?_
  rintro e w1 ⟨y, hy, rfl, hT⟩
  exact ⟨y, L.getD y 0, hy, getD_memI (by omega), cell_grown hT.2 hgb (hL y hy), rfl, hT⟩
theorem pickS_any (L : List ByteArray) (n g b : Nat) (c : Bts) (k : Nat) (w : World) (h : Cur w b c k) (hL : ∀ i, i < n → w.cell? ⟨g, i, none⟩ = some (.string (L.getD i ⟨#[]⟩))) (hn : n = L.length) (hgb : g ≠ b) (hk : k ≤ 900000000) (h1 : 1 ≤ n) (hm : n ≤ 60000) :
    Calls Try.prog 96 #[.pointer (some ⟨b, 0, none⟩), .int .i64 n] w (fun e w' => ∃ (y : Nat) (z : ByteArray), y < n ∧ z ∈ L ∧ w'.cell? ⟨g, y, none⟩ = some (.string z) ∧ e = .returned (.int .i64 y) ∧ Turns b c (k + 2) w w') := by
  refine (drawPick_any n b c k w h hk h1 hm).mono ?_
  rintro e w1 ⟨y, hy, rfl, hT⟩
  exact ⟨y, L.getD y ⟨#[]⟩, hy, getD_memT (by omega), cell_grown hT.2 hgb (hL y hy), rfl, hT⟩

set_option maxRecDepth 100000 in
set_option maxHeartbeats 1000000 in
theorem drawDropExposed_any (c : Bts) (w : World) (h : InB w c) : Calls Try.prog 27 #[.slice c.a c.n c.cap] w (GivesZI 60 w) := by
  have H := Lib.hid (cur_new h)
  clear h
  go_enter Try.func27, Try.ntmps27
  go_wp2_with fail
  refine (drawTree_any 7 _ c 0 _ H.out (by omega) (by omega)).mono ?_; rintro e w1 ⟨s, hs, rfl, hT, hg⟩
  have HT := Lib.hid hT
  have HG := Lib.hid hg
  clear hT hg
  rcases tree_or s with ⟨t, rfl, htc, _⟩ | hno
  · go_wp2_with fail
    refine (trIs_yes t _ htc).mono ?_; rintro e w2 ⟨rfl, rfl⟩
    go_wp2_with fail
    refine (drawOne_any 3 _ c _ _ HT.out (by omega) (by omega) (by omega)).mono ?_; rintro e w2 ⟨x, rfl, hT, hg⟩
    have HT2 := Lib.hid hT
    have HG2 := Lib.hid (grown_trans HG.out hg)
    clear hT hg
    cases x with
    | true =>
      go_wp2_with fail
      refine (drawPick_any 9 _ c _ _ HT2.out (by omega) (by omega) (by omega)).mono ?_; rintro e w3 ⟨y, hy, rfl, hT, hg⟩
      go_wp2_with fail
      go_ret2
      exact ⟨t.str, (y : Int) - 1, by omega, by omega, by omega, rfl, cur_below (grown_trans HG2.out hg)⟩
    | false =>
      go_wp2_with fail
      refine (trExposed_any t.str _ (by have := t.str_size; omega)).mono ?_; rintro e w3 ⟨v, hO, hb3, rfl⟩
      have hrg := exps_range t 0
      have hlt2 := HT2.out.lt
      rw [t.str_list, exps_text] at hO
      have HT3 := Lib.hid (HT2.out.keep hb3)
      have HG3 := Lib.hid (grown_below HG2.out hb3)
      have hrg2 : Hid (∀ m ∈ t.exps 0, 0 ≤ m ∧ m ≤ 100) := fun m hm => by
        have := hrg m hm
        have := t.str_size
        unfold Tr.leaves at *
        omega
      have hel : (t.exps 0).length ≤ 60 := by have := exps_length t 0; omega
      clear hrg
      generalize t.exps 0 = L at *
      rcases hO.cells with ⟨rfl, rfl⟩ | ⟨g, cap, rfl, h1, h2, h3, h4, h5, h6⟩
      · clear hO hb3
        go_wp2_with fail
        refine (drawPick_any 9 _ c _ _ HT3.out (by omega) (by omega) (by omega)).mono ?_; rintro e w4 ⟨y, hy, rfl, hT, hg⟩
        go_wp2_with fail
        go_ret2
        exact ⟨t.str, (y : Int) - 1, by omega, by omega, by omega, rfl, cur_below (grown_trans HG3.out hg)⟩
      · obtain ⟨n, hn⟩ : ∃ n, n = L.length := ⟨_, rfl⟩
        rw [← hn] at h3 h5 ⊢
        have HN := Lib.hid hn
        have HX := Lib.hid h5
        have hnl : n ≤ 60 := by omega
        clear hO hb3 h5 h6 hn hel
        by_cases h0 : n = 0
        · subst h0
          go_wp2_with fail
          refine (drawPick_any 9 _ c _ _ HT3.out (by omega) (by omega) (by omega)).mono ?_; rintro e w4 ⟨y, hy, rfl, hT, hg⟩
          go_wp2_with fail
          go_ret2
          exact ⟨t.str, (y : Int) - 1, by omega, by omega, by omega, rfl, cur_below (grown_trans HG3.out hg)⟩
        · have h0' : (0 : Int) < (n : Int) := by omega
          go_wp2_with fail
          go_region_with (go_at_call 96; refine (pickI_any L n g _ c _ _ (HT3.out.drewN _) HX.out HN.out (by omega) (by omega) (by omega) (by omega)).mono ?_; rintro e w4 ⟨y, z, hy, hz, c4, rfl, hT, hg⟩; have hy' : (y : Int) < (n : Int) := by omega)
          have HG4 := Lib.hid (grown_trans (show World.grownBy _ w3.drew _ from grown_drew (n := 1) HG3.out) hg)
          have hm := hrg2.out z hz
          go_wp2_with fail
          go_ret2
          exact ⟨t.str, z, by omega, by omega, by omega, rfl, cur_below HG4.out⟩
  · go_wp2_with fail
    refine (trIs_no s _ (by omega) hno).mono ?_; rintro e w2 ⟨rfl, rfl⟩
    go_wp2_with fail
    refine (drawPick_any 9 _ c _ _ HT.out (by omega) (by omega) (by omega)).mono ?_; rintro e w4 ⟨y, hy, rfl, hT, hg⟩
    go_wp2_with fail
    go_ret2
    exact ⟨s, (y : Int) - 1, by omega, by omega, by omega, rfl, cur_below (grown_trans HG.out hg)⟩

set_option maxRecDepth 100000 in
set_option maxHeartbeats 1000000 in
theorem drawIsPartOf_any (c : Bts) (w : World) (h : InB w c) : Calls Try.prog 35 #[.slice c.a c.n c.cap] w (GivesZ2 100 w) := by
  have H := Lib.hid (cur_new h)
  clear h
  go_enter Try.func35, Try.ntmps35
  go_wp2_with fail
  refine (drawTree_any 4 _ c 0 _ H.out (by omega) (by omega)).mono ?_; rintro e w1 ⟨s, hs, rfl, hT, hg⟩
  have HT := Lib.hid hT
  have HG := Lib.hid hg
  clear hT hg
  rcases tree_or s with ⟨t, rfl, htc, _⟩ | hno
  · go_wp2_with fail
    refine (trIs_yes t _ htc).mono ?_; rintro e w2 ⟨rfl, rfl⟩
    go_wp2_with fail
    refine (drawOne_any 3 _ c _ _ HT.out (by omega) (by omega) (by omega)).mono ?_; rintro e w2 ⟨x, rfl, hT, hg⟩
    have HT2 := Lib.hid hT
    have HG2 := Lib.hid (grown_trans HG.out hg)
    clear hT hg
    cases x with
    | true =>
      go_wp2_with fail
      refine (drawTree_any 6 _ c _ _ HT2.out (by omega) (by omega)).mono ?_; rintro e w3 ⟨u, hu, rfl, hT, hg⟩
      go_wp2_with fail
      go_ret2
      exact ⟨t.str, u, by omega, by omega, rfl, cur_below (grown_trans HG2.out hg)⟩
    | false =>
      go_wp2_with fail
      refine (drawPick_any 4 _ c _ _ HT2.out (by omega) (by omega) (by omega)).mono ?_; rintro e w3 ⟨y, hy, rfl, hT, hg⟩
      have HT3 := Lib.hid hT
      have HG3 := Lib.hid (grown_trans HG2.out hg)
      clear hT hg
      go_wp2_with fail
      go_loopw [6, 7] (fun s i wr => ∃ (j : Nat) (u : Tr), j ≤ 3 ∧ u.carets ≤ 11 - j ∧ s = .string u.str ∧ i = .int .i64 j ∧ Hid (Cur wr w.heap.size c (100 - 2 * j)) ∧ Hid ((w.alloc (.cells #[.slice c.a c.n c.cap, .int .i64 0, .int .u64 0] 95 (0, 0))).grownBy wr (some w.heap.size))) (fun _ i _ => (intOf i).toNat)
      case atStart => exact ⟨y, t, by omega, by omega, rfl, rfl, Lib.hid (HT3.out.mono (by omega)), HG3⟩
      case round =>
        obtain ⟨j, u, hj, hu, rfl, rfl, hT, hG⟩ := hrel
        by_cases hlt : 0 < j
        · obtain ⟨j, rfl⟩ : ∃ i, j = i + 1 := ⟨j - 1, by omega⟩
          go_wp2_with fail
          refine (carets_str u _ (by omega)).mono ?_; rintro e w4 ⟨rfl, rfl⟩
          go_wp2_with fail
          refine (drawPick_any (u.carets + 1) _ c _ _ hT.out (by omega) (by omega) (by omega)).mono ?_; rintro e w4 ⟨z, hz, rfl, hT2, hg2⟩
          have HT4 := Lib.hid hT2
          have HG4 := Lib.hid (grown_trans hG.out hg2)
          clear hT2 hg2
          go_wp2_with fail
          rw [two_str]
          refine (graft_at u (.nd .lf .lf) z _ (by unfold Tr.leaves; omega) (by omega) (by decide)).mono ?_; rintro e w5 ⟨rfl, hb2⟩
          have hc2 := graft_carets u (.nd .lf .lf) z (by omega) (by unfold Tr.leaves; omega)
          have hlt4 := HT4.out.lt
          have HT5 := Lib.hid (HT4.out.keep hb2)
          have HG5 := Lib.hid (grown_below HG4.out hb2)
          have hc3 : (u.graft z (.nd .lf .lf)).carets ≤ 11 - j := by rw [hc2]; show _ + 1 ≤ _; omega
          clear hb2 hc2
          generalize u.graft z (.nd .lf .lf) = u2 at *
          go_wp2_with fail
          go_roundw
          case rel => exact ⟨j, u2, by omega, hc3, rfl, by go_num, Lib.hid (HT5.out.mono (by omega)), HG5⟩
          case measure => simp [intOf]
        · obtain rfl : j = 0 := by omega
          go_wp2_with fail
          go_ret2
          exact ⟨t.str, u.str, by omega, by have := u.str_size; omega, rfl, cur_below hG.out⟩
  · go_wp2_with fail
    refine (trIs_no s _ (by omega) hno).mono ?_; rintro e w2 ⟨rfl, rfl⟩
    go_wp2_with fail
    refine (drawTree_any 6 _ c _ _ HT.out (by omega) (by omega)).mono ?_; rintro e w3 ⟨u, hu, rfl, hT, hg⟩
    go_wp2_with fail
    go_ret2
    exact ⟨s, u, by omega, by omega, rfl, cur_below (grown_trans HG.out hg)⟩

/-- A call that draws a text, a number and a text. -/
def GivesZIZ (n : Nat) (w : World) (e : Ending) (w' : World) : Prop := ∃ (s t : ByteArray) (i : Int), s.size ≤ n ∧ t.size ≤ n ∧ -1000000 ≤ i ∧ i ≤ 1000000 ∧ e = .returned (.tuple #[.string s, .int .i64 i, .string t]) ∧ Below w.heap.size w w'
end Go.Proofs.Yteflpaebckichab

/-! Dw10 -/
namespace Go.Proofs.Yteflpaebckichab
open Go.RowKit

set_option maxRecDepth 100000 in
set_option maxHeartbeats 1000000 in
theorem drawSubtreeAt_any (c : Bts) (w : World) (h : InB w c) : Calls Try.prog 37 #[.slice c.a c.n c.cap] w (GivesZ2 100 w) := by
  have H := Lib.hid (cur_new h)
  clear h
  have hoff := fun w1 k (hT : Cur w1 w.heap.size c k) (hk : k ≤ 1000) => drawOf_any [⟨#[]⟩, ⟨#[48]⟩, ⟨#[49]⟩, ⟨#[48, 48]⟩, ⟨#[49, 48]⟩, ⟨#[50]⟩, ⟨#[48, 120]⟩, ⟨#[48, 48, 48, 48, 48, 48, 48, 48, 48, 48]⟩] 8 w1.heap.size 8 w.heap.size c k _ (hT.keep (allocB _ _)) (rowT_alloc w1 [⟨#[]⟩, ⟨#[48]⟩, ⟨#[49]⟩, ⟨#[48, 48]⟩, ⟨#[49, 48]⟩, ⟨#[50]⟩, ⟨#[48, 120]⟩, ⟨#[48, 48, 48, 48, 48, 48, 48, 48, 48, 48]⟩] 9) rfl (by have := hT.lt; omega) (by omega) (by omega) (by omega)
  have hsz : ∀ s ∈ [(⟨#[]⟩ : ByteArray), ⟨#[48]⟩, ⟨#[49]⟩, ⟨#[48, 48]⟩, ⟨#[49, 48]⟩, ⟨#[50]⟩, ⟨#[48, 120]⟩, ⟨#[48, 48, 48, 48, 48, 48, 48, 48, 48, 48]⟩], s.size ≤ 100 := by
    intro s hs
    simp only [List.mem_cons, List.not_mem_nil, or_false] at hs
    rcases hs with rfl | rfl | rfl | rfl | rfl | rfl | rfl | rfl <;> decide
  have HOF := Lib.hid hoff
  have HSZ := Lib.hid hsz
  clear hoff hsz
  go_enter Try.func37, Try.ntmps37
  go_wp2_with fail
  refine (drawTree_any 7 _ c 0 _ H.out (by omega) (by omega)).mono ?_; rintro e w1 ⟨s, hs, rfl, hT, hg⟩
  have HT := Lib.hid hT
  have HG := Lib.hid hg
  clear hT hg
  rcases tree_or s with ⟨t, rfl, htc, _⟩ | hno
  · go_wp2_with fail
    refine (trIs_yes t _ htc).mono ?_; rintro e w2 ⟨rfl, rfl⟩
    go_wp2_with fail
    refine (drawOne_any 5 _ c _ _ HT.out (by omega) (by omega) (by omega)).mono ?_; rintro e w2 ⟨x, rfl, hT, hg⟩
    have HT2 := Lib.hid hT
    have HG2 := Lib.hid (grown_trans HG.out hg)
    clear hT hg
    cases x with
    | true =>
      go_wp2_with fail
      refine (HOF.out _ _ HT2.out (by omega)).mono ?_; rintro e w3 ⟨u, hu, rfl, hT, hg⟩
      have hb3 : Below w.heap.size w w3 := cur_below (grown_trans (grown_below HG2.out (allocB _ _)) hg)
      have hu2 := HSZ.out u hu
      clear hu hT hg
      go_wp2_with fail
      go_ret2
      exact ⟨t.str, u, by omega, by omega, rfl, hb3⟩
    | false =>
      go_wp2_with fail
      refine (trAddresses_any t ⟨#[]⟩ _ (by omega) (by show 0 + _ ≤ _; omega)).mono ?_; rintro e w3 ⟨g, cap, hO, hb3, rfl⟩
      have hsz := addrs_size t ⟨#[]⟩
      have hln := addrs_length t ⟨#[]⟩
      have hge := own_ge hO
      generalize t.addrs ⟨#[]⟩ = L at *
      have hlt2 := HT2.out.lt
      have HT3 := Lib.hid (HT2.out.keep hb3)
      have HG3 := Lib.hid (grown_below HG2.out hb3)
      have hsz2 : Hid (∀ s ∈ L, s.size ≤ 90) := fun s hs => by have := hsz s hs; rw [empty_size] at this; omega
      obtain ⟨n, hn⟩ : ∃ n, n = L.length := ⟨_, rfl⟩
      have hn1 : 1 ≤ n ∧ n ≤ 50 := by omega
      have hL : Hid (∀ i, i < n → w3.cell? ⟨g, i, none⟩ = some (.string (L.getD i ⟨#[]⟩))) := by
        rw [hn]
        rcases hO.cells with ⟨h1, _⟩ | ⟨g2, cap2, h1, _, _, h3, h4, h5, _⟩
        · cases h1
        · simp only [Value.slice.injEq, Option.some.injEq, Addr.mk.injEq, and_true] at h1
          obtain ⟨rfl, _⟩ := h1
          exact h5
      rw [← hn]
      have HN := Lib.hid hn
      clear hsz hln hb3 hO hn
      go_wp2_with fail
      refine (pickS_any L n g _ c _ _ HT3.out hL.out HN.out (by omega) (by omega) (by omega) (by omega)).mono ?_; rintro e w4 ⟨y, z, hy, hz, c4, rfl, hT, hg⟩
      have hy' : (y : Int) < (n : Int) := by omega
      have HT4 := Lib.hid hT
      have HG4 := Lib.hid (grown_trans HG3.out hg)
      have hz2 := hsz2.out z hz
      clear hT hg hz
      go_wp2_with fail
      have hpk2 := drawPick_any (z.size + 1) w.heap.size c _ w4.drew (show Cur w4.drew w.heap.size c _ from HT4.out) (by omega) (by omega) (by omega)
      have hpk3 : ∀ v : Int, v = ((z.size + 1 : Nat) : Int) → Calls Try.prog 96 #[.pointer (some ⟨w.heap.size, 0, none⟩), .int .i64 v] w4.drew _ := fun v hv => by rw [hv]; exact hpk2
      clear hpk2
      clear HOF HSZ
      have HZ : ∀ m, m < z.size + 1 → Hid ((z.extract 0 m).size ≤ 100) := fun m _ => by show _ ≤ _; rw [ByteArray.size_extract]; omega
      go_region_with (go_at_call 96; refine (hpk3 _ (by first | (rw [IntKind.wrap_i64] <;> omega) | (unfold wrap64; omega) | omega)).mono ?_; rintro e w5 ⟨m, hm, rfl, hT, hg⟩; have hm' : (m : Int) ≤ (z.size : Int) := by omega)
      have hb5 : Below w.heap.size w w5 := cur_below (grown_trans (show World.grownBy _ w4.drew _ from grown_drew (n := 1) HG4.out) hg)
      have HZ := HZ m hm
      go_wp2_with fail
      go_ret2
      exact ⟨t.str, z.extract 0 m, by omega, HZ.out, rfl, hb5⟩
  · go_wp2_with fail
    refine (trIs_no s _ (by omega) hno).mono ?_; rintro e w2 ⟨rfl, rfl⟩
    go_wp2_with fail
    refine (HOF.out _ _ HT.out (by omega)).mono ?_; rintro e w3 ⟨u, hu, rfl, hT, hg⟩
    have hb3 : Below w.heap.size w w3 := cur_below (grown_trans (grown_below HG.out (allocB _ _)) hg)
    have hu2 := HSZ.out u hu
    clear hu hT hg
    go_wp2_with fail
    go_ret2
    exact ⟨s, u, by omega, by omega, rfl, hb3⟩

set_option maxRecDepth 100000 in
set_option maxHeartbeats 1000000 in
theorem drawGraftAt_any (c : Bts) (w : World) (h : InB w c) : Calls Try.prog 40 #[.slice c.a c.n c.cap] w (GivesZIZ 100 w) := by
  have H := Lib.hid (cur_new h)
  clear h
  go_enter Try.func40, Try.ntmps40
  go_wp2_with fail
  refine (drawTree_any 5 _ c 0 _ H.out (by omega) (by omega)).mono ?_; rintro e w1 ⟨s, hs, rfl, hT, hg⟩
  have HT := Lib.hid hT
  have HG := Lib.hid hg
  clear hT hg
  go_wp2_with fail
  refine (carets_any s _ (by omega)).mono ?_; rintro e w2 ⟨rfl, rfl⟩
  obtain ⟨hc0, hc1⟩ := cnt_le s s.size
  obtain ⟨q, hq⟩ : ∃ q : Nat, cnt s s.size = q := ⟨(cnt s s.size).toNat, by omega⟩
  rw [hq] at hc0 hc1 ⊢
  clear hq
  go_wp2_with fail
  have hpk := fun w h => drawPick_any (q + 3) w.heap.size c (0 + 2 * 5 + 40) w h (by omega) (by omega) (by omega)
  clear hpk
  have hpk := drawPick_any (q + 3) _ c _ _ HT.out (by omega) (by omega) (by omega)
  push_cast at hpk
  refine hpk.mono ?_; rintro e w2 ⟨y, hy, rfl, hT, hg⟩
  have HT2 := Lib.hid hT
  have HG2 := Lib.hid (grown_trans HG.out hg)
  clear hT hg hpk
  go_wp2_with fail
  refine (drawTree_any 4 _ c _ _ HT2.out (by omega) (by omega)).mono ?_; rintro e w3 ⟨u, hu, rfl, hT, hg⟩
  go_wp2_with fail
  go_ret3
  exact ⟨s, u, (y : Int) - 1, by omega, by omega, by omega, by omega, rfl, cur_below (grown_trans HG2.out hg)⟩

/-- A call that draws a number. -/
def GivesN2 (w : World) (e : Ending) (w' : World) : Prop := ∃ i j : Int, -1 ≤ i ∧ i ≤ 50 ∧ -1 ≤ j ∧ j ≤ 4611686018427387904 ∧ e = .returned (.tuple #[.int .i64 i, .int .i64 j]) ∧ Below w.heap.size w w'
def GivesN1 (w : World) (e : Ending) (w' : World) : Prop := ∃ i : Int, -1 ≤ i ∧ i ≤ 50 ∧ e = .returned (.int .i64 i) ∧ Below w.heap.size w w'
set_option maxRecDepth 100000 in
set_option maxHeartbeats 1000000 in
theorem drawTreeAt_any (c : Bts) (w : World) (h : InB w c) : Calls Try.prog 42 #[.slice c.a c.n c.cap] w (GivesN2 w) := by
  have H := Lib.hid (cur_new h)
  clear h
  have ham := fun w1 k (hT : Cur w1 w.heap.size c k) (hk : k ≤ 1000) => drawAmong_any [-1, 0, 1, 2, 5, 14, 42, 4611686018427387904] 8 w1.heap.size 8 w.heap.size c k _ (hT.keep (allocB _ _)) (rowI_alloc w1 [-1, 0, 1, 2, 5, 14, 42, 4611686018427387904] 3) rfl (by have := hT.lt; omega) (by omega) (by omega) (by omega)
  have hsz : ∀ s ∈ [(-1 : Int), 0, 1, 2, 5, 14, 42, 4611686018427387904], -1 ≤ s ∧ s ≤ 4611686018427387904 := by
    intro s hs
    simp only [List.mem_cons, List.not_mem_nil, or_false] at hs
    omega
  have HOF := Lib.hid ham
  have HSZ := Lib.hid hsz
  clear ham hsz
  go_enter Try.func42, Try.ntmps42
  go_wp2_with fail
  refine (drawCarets_any 5 _ c 0 _ H.out (by omega) (by omega)).mono ?_; rintro e w1 ⟨s, hs1, hs2, rfl, hT, hg⟩
  have HT := Lib.hid hT
  have HG := Lib.hid hg
  clear hT hg
  by_cases hin : 0 ≤ s ∧ s ≤ 8
  · go_wp2_with fail
    refine (trSize_yes s _ hin.1 hin.2).mono ?_; rintro e w2 ⟨rfl, rfl⟩
    go_wp2_with fail
    refine (drawOne_any 4 _ c _ _ HT.out (by omega) (by omega) (by omega)).mono ?_; rintro e w2 ⟨x, rfl, hT, hg⟩
    have HT2 := Lib.hid hT
    have HG2 := Lib.hid (grown_trans HG.out hg)
    clear hT hg
    cases x with
    | true =>
      go_wp2_with fail
      refine (HOF.out _ _ HT2.out (by omega)).mono ?_; rintro e w3 ⟨u, hu, rfl, hT, hg⟩
      have hb3 : Below w.heap.size w w3 := cur_below (grown_trans (grown_below HG2.out (allocB _ _)) hg)
      have hu2 := HSZ.out u hu
      clear hu hT hg
      go_wp2_with fail
      go_ret2
      exact ⟨s, u, by omega, by omega, by omega, by omega, rfl, hb3⟩
    | false =>
      obtain ⟨q, rfl⟩ : ∃ q : Nat, s = q := ⟨s.toNat, by omega⟩
      have hcb := catN_bd q (by omega)
      have hcp : 1 ≤ catN q := by
        have : ∀ k, k ≤ 8 → 1 ≤ catN k := by decide
        exact this q (by omega)
      have htc := trCount_any q
      generalize catN q = m at *
      go_wp2_with fail
      refine (htc _ (by omega)).mono ?_; rintro e w3 ⟨rfl, rfl⟩
      go_wp2_with fail
      refine (drawPick_any m _ c _ _ HT2.out (by omega) (by omega) (by omega)).mono ?_; rintro e w3 ⟨y, hy, rfl, hT, hg⟩
      go_wp2_with fail
      go_ret2
      exact ⟨q, y, by omega, by omega, by omega, by omega, rfl, cur_below (grown_trans HG2.out hg)⟩
  · go_wp2_with fail
    refine (trSize_no s _ (by omega)).mono ?_; rintro e w2 ⟨rfl, rfl⟩
    go_wp2_with fail
    refine (HOF.out _ _ HT.out (by omega)).mono ?_; rintro e w3 ⟨u, hu, rfl, hT, hg⟩
    have hb3 : Below w.heap.size w w3 := cur_below (grown_trans (grown_below HG.out (allocB _ _)) hg)
    have hu2 := HSZ.out u hu
    clear hu hT hg
    go_wp2_with fail
    go_ret2
    exact ⟨s, u, by omega, by omega, by omega, by omega, rfl, hb3⟩
set_option maxRecDepth 100000 in
theorem drawAllTrees_any (c : Bts) (w : World) (h : InB w c) : Calls Try.prog 47 #[.slice c.a c.n c.cap] w (GivesN1 w) := by
  have H := Lib.hid (cur_new h)
  clear h
  go_enter Try.func47, Try.ntmps47
  go_wp2_with fail
  refine (drawCarets_any 5 _ c 0 _ H.out (by omega) (by omega)).mono ?_; rintro e w1 ⟨s, hs1, hs2, rfl, hT, hg⟩
  go_wp2_with fail
  go_ret
  exact ⟨s, hs1, hs2, rfl, cur_below hg⟩
set_option maxRecDepth 100000 in
theorem drawRightComb_any (c : Bts) (w : World) (h : InB w c) : Calls Try.prog 52 #[.slice c.a c.n c.cap] w (GivesN1 w) := by
  have H := Lib.hid (cur_new h)
  clear h
  go_enter Try.func52, Try.ntmps52
  go_wp2_with fail
  refine (drawCarets_any 8 _ c 0 _ H.out (by omega) (by omega)).mono ?_; rintro e w1 ⟨s, hs1, hs2, rfl, hT, hg⟩
  go_wp2_with fail
  go_ret
  exact ⟨s, hs1, hs2, rfl, cur_below hg⟩
set_option maxRecDepth 100000 in
theorem drawRankTree_any (c : Bts) (w : World) (h : InB w c) : Calls Try.prog 55 #[.slice c.a c.n c.cap] w (GivesZ 60 w) := by
  have H := Lib.hid (cur_new h)
  clear h
  go_enter Try.func55, Try.ntmps55
  go_wp2_with fail
  refine (drawTree_any 5 _ c 0 _ H.out (by omega) (by omega)).mono ?_; rintro e w1 ⟨s, hs, rfl, hT, hg⟩
  go_wp2_with fail
  go_ret
  exact ⟨s, by omega, rfl, cur_below hg⟩
end Go.Proofs.Yteflpaebckichab

/-! Lw0 -/
namespace Go.Proofs.Yteflpaebckichab
open Go.RowKit

theorem pow_cast2 (n : Nat) : (2 : Int) ^ n = ((2 ^ n : Nat) : Int) := by
  rw [Int.natCast_pow]; rfl
theorem share_step (S P T : Nat) (h : T = S + P) (h1 : P ≤ 256) (h2 : T ≤ 100000) : wrap64 ((S : Int) + wrap64 (P : Int)) = (T : Int) := by
  subst h
  unfold wrap64
  omega
theorem less_byL : ∀ (x y : List UInt8), Go.Op.bytesLess x y = decide (x < y) := by
  intro x
  induction x with
  | nil => intro y; cases y <;> simp [Go.Op.bytesLess]
  | cons a x ih =>
    intro y
    cases y with
    | nil => simp [Go.Op.bytesLess]
    | cons b y =>
      rw [Go.Op.bytesLess, ih y, Bool.eq_iff_iff]
      simp [List.cons_lt_cons_iff]
theorem less_data (a b : ByteArray) : Go.Op.bytesLess a.toList b.toList = decide (a.data.toList < b.data.toList) := by
  rw [less_byL, Lib.toList_data, Lib.toList_data]
theorem big_yes (c d : Bts) (w : World) (hc : (c.n : Int) ≤ 9223372036854775807) (_hd : (d.n : Int) ≤ 9223372036854775807) (h : 1048576 < c.n ∨ 1048576 < c.n + d.n) :
    Calls Try.prog 7 #[.slice c.a c.n c.cap, .slice d.a d.n d.cap] w (fun e w' => e = .returned (.bool true) ∧ w = w') := by
  by_cases h1 : 1048576 < c.n
  · have h1' : (1048576 : Int) < (c.n : Int) := by omega
    go_enter Try.func7, Try.ntmps7
    go_wp2_with fail
    go_ret
    exact ⟨rfl, rfl⟩
  · have h1' : (c.n : Int) ≤ 1048576 := by omega
    have h2' : 1048576 - (c.n : Int) < (d.n : Int) := by omega
    go_enter Try.func7, Try.ntmps7
    go_wp2_with fail
    go_ret
    exact ⟨ret_bool (by first | rfl | (simp; done) | (simp; omega)), rfl⟩
theorem big_no (c d : Bts) (w : World) (h : c.n + d.n ≤ 1048576) :
    Calls Try.prog 7 #[.slice c.a c.n c.cap, .slice d.a d.n d.cap] w (fun e w' => e = .returned (.bool false) ∧ w = w') := by
  have h1' : (c.n : Int) ≤ 1048576 := by omega
  have h2' : (d.n : Int) ≤ 1048576 - (c.n : Int) := by omega
  go_enter Try.func7, Try.ntmps7
  go_wp2_with fail
  go_ret
  exact ⟨ret_bool (by first | rfl | (simp; done) | (simp; omega)), rfl⟩
/-- An argument of a law: bytes that can be read. -/
def RawB (w : World) (c : Bts) : Prop := (c.n : Int) ≤ 9223372036854775807 ∧ (c.n = 0 ∨ ∃ g off, c.a = some ⟨g, off, none⟩ ∧ ∀ i, i < c.n → ∃ x : Nat, x < 256 ∧ w.cell? ⟨g, off + i, none⟩ = some (.int .u8 x))

set_option maxHeartbeats 1000000 in
theorem fSame_any (b1 b2 : Nat) (v1 v2 : Value) (xs : List Int) (w : World) (h1 : CellsI b1 w v1 xs) (h2 : CellsI b2 w v2 xs) :
    Calls Try.prog 20 #[v1, v2] w (Quietly (.bool true) w) := by
  have hl := h1.len
  rcases h1 with ⟨rfl, rfl⟩ | ⟨g, cap, rfl, hb1, hg1, hc1, hm1, hx1, _⟩
  · rcases h2 with ⟨rfl, _⟩ | ⟨g, cap, rfl, hb1, hg1, hc1, hm1, hx1, _⟩
    all_goals
      go_enter Try.func20, Try.ntmps20
      go_wp2_with fail
      go_loopw [13] (fun i wr => i = .int .i64 0 ∧ wr = w) (fun _ _ => 0)
      case atStart => exact ⟨rfl, rfl⟩
      case round =>
        obtain ⟨rfl, rfl⟩ := hrel
        go_wp2_with fail
        go_ret
        exact ⟨rfl, 0, rfl⟩
  · rcases h2 with ⟨rfl, rfl⟩ | ⟨g2, cap2, rfl, hb2, hg2, hc2, hm2, hx2, _⟩
    · go_enter Try.func20, Try.ntmps20
      go_wp2_with fail
      go_loopw [13] (fun i wr => i = .int .i64 0 ∧ wr = w) (fun _ _ => 0)
      case atStart => exact ⟨rfl, rfl⟩
      case round =>
        obtain ⟨rfl, rfl⟩ := hrel
        go_wp2_with fail
        go_ret
        exact ⟨rfl, 0, rfl⟩
    · have HX1 := Lib.hid hx1
      have HX2 := Lib.hid hx2
      clear hx1 hx2
      go_enter Try.func20, Try.ntmps20
      go_wp2_with fail
      go_loopw [13] (fun i wr => ∃ k d : Nat, k ≤ xs.length ∧ i = .int .i64 k ∧ wr = w.drewN d) (fun i _ => xs.length - (intOf i).toNat)
      case atStart => exact ⟨0, 0, Nat.zero_le _, rfl, rfl⟩
      case round =>
        obtain ⟨k, d, hk, rfl, rfl⟩ := hrel
        by_cases hlt : k < xs.length
        · have hlt' : (k : Int) < (xs.length : Int) := by omega
          have c1 := HX1.out k hlt
          have c2 := HX2.out k hlt
          obtain ⟨x, hx⟩ : ∃ x, x = xs.getD k 0 := ⟨_, rfl⟩
          rw [← hx] at c1 c2
          clear hx
          go_wp2_with fail
          go_quiet (fail)
          go_wp2_with fail
          go_roundw
          case rel => exact ⟨k + 1, _, by omega, by go_num, rfl⟩
          case measure => simp [intOf]; omega
        · obtain rfl : k = xs.length := by omega
          go_wp2_with fail
          go_ret
          exact ⟨rfl, _, rfl⟩

set_option maxHeartbeats 1000000 in
theorem fTexts_any (b1 b2 : Nat) (v1 v2 : Value) (xs : List ByteArray) (w : World) (h1 : CellsS b1 w v1 xs) (h2 : CellsS b2 w v2 xs) :
    Calls Try.prog 19 #[v1, v2] w (Quietly (.bool true) w) := by
  have hl := h1.len
  rcases h1 with ⟨rfl, rfl⟩ | ⟨g, cap, rfl, hb1, hg1, hc1, hm1, hx1, _⟩
  · rcases h2 with ⟨rfl, _⟩ | ⟨g, cap, rfl, hb1, hg1, hc1, hm1, hx1, _⟩
    all_goals
      go_enter Try.func19, Try.ntmps19
      go_wp2_with fail
      go_loopw [13] (fun i wr => i = .int .i64 0 ∧ wr = w) (fun _ _ => 0)
      case atStart => exact ⟨rfl, rfl⟩
      case round =>
        obtain ⟨rfl, rfl⟩ := hrel
        go_wp2_with fail
        go_ret
        exact ⟨rfl, 0, rfl⟩
  · rcases h2 with ⟨rfl, rfl⟩ | ⟨g2, cap2, rfl, hb2, hg2, hc2, hm2, hx2, _⟩
    · go_enter Try.func19, Try.ntmps19
      go_wp2_with fail
      go_loopw [13] (fun i wr => i = .int .i64 0 ∧ wr = w) (fun _ _ => 0)
      case atStart => exact ⟨rfl, rfl⟩
      case round =>
        obtain ⟨rfl, rfl⟩ := hrel
        go_wp2_with fail
        go_ret
        exact ⟨rfl, 0, rfl⟩
    · have HX1 := Lib.hid hx1
      have HX2 := Lib.hid hx2
      clear hx1 hx2
      go_enter Try.func19, Try.ntmps19
      go_wp2_with fail
      go_loopw [13] (fun i wr => ∃ k d : Nat, k ≤ xs.length ∧ i = .int .i64 k ∧ wr = w.drewN d) (fun i _ => xs.length - (intOf i).toNat)
      case atStart => exact ⟨0, 0, Nat.zero_le _, rfl, rfl⟩
      case round =>
        obtain ⟨k, d, hk, rfl, rfl⟩ := hrel
        by_cases hlt : k < xs.length
        · have hlt' : (k : Int) < (xs.length : Int) := by omega
          have c1 := HX1.out k hlt
          have c2 := HX2.out k hlt
          obtain ⟨x, hx⟩ : ∃ x, x = xs.getD k ⟨#[]⟩ := ⟨_, rfl⟩
          rw [← hx] at c1 c2
          clear hx
          go_wp2_with fail
          go_quiet (fail)
          go_wp2_with fail
          go_roundw
          case rel => exact ⟨k + 1, _, by omega, by go_num, rfl⟩
          case measure => simp [intOf]; omega
        · obtain rfl : k = xs.length := by omega
          go_wp2_with fail
          go_ret
          exact ⟨rfl, _, rfl⟩

end Go.Proofs.Yteflpaebckichab

/-! ArgI -/
namespace Go.Proofs.Yteflpaebckichab
open Go.RowKit

/-- A slice of integers that came in: it is nil, or leads to a row of 'cap' cells, the first 'len' of which are its elements. -/
def IsInts (w : World) (a : Option Addr) (len cap : Nat) (ss : List Int) : Prop :=
  (a = none ∧ len = 0 ∧ cap = 0 ∧ ss = []) ∨
  ∃ x, a = some x ∧ len ≤ cap ∧ cap ≤ maxLen ∧ ss.length = cap ∧ (∀ i, i < ss.length → w.cell? (x.add i) = some (.int .i64 (ss.getD i 0))) ∧ ∀ s ∈ ss, (Lit.int .i64 s).wf = true

/-- What can be read of a slice of integers: the cells from an address on. -/
def ReadI (w : World) (g off : Nat) (ss : List Int) : Prop := ∀ i, i < ss.length → w.cell? ⟨g, off + i, none⟩ = some (.int .i64 (ss.getD i 0))

theorem ReadI.keep {w w' : World} {g off : Nat} {ss : List Int} (h : ReadI w g off ss) (hb : Below w.heap.size w w') : ReadI w' g off ss := by
  intro i hi
  have := h i hi
  exact (hb.cell (p := ⟨g, off + i, none⟩) (World.block_lt_of_cell? w _ this)).trans this

/-- The slice as the walks take it: empty, or readable from an address on. -/
def InI (w : World) (a : Option Addr) (ss : List Int) : Prop := ss = [] ∨ ∃ g off, a = some ⟨g, off, none⟩ ∧ ReadI w g off ss

theorem IsInts.inI {w : World} {a : Option Addr} {len cap : Nat} {ss : List Int} (h : IsInts w a len cap ss) : InI w a (ss.take len) ∧ (ss.take len).length = len ∧ (len : Int) ≤ 9223372036854775807 ∧ ∀ s ∈ ss.take len, -9223372036854775808 ≤ s ∧ s ≤ 9223372036854775807 := by
  rcases h with ⟨rfl, rfl, rfl, rfl⟩ | ⟨x, rfl, h1, h2, h3, h4, h5⟩
  · exact ⟨.inl rfl, rfl, by omega, by simp⟩
  · have hl : (ss.take len).length = len := by rw [List.length_take]; omega
    unfold maxLen at h2
    refine ⟨?_, hl, by omega, fun s hs => i64_bounds (h5 s (List.mem_of_mem_take hs))⟩
    by_cases h0 : len = 0
    · left; subst h0; rfl
    · right
      obtain ⟨b, off, spot⟩ := x
      have hc := h4 0 (by omega)
      have hspot : spot = none := by simpa [Addr.add] using World.cell?_spot hc
      subst hspot
      refine ⟨b, off, rfl, fun i hi => ?_⟩
      rw [hl] at hi
      have := h4 i (by omega)
      have e : (⟨b, off, none⟩ : Addr).add i = ⟨b, off + i, none⟩ := by
        unfold Addr.add
        split
        · next h => rw [h]; simp
        · rfl
      rw [e] at this
      rw [this]
      simp [List.getD_eq_getElem?_getD, hi]

theorem InI.keep {w w' : World} {a : Option Addr} {ss : List Int} (h : InI w a ss) (hb : Below w.heap.size w w') : InI w' a ss := by
  rcases h with h | ⟨g, off, rfl, hr⟩
  · exact .inl h
  · exact .inr ⟨g, off, rfl, hr.keep hb⟩

/-- A call that hands back a copy, in new memory. -/
def CopyOfI (ss : List Int) (n : Nat) (w : World) (e : Ending) (w' : World) : Prop :=
  ∃ g : Nat, OwnI w.heap.size w' (.slice (some ⟨g, 0, none⟩) n n) ss ∧ Below w.heap.size w w' ∧ e = .returned (.slice (some ⟨g, 0, none⟩) n n)

theorem madeCells_int (n : Nat) : (madeCells (Value.int .i64 0).cells (n * 1)).toList = (List.replicate n (0 : Int)).map (Value.int .i64) := by
  rw [List.map_replicate, Nat.mul_one]
  exact toList_madeCells_one _ _

end Go.Proofs.Yteflpaebckichab

/-! Lw3 -/
namespace Go.Proofs.Yteflpaebckichab
open Go.RowKit

/-- The law's answer: true, and what was there is left. -/
def SaysTrue (w : World) (e : Ending) (w' : World) : Prop := e = .returned (.bool true) ∧ Below w.heap.size w w'

theorem OwnS.flat {base : Nat} {w : World} {v : Value} {L : List ByteArray} (h : OwnS base w v L) : ∃ (a : Option Addr) (cap : Nat), v = .slice a L.length cap ∧ InS w a L ∧ L.length ≤ cap ∧ cap ≤ 9223372036854775807 := by
  rcases h.cells with ⟨rfl, rfl⟩ | ⟨g, cap, rfl, _, _, h1, h2, h3, _⟩
  · exact ⟨none, 0, rfl, .inl rfl, Nat.le_refl _, by omega⟩
  · unfold maxLen at h2
    exact ⟨_, cap, rfl, .inr ⟨g, 0, rfl, fun i hi => by rw [Nat.zero_add]; exact h3 i hi⟩, h1, by omega⟩
theorem OwnI.flat {base : Nat} {w : World} {v : Value} {L : List Int} (h : OwnI base w v L) : ∃ (a : Option Addr) (cap : Nat), v = .slice a L.length cap ∧ InI w a L ∧ L.length ≤ cap ∧ cap ≤ 9223372036854775807 := by
  rcases h.cells with ⟨rfl, rfl⟩ | ⟨g, cap, rfl, _, _, h1, h2, h3, _⟩
  · exact ⟨none, 0, rfl, .inl rfl, Nat.le_refl _, by omega⟩
  · unfold maxLen at h2
    exact ⟨_, cap, rfl, .inr ⟨g, 0, rfl, fun i hi => by rw [Nat.zero_add]; exact h3 i hi⟩, h1, by omega⟩
end Go.Proofs.Yteflpaebckichab

/-! PrP -/
namespace Go.Proofs.Yteflpaebckichab

/-- A pair of trees. -/
abbrev Pr := Tr × Tr

/-- The left leaves with which both trees have exposed carets. -/
def both (p : Pr) : List Int := (p.1.exps 0).filter fun n => (p.2.exps 0).contains n

/-- Both carets dropped. -/
def dropP (p : Pr) (n : Int) : Pr := (p.1.dropAt n, p.2.dropAt n)

/-- Which of so many a step takes: the first choice modulo their number, or the first one. -/
def pickI (cs : List Int) (k : Nat) : Nat := match cs with
  | [] => 0
  | c :: _ => (c % k).toNat

/-- The reduced pair by choices (fuel: the number of steps that are left at most). -/
def redF : Nat → Pr → List Int → Pr
  | 0, p, _ => p
  | k + 1, p, cs => match both p with
    | [] => p
    | n :: ns => redF k (dropP p ((n :: ns).getD (pickI cs (ns.length + 1)) 0)) cs.tail
def redBy (p : Pr) (cs : List Int) : Pr := redF p.1.carets p cs
def red (p : Pr) : Pr := redBy p []

theorem mem_both {p : Pr} {n : Int} : n ∈ both p ↔ n ∈ p.1.exps 0 ∧ n ∈ p.2.exps 0 := by
  simp [both]

theorem both_length (p : Pr) : (both p).length ≤ p.1.carets :=
  Nat.le_trans (List.length_filter_le _ _) (exps_length _ _)

theorem both_empty {p : Pr} (h : p.1.carets = 0) : both p = [] := by
  have := both_length p
  exact List.length_eq_zero_iff.1 (by omega)

theorem pickI_lt (cs : List Int) (k : Nat) (h : 0 < k) : pickI cs k < k := by
  unfold pickI
  split
  · exact h
  · next c _ =>
    have h1 := Int.emod_lt_of_pos c (show (0 : Int) < k by omega)
    have h2 := Int.emod_nonneg c (show (k : Int) ≠ 0 by omega)
    omega

theorem pick_mem {p : Pr} {n : Int} {ns : List Int} (h : both p = n :: ns) (cs : List Int) : (n :: ns).getD (pickI cs (ns.length + 1)) 0 ∈ both p := by
  rw [h]
  have := pickI_lt cs (ns.length + 1) (by omega)
  rw [List.getD_eq_getElem?_getD, List.getElem?_eq_getElem (by simpa using this)]
  exact List.getElem_mem _

theorem dropP_carets {p : Pr} {n : Int} (h : n ∈ both p) : (dropP p n).1.carets + 1 = p.1.carets ∧ (dropP p n).2.carets + 1 = p.2.carets :=
  ⟨dropAt_carets _ _ (mem_both.1 h).1, dropAt_carets _ _ (mem_both.1 h).2⟩

/-- One step. -/
theorem redBy_step {p : Pr} {n : Int} {ns : List Int} (h : both p = n :: ns) (cs : List Int) :
    redBy p cs = redBy (dropP p ((n :: ns).getD (pickI cs (ns.length + 1)) 0)) cs.tail := by
  have hc := (dropP_carets (pick_mem h cs)).1
  unfold redBy
  obtain ⟨k, hk⟩ : ∃ k, p.1.carets = k + 1 := ⟨p.1.carets - 1, by omega⟩
  rw [hk, redF, h]
  have : (dropP p ((n :: ns).getD (pickI cs (ns.length + 1)) 0)).1.carets = k := by omega
  rw [this]
theorem redBy_end {p : Pr} (h : both p = []) (cs : List Int) : redBy p cs = p := by
  unfold redBy
  cases hk : p.1.carets with
  | zero => rfl
  | succ k => rw [redF, h]

theorem redF_carets (k : Nat) : ∀ (p : Pr) (cs : List Int), (redF k p cs).1.carets ≤ p.1.carets ∧ (redF k p cs).2.carets ≤ p.2.carets ∧ (redF k p cs).1.carets + p.2.carets = (redF k p cs).2.carets + p.1.carets := by
  induction k with
  | zero => intro p cs; simp [redF]; omega
  | succ k ih =>
    intro p cs
    rw [redF]
    split
    · refine ⟨Nat.le_refl _, Nat.le_refl _, by omega⟩
    · next n ns h =>
      have h1 := dropP_carets (pick_mem h cs)
      have h2 := ih (dropP p ((n :: ns).getD (pickI cs (ns.length + 1)) 0)) cs.tail
      omega
theorem redBy_carets (p : Pr) (cs : List Int) : (redBy p cs).1.carets ≤ p.1.carets ∧ (redBy p cs).2.carets ≤ p.2.carets ∧ (redBy p cs).1.carets + p.2.carets = (redBy p cs).2.carets + p.1.carets := redF_carets _ p cs

theorem redF_both (k : Nat) : ∀ (p : Pr) (cs : List Int), p.1.carets ≤ k → both (redF k p cs) = [] := by
  induction k with
  | zero => intro p cs h; rw [redF]; exact both_empty (by omega)
  | succ k ih =>
    intro p cs hk
    rw [redF]
    split
    · next h => exact h
    · next n ns h =>
      have h1 := dropP_carets (pick_mem h cs)
      exact ih _ _ (by omega)
theorem red_both (p : Pr) (cs : List Int) : both (redBy p cs) = [] := redF_both _ p cs (Nat.le_refl _)

/-- A pair is what is left of it just if it is reduced. -/
theorem red_self (p : Pr) : red p = p ↔ both p = [] := by
  constructor
  · intro h; rw [← h]; exact red_both p []
  · exact fun h => redBy_end h []

namespace Tr
/-- What a greater tree has at the leaves of one that is part of it. -/
def subs : Tr → Tr → List Tr
  | lf, g => [g]
  | nd l r, nd p q => l.subs p ++ r.subs q
  | nd _ _, lf => []
/-- A tree with others in place of its leaves, and those that are left. -/
def fillR : Tr → List Tr → Tr × List Tr
  | lf, [] => (lf, [])
  | lf, u :: us => (u, us)
  | nd l r, us => (nd (l.fillR us).1 (r.fillR (l.fillR us).2).1, (r.fillR (l.fillR us).2).2)
def fill (t : Tr) (us : List Tr) : Tr := (t.fillR us).1
end Tr

theorem below_length (a : Tr) : ∀ b : Tr, (a.subs (a.join b)).length = a.leaves := by
  induction a with
  | lf => intro b; rfl
  | nd l r ihl ihr =>
    intro b
    cases b with
    | lf =>
      have h1 := ihl .lf
      have h2 := ihr .lf
      rw [leaves_nd]
      have j : ∀ t : Tr, t.join .lf = t := fun t => by cases t <;> rfl
      rw [j] at h1 h2
      show ((Tr.nd l r).subs (.nd l r)).length = _
      simp [Tr.subs, h1, h2]
    | nd p q =>
      rw [leaves_nd]
      simp [Tr.join, Tr.subs, ihl p, ihr q]

theorem join_comm (a : Tr) : ∀ b : Tr, a.join b = b.join a := by
  induction a with
  | lf => intro b; cases b <;> rfl
  | nd l r ihl ihr =>
    intro b
    cases b with
    | lf => rfl
    | nd p q => simp [Tr.join, ihl p, ihr q]

/-- a is part of g, whose texts below a are told. -/
def sumC (us : List Tr) : Nat := (us.map Tr.carets).sum

theorem sumC_cons (u : Tr) (us : List Tr) : sumC (u :: us) = u.carets + sumC us := by simp [sumC]
theorem sumC_append (us vs : List Tr) : sumC (us ++ vs) = sumC us + sumC vs := by simp [sumC]

theorem below_carets (a : Tr) : ∀ g : Tr, a.part g = true → a.carets + sumC (a.subs g) = g.carets ∧ (a.subs g).length = a.leaves := by
  induction a with
  | lf => intro g _; simp [Tr.subs, sumC, Tr.carets, Tr.leaves]
  | nd l r ihl ihr =>
    intro g h
    cases g with
    | lf => simp [Tr.part] at h
    | nd p q =>
      simp [Tr.part] at h
      have h1 := ihl p h.1
      have h2 := ihr q h.2
      rw [leaves_nd]
      simp only [Tr.subs, sumC_append, Tr.carets, List.length_append]
      omega

theorem part_refl (a : Tr) : a.part a = true := by
  induction a with
  | lf => rfl
  | nd l r ihl ihr => simp [Tr.part, ihl, ihr]

theorem part_join (a : Tr) : ∀ b : Tr, a.part (a.join b) = true := by
  induction a with
  | lf => intro b; rfl
  | nd l r ihl ihr =>
    intro b
    cases b with
    | lf => show (Tr.nd l r).part (.nd l r) = true; exact part_refl _
    | nd p q => simp [Tr.join, Tr.part, ihl p, ihr q]
theorem part_join' (a b : Tr) : b.part (a.join b) = true := by rw [join_comm]; exact part_join b a

theorem fillR_carets (t : Tr) : ∀ us : List Tr, t.leaves ≤ us.length → (t.fillR us).1.carets + sumC (t.fillR us).2 = t.carets + sumC us ∧ (t.fillR us).2.length + t.leaves = us.length := by
  induction t with
  | lf =>
    intro us h
    cases us with
    | nil => simp [Tr.leaves] at h
    | cons u us => simp [Tr.fillR, sumC_cons, Tr.carets, Tr.leaves]
  | nd l r ihl ihr =>
    intro us h
    rw [leaves_nd] at *
    have h1 := ihl us (by omega)
    have h2 := ihr (l.fillR us).2 (by omega)
    simp only [Tr.fillR, Tr.carets]
    omega

theorem fill_carets (t : Tr) (us : List Tr) (h : us.length = t.leaves) : (t.fill us).carets = t.carets + sumC us := by
  have h1 := fillR_carets t us (by omega)
  have : (t.fillR us).2 = [] := List.length_eq_zero_iff.1 (by omega)
  rw [this] at h1
  have h2 := h1.1
  show (t.fillR us).1.carets = _
  simp [sumC] at h2 ⊢
  exact h2

/-- The text of a tree with texts in place of its leaves: the texts that are left. -/
def fillL : List UInt8 → List ByteArray → List UInt8
  | [], _ => []
  | c :: r, us => if c = 46 then (us.getD 0 ⟨#[]⟩).data.toList ++ fillL r us.tail else c :: fillL r us

theorem fillL_text (t : Tr) : ∀ (us : List Tr) (q : List UInt8), t.leaves ≤ us.length → fillL (t.text ++ q) (us.map Tr.str) = (t.fillR us).1.text ++ fillL q ((t.fillR us).2.map Tr.str) := by
  induction t with
  | lf =>
    intro us q h
    cases us with
    | nil => simp [Tr.leaves] at h
    | cons u us => simp [Tr.fillR, Tr.text, fillL, Tr.str_list]
  | nd l r ihl ihr =>
    intro us q h
    rw [leaves_nd] at h
    have e : (Tr.nd l r).text ++ q = 40 :: (l.text ++ (r.text ++ (41 :: q))) := by simp [Tr.text]
    have h1 := fillR_carets l us (by omega)
    rw [e, fillL, if_neg (by decide), ihl us _ (by omega), ihr _ _ (by omega), fillL, if_neg (by decide)]
    simp [Tr.fillR, Tr.text]

theorem fill_text (t : Tr) (us : List Tr) (h : us.length = t.leaves) : fillL t.text (us.map Tr.str) = (t.fill us).text := by
  have := fillL_text t us [] (by omega)
  show _ = (t.fillR us).1.text
  simpa [fillL] using this

/-- The product, before it is reduced. -/
def rawP (p q : Pr) : Pr := (p.1.fill (p.2.subs (p.2.join q.1)), q.2.fill (q.1.subs (p.2.join q.1)))
/-- The product. -/
def mulP (p q : Pr) : Pr := red (rawP p q)
def invP (p : Pr) : Pr := (p.2, p.1)
/-- A pair: as many leaves. -/
def okP (p : Pr) : Prop := p.1.carets = p.2.carets

theorem rawP_carets {p q : Pr} (hp : okP p) (hq : okP q) : (rawP p q).1.carets = (p.2.join q.1).carets ∧ (rawP p q).2.carets = (p.2.join q.1).carets := by
  unfold okP at *
  have h1 := below_carets p.2 _ (part_join p.2 q.1)
  have h2 := below_carets q.1 _ (part_join' p.2 q.1)
  have f1 := fill_carets p.1 (p.2.subs (p.2.join q.1)) (by rw [h1.2]; simp [Tr.leaves, hp])
  have f2 := fill_carets q.2 (q.1.subs (p.2.join q.1)) (by rw [h2.2]; simp [Tr.leaves, hq])
  show (p.1.fill _).carets = _ ∧ (q.2.fill _).carets = _
  omega
theorem rawP_ok {p q : Pr} (hp : okP p) (hq : okP q) : okP (rawP p q) := by
  have := rawP_carets hp hq; unfold okP; omega
theorem red_ok {p : Pr} (hp : okP p) (cs : List Int) : okP (redBy p cs) := by
  have := redBy_carets p cs; unfold okP at *; omega
theorem mulP_ok {p q : Pr} (hp : okP p) (hq : okP q) : okP (mulP p q) := red_ok (rawP_ok hp hq) []
theorem mulP_carets {p q : Pr} (hp : okP p) (hq : okP q) : (mulP p q).1.carets ≤ p.2.carets + q.1.carets := by
  have h1 := rawP_carets hp hq
  have h2 := redBy_carets (rawP p q) []
  have h3 := join_carets p.2 q.1
  show (redBy _ _).1.carets ≤ _
  omega
end Go.Proofs.Yteflpaebckichab

/-! PairOf -/
namespace Go.Proofs.Yteflpaebckichab

/-- The pair of two texts, if they are one. -/
def pairOf (a b : ByteArray) : Option Pr :=
  match treeOf a, treeOf b with
  | some t, some u => if t.carets = u.carets then some (t, u) else none
  | _, _ => none

theorem pairOf_some {a b : ByteArray} {p : Pr} (h : pairOf a b = some p) : a = p.1.str ∧ b = p.2.str ∧ okP p ∧ p.1.carets ≤ 8 ∧ p.2.carets ≤ 8 := by
  unfold pairOf at h
  split at h
  · next t u ht hu =>
    split at h
    · next hc =>
      injection h with h
      subst h
      obtain ⟨rfl, h1⟩ := treeOf_some ht
      obtain ⟨rfl, h2⟩ := treeOf_some hu
      exact ⟨rfl, rfl, hc, h1, h2⟩
    · simp at h
  · simp at h

theorem pairOf_str {p : Pr} (h : okP p) (k : p.1.carets ≤ 8) : pairOf p.1.str p.2.str = some p := by
  unfold pairOf
  rw [treeOf_str p.1 k, treeOf_str p.2 (by unfold okP at h; omega)]
  simp [show p.1.carets = p.2.carets from h]

/-- The texts are no pair: why. -/
theorem pairOf_none {a b : ByteArray} (h : pairOf a b = none) : treeOf a = none ∨ (∃ t : Tr, a = t.str ∧ t.carets ≤ 8 ∧ treeOf b = none) ∨ ∃ t u : Tr, a = t.str ∧ b = u.str ∧ t.carets ≤ 8 ∧ u.carets ≤ 8 ∧ ¬ t.carets = u.carets := by
  cases ha : treeOf a with
  | none => exact .inl rfl
  | some t =>
    obtain ⟨rfl, h1⟩ := treeOf_some ha
    cases hb : treeOf b with
    | none => exact .inr (.inl ⟨t, rfl, h1, rfl⟩)
    | some u =>
      obtain ⟨rfl, h2⟩ := treeOf_some hb
      refine .inr (.inr ⟨t, u, rfl, rfl, h1, h2, ?_⟩)
      intro e
      unfold pairOf at h
      rw [ha, hb] at h
      simp [e] at h
end Go.Proofs.Yteflpaebckichab

/-! Count -/
namespace Go.Proofs.Yteflpaebckichab
open Go.RowKit

set_option maxHeartbeats 1000000 in
set_option maxRecDepth 100000 in
theorem count_any (s : ByteArray) (w : World) :
    Calls Try.prog 152 #[.string s, .string ⟨#[40]⟩] w fun e w' => e = .returned (.int .i64 (Lib.countByte s.data.toList 40 : Nat)) ∧ w = w' := by
  go_enter Try.func152, Try.ntmps152
  go_wp2
  rw [run_callFunc_extern Try.func164 (by kernel_rfl) (by kernel_rfl) (by kernel_rfl) (e := Extern.BytealgCount.count) (by kernel_rfl), Lib.run_countString]
  simp only [Result.andThen]
  rw [Oper.upon_value]
  go_wp2
  go_ret
  exact ⟨rfl, rfl⟩

theorem countCarets_any (t : Tr) (w : World) (_h : t.carets ≤ 1000) :
    Calls Try.prog 86 #[.string t.str] w (Gives (.int .i64 t.carets) w) := by
  have e : Hid (Lib.countByte t.str.data.toList 40 = t.carets) := by rw [show Hid _ = _ from rfl, Tr.str_list, ← text_count]; rfl
  go_enter Try.func86, Try.ntmps86
  go_wp2_with fail
  refine (count_any t.str _).mono ?_; rintro _ w1 ⟨rfl, rfl⟩
  rw [e.out]
  go_wp2_with fail
  go_ret
  exact ⟨rfl, Below.refl _ _⟩
end Go.Proofs.Yteflpaebckichab

/-! Pair -/
namespace Go.Proofs.Yteflpaebckichab
open Go.RowKit

/-- A pair of texts as a value. -/
abbrev pv (a b : ByteArray) : Value := .agg #[.string a, .string b]

theorem pairOf_isSome (a b : ByteArray) (t u : Tr) (ha : treeOf a = some t) (hb : treeOf b = some u) : (pairOf a b).isSome = ((t.carets : Int) == (u.carets : Int)) := by
  unfold pairOf
  rw [ha, hb, Bool.eq_iff_iff, beq_iff_eq]
  by_cases h : t.carets = u.carets
  · simp [h]
  · simp only [h, if_false]; simp; omega

set_option maxRecDepth 100000 in
set_option maxHeartbeats 1000000 in
theorem prGood_any (a b : ByteArray) (w : World) (ha : a.size ≤ 9223372036854775806) (hb : b.size ≤ 9223372036854775806) :
    Calls Try.prog 134 #[.agg #[.string a, .string b]] w (Gives (.bool (pairOf a b).isSome) w) := by
  cases h : treeOf a with
  | none =>
    have e : (pairOf a b).isSome = false := by unfold pairOf; rw [h]; rfl
    rw [e]
    have T := fun w => trIs_no a w ha h
    clear h e
    go_enter Try.func134, Try.ntmps134
    go_wp2_with fail
    go_quiet ((go_at_call 81; with_reducible exact quiet_eq (T _)))
    go_wp2_with fail
    go_ret
    exact ⟨rfl, drewB (nxAlloc (Below.refl _ _) _) _⟩
  | some t =>
    cases k : treeOf b with
    | none =>
      have e : (pairOf a b).isSome = false := by unfold pairOf; rw [h, k]; rfl
      rw [e]
      obtain ⟨rfl, hc⟩ := treeOf_some h
      have T := fun w => trIs_yes t w hc
      have U := fun w => trIs_no b w hb k
      clear h k e
      go_enter Try.func134, Try.ntmps134
      go_wp2_with fail
      go_quiet ((go_at_call 81; first | (with_reducible exact quiet_eq (T _)) | (with_reducible exact quiet_eq (U _))))
      go_wp2_with fail
      go_ret
      exact ⟨rfl, drewB (nxAlloc (Below.refl _ _) _) _⟩
    | some u =>
      rw [pairOf_isSome a b t u h k]
      obtain ⟨rfl, hc⟩ := treeOf_some h
      obtain ⟨rfl, hd⟩ := treeOf_some k
      have T := fun w => trIs_yes t w hc
      have U := fun w => trIs_yes u w hd
      have C := fun w => carets_str t w (by omega)
      have D := fun w => carets_str u w (by omega)
      clear h k
      go_enter Try.func134, Try.ntmps134
      go_wp2_with fail
      go_quiet ((first | (go_at_call 81; first | (with_reducible exact quiet_eq (T _)) | (with_reducible exact quiet_eq (U _))) | (go_at_call 87; first | (with_reducible exact quiet_eq (C _)) | (with_reducible exact quiet_eq (D _)))))
      go_wp2_with fail
      go_ret
      exact ⟨rfl, drewB (nxAlloc (Below.refl _ _) _) _⟩
end Go.Proofs.Yteflpaebckichab

/-! RegT -/
namespace Go.Proofs.Yteflpaebckichab
open Go.RowKit

section
variable {P : Program} {ops : Array Oper} {md : Region.Mode} {C : World → Prop}

/-- Whatever order is drawn for the first n operations. -/
def headQ (P : Program) (md : Region.Mode) (ops : Array Oper) (C : World → Prop) (n : Nat) (L : Array Bool → Act → Prop) : Nat → Array Bool → Act → Prop
  | 0, listed, a => L listed a
  | f + 1, listed, a => Region.ready md ops listed ≠ [] ∧ ∀ i ∈ Region.ready md ops listed, i < n ∧ qOp P ops C i (headQ P md ops C n L f (listed.setIfInBounds i true)) a

theorem any_of_headQ {n g : Nat} {L : Array Bool → Act → Prop} {Q' : Exit → Act → World → Prop} (hL : ∀ listed a w, C w → L listed a → wpAny P md ops Q' g listed a w) :
    ∀ (f : Nat) (listed : Array Bool) (a : Act) (w : World), C w → headQ P md ops C n L f listed a → wpAny P md ops Q' (f + g) listed a w
  | 0, listed, a, w, hw, h => by rw [Nat.zero_add]; exact hL _ _ _ hw h
  | f + 1, listed, a, w, hw, h => by
    rw [Nat.add_right_comm]
    exact ⟨fun h0 => absurd h0 h.1, fun i hi => wpOp_of_qOp hw (fun a' w' hw' h' => any_of_headQ hL f _ a' w' hw' h') (h.2 i hi).2⟩

theorem headQ_first {n i : Nat} {oi : Oper} {v : Value} {L : Array Bool → Act → Prop} (hi : ops[i]? = some oi) (hsel : ∀ (j : Nat) (o : Oper) cs b, ops[j]? = some o → o.op ≠ .select cs b)
    (hs : Region.sinkB md ops n = true) (hc : Region.chainB md ops n = true) (hn : n < ops.size) (hin : i < n)
    (hdone : ∀ listed a, L listed a → ∀ j ∈ Region.ready md ops listed, n ≤ j) :
    ∀ (f : Nat) (listed : Array Bool) (a : Act), HeadInv md ops n listed →
      (∀ j oj, ops[j]? = some oj → j ≠ i → listed.getD j true = false → (∀ e ∈ oj.after, Region.binds md e = true → e.on ≠ i) → oi.apart ops oj = true) →
      i ∈ Region.ready md ops listed → YieldsIn P ops C oi v a →
      headQ P md ops C n L f (listed.setIfInBounds i true) (a.put oi.dst v) → headQ P md ops C n L (f + 1) listed a := by
  intro f
  induction f with
  | zero =>
    intro listed a inv _ hr hy H
    have hun := (mem_ready.1 hr).1
    refine ⟨(List.ne_nil_of_mem hr), fun j hj => ?_⟩
    have hjn : j < n := Nat.lt_of_not_le fun h => tail_waits hs hc hn inv _ i rfl hin hun j h hj
    refine ⟨hjn, ?_⟩
    by_cases hji : j = i
    · subst hji; exact hy.qOp hi H
    · have := hdone _ _ H j (ready_mono hj hji)
      omega
  | succ f ih =>
    intro listed a inv hfree hr hy H
    have hun := (mem_ready.1 hr).1
    refine ⟨(List.ne_nil_of_mem hr), fun j hj => ?_⟩
    have hjn : j < n := Nat.lt_of_not_le fun h => tail_waits hs hc hn inv _ i rfl hin hun j h hj
    refine ⟨hjn, ?_⟩
    by_cases hji : j = i
    · subst hji; exact hy.qOp hi H
    · have k1 := (H.2 j (ready_mono hj hji)).2
      obtain ⟨hjun, oj, hoj, hall⟩ := mem_ready.1 hj
      have hnot : ∀ e ∈ oj.after, Region.binds md e = true → e.on ≠ i := by
        intro e he hb heq
        have k2 := hall e he hb
        rw [heq, getD_both hun] at k2
        cases k2
      have k3 := qOp_put hoj (hfree j oj hoj hji hjun hnot) (fun cs b => hsel i oi cs b hi) (fun cs b => hsel j oj cs b hoj) hy k1
      refine qOp_mono (fun a' k4 => ih (listed.setIfInBounds j true) a' (inv.set hj hjn) ?_ (ready_mono hr (Ne.symm hji)) k4.1 ?_) k3
      · intro k ok hk hki hunk hno
        refine hfree k ok hk hki ?_ hno
        by_cases hjk : j = k
        · subst hjk; exact hjun
        · rw [getD_set_ne true hjk] at hunk; exact hunk
      · rw [Array.setIfInBounds_comm _ _ hji]
        exact k4.2

theorem headQ_lex {n g : Nat} {Lq : Act → Prop} (hsel : Region.noSelect ops = true) (hs : Region.sinkB md ops n = true) (hc : Region.chainB md ops n = true) (hn : n < ops.size) :
    ∀ (l : List Oper) (k : Nat) (listed : Array Bool) (a : Act), (∀ j, j < l.length → l[j]? = ops[k + j]?) → k + l.length = n → HeadInv md ops n listed →
    Region.lexHead md ops g l.length k listed = true → wpQuiet P ops C Lq l a →
    headQ P md ops C n (fun listed' a' => Region.seqB md ops g n listed' = true ∧ Lq a') l.length listed a
  | [], k, listed, a, _, hk, _, hB, h => by
    obtain rfl : k = n := by simpa using hk
    exact ⟨by simpa [Region.lexHead] using hB, h⟩
  | o :: l, k, listed, a, hl, hk, inv, hB, h => by
    have h0 : ops[k]? = some o := by simpa using (hl 0 (by simp)).symm
    simp only [List.length_cons, Region.lexHead, Bool.and_eq_true] at hB
    obtain ⟨⟨hr, hf⟩, hB'⟩ := hB
    have hkn : k < n := by simp only [List.length_cons] at hk; omega
    have hr' : k ∈ Region.ready md ops listed := by simpa using hr
    have hst : qOp P ops C k (wpQuiet P ops C Lq l) a := by unfold qOp; simp only [h0]; exact h
    obtain ⟨v, hy, hK⟩ := yieldsIn_of_qOp h0 hst
    refine headQ_first h0 (Region.noSelect_spec hsel) hs hc hn hkn (fun listed' a' hL => seqB_ready hL.1) l.length listed a inv (Region.free_spec h0 hf) hr' hy ?_
    refine headQ_lex hsel hs hc hn l (k + 1) _ _ (fun j hj => ?_) (by simp only [List.length_cons] at hk; omega) (inv.set hr' hkn) hB' hK
    have := hl (j + 1) (by simp; omega)
    simpa [Nat.add_assoc, Nat.add_comm 1 j] using this

/-- The first n operations are quiet in the class; the rest is walked in each of its worlds. -/
theorem wp_region_headQ {id : Nat} {Q : Exit → Act → World → Prop} {a : Act} {w : World} {l : List Oper} (n : Nat) (hm : P.follows .mixedOrders = true) (hB : Region.lexTailB .any l.toArray n = true) (hC : C w.drew)
    (h : wpQuiet P l.toArray C (fun a' => ∀ w', C w' → wpList P l.toArray Q (l.drop n) a' w') (l.take n) a) : (Code.region id l.toArray true).wp P Q a w := by
  simp only [Region.lexTailB, Bool.and_eq_true, decide_eq_true_eq] at hB
  obtain ⟨⟨⟨⟨hsel, hn⟩, hs⟩, hc⟩, hlex⟩ := hB
  have hn' : n < l.length := by simpa using hn
  have htl : (l.take n).length = n := by simp; omega
  have hdl : (l.drop n).length = l.toArray.size - n := by simp
  have inv0 : HeadInv .any l.toArray n (Array.replicate l.toArray.size false) := by
    refine ⟨by simp, fun j oj _ hl => ?_, fun t _ ht => getD_in (by simpa using ht) (getD_replicate_false _ _)⟩
    rw [getD_replicate_false] at hl; cases hl
  have H := headQ_lex (md := .any) (C := C) (g := l.toArray.size - n) hsel hs hc hn (l.take n) 0 _ a (fun j hj => by
    have hj' : j < n := by rw [htl] at hj; exact hj
    simp [hj']) (by simpa using htl) inv0 (by rw [htl]; exact hlex) h
  refine wp_region_any hm ?_
  have := any_of_headQ (Q' := Q) (g := l.toArray.size - n) (fun listed a' w' hw' hL => by
    have := wpAny_of_seq (md := .any) (Q' := Q) (l.drop n) n listed a' w' (fun j => by simp [List.getElem?_drop]) (by rw [hdl]; exact hL.1) (hL.2 w' hw')
    rwa [hdl] at this) _ _ _ _ hC H
  rw [htl, show n + (l.toArray.size - n) = l.toArray.size by omega] at this
  exact this
end

/-- The worlds that leave what was there. -/
def Cls (w w' : World) : Prop := Below w.heap.size w w'
theorem Cls.cell {w w' : World} (h : Cls w w') {g i : Nat} {v : Value} (hg : g < w.heap.size) (hc : w.cell? ⟨g, i, none⟩ = some v) : w'.cell? ⟨g, i, none⟩ = some v := (Below.cell h (p := ⟨g, i, none⟩) hg).trans hc
theorem Cls.call {P : Program} {f : FuncId} {args : Array Value} {w w' : World} {v : Value} (h : Cls w w') (k : Calls P f args w' (Gives v w')) : Calls P f args w' fun e w'' => e = .returned v ∧ Cls w w'' :=
  k.mono fun _ _ ⟨he, hb⟩ => ⟨he, nx h hb⟩

theorem wp_region_cls {P : Program} {id : Nat} {Q : Exit → Act → World → Prop} {a : Act} {w : World} {l : List Oper} (hm : P.follows .mixedOrders = true) (hB : Region.lexB .any l.toArray = true)
    (h : wpQuiet P l.toArray (Cls w) (fun a' => ∀ w', Cls w w' → Q .normal a' w') l a) : (Code.region id l.toArray true).wp P Q a w :=
  wp_region_quiet (C := Cls w) hm hB ((Below.refl _ _).drew) (by simpa using h)

theorem wp_region_clsT {P : Program} {id : Nat} {Q : Exit → Act → World → Prop} {a : Act} {w : World} {l : List Oper} (n : Nat) (hm : P.follows .mixedOrders = true) (hB : Region.lexTailB .any l.toArray n = true)
    (h : wpQuiet P l.toArray (Cls w) (fun a' => ∀ w', Cls w w' → wpList P l.toArray Q (l.drop n) a' w') (l.take n) a) : (Code.region id l.toArray true).wp P Q a w :=
  wp_region_headQ n hm hB ((Below.refl _ _).drew) h
end Go.Proofs.Yteflpaebckichab

/-! PairK -/
namespace Go.Proofs.Yteflpaebckichab
open Go.RowKit

theorem two_cells {w : World} {g : Nat} {u v : Value} {t : TypeId} (h : w.heap[g]? = some (.cells #[u, v] t (0, 0))) : w.cell? ⟨g, 0, none⟩ = some u ∧ w.cell? ⟨g, 1, none⟩ = some v := by
  simp [World.cell?, h]
theorem two_facts {w : World} {g : Nat} {u v : Value} {t : TypeId} (h : w.heap[g]? = some (.cells #[u, v] t (0, 0))) : w.cell? ⟨g, 0, none⟩ = some u ∧ w.cell? ⟨g, 1, none⟩ = some v ∧ g < w.heap.size :=
  ⟨(two_cells h).1, (two_cells h).2, lt_of_block h⟩
theorem keep_two {w w' : World} {g : Nat} {u v : Value} (hb : Below w.heap.size w w') (hg : g < w.heap.size) (h : w.cell? ⟨g, 0, none⟩ = some u ∧ w.cell? ⟨g, 1, none⟩ = some v) : w'.cell? ⟨g, 0, none⟩ = some u ∧ w'.cell? ⟨g, 1, none⟩ = some v :=
  ⟨(hb.cell (p := ⟨g, 0, none⟩) hg).trans h.1, (hb.cell (p := ⟨g, 1, none⟩) hg).trans h.2⟩


theorem two_frozen {w : World} {g : Nat} {u v : Value} {t : TypeId} (h : w.heap[g]? = some (.cells #[u, v] t (0, 0))) : w.frozen? ⟨g, 0, none⟩ = false ∧ w.frozen? ⟨g, 1, none⟩ = false := by
  simp [World.frozen?, h]
theorem set_first {w : World} {g : Nat} {u v u' : Value} {t : TypeId} (h : w.heap[g]? = some (.cells #[u, v] t (0, 0))) : (w.setCell ⟨g, 0, none⟩ u').heap[g]? = some (.cells #[u', v] t (0, 0)) := Joins.block_setCell h u'
theorem set_second {w : World} {g : Nat} {u v v' : Value} {t : TypeId} (h : w.heap[g]? = some (.cells #[u, v] t (0, 0))) : (w.setCell ⟨g, 1, none⟩ v').heap[g]? = some (.cells #[u, v'] t (0, 0)) := Joins.block_setCell h v'
theorem set_two {w : World} {g : Nat} {u v : Value} (u' v' : Value) {t : TypeId} (h : w.heap[g]? = some (.cells #[u, v] t (0, 0))) : ((w.setCell ⟨g, 0, none⟩ u').setCell ⟨g, 1, none⟩ v').heap[g]? = some (.cells #[u', v'] t (0, 0)) := set_second (set_first h)
theorem heap_keep {w w' : World} {g : Nat} {o : Obj} (hb : Below w.heap.size w w') (h : w.heap[g]? = some o) : w'.heap[g]? = some o := (hb.block g (lt_of_block h)).trans h


def pS1 (o : Option Pr) : ByteArray := match o with
  | some p => p.1.str
  | none => ⟨#[]⟩
def pS2 (o : Option Pr) : ByteArray := match o with
  | some p => p.2.str
  | none => ⟨#[]⟩
/-- An answer of a pair and a bool. -/
def ansPr (o : Option Pr) : Value := .tuple #[.agg #[.string (pS1 o), .string (pS2 o)], .bool o.isSome]
end Go.Proofs.Yteflpaebckichab

/-! IsPair -/
namespace Go.Proofs.Yteflpaebckichab
open Go.RowKit

theorem isTree_yes' (t : Tr) (w : World) (h : t.carets ≤ 8) : Calls Try.prog 21 #[.string t.str] w (Gives (.bool true) w) := (implIsTree_yes t w h).mono fun _ _ ⟨h1, h2⟩ => ⟨h2, h1⟩
theorem isTree_no' (s : ByteArray) (w : World) (hs : s.size ≤ 9223372036854775806) (h : treeOf s = none) : Calls Try.prog 21 #[.string s] w (Gives (.bool false) w) := (implIsTree_no s w hs h).mono fun _ _ ⟨h1, h2⟩ => ⟨h2, h1⟩

set_option maxRecDepth 100000 in
set_option maxHeartbeats 2000000 in
theorem isPair_any (a b : ByteArray) (w : World) (ha : a.size ≤ 9223372036854775806) (hb : b.size ≤ 9223372036854775806) :
    Calls Try.prog 63 #[.agg #[.string a, .string b]] w (Gives (.bool (pairOf a b).isSome) w) := by
  cases h : treeOf a with
  | none =>
    have e : (pairOf a b).isSome = false := by unfold pairOf; rw [h]; rfl
    rw [e]
    have T := fun w => isTree_no' a w ha h
    clear h e
    go_enter Try.func63, Try.ntmps63
    go_wp2_with fail
    have hb0 : Below w.heap.size w (w.alloc (.cells #[.string a, .string b] 59 (0, 0))) := nxAlloc (Below.refl _ _) _
    have hc := two_cells (heap_alloc_at w (.cells #[.string a, .string b] 59 (0, 0)))
    have hs : w.heap.size < (w.alloc (.cells #[.string a, .string b] 59 (0, 0))).heap.size := by simp
    generalize w.alloc (.cells #[.string a, .string b] 59 (0, 0)) = w0 at *
    refine wp_region_cls (by kernel_rfl) (by kernel_rfl) ?_
    repeat (
      refine wpQuiet_step (fun K hK => ?_)
      go_simp
      first
        | (refine hK _ ?_; clear hK K)
        | (refine ⟨_, fun _ _ => rfl, hK _ ?_⟩; clear hK K)
        | (apply Exists.intro
           refine ⟨fun w' hw' => ?_, hK _ ?_⟩
           · first
               | (rw [hw'.cell hs hc.1]; exact ⟨rfl, rfl⟩)
               | (rw [hw'.cell hs hc.2]; exact ⟨rfl, rfl⟩)
               | (go_at_call 21; exact hw'.call (T _))
           clear hK K))
    refine wpQuiet_nil ?_
    intro w' hw'
    go_wp2_with fail
    go_ret
    exact ⟨rfl, nx hb0 hw'⟩
  | some t =>
    cases k : treeOf b with
    | none =>
      have e : (pairOf a b).isSome = false := by unfold pairOf; rw [h, k]; rfl
      rw [e]
      obtain ⟨rfl, hc⟩ := treeOf_some h
      have T := fun w => isTree_yes' t w hc
      have U := fun w => isTree_no' b w hb k
      clear h k e hc
      go_enter Try.func63, Try.ntmps63
      go_wp2_with fail
      have hb0 : Below w.heap.size w (w.alloc (.cells #[.string t.str, .string b] 59 (0, 0))) := nxAlloc (Below.refl _ _) _
      have hc := two_cells (heap_alloc_at w (.cells #[.string t.str, .string b] 59 (0, 0)))
      have hs : w.heap.size < (w.alloc (.cells #[.string t.str, .string b] 59 (0, 0))).heap.size := by simp
      generalize w.alloc (.cells #[.string t.str, .string b] 59 (0, 0)) = w0 at *
      refine wp_region_cls (by kernel_rfl) (by kernel_rfl) ?_
      repeat (
        refine wpQuiet_step (fun K hK => ?_)
        go_simp
        first
          | (refine hK _ ?_; clear hK K)
          | (refine ⟨_, fun _ _ => rfl, hK _ ?_⟩; clear hK K)
          | (apply Exists.intro
             refine ⟨fun w' hw' => ?_, hK _ ?_⟩
             · first
                 | (rw [hw'.cell hs hc.1]; exact ⟨rfl, rfl⟩)
                 | (rw [hw'.cell hs hc.2]; exact ⟨rfl, rfl⟩)
                 | (go_at_call 21; first | (with_reducible exact hw'.call (T _)) | (with_reducible exact hw'.call (U _)))
             clear hK K))
      refine wpQuiet_nil ?_
      intro w' hw'
      go_wp2_with fail
      go_ret
      exact ⟨rfl, nx hb0 hw'⟩
    | some u =>
      rw [pairOf_isSome a b t u h k]
      obtain ⟨rfl, hc⟩ := treeOf_some h
      obtain ⟨rfl, hd⟩ := treeOf_some k
      have T := fun w => isTree_yes' t w hc
      have U := fun w => isTree_yes' u w hd
      have C := fun w => countCarets_any t w (by omega)
      have D := fun w => countCarets_any u w (by omega)
      clear h k hc hd
      go_enter Try.func63, Try.ntmps63
      go_wp2_with fail
      have hb0 : Below w.heap.size w (w.alloc (.cells #[.string t.str, .string u.str] 59 (0, 0))) := nxAlloc (Below.refl _ _) _
      have hc := two_cells (heap_alloc_at w (.cells #[.string t.str, .string u.str] 59 (0, 0)))
      have hs : w.heap.size < (w.alloc (.cells #[.string t.str, .string u.str] 59 (0, 0))).heap.size := by simp
      generalize w.alloc (.cells #[.string t.str, .string u.str] 59 (0, 0)) = w0 at *
      refine wp_region_cls (by kernel_rfl) (by kernel_rfl) ?_
      repeat (
        refine wpQuiet_step (fun K hK => ?_)
        go_simp
        first
          | (refine hK _ ?_; clear hK K)
          | (refine ⟨_, fun _ _ => rfl, hK _ ?_⟩; clear hK K)
          | (apply Exists.intro
             refine ⟨fun w' hw' => ?_, hK _ ?_⟩
             · first
                 | (rw [hw'.cell hs hc.1]; exact ⟨rfl, rfl⟩)
                 | (rw [hw'.cell hs hc.2]; exact ⟨rfl, rfl⟩)
                 | (go_at_call 21; first | (with_reducible exact hw'.call (T _)) | (with_reducible exact hw'.call (U _)))
                 | (go_at_call 86; first | (with_reducible exact hw'.call (C _)) | (with_reducible exact hw'.call (D _)))
             clear hK K))
      refine wpQuiet_nil ?_
      intro w' hw'
      go_wp2_with fail
      go_ret
      exact ⟨rfl, nx hb0 hw'⟩
end Go.Proofs.Yteflpaebckichab

/-! ParseI -/
namespace Go.Proofs.Yteflpaebckichab
open Go.RowKit

/-- The index of the first byte c from an index on. -/
def idxB (s : ByteArray) (c : UInt8) : Int := Lib.indexByte s.data.toList c

set_option maxRecDepth 100000 in
set_option maxHeartbeats 1000000 in
theorem indexByteS_any (s : ByteArray) (c : UInt8) (w : World) :
    Calls Try.prog 172 #[.string s, .int .u8 c.toNat] w fun e w' => e = .returned (.int .i64 (idxB s c)) ∧ w = w' := by
  go_enter Try.func172, Try.ntmps172
  go_wp2
  rw [run_callFunc_extern Try.func176 (by kernel_rfl) (by kernel_rfl) (by kernel_rfl) (e := Extern.BytealgIndexByte.indexByte) (by kernel_rfl), Lib.run_indexByteString]
  simp only [Result.andThen]
  rw [Oper.upon_value]
  go_wp2
  go_ret
  refine ⟨ret_int ?_, rfl⟩
  unfold idxB
  simp

set_option maxRecDepth 100000 in
set_option maxHeartbeats 1000000 in
theorem index62_any (s : ByteArray) (w : World) :
    Calls Try.prog 169 #[.string s, .string ⟨#[62]⟩] w fun e w' => e = .returned (.int .i64 (idxB s 62)) ∧ w = w' := by
  have hI := fun w => indexByteS_any s 62 w
  have gz : ((⟨#[62]⟩ : ByteArray)[0]'(by decide)).toNat = 62 := rfl
  have ez : ((62 : UInt8).toNat : Int) = 62 := rfl
  rw [ez] at hI
  cases hq : ([62] == s.toList) with
  | true =>
    have h0 : idxB s 62 = 0 := by
      unfold idxB
      rw [← Lib.toList_data, ← (beq_iff_eq.1 hq)]
      rfl
    rw [h0]
    clear hI h0 ez
    go_enter Try.func169, Try.ntmps169
    go_wp2_with fail
    go_ret
    exact ⟨rfl, rfl⟩
  | false =>
    generalize idxB s 62 = z at *
    clear ez
    go_enter Try.func169, Try.ntmps169
    go_wp2_with fail
    refine (hI _).mono ?_; rintro e w1 ⟨rfl, rfl⟩
    go_wp2_with fail
    go_ret
    exact ⟨rfl, rfl⟩

theorem idx_spec (l : List UInt8) (c : UInt8) : (Lib.indexByte l c = -1 ∧ ∀ j : Nat, l[j]? ≠ some c) ∨ ∃ k : Nat, Lib.indexByte l c = k ∧ k < l.length ∧ l[k]? = some c ∧ ∀ j, j < k → l[j]? ≠ some c := by
  induction l with
  | nil => exact .inl ⟨rfl, fun j => by simp⟩
  | cons a l ih =>
    unfold Lib.indexByte
    by_cases h : (a == c) = true
    · rw [if_pos h]
      have : a = c := by simpa using h
      exact .inr ⟨0, rfl, by simp, by simp [this], fun j hj => by omega⟩
    · rw [if_neg h]
      have hne : a ≠ c := by simpa using h
      rcases ih with ⟨h1, h2⟩ | ⟨k, h1, h2, h3, h4⟩
      · left
        refine ⟨by rw [h1]; rfl, fun j => ?_⟩
        cases j with
        | zero => simpa using hne
        | succ j => simpa using h2 j
      · right
        refine ⟨k + 1, ?_, by simp; omega, by simpa using h3, fun j hj => ?_⟩
        · rw [h1]
          have : (((k : Nat) : Int) == -1) = false := by rw [beq_eq_false_iff_ne]; omega
          rw [this]
          simp
        · cases j with
          | zero => simpa using hne
          | succ j => simpa using h4 j (by omega)
theorem idxB_spec (s : ByteArray) (c : UInt8) : (idxB s c = -1 ∧ ∀ j : Nat, s.data.toList[j]? ≠ some c) ∨ ∃ k : Nat, idxB s c = k ∧ k < s.size ∧ s.data.toList[k]? = some c ∧ ∀ j, j < k → s.data.toList[j]? ≠ some c := by
  have := idx_spec s.data.toList c
  rw [← Lib.size_eq] at this
  exact this

def CutV (s : ByteArray) : Value := if 0 ≤ idxB s 62 then .tuple #[.string (s.extract 0 (idxB s 62).toNat), .string (s.extract ((idxB s 62).toNat + 1) s.size), .bool true] else .tuple #[.string s, .string ⟨#[]⟩, .bool false]

set_option maxRecDepth 100000 in
set_option maxHeartbeats 1000000 in
theorem cutS_any (s : ByteArray) (w : World) (hs : s.size ≤ 9223372036854775806) :
    Calls Try.prog 158 #[.string s, .string ⟨#[62]⟩] w (Gives (CutV s) w) := by
  have hI := fun w => index62_any s w
  unfold CutV
  rcases idxB_spec s 62 with ⟨h1, _⟩ | ⟨k, h1, h2, _, _⟩
  · rw [h1] at hI
    rw [h1, if_neg (by decide)]
    clear h1
    go_enter Try.func158, Try.ntmps158
    go_wp2_with fail
    refine (hI _).mono ?_; rintro e w1 ⟨rfl, rfl⟩
    go_wp2_with fail
    go_ret3
    exact ⟨rfl, Below.refl _ _⟩
  · rw [h1] at hI
    rw [h1, if_pos (by omega)]
    have hk : (k : Int) ≤ (s.size : Int) := by omega
    have hk1 : (k : Int) + 1 ≤ (s.size : Int) := by omega
    have et : ((k : Int)).toNat = k := by omega
    rw [et]
    have e1 : IntKind.i64.wrap ((k : Int) + 1) = (k : Int) + 1 := by rw [IntKind.wrap_i64]; omega
    have e2 : ((k : Int) + 1).toNat = k + 1 := by omega
    have e3 : (0 : Int) ≤ (k : Int) + 1 := by omega
    clear h1 et
    go_enter Try.func158, Try.ntmps158
    go_wp2_with fail
    refine (hI _).mono ?_; rintro e w1 ⟨rfl, rfl⟩
    go_wp2_with fail
    go_quiet (fail)
    go_wp2_with fail
    go_ret3
    exact ⟨rfl, drewB (Below.refl _ _) _⟩

theorem strings_cut (s : ByteArray) (w : World) (hs : s.size ≤ 9223372036854775806) : Calls Try.prog 143 #[.string s, .string ⟨#[62]⟩] w (Gives (CutV s) w) := by
  have hC := fun w => cutS_any s w hs
  unfold CutV at hC ⊢
  rcases idxB_spec s 62 with ⟨h1, _⟩ | ⟨k, h1, _, _, _⟩
  · simp only [h1, if_neg (show ¬ (0:Int) ≤ -1 by decide)] at hC ⊢
    clear h1
    go_enter Try.func143, Try.ntmps143
    go_wp2_with fail
    refine (hC _).mono ?_; rintro e w1 ⟨rfl, hb1⟩
    go_wp2_with fail
    go_ret3
    exact ⟨rfl, hb1⟩
  · simp only [h1, if_pos (show (0:Int) ≤ (k:Int) by omega)] at hC ⊢
    clear h1
    generalize s.extract 0 ((k : Int)).toNat = X at *
    generalize s.extract (((k : Int)).toNat + 1) s.size = Y at *
    go_enter Try.func143, Try.ntmps143
    go_wp2_with fail
    refine (hC _).mono ?_; rintro e w1 ⟨rfl, hb1⟩
    go_wp2_with fail
    go_ret3
    exact ⟨rfl, hb1⟩

/-- The pieces of a text between the bytes 62, from an index on (fuel: what is left). -/
def pcs (s : ByteArray) : Nat → Nat → Nat → List ByteArray
  | 0, a, _ => [s.extract a s.size]
  | k + 1, a, i => if s.data.toList[i]? = some 62 then s.extract a i :: pcs s k (i + 1) (i + 1) else pcs s k a (i + 1)

theorem oneS1 (m : ByteArray) : ∀ u ∈ [Value.string m], u.oneCell' = true := by intro u hu; simp at hu; subst hu; rfl
theorem OwnS.snoc {base : Nat} {w : World} {v : Value} {xs : List ByteArray} {m : ByteArray} (h : w.ownsRow base 9 1 v (xs.length + 1) (xs.map Value.string ++ [Value.string m])) : OwnS base w v (xs ++ [m]) := by
  unfold OwnS; rw [List.length_append, List.map_append]; exact h

set_option maxRecDepth 100000 in
set_option maxHeartbeats 2000000 in
theorem split_any (s : ByteArray) (w : World) (hs : s.size ≤ 2000000) :
    Calls Try.prog 159 #[.string s, .int .u8 62] w fun e w' => ∃ v, OwnS w.heap.size w' v (pcs s s.size 0 0) ∧ Below w.heap.size w w' ∧ e = .returned v := by
  obtain ⟨i0, hi, hz0, hz1, hz2⟩ := info_parts info_str
  go_enter Try.func159, Try.ntmps159
  go_wp2_with fail
  go_loopw [5, 6, 7] (fun v f i wr => ∃ (a k : Nat) (xs : List ByteArray), f = .int .i64 a ∧ i = .int .i64 k ∧ a ≤ k ∧ k ≤ s.size ∧ xs.length ≤ k ∧ OwnS w.heap.size wr v xs ∧ Below w.heap.size w wr ∧ Hid (pcs s s.size 0 0 = xs ++ pcs s (s.size - k) a k)) (fun _ _ i _ => s.size - (intOf i).toNat)
  case atStart => exact ⟨0, 0, [], rfl, rfl, Nat.le_refl _, Nat.zero_le _, Nat.le_refl _, OwnS.nil _ _, Below.refl _ _, by show _ = _; rfl⟩
  case round =>
    obtain ⟨a, k, xs, rfl, rfl, hak, hk, hxl, hown, hbw, he⟩ := hrel
    by_cases hlt : k < s.size
    · have hlt' : (k : Int) < (s.size : Int) := by omega
      have hsk : s.data.toList[k]? = some (s[k]'hlt) := by
        have hl : k < s.data.toList.length := by rw [← Lib.size_eq]; exact hlt
        rw [List.getElem?_eq_getElem hl]; rfl
      have hu : (s[k]'hlt = 62) ↔ (((s[k]'hlt).toNat : Int) == 62) = true := by
        rw [beq_iff_eq]
        exact ⟨fun e => by rw [e]; rfl, fun e => u8_eq (n := 62) (by omega) e⟩
      have hf : s.size - k = (s.size - (k + 1)) + 1 := by omega
      have he0 := he.out
      rw [hf, pcs, hsk] at he0
      cases hb : (((s[k]'hlt).toNat : Int) == 62) with
      | true =>
        rw [if_pos (by rw [hu.2 hb])] at he0
        have he' : pcs s s.size 0 0 = (xs ++ [s.extract a k]) ++ pcs s (s.size - (k + 1)) (k + 1) (k + 1) := by rw [he0]; simp
        have HE := Lib.hid he'
        have hA : (a : Int) ≤ (k : Int) := by omega
        clear he0 he' hu hsk hf he
        go_wp2_with (at_builtin; refine wpList_append_own _ rfl _ _ 25 rfl w.heap.size 9 i0 (.string ⟨#[]⟩) 1 16 Try.underlying25 hi hz0 hz1 hz2 rfl (by decide) _ _ _ rfl (hown.alloc _) ⟨wr.heap.size, 0, none⟩ 1 1 [.string (s.extract a k)] rfl rfl (new1 _ _ _) (oneS1 _) (by unfold maxLen; omega) (by omega) (size_al hbw _) ?_; intro v' w1 hown' hgrow hnn)
        have hbw' := below_app hbw hown (Nat.le_refl _) hgrow
        have hown1 := OwnS.snoc hown'
        clear hown hown' hgrow hbw hnn
        go_wp2_with fail
        go_roundw
        case rel => exact ⟨k + 1, k + 1, xs ++ [s.extract a k], by go_num, by go_num, Nat.le_refl _, by omega, by simp; omega, hown1, hbw', HE⟩
        case measure => simp [intOf]; omega
      | false =>
        rw [if_neg (by intro e; rw [hu.1 (by injection e)] at hb; cases hb)] at he0
        have HE := Lib.hid he0
        clear he0 hu hsk hf he
        go_wp2_with fail
        go_roundw
        case rel => exact ⟨a, k + 1, xs, rfl, by go_num, by omega, by omega, by omega, hown, hbw, HE⟩
        case measure => simp [intOf]; omega
    · obtain rfl : k = s.size := by omega
      have he0 := he.out
      rw [Nat.sub_self, pcs] at he0
      have HE := Lib.hid he0
      have hA : (a : Int) ≤ (s.size : Int) := by omega
      clear he0 he
      go_wp2_with (at_builtin; refine wpList_append_own _ rfl _ _ 25 rfl w.heap.size 9 i0 (.string ⟨#[]⟩) 1 16 Try.underlying25 hi hz0 hz1 hz2 rfl (by decide) _ _ _ rfl (hown.alloc _) ⟨wr.heap.size, 0, none⟩ 1 1 [.string (s.extract a s.size)] rfl rfl (new1 _ _ _) (oneS1 _) (by unfold maxLen; omega) (by omega) (size_al hbw _) ?_; intro v' w1 hown' hgrow hnn)
      have hbw' := below_app hbw hown (Nat.le_refl _) hgrow
      have hown1 := OwnS.snoc hown'
      clear hown hown' hgrow hbw hnn
      go_wp2_with fail
      go_ret
      exact ⟨_, by rw [HE.out]; exact hown1, hbw', rfl⟩
end Go.Proofs.Yteflpaebckichab

/-! OrdP -/
namespace Go.Proofs.Yteflpaebckichab
open Go.Op (bytesLess)

namespace Tr
def eqB : Tr → Tr → Bool
  | lf, lf => true
  | nd l r, nd p q => l.eqB p && r.eqB q
  | _, _ => false
/-- The order of texts, read off the trees. -/
def lt : Tr → Tr → Bool
  | lf, _ => false
  | nd _ _, lf => true
  | nd l r, nd p q => l.lt p || (l.eqB p && r.lt q)
end Tr

theorem eqB_iff (t : Tr) : ∀ u : Tr, t.eqB u = true ↔ t = u := by
  induction t with
  | lf => intro u; cases u <;> simp [Tr.eqB]
  | nd l r ihl ihr => intro u; cases u with
    | lf => simp [Tr.eqB]
    | nd p q => simp [Tr.eqB, ihl, ihr]
theorem eqB_self (t : Tr) : t.eqB t = true := (eqB_iff t t).2 rfl
theorem lt_irrefl (t : Tr) : t.lt t = false := by
  induction t with
  | lf => rfl
  | nd l r ihl ihr => simp [Tr.lt, ihl, ihr]

theorem bytesLess_text (t : Tr) : ∀ (u : Tr) (q q' : List UInt8), bytesLess (t.text ++ q) (u.text ++ q') = (t.lt u || (t.eqB u && bytesLess q q')) := by
  induction t with
  | lf =>
    intro u q q'
    cases u with
    | lf => simp [Tr.text, bytesLess, Tr.lt, Tr.eqB]
    | nd a b => simp [Tr.text, bytesLess, Tr.lt, Tr.eqB]
  | nd l r ihl ihr =>
    intro u q q'
    cases u with
    | lf => simp [Tr.text, bytesLess, Tr.lt, Tr.eqB]
    | nd a b =>
      have e1 : (Tr.nd l r).text ++ q = 40 :: (l.text ++ (r.text ++ (41 :: q))) := by simp [Tr.text]
      have e2 : (Tr.nd a b).text ++ q' = 40 :: (a.text ++ (b.text ++ (41 :: q'))) := by simp [Tr.text]
      rw [e1, e2, bytesLess, ihl, ihr, bytesLess]
      simp only [Tr.lt, Tr.eqB]
      cases l.lt a <;> cases l.eqB a <;> cases r.lt b <;> cases r.eqB b <;> simp

theorem bytesLess_str (t u : Tr) : bytesLess t.str.toList u.str.toList = t.lt u := by
  have := bytesLess_text t u [] []
  rw [Lib.toList_data, Lib.toList_data, Tr.str_list, Tr.str_list]
  simpa [bytesLess] using this

/-! Lists of trees: m trees with c carets together, in the order of their texts. -/

/-- The order of lists of as many trees. -/
def ltL : List Tr → List Tr → Bool
  | t :: ts, u :: us => t.lt u || (t.eqB u && ltL ts us)
  | _, _ => false

def mkNd : List Tr → List Tr
  | l :: r :: ts => .nd l r :: ts
  | ts => ts

/-- All lists of m trees with c carets together, in order (fuel: 2 c + m). -/
def enumF : Nat → Nat → Nat → List (List Tr)
  | 0, _, c => if c = 0 then [[]] else []
  | k + 1, m, c =>
    if m = 0 then (if c = 0 then [[]] else [])
    else (if c = 0 then [] else (enumF k (m + 1) (c - 1)).map mkNd) ++ (enumF k (m - 1) c).map (.lf :: ·)

theorem mem_enumF (k : Nat) : ∀ (m c : Nat) (ts : List Tr), 2 * c + m ≤ k → (ts ∈ enumF k m c ↔ ts.length = m ∧ (ts.map Tr.carets).sum = c) := by
  induction k with
  | zero =>
    intro m c ts h
    obtain ⟨rfl, rfl⟩ : m = 0 ∧ c = 0 := by omega
    simp [enumF]
    intro h; subst h; rfl
  | succ k ih =>
    intro m c ts h
    rw [enumF]
    by_cases hm : m = 0
    · subst hm
      rw [if_pos rfl]
      by_cases hc : c = 0
      · subst hc
        simp
        intro h; subst h; rfl
      · rw [if_neg hc]
        simp
        intro h; subst h; simp; omega
    · rw [if_neg hm, List.mem_append]
      constructor
      · rintro (h1 | h1)
        · by_cases hc : c = 0
          · simp [hc] at h1
          · rw [if_neg hc, List.mem_map] at h1
            obtain ⟨us, h2, rfl⟩ := h1
            rw [ih _ _ _ (by omega)] at h2
            match us, h2 with
            | [], h2 => simp at h2
            | [_], h2 => simp at h2; omega
            | l :: r :: us, h2 => simp [mkNd, Tr.carets] at h2 ⊢; omega
        · rw [List.mem_map] at h1
          obtain ⟨us, h2, rfl⟩ := h1
          rw [ih _ _ _ (by omega)] at h2
          simp [Tr.carets]; omega
      · rintro ⟨h1, h2⟩
        match ts, h1, h2 with
        | [], h1, h2 => simp at h1; omega
        | .lf :: ts, h1, h2 =>
          right
          rw [List.mem_map]
          refine ⟨ts, ?_, rfl⟩
          rw [ih _ _ _ (by omega)]
          simp [Tr.carets] at h1 h2; omega
        | .nd l r :: ts, h1, h2 =>
          left
          simp [Tr.carets] at h1 h2
          rw [if_neg (by omega), List.mem_map]
          refine ⟨l :: r :: ts, ?_, rfl⟩
          rw [ih _ _ _ (by omega)]
          simp; omega

theorem ltL_mkNd {ts us : List Tr} (h1 : 2 ≤ ts.length) (h2 : 2 ≤ us.length) : ltL (mkNd ts) (mkNd us) = ltL ts us := by
  match ts, us, h1, h2 with
  | l :: r :: ts, p :: q :: us, _, _ =>
    simp only [mkNd, ltL, Tr.lt, Tr.eqB]
    cases l.lt p <;> cases l.eqB p <;> cases r.lt q <;> cases r.eqB q <;> simp

theorem enumF_sorted (k : Nat) : ∀ (m c : Nat), 2 * c + m ≤ k → (enumF k m c).Pairwise (fun a b => ltL a b = true) := by
  induction k with
  | zero => intro m c h; rw [enumF]; split <;> simp
  | succ k ih =>
    intro m c h
    rw [enumF]
    split
    · split <;> simp
    · next hm =>
      rw [List.pairwise_append]
      refine ⟨?_, ?_, ?_⟩
      · split
        · simp
        · rw [List.pairwise_map]
          refine (ih (m + 1) (c - 1) (by omega)).imp_of_mem ?_
          intro a b ha hb hab
          rw [mem_enumF k _ _ _ (by omega)] at ha hb
          rw [ltL_mkNd (by omega) (by omega)]; exact hab
      · rw [List.pairwise_map]
        refine (ih (m - 1) c (by omega)).imp ?_
        intro a b hab
        simp [ltL, Tr.lt, Tr.eqB, hab]
      · intro a ha b hb
        split at ha
        · simp at ha
        · rw [List.mem_map] at ha hb
          obtain ⟨us, h1, rfl⟩ := ha
          obtain ⟨vs, h2, rfl⟩ := hb
          rw [mem_enumF k _ _ _ (by omega)] at h1
          match us, h1 with
          | [], h1 => simp at h1
          | [_], h1 => simp at h1; omega
          | l :: r :: us, _ => simp [mkNd, ltL, Tr.lt]

/-- All trees with n carets, in order. -/
def treesN (n : Nat) : List Tr := (enumF (2 * n + 1) 1 n).map fun ts => ts.headD .lf

theorem mem_treesN (n : Nat) (t : Tr) : t ∈ treesN n ↔ t.carets = n := by
  unfold treesN
  rw [List.mem_map]
  constructor
  · rintro ⟨ts, h, rfl⟩
    rw [mem_enumF _ _ _ _ (by omega)] at h
    match ts, h with
    | [t], h => simpa using h.2
  · intro h
    refine ⟨[t], ?_, rfl⟩
    rw [mem_enumF _ _ _ _ (by omega)]
    simpa using h

theorem treesN_sorted (n : Nat) : (treesN n).Pairwise (fun a b => a.lt b = true) := by
  unfold treesN
  rw [List.pairwise_map]
  refine (enumF_sorted (2 * n + 1) 1 n (by omega)).imp_of_mem ?_
  intro a b ha hb hab
  rw [mem_enumF _ _ _ _ (by omega)] at ha hb
  match a, b, ha, hb with
  | [a], [b], _, _ => simpa [ltL] using hab

theorem treesN_nodup (n : Nat) : (treesN n).Nodup := by
  refine (treesN_sorted n).imp ?_
  intro a b h e
  subst e
  rw [lt_irrefl] at h
  simp at h

/-! Counting. -/
theorem listsN_rec : ∀ c, c ≤ 8 → ∀ m, m ≤ 17 → 2 * c + m ≤ 18 → listsN (m + 1) c = (if c = 0 then 0 else listsN (m + 2) (c - 1)) + (if m = 0 then (if c = 0 then 1 else 0) else listsN m c) := by decide

theorem enumF_length (k : Nat) : ∀ (m c : Nat), 2 * c + m ≤ k → c ≤ 8 → 2 * c + m ≤ 18 → (enumF k m c).length = if m = 0 then (if c = 0 then 1 else 0) else listsN m c := by
  induction k with
  | zero =>
    intro m c h _ _
    obtain ⟨rfl, rfl⟩ : m = 0 ∧ c = 0 := by omega
    rfl
  | succ k ih =>
    intro m c h h8 h18
    rw [enumF]
    by_cases hm : m = 0
    · subst hm; simp only [if_true]; split <;> rfl
    · rw [if_neg hm, if_neg hm]
      obtain ⟨m', rfl⟩ : ∃ m', m = m' + 1 := ⟨m - 1, by omega⟩
      have hr := listsN_rec c h8 m' (by omega) (by omega)
      rw [hr, List.length_append, List.length_map]
      have h2 := ih m' c (by omega) h8 (by omega)
      have e : m' + 1 - 1 = m' := by omega
      rw [e, h2]
      congr 1
      split
      · rfl
      · next hc =>
        rw [List.length_map, ih (m' + 1 + 1) (c - 1) (by omega) (by omega) (by omega), if_neg (by omega)]

theorem treesN_length (n : Nat) (h : n ≤ 8) : (treesN n).length = listsN 1 n := by
  unfold treesN
  rw [List.length_map, enumF_length _ _ _ (by omega) h (by omega)]
  rfl

theorem enumF_fuel (k : Nat) : ∀ (j m c : Nat), 2 * c + m ≤ k → 2 * c + m ≤ j → enumF k m c = enumF j m c := by
  induction k with
  | zero =>
    intro j m c h1 h2
    obtain ⟨rfl, rfl⟩ : m = 0 ∧ c = 0 := by omega
    cases j <;> rfl
  | succ k ih =>
    intro j m c h1 h2
    cases j with
    | zero =>
      obtain ⟨rfl, rfl⟩ : m = 0 ∧ c = 0 := by omega
      rfl
    | succ j =>
      rw [enumF, enumF]
      split
      · rfl
      · rw [ih j (m - 1) c (by omega) (by omega)]
        split
        · rfl
        · rw [ih j (m + 1) (c - 1) (by omega) (by omega)]

/-- All lists of m trees with c carets together, in order. -/
def enum (m c : Nat) : List (List Tr) := enumF (2 * c + m) m c
theorem enum_rec {m c : Nat} (h : 1 ≤ m) : enum m c = (if c = 0 then [] else (enum (m + 1) (c - 1)).map mkNd) ++ (enum (m - 1) c).map (.lf :: ·) := by
  unfold enum
  obtain ⟨k, hk⟩ : ∃ k, 2 * c + m = k + 1 := ⟨2 * c + m - 1, by omega⟩
  rw [hk, enumF, if_neg (by omega), enumF_fuel k (2 * c + (m - 1)) (m - 1) c (by omega) (by omega)]
  split
  · rfl
  · rw [enumF_fuel k (2 * (c - 1) + (m + 1)) (m + 1) (c - 1) (by omega) (by omega)]
theorem mem_enum {m c : Nat} {ts : List Tr} : ts ∈ enum m c ↔ ts.length = m ∧ (ts.map Tr.carets).sum = c := mem_enumF _ _ _ _ (Nat.le_refl _)
theorem enum_length {m c : Nat} (h8 : c ≤ 8) (h : 2 * c + m ≤ 18) (hm : 1 ≤ m) : (enum m c).length = listsN m c := by
  unfold enum
  rw [enumF_length _ _ _ (Nat.le_refl _) h8 h, if_neg (by omega)]
theorem enum_zero : enum 0 0 = [[]] := rfl

/-! The walk by ranks: where a list of trees is. -/

/-- How many lists have a caret first. -/
def frontN (m c : Nat) : Nat := if c = 0 then 0 else listsN (m + 1) (c - 1)

theorem front_length {m c : Nat} (h8 : c ≤ 8) (h : 2 * c + m ≤ 18) : (if c = 0 then [] else (enum (m + 1) (c - 1)).map mkNd).length = frontN m c := by
  unfold frontN
  split
  · rfl
  · rw [List.length_map, enum_length (by omega) (by omega) (by omega)]

/-- The first tree of the list with rank r, and where the rest is: trees, carets, rank. -/
def nextF : Nat → Nat → Nat → Nat → Tr × Nat × Nat × Nat
  | 0, m, c, r => (.lf, m, c, r)
  | k + 1, m, c, r =>
    if frontN m c ≤ r then (.lf, m - 1, c, r - frontN m c)
    else (.nd (nextF k (m + 1) (c - 1) r).1 (nextF k (nextF k (m + 1) (c - 1) r).2.1 (nextF k (m + 1) (c - 1) r).2.2.1 (nextF k (m + 1) (c - 1) r).2.2.2).1,
      (nextF k (nextF k (m + 1) (c - 1) r).2.1 (nextF k (m + 1) (c - 1) r).2.2.1 (nextF k (m + 1) (c - 1) r).2.2.2).2)

theorem nextF_get (k : Nat) : ∀ (m c r : Nat) (us : List Tr), 2 * c + m ≤ k → 1 ≤ m → c ≤ 8 → 2 * c + m ≤ 18 → (enum m c)[r]? = some us →
    ∃ ts, us = (nextF k m c r).1 :: ts ∧ (nextF k m c r).2.1 + 1 = m ∧ (nextF k m c r).2.2.1 + (nextF k m c r).1.carets = c ∧ (enum (m - 1) (nextF k m c r).2.2.1)[(nextF k m c r).2.2.2]? = some ts := by
  induction k with
  | zero => intro m c r us h h1; omega
  | succ k ih =>
    intro m c r us hk hm h8 h18 hget
    have hl := front_length (m := m) h8 h18
    rw [enum_rec hm] at hget
    rw [nextF]
    by_cases hf : frontN m c ≤ r
    · rw [if_pos hf]
      rw [List.getElem?_append_right (by omega), hl, List.getElem?_map] at hget
      cases h0 : (enum (m - 1) c)[r - frontN m c]? with
      | none => rw [h0] at hget; simp at hget
      | some ts =>
        rw [h0] at hget
        simp at hget
        exact ⟨ts, hget.symm, by show m - 1 + 1 = m; omega, by simp [Tr.carets], rfl⟩
    · rw [if_neg hf]
      rw [List.getElem?_append_left (by omega)] at hget
      have hc : ¬ c = 0 := by intro h; rw [if_pos h] at hget; simp at hget
      rw [if_neg hc, List.getElem?_map] at hget
      cases h0 : (enum (m + 1) (c - 1))[r]? with
      | none => rw [h0] at hget; simp at hget
      | some vs =>
        rw [h0] at hget
        simp at hget
        obtain ⟨ts1, e1, s1, s2, s3⟩ := ih (m + 1) (c - 1) r vs (by omega) (by omega) (by omega) (by omega) h0
        have hm1 : (nextF k (m + 1) (c - 1) r).2.1 = m := by omega
        obtain ⟨ts2, e2, q1, q2, q3⟩ := ih m (nextF k (m + 1) (c - 1) r).2.2.1 (nextF k (m + 1) (c - 1) r).2.2.2 ts1 (by omega) hm (by omega) (by omega) s3
        rw [hm1]
        refine ⟨ts2, ?_, q1, ?_, q3⟩
        · rw [← hget, e1, e2]; rfl
        · simp only [Tr.carets]; omega

/-- The tree with n carets and the rank r. -/
def treeAt (n r : Nat) : Tr := (nextF (2 * n + 1) 1 n r).1
theorem treesN_get (n r : Nat) (hn : n ≤ 8) (hr : r < listsN 1 n) : (treesN n)[r]? = some (treeAt n r) := by
  have hlen := enum_length (m := 1) hn (by omega) (Nat.le_refl _)
  have hx : r < (enum 1 n).length := by omega
  obtain ⟨ts, e, _, _, _⟩ := nextF_get (2 * n + 1) 1 n r _ (by omega) (Nat.le_refl _) hn (by omega) (List.getElem?_eq_getElem hx)
  unfold treesN
  show ((enum 1 n).map _)[r]? = _
  rw [List.getElem?_map, List.getElem?_eq_getElem hx, e]
  rfl
theorem treesN_eq (n : Nat) (hn : n ≤ 8) : treesN n = (List.range (listsN 1 n)).map (treeAt n) := by
  apply List.ext_getElem?
  intro r
  by_cases hr : r < listsN 1 n
  · rw [treesN_get n r hn hr, List.getElem?_map, List.getElem?_range hr]
    rfl
  · rw [List.getElem?_eq_none (by rw [treesN_length n hn]; omega), List.getElem?_eq_none (by simp; omega)]

/-- Where a walk along a tree ends: trees, carets, rank. -/
def rkT : Tr → Nat × Nat × Nat → Nat × Nat × Nat
  | .lf, s => (s.1 - 1, s.2.1, s.2.2 + frontN s.1 s.2.1)
  | .nd l r, s => rkT r (rkT l (s.1 + 1, s.2.1 - 1, s.2.2))

theorem rkT_get (t : Tr) : ∀ (m c r i : Nat) (ts : List Tr), 1 ≤ m → c ≤ 8 → 2 * c + m ≤ 18 → t.carets ≤ c → (enum (m - 1) (c - t.carets))[i]? = some ts →
    ∃ d, rkT t (m, c, r) = (m - 1, c - t.carets, r + d) ∧ (enum m c)[d + i]? = some (t :: ts) := by
  induction t with
  | lf =>
    intro m c r i ts hm h8 h18 ht hget
    refine ⟨frontN m c, rfl, ?_⟩
    have hl := front_length (m := m) h8 h18
    rw [enum_rec hm, List.getElem?_append_right (by omega), hl, Nat.add_sub_cancel_left, List.getElem?_map]
    have : (enum (m - 1) c)[i]? = some ts := hget
    rw [this]; rfl
  | nd l r ihl ihr =>
    intro m c x i ts hm h8 h18 ht hget
    simp only [Tr.carets] at ht hget ⊢
    have e1 : c - 1 - l.carets - r.carets = c - (l.carets + r.carets + 1) := by omega
    have h2 := fun x => ihr m (c - 1 - l.carets) x i ts hm (by omega) (by omega) (by omega) (by rw [e1]; exact hget)
    obtain ⟨d0, _, g0⟩ := h2 0
    obtain ⟨d1, f1, g1⟩ := ihl (m + 1) (c - 1) x (d0 + i) (r :: ts) (by omega) (by omega) (by omega) (by omega) (by rw [Nat.add_sub_cancel]; exact g0)
    obtain ⟨d2, f2, g2⟩ := h2 (x + d1)
    have hd : d2 + i = d0 + i := by
      have hn : (enum m (c - 1 - l.carets)).Nodup := by
        refine (enumF_sorted _ m (c - 1 - l.carets) (Nat.le_refl _)).imp ?_
        intro a b h e
        subst e
        have : ∀ a : List Tr, ltL a a = false := by
          intro a; induction a with
          | nil => rfl
          | cons t ts ih => simp [ltL, lt_irrefl, ih]
        rw [this] at h; simp at h
      have hx := List.getElem?_eq_some_iff.1 g2
      have hy := List.getElem?_eq_some_iff.1 g0
      exact (List.getElem_inj hn).1 (hx.2.trans hy.2.symm)
    refine ⟨d1 + d2, ?_, ?_⟩
    · rw [rkT]
      show rkT r (rkT l (m + 1, c - 1, x)) = _
      rw [f1, Nat.add_sub_cancel, f2, e1, Nat.add_assoc x d1 d2]
    · have hl := front_length (m := m) h8 h18
      have hlt := (List.getElem?_eq_some_iff.1 g1).1
      rw [enum_length (by omega) (by omega) (by omega)] at hlt
      have hfr : frontN m c = listsN (m + 1) (c - 1) := by unfold frontN; rw [if_neg (by omega)]
      rw [enum_rec hm, List.getElem?_append_left (by rw [hl]; omega), if_neg (by omega), List.getElem?_map]
      have e2 : d1 + d2 + i = d1 + (d0 + i) := by omega
      rw [e2, g1]; rfl

/-- The rank of a tree. -/
def rankT (t : Tr) : Nat := (rkT t (1, t.carets, 0)).2.2
theorem rankT_get (t : Tr) (h : t.carets ≤ 8) : (treesN t.carets)[rankT t]? = some t := by
  obtain ⟨d, f, g⟩ := rkT_get t 1 t.carets 0 0 [] (Nat.le_refl _) h (by omega) (Nat.le_refl _) (by rw [Nat.sub_self, Nat.sub_self, enum_zero]; rfl)
  have : rankT t = d := by unfold rankT; rw [f]; simp
  rw [this]
  unfold treesN
  show ((enum 1 t.carets).map _)[d]? = _
  rw [List.getElem?_map]
  have g' : (enum 1 t.carets)[d]? = some [t] := g
  rw [g']; rfl

/-- In a sorted list as many are less than one as are in front of it. -/
theorem countP_sorted {l : List Tr} (h : l.Pairwise (fun a b => a.lt b = true)) {i : Nat} {t : Tr} (hi : l[i]? = some t) : l.countP (fun u => u.lt t) = i := by
  induction l generalizing i with
  | nil => simp at hi
  | cons a l ih =>
    rw [List.pairwise_cons] at h
    cases i with
    | zero =>
      simp at hi
      subst hi
      rw [List.countP_cons_of_neg (by rw [lt_irrefl]; simp)]
      rw [List.countP_eq_zero]
      intro b hb hba
      have := h.1 b hb
      have asym : ∀ x y : Tr, x.lt y = true → y.lt x = true → False := by
        intro x
        induction x with
        | lf => intro y h; simp [Tr.lt] at h
        | nd l r ihl ihr =>
          intro y h1 h2
          cases y with
          | lf => simp [Tr.lt] at h2
          | nd p q =>
            simp [Tr.lt, eqB_iff] at h1 h2
            rcases h1 with h1 | ⟨rfl, h1⟩
            · rcases h2 with h2 | ⟨rfl, h2⟩
              · exact ihl _ h1 h2
              · rw [lt_irrefl] at h1; simp at h1
            · rcases h2 with h2 | ⟨_, h2⟩
              · rw [lt_irrefl] at h2; simp at h2
              · exact ihr _ h1 h2
      exact asym _ _ this hba
    | succ i =>
      have hi' : l[i]? = some t := by simpa using hi
      have hm : t ∈ l := List.mem_of_getElem? hi'
      have := ih h.2 hi'
      rw [List.countP_cons_of_pos (by exact h.1 t hm), this]

theorem lt_total (t : Tr) : ∀ u : Tr, t.lt u = true ∨ t = u ∨ u.lt t = true := by
  induction t with
  | lf => intro u; cases u with
    | lf => exact .inr (.inl rfl)
    | nd p q => exact .inr (.inr rfl)
  | nd l r ihl ihr =>
    intro u
    cases u with
    | lf => exact .inl rfl
    | nd p q =>
      simp only [Tr.lt, Bool.or_eq_true, Bool.and_eq_true, eqB_iff]
      rcases ihl p with h | rfl | h
      · exact .inl (.inl h)
      · rcases ihr q with h | rfl | h
        · exact .inl (.inr ⟨rfl, h⟩)
        · exact .inr (.inl rfl)
        · exact .inr (.inr (.inr ⟨rfl, h⟩))
      · exact .inr (.inr (.inl h))

/-! The spec's list, before it is sorted. -/
/-- All trees with n + 1 carets, by the carets of the left side. -/
def rawT (n : Nat) : List Tr := (List.range (n + 1)).flatMap fun i => (treesN i).flatMap fun l => (treesN (n - i)).map fun r => .nd l r

theorem mem_rawT (n : Nat) (t : Tr) : t ∈ rawT n ↔ t.carets = n + 1 := by
  unfold rawT
  simp only [List.mem_flatMap, List.mem_range, List.mem_map, mem_treesN]
  constructor
  · rintro ⟨i, hi, l, rfl, r, hr, rfl⟩
    simp [Tr.carets]; omega
  · intro h
    cases t with
    | lf => simp [Tr.carets] at h
    | nd l r =>
      simp [Tr.carets] at h
      exact ⟨l.carets, by omega, l, rfl, r, by omega, rfl⟩

theorem nodup_flatMap {α β : Type} {l : List α} {f : α → List β} (h1 : ∀ x ∈ l, (f x).Nodup) (h2 : l.Pairwise (fun x y => ∀ b, b ∈ f x → b ∈ f y → False)) : (l.flatMap f).Nodup := by
  induction l with
  | nil => simp
  | cons a l ih =>
    rw [List.pairwise_cons] at h2
    rw [List.flatMap_cons, List.nodup_append]
    refine ⟨h1 a (by simp), ih (fun x hx => h1 x (by simp [hx])) h2.2, ?_⟩
    intro b hb c hc e
    subst e
    rw [List.mem_flatMap] at hc
    obtain ⟨y, hy, hby⟩ := hc
    exact h2.1 y hy b hb hby

theorem rawT_nodup (n : Nat) : (rawT n).Nodup := by
  unfold rawT
  refine nodup_flatMap ?_ ?_
  · intro i _
    refine nodup_flatMap ?_ ?_
    · intro l _
      rw [List.nodup_iff_pairwise_ne, List.pairwise_map]
      refine (treesN_nodup _).imp ?_
      intro a b hne e
      injection e with e1 e2
      exact hne e2
    · refine (treesN_nodup i).imp ?_
      intro l l' hne b h1 h2
      simp only [List.mem_map] at h1 h2
      obtain ⟨r, _, rfl⟩ := h1
      obtain ⟨r', _, e⟩ := h2
      injection e with e1 e2
      exact hne e1.symm
  · refine List.nodup_range.imp ?_
    intro i j hne b h1 h2
    simp only [List.mem_flatMap, List.mem_map, mem_treesN] at h1 h2
    obtain ⟨l, hl, r, _, rfl⟩ := h1
    obtain ⟨l', hl', r', _, e⟩ := h2
    injection e with e1 e2
    subst e1
    exact hne (hl.symm.trans hl')

/-- Whatever is sorted and holds the same trees is the list in order. -/
theorem sorted_eq {n : Nat} {l : List Tr} (hs : l.Pairwise (fun a b => a.lt b = true)) (hp : List.Perm l (rawT n)) : l = treesN (n + 1) := by
  have h1 : List.Perm l (treesN (n + 1)) := by
    refine hp.trans ((List.perm_ext_iff_of_nodup (rawT_nodup n) (treesN_nodup _)).2 ?_)
    intro t
    rw [mem_rawT, mem_treesN]
  refine List.Perm.eq_of_pairwise ?_ hs (treesN_sorted _) h1
  intro a b _ _ hab hba
  exfalso
  have := countP_sorted (l := [a, b]) (i := 1) (t := b) (by simpa using hab) rfl
  have h2 := countP_sorted (l := [b, a]) (i := 1) (t := a) (by simpa using hba) rfl
  have h3 := countP_sorted (l := [a, b]) (i := 0) (t := a) (by simpa using hab) rfl
  simp [lt_irrefl, hba] at h3
end Go.Proofs.Yteflpaebckichab
