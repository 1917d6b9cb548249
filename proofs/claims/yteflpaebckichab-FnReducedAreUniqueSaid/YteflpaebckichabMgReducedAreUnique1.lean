/- Texts that the claim needs, part 2. -/
import Derived.Test.YteflpaebckichabMgReducedAreUnique0
import Derived.Deep.RegionWith
import Derived.OwnWalk
import Derived.Lib.SmallJoins
import Derived.StillTail
import Derived.Deep.QuietTactic
import Derived.BigQuiet
import Derived.Lib.Bytealg
import Derived.Deep.RegionHeld3
/-! ImplExp -/
namespace Go.Proofs.Yteflpaebckichab
open Go.RowKit

/-- A call that hands back a slice of integers of its own, and true. -/
def IntsOk (xs : List Int) (w : World) (e : Ending) (w' : World) : Prop :=
  ∃ v, OwnI w.heap.size w' v xs ∧ Below w.heap.size w w' ∧ e = .returned (.tuple #[v, .bool true])

theorem expB_from (s : ByteArray) (k : Nat) : ((s.extract k s.size).data.toList.take (ByteArray.mk #[40, 46, 46, 41]).size == (ByteArray.mk #[40, 46, 46, 41]).data.toList) = expB (s.data.toList.drop k) := by
  unfold expB
  rw [ext_end]
  rfl

set_option maxRecDepth 100000 in
set_option maxHeartbeats 2000000 in
theorem exposedIn_any (s : ByteArray) (w : World) (hs : s.size ≤ 1000) :
    Calls Try.prog 84 #[.string s] w (GivesInts (exL s.data.toList 0) w) := by
  obtain ⟨i0, hi, hz0, hz1, hz2⟩ := info_parts info_int
  go_enter Try.func84, Try.ntmps84
  go_wp2_with fail
  go_loopw [3, 4, 8] (fun v n i wr => ∃ (k : Nat) (m : Int) (xs : List Int), k ≤ s.size ∧ 0 ≤ m ∧ m ≤ k ∧ i = .int .i64 k ∧ n = .int .i64 m ∧ xs.length ≤ k ∧ OwnI w.heap.size wr v xs ∧ Below w.heap.size w wr ∧ Hid (exL s.data.toList 0 = xs ++ exL (s.data.toList.drop k) m)) (fun _ _ i _ => s.size - (intOf i).toNat)
  case atStart => exact ⟨0, 0, [], Nat.zero_le _, by omega, by omega, rfl, rfl, Nat.le_refl _, OwnI.nil _ _, Below.refl _ _, rfl⟩
  case round =>
    obtain ⟨k, m, xs, hk, hm0, hm1, rfl, rfl, hxl, hown, hbw, he⟩ := hrel
    by_cases hlt : k < s.size
    · obtain ⟨c, r, hd, hb, hr⟩ := drop_of_byteAt hlt
      have hx : ((s[k]'hlt).toNat : Int) = (c.toNat : Int) := by rw [← hb]; exact (byteAt_eq s k hlt).symm
      have h46 : (((s[k]'hlt).toNat : Int) == 46) = decide (c = 46) := by
        rw [hx, Bool.eq_iff_iff]
        simp only [beq_iff_eq, decide_eq_true_eq]
        exact ⟨fun e => u8_eq (n := 46) (by omega) e, fun e => by rw [e]; rfl⟩
      have hstep : exL (s.data.toList.drop k) m = (if expB (s.data.toList.drop k) = true then [m] else []) ++ exL (s.data.toList.drop (k + 1)) (if c = 46 then m + 1 else m) := by
        rw [hr, hd, exL]
      have H46 := Lib.hid h46
      have HS := Lib.hid hstep
      have hpc := hasPrefixS_any (s.extract k s.size) (ByteArray.mk #[40, 46, 46, 41])
      rw [expB_from] at hpc
      have hsz : (s.extract k s.size).size ≤ 9223372036854775806 := by simp; omega
      clear hd hb hr hx h46 hstep
      cases hE : expB (s.data.toList.drop k) with
      | true =>
        rw [hE] at hpc
        have HE1 := Lib.hid hE
        clear hE
        by_cases hc : c = 46
        all_goals
          have h4 := H46.out
          simp only [hc, decide_true, decide_false] at h4
          have HC := Lib.hid hc
          have H4 := Lib.hid h4
          clear hc h4
          go_wp2_with fail
          refine (hpc _ hsz (by decide)).mono ?_; rintro e wx ⟨rfl, rfl⟩
          go_wp2_with (at_builtin; refine wpList_append_own _ rfl _ _ 28 rfl w.heap.size 3 i0 (.int .i64 0) 1 8 Try.underlying28 hi hz0 hz1 hz2 rfl (by decide) _ _ _ rfl (hown.alloc _) ⟨wr.heap.size, 0, none⟩ 1 1 [.int .i64 m] rfl rfl (new1 _ _ _) (one1 _) (by unfold maxLen; omega) (by omega) (size_al hbw _) ?_; intro v' w1 hown' hgrow hnn)
          have hbw' := below_app hbw hown (Nat.le_refl _) hgrow
          have hown1 := OwnI.snoc hown'
          have he' : exL s.data.toList 0 = (xs ++ [m]) ++ exL (s.data.toList.drop (k + 1)) (if c = 46 then m + 1 else m) := by
            rw [he.out, HS.out, if_pos HE1.out, List.append_assoc]
          have HE := Lib.hid he'
          have g := H4.out
          have gz : ((⟨#[46]⟩ : ByteArray)[0]'(by decide)).toNat = 46 := rfl
          clear hown hown' hgrow hbw hnn he' he
          go_wp2_with fail
          go_quiet (fail)
          go_wp2_with fail
          clear g gz
          go_roundw
          case rel =>
            have he' := HE.out
            have hc := HC.out
            first | rw [if_pos hc] at he' | rw [if_neg hc] at he'
            exact ⟨k + 1, _, xs ++ [m], by omega, by omega, by omega, by go_num, rfl, by simp; omega, hown1.keep (drewB (Below.refl _ _) _), drewB hbw' _, he'⟩
          case measure => simp [intOf]; omega
      | false =>
        rw [hE] at hpc
        have he' : exL s.data.toList 0 = xs ++ exL (s.data.toList.drop (k + 1)) (if c = 46 then m + 1 else m) := by
          rw [he.out, HS.out, if_neg (by rw [hE]; decide), List.nil_append]
        have HE := Lib.hid he'
        clear hE he' he
        by_cases hc : c = 46
        all_goals
          have h4 := H46.out
          simp only [hc, decide_true, decide_false] at h4
          have HC := Lib.hid hc
          have H4 := Lib.hid h4
          clear hc h4
          go_wp2_with fail
          refine (hpc _ hsz (by decide)).mono ?_; rintro e wx ⟨rfl, rfl⟩
          have g := H4.out
          have gz : ((⟨#[46]⟩ : ByteArray)[0]'(by decide)).toNat = 46 := rfl
          go_wp2_with fail
          go_quiet (fail)
          go_wp2_with fail
          clear g gz
          go_roundw
          case rel =>
            have he' := HE.out
            have hc := HC.out
            first | rw [if_pos hc] at he' | rw [if_neg hc] at he'
            exact ⟨k + 1, _, xs, by omega, by omega, by omega, by go_num, rfl, by omega, hown.keep (drewB (Below.refl _ _) _), drewB hbw _, he'⟩
          case measure => simp [intOf]; omega
    · obtain rfl : k = s.size := by omega
      have hend : exL s.data.toList 0 = xs := by
        have h1 : s.data.toList.drop s.size = [] := List.drop_of_length_le (by rw [Lib.size_eq]; exact Nat.le_refl _)
        have := he.out
        rw [h1] at this
        simpa [exL] using this
      have HE := Lib.hid hend
      clear hend he
      go_wp2_with fail
      go_ret
      exact ⟨_, by rw [HE.out]; exact hown, hbw, rfl⟩

theorem implExposedOf_yes (t : Tr) (w : World) (h : t.carets ≤ 8) :
    Calls Try.prog 13 #[.string t.str] w (IntsOk (exL t.text 0) w) := by
  rw [← Tr.str_list]
  have hs : t.str.size ≤ 1000 := by have := t.str_size; omega
  go_enter Try.func13, Try.ntmps13
  go_wp2_with fail
  refine (implIsTree_yes t _ h).mono ?_; rintro e w0 ⟨hb0, rfl⟩
  go_wp2_with fail
  refine (exposedIn_any t.str _ hs).mono ?_; rintro e w1 ⟨v, own, hb1, rfl⟩
  go_wp2_with fail
  go_ret2
  exact ⟨_, own.mono hb0.size, nx hb0 hb1, rfl⟩
end Go.Proofs.Yteflpaebckichab

/-! SpecMir -/
namespace Go.Proofs.Yteflpaebckichab
open Go.RowKit

set_option maxHeartbeats 400000 in
theorem trMirror_any (t : Tr) : ∀ (w : World), t.carets ≤ 60 →
    Calls Try.prog 90 #[.string t.str] w (Gives (.string t.mir.str) w) := by
  induction t with
  | lf =>
    intro w h
    go_enter Try.func90, Try.ntmps90
    go_wp2_with fail
    refine (trLeaf_any .lf _).mono ?_; rintro e w1 ⟨rfl, rfl⟩
    simp only [Tr.isLf]
    go_wp2_with fail
    go_ret
    exact ⟨rfl, Below.refl _ _⟩
  | nd l r ihl ihr =>
    intro w h
    have h' : l.carets + r.carets + 1 ≤ 60 := h
    have ml := mir_carets l
    have mr := mir_carets r
    go_enter Try.func90, Try.ntmps90
    go_wp2_with fail
    refine (trLeaf_any (.nd l r) _).mono ?_; rintro e w1 ⟨rfl, rfl⟩
    simp only [Tr.isLf]
    go_wp2_with fail
    refine (trSides_any l r _ (by omega)).mono ?_; rintro e w1 ⟨rfl, hb1⟩
    go_wp2_with fail
    refine (ihr _ (by omega)).mono ?_; rintro e w2 ⟨rfl, hb2⟩
    go_wp2_with fail
    refine (ihl _ (by omega)).mono ?_; rintro e w3 ⟨rfl, hb3⟩
    go_wp2_with fail
    refine (trOf_any r.mir l.mir _ (by omega)).mono ?_; rintro e w4 ⟨rfl, rfl⟩
    go_wp2_with fail
    go_ret
    exact ⟨rfl, nx (nx hb1 hb2) hb3⟩

set_option maxHeartbeats 400000 in
theorem trJoin_any (a : Tr) : ∀ (b : Tr) (w : World), a.carets ≤ 60 → b.carets ≤ 60 →
    Calls Try.prog 105 #[.string a.str, .string b.str] w (Gives (.string (a.join b).str) w) := by
  induction a with
  | lf =>
    intro b w ha hb
    go_enter Try.func105, Try.ntmps105
    go_wp2_with fail
    refine (trLeaf_any .lf _).mono ?_; rintro e w1 ⟨rfl, rfl⟩
    simp only [Tr.isLf]
    go_wp2_with fail
    go_ret
    exact ⟨rfl, Below.refl _ _⟩
  | nd l r ihl ihr =>
    intro b w ha hb
    have h' : l.carets + r.carets + 1 ≤ 60 := ha
    cases b with
    | lf =>
      go_enter Try.func105, Try.ntmps105
      go_wp2_with fail
      refine (trLeaf_any (.nd l r) _).mono ?_; rintro e w1 ⟨rfl, rfl⟩
      simp only [Tr.isLf]
      go_wp2_with fail
      refine (trLeaf_any .lf _).mono ?_; rintro e w1 ⟨rfl, rfl⟩
      simp only [Tr.isLf]
      go_wp2_with fail
      go_ret
      exact ⟨rfl, Below.refl _ _⟩
    | nd p q =>
      have h2 : p.carets + q.carets + 1 ≤ 60 := hb
      have ml := join_carets l p
      have mr := join_carets r q
      go_enter Try.func105, Try.ntmps105
      go_wp2_with fail
      refine (trLeaf_any (.nd l r) _).mono ?_; rintro e w1 ⟨rfl, rfl⟩
      simp only [Tr.isLf]
      go_wp2_with fail
      refine (trLeaf_any (.nd p q) _).mono ?_; rintro e w1 ⟨rfl, rfl⟩
      simp only [Tr.isLf]
      go_wp2_with fail
      refine (trSides_any l r _ (by omega)).mono ?_; rintro e w1 ⟨rfl, hb1⟩
      go_wp2_with fail
      refine (trSides_any p q _ (by omega)).mono ?_; rintro e w2 ⟨rfl, hb2⟩
      go_wp2_with fail
      refine (ihl p _ (by omega) (by omega)).mono ?_; rintro e w3 ⟨rfl, hb3⟩
      go_wp2_with fail
      refine (ihr q _ (by omega) (by omega)).mono ?_; rintro e w4 ⟨rfl, hb4⟩
      go_wp2_with fail
      refine (trOf_any (l.join p) (r.join q) _ (by omega)).mono ?_; rintro e w5 ⟨rfl, rfl⟩
      go_wp2_with fail
      go_ret
      exact ⟨rfl, nx (nx (nx hb1 hb2) hb3) hb4⟩

set_option maxHeartbeats 400000 in
theorem trCommon_any (a : Tr) : ∀ (b : Tr) (w : World), a.carets ≤ 60 → b.carets ≤ 60 →
    Calls Try.prog 107 #[.string a.str, .string b.str] w (Gives (.string (a.com b).str) w) := by
  induction a with
  | lf =>
    intro b w ha hb
    go_enter Try.func107, Try.ntmps107
    go_wp2_with fail
    refine (trLeaf_any .lf _).mono ?_; rintro e w1 ⟨rfl, rfl⟩
    simp only [Tr.isLf]
    go_wp2_with fail
    go_ret
    exact ⟨rfl, Below.refl _ _⟩
  | nd l r ihl ihr =>
    intro b w ha hb
    have h' : l.carets + r.carets + 1 ≤ 60 := ha
    cases b with
    | lf =>
      go_enter Try.func107, Try.ntmps107
      go_wp2_with fail
      refine (trLeaf_any (.nd l r) _).mono ?_; rintro e w1 ⟨rfl, rfl⟩
      simp only [Tr.isLf]
      go_wp2_with fail
      refine (trLeaf_any .lf _).mono ?_; rintro e w1 ⟨rfl, rfl⟩
      simp only [Tr.isLf]
      go_wp2_with fail
      go_ret
      exact ⟨rfl, Below.refl _ _⟩
    | nd p q =>
      have h2 : p.carets + q.carets + 1 ≤ 60 := hb
      have ml := com_carets l p
      have mr := com_carets r q
      go_enter Try.func107, Try.ntmps107
      go_wp2_with fail
      refine (trLeaf_any (.nd l r) _).mono ?_; rintro e w1 ⟨rfl, rfl⟩
      simp only [Tr.isLf]
      go_wp2_with fail
      refine (trLeaf_any (.nd p q) _).mono ?_; rintro e w1 ⟨rfl, rfl⟩
      simp only [Tr.isLf]
      go_wp2_with fail
      refine (trSides_any l r _ (by omega)).mono ?_; rintro e w1 ⟨rfl, hb1⟩
      go_wp2_with fail
      refine (trSides_any p q _ (by omega)).mono ?_; rintro e w2 ⟨rfl, hb2⟩
      go_wp2_with fail
      refine (ihl p _ (by omega) (by omega)).mono ?_; rintro e w3 ⟨rfl, hb3⟩
      go_wp2_with fail
      refine (ihr q _ (by omega) (by omega)).mono ?_; rintro e w4 ⟨rfl, hb4⟩
      go_wp2_with fail
      refine (trOf_any (l.com p) (r.com q) _ (by omega)).mono ?_; rintro e w5 ⟨rfl, rfl⟩
      go_wp2_with fail
      go_ret
      exact ⟨rfl, nx (nx (nx hb1 hb2) hb3) hb4⟩

end Go.Proofs.Yteflpaebckichab

/-! Ans -/
namespace Go.Proofs.Yteflpaebckichab
open Go.RowKit

def trS : Option Tr → ByteArray
  | some t => t.str
  | none => ⟨#[]⟩
def trB : Option Tr → Bool
  | some _ => true
  | none => false
/-- An answer of a text and a bool. -/
def ansV (o : Option Tr) : Value := .tuple #[.string (trS o), .bool (trB o)]
/-- A tree, if it has no more carets than allowed. -/
def lim (t : Tr) : Option Tr := if t.carets ≤ 8 then some t else none

theorem trIs_yes (t : Tr) (w : World) (h : t.carets ≤ 8) : Calls Try.prog 81 #[.string t.str] w fun e w' => e = .returned (.bool true) ∧ w = w' := by
  have := trIs_any t.str w (by have := t.str_size; omega)
  rwa [isTreeB_str t h] at this
theorem trIs_no (s : ByteArray) (w : World) (hs : s.size ≤ 9223372036854775806) (h : treeOf s = none) : Calls Try.prog 81 #[.string s] w fun e w' => e = .returned (.bool false) ∧ w = w' := by
  have := trIs_any s w hs
  rwa [isTreeB_eq, h] at this
theorem carets_str (t : Tr) (w : World) (h : t.carets ≤ 1000) : Calls Try.prog 87 #[.string t.str] w fun e w' => e = .returned (.int .i64 t.carets) ∧ w = w' := by
  have := carets_any t.str w (by have := t.str_size; omega)
  rwa [cnt_str] at this

theorem limit_yes (t : Tr) (w : World) (h : t.carets ≤ 8) : Calls Try.prog 94 #[.string t.str] w fun e w' => e = .returned (.tuple #[.string t.str, .bool true]) ∧ w = w' := by
  have hz := t.str_size
  have hz' : t.str.size ≤ 25 := by omega
  clear hz
  go_enter Try.func94, Try.ntmps94
  go_wp2_with fail
  go_ret2
  exact ⟨rfl, rfl⟩
theorem limit_no (t : Tr) (w : World) (h : 8 < t.carets) : Calls Try.prog 94 #[.string t.str] w fun e w' => e = .returned (.tuple #[.string ⟨#[]⟩, .bool false]) ∧ w = w' := by
  have hz := t.str_size
  have hz' : 25 < t.str.size := by omega
  clear hz
  go_enter Try.func94, Try.ntmps94
  go_wp2_with fail
  go_ret2
  exact ⟨rfl, rfl⟩
theorem limit_any (t : Tr) (w : World) : Calls Try.prog 94 #[.string t.str] w fun e w' => e = .returned (ansV (lim t)) ∧ w = w' := by
  by_cases h : t.carets ≤ 8
  · have := limit_yes t w h
    rw [show ansV (lim t) = .tuple #[.string t.str, .bool true] by simp [lim, h, ansV, trS, trB]]
    exact this
  · have := limit_no t w (by omega)
    rw [show ansV (lim t) = .tuple #[.string ⟨#[]⟩, .bool false] by simp [lim, h, ansV, trS, trB]]
    exact this

def TreesOk (t u : Tr) (w : World) (e : Ending) (w' : World) : Prop :=
  ∃ b c : Nat, NodeAt w' t b ∧ NodeAt w' u c ∧ Below w.heap.size w w' ∧ e = .returned (.tuple #[.pointer (some ⟨b, 0, none⟩), .pointer (some ⟨c, 0, none⟩), .bool true])
def TreesNo (w : World) (e : Ending) (w' : World) : Prop :=
  Below w.heap.size w w' ∧ e = .returned (.tuple #[.pointer none, .pointer none, .bool false])

theorem trees_yes (t u : Tr) (w : World) (h : t.carets ≤ 8) (k : u.carets ≤ 8) :
    Calls Try.prog 103 #[.string t.str, .string u.str] w (TreesOk t u w) := by
  go_enter Try.func103, Try.ntmps103
  go_wp2_with fail
  refine (read_yes t _ h).mono ?_; rintro e w1 ⟨b1, hn1, hb1, rfl⟩
  go_wp2_with fail
  refine (read_yes u _ k).mono ?_; rintro e w2 ⟨b2, hn2, hb2, rfl⟩
  go_wp2_with fail
  go_ret3
  exact ⟨b1, b2, hn1.keep hb2, hn2, nx hb1 hb2, rfl⟩

theorem trees_no1 (s u : ByteArray) (w : World) (hs : s.size ≤ 9223372036854775806) (h : treeOf s = none) :
    Calls Try.prog 103 #[.string s, .string u] w (TreesNo w) := by
  have H := Lib.hid h
  clear h
  go_enter Try.func103, Try.ntmps103
  go_wp2_with fail
  refine (read_no s _ hs H.out).mono ?_; rintro e w1 ⟨hb1, rfl⟩
  go_wp2_with fail
  go_ret3
  exact ⟨hb1, rfl⟩

theorem trees_no2 (t : Tr) (s : ByteArray) (w : World) (k : t.carets ≤ 8) (hs : s.size ≤ 9223372036854775806) (h : treeOf s = none) :
    Calls Try.prog 103 #[.string t.str, .string s] w (TreesNo w) := by
  have H := Lib.hid h
  clear h
  go_enter Try.func103, Try.ntmps103
  go_wp2_with fail
  refine (read_yes t _ k).mono ?_; rintro e w1 ⟨b1, hn1, hb1, rfl⟩
  go_wp2_with fail
  refine (read_no s _ hs H.out).mono ?_; rintro e w2 ⟨hb2, rfl⟩
  go_wp2_with fail
  go_ret3
  exact ⟨nx hb1 hb2, rfl⟩
end Go.Proofs.Yteflpaebckichab

/-! WExposedOf -/
namespace Go.Proofs.Yteflpaebckichab
open Go.RowKit

def ExposedOf_o (a : ByteArray) : Option (List Int) :=
  match treeOf a with
  | some t => some (exL t.text 0)
  | none => none

theorem ExposedOf_len (a : ByteArray) : ((ExposedOf_o a).getD []).length ≤ 1000000000 := by
  unfold ExposedOf_o
  cases h : treeOf a with
  | none => simp
  | some t =>
    have := exL_length t.text 0
    have := t.text_len
    have := (treeOf_some h).2
    simp; omega

theorem specExposedOf_any (a : ByteArray) (w : World) (ha : a.size ≤ 9223372036854775806) :
    Calls Try.prog 14 #[.string a] w (AnsIs (ExposedOf_o a) w) := by
  cases h : treeOf a with
  | none =>
    rw [show ExposedOf_o a = none by simp [ExposedOf_o, h]]
    have H := Lib.hid h
    clear h
    go_enter Try.func14, Try.ntmps14
    go_wp2_with fail
    refine (trIs_no a _ ha H.out).mono ?_; rintro e w1 ⟨rfl, rfl⟩
    go_wp2_with fail
    go_ret2
    exact ⟨_, OwnI.nil _ _, Below.refl _ _, rfl⟩
  | some t =>
    obtain ⟨rfl, hc⟩ := treeOf_some h
    rw [show ExposedOf_o t.str = some (exL t.text 0) by simp [ExposedOf_o, h]]
    have st := t.str_size
    have he := trExposed_any t.str
    rw [Tr.str_list] at he
    clear h
    go_enter Try.func14, Try.ntmps14
    go_wp2_with fail
    refine (trIs_yes t _ hc).mono ?_; rintro e w1 ⟨rfl, rfl⟩
    go_wp2_with fail
    refine (he _ (by omega)).mono ?_; rintro e w1 ⟨v, own, hb1, rfl⟩
    go_wp2_with fail
    go_ret2
    exact ⟨_, own, hb1, rfl⟩

theorem implExposedOf_any (a : ByteArray) (w : World) (ha : a.size ≤ 9223372036854775806) :
    Calls Try.prog 13 #[.string a] w (AnsIs (ExposedOf_o a) w) := by
  cases h : treeOf a with
  | none =>
    rw [show ExposedOf_o a = none by simp [ExposedOf_o, h]]
    have H := Lib.hid h
    clear h
    go_enter Try.func13, Try.ntmps13
    go_wp2_with fail
    refine (implIsTree_no a _ ha H.out).mono ?_; rintro e w1 ⟨hb1, rfl⟩
    go_wp2_with fail
    go_ret2
    exact ⟨_, OwnI.nil _ _, hb1, rfl⟩
  | some t =>
    obtain ⟨rfl, hc⟩ := treeOf_some h
    rw [show ExposedOf_o t.str = some (exL t.text 0) by simp [ExposedOf_o, h]]
    exact implExposedOf_yes t w hc

end Go.Proofs.Yteflpaebckichab

/-! Dw8 -/
namespace Go.Proofs.Yteflpaebckichab
open Go.RowKit

/-- A call that draws a list of texts. -/
def GivesL (w : World) (e : Ending) (w' : World) : Prop :=
  ∃ (a : Option Addr) (n cap : Nat) (L : List ByteArray), L.length = n ∧ n ≤ cap ∧ n ≤ 1000 ∧ cap ≤ 9223372036854775807 ∧ InS w' a L ∧ (∀ s ∈ L, s.size ≤ 1000) ∧ e = .returned (.slice a n cap) ∧ Below w.heap.size w w'

theorem OwnS.inSD {base : Nat} {w : World} {g n cap : Nat} {L : List ByteArray} (h : OwnS base w (.slice (some ⟨g, 0, none⟩) n cap) L) (hn : L.length = n) : InS w (some ⟨g, 0, none⟩) L ∧ n ≤ cap ∧ cap ≤ 9223372036854775807 := by
  rcases h.cells with ⟨h1, h2⟩ | ⟨g2, cap2, h1, _, _, h3, h4, h5, _⟩
  · cases h1
  · simp only [Value.slice.injEq, Option.some.injEq, Addr.mk.injEq, and_true] at h1
    obtain ⟨rfl, rfl, rfl⟩ := h1
    unfold maxLen at h4
    exact ⟨.inr ⟨_, 0, rfl, fun i hi => by rw [Nat.zero_add]; exact h5 i hi⟩, h3, by omega⟩

theorem own_kept {base b : Nat} {w w' : World} {g n cap : Nat} {L : List ByteArray} (h : OwnS base w (.slice (some ⟨g, 0, none⟩) n cap) L) (hg : w.grownBy w' (some b)) (hb : b < g) : OwnS base w' (.slice (some ⟨g, 0, none⟩) n cap) L :=
  World.ownsRow.kept h hg (.inr (fun e => by simp only [Value.ownBlock, Option.some.injEq] at e; omega))
theorem own_n {base : Nat} {w : World} {v : Value} {n : Nat} {L : List ByteArray} (h : OwnS base w v L) (hn : n = L.length) : w.ownsRow base 9 1 v n (L.map Value.string) := by subst hn; exact h
theorem own_ge {base : Nat} {w : World} {g n cap : Nat} {L : List ByteArray} (h : OwnS base w (.slice (some ⟨g, 0, none⟩) n cap) L) : base ≤ g := by
  rcases h.cells with ⟨h1, h2⟩ | ⟨g2, cap2, h1, h3, _⟩
  · cases h1
  · simp only [Value.slice.injEq, Option.some.injEq, Addr.mk.injEq, and_true] at h1
    obtain ⟨rfl, _⟩ := h1
    exact h3
theorem InS.takeD {w : World} {a : Option Addr} {L : List ByteArray} (h : InS w a L) (m : Nat) : InS w a (L.take m) := by
  rcases h with rfl | ⟨g, off, ha, hr⟩
  · exact .inl (by simp)
  · refine .inr ⟨g, off, ha, fun i hi => ?_⟩
    rw [List.length_take] at hi
    rw [hr i (by omega)]
    have : i < m := by omega
    simp [List.getD_eq_getElem?_getD, this]
theorem empty_size : (⟨#[]⟩ : ByteArray).size = 0 := rfl
theorem set_mem {α : Type} {L : List α} {i : Nat} {x y : α} (h : y ∈ L.set i x) : y ∈ L ∨ y = x := by
  rcases List.mem_or_eq_of_mem_set h with h | h
  · exact .inl h
  · exact .inr h

set_option maxRecDepth 100000 in
set_option maxHeartbeats 1000000 in
theorem drawTreeWith_any (c : Bts) (w : World) (h : InB w c) : Calls Try.prog 25 #[.slice c.a c.n c.cap] w (GivesL w) := by
  have H := Lib.hid (cur_new h)
  clear h
  go_enter Try.func25, Try.ntmps25
  go_wp2_with fail
  refine (drawPick_any 7 _ c 0 _ H.out (by omega) (by omega) (by omega)).mono ?_; rintro e w1 ⟨x, hx, rfl, hT, hg⟩
  have HT := Lib.hid hT
  have HG := Lib.hid hg
  clear hT hg
  go_wp2_with fail
  refine (sureTree_any x _ c _ _ HT.out (by omega) (by omega)).mono ?_; rintro e w2 ⟨t, ht, rfl, hT, hg⟩
  have HT2 := Lib.hid hT
  have HG2 := Lib.hid (grown_trans HG.out hg)
  clear hT hg
  go_wp2_with fail
  refine (trAddresses_any t ⟨#[]⟩ _ (by omega) (by show 0 + _ ≤ _; omega)).mono ?_; rintro e w3 ⟨g, cap, hO, hb3, rfl⟩
  have hsz := addrs_size t ⟨#[]⟩
  have hln := addrs_length t ⟨#[]⟩
  have hge := own_ge hO
  generalize t.addrs ⟨#[]⟩ = L at *
  have hlt2 := HT2.out.lt
  have HT3 := Lib.hid (HT2.out.keep hb3)
  have HG3 := Lib.hid (grown_below HG2.out hb3)
  have hsz2 : Hid (∀ s ∈ L, s.size ≤ 500) := fun s hs => by have := hsz s hs; rw [empty_size] at this; omega
  have HLN := Lib.hid hln
  obtain ⟨n, hn⟩ : ∃ n, n = L.length := ⟨_, rfl⟩
  have hn1 : 1 ≤ n ∧ n ≤ 50 := by omega
  have hO2 : OwnS w2.heap.size w3 (.slice (some ⟨g, 0, none⟩) n cap) L := by rw [hn]; exact hO
  have HO := Lib.hid hO2
  rw [← hn]
  have HN := Lib.hid hn
  clear hsz hln hb3 hO hn hO2
  go_wp2_with fail
  refine (drawPick_any 6 _ c _ _ HT3.out (by omega) (by omega) (by omega)).mono ?_; rintro e w4 ⟨y, hy, rfl, hT, hg⟩
  have HT4 := Lib.hid hT
  have HG4 := Lib.hid (grown_trans HG3.out hg)
  have HO4 := Lib.hid (own_kept HO.out hg (by omega))
  have hgw : g < w4.heap.size := by
    rcases HO4.out.cells with ⟨h1, h2⟩ | ⟨g2, cap2, h1, h2, h3, _⟩
    · cases h1
    · simp only [Value.slice.injEq, Option.some.injEq, Addr.mk.injEq, and_true] at h1
      obtain ⟨rfl, _⟩ := h1
      exact h3
  clear hT hg
  by_cases h0 : y = 0
  · subst h0
    go_wp2_with fail
    refine (drawPick_any n _ c _ _ HT4.out (by omega) (by omega) (by omega)).mono ?_; rintro e w5 ⟨z, hz, rfl, hT, hg⟩
    have HT5 := Lib.hid hT
    have HG5 := Lib.hid (grown_trans HG4.out hg)
    have HO5 := Lib.hid (own_kept HO4.out hg (by omega))
    have hlt5 := HT5.out.lt
    clear hT hg
    go_wp2_with fail
    refine (drawOf_any [⟨#[]⟩, ⟨#[48]⟩, ⟨#[49]⟩, ⟨#[48, 49]⟩, ⟨#[50]⟩, ⟨#[48, 48, 48, 48, 48, 48, 48, 48, 48]⟩] 6 _ 6 _ c _ _ (HT5.out.keep (allocB _ _)) (rowT_alloc _ [⟨#[]⟩, ⟨#[48]⟩, ⟨#[49]⟩, ⟨#[48, 49]⟩, ⟨#[50]⟩, ⟨#[48, 48, 48, 48, 48, 48, 48, 48, 48]⟩] _) rfl (by omega) (by omega) (by omega) (by omega)).mono ?_; rintro e w6 ⟨s, hs, rfl, hT, hg⟩
    have hs2 : s.size ≤ 9 := by
      simp only [List.mem_cons, List.not_mem_nil, or_false] at hs
      rcases hs with rfl | rfl | rfl | rfl | rfl | rfl <;> decide
    have HG6 := Lib.hid (grown_trans (grown_below HG5.out (allocB _ _)) hg)
    have HO6 := Lib.hid (own_kept (HO5.out.keep (allocB _ _)) hg (by omega))
    clear hT hg hs
    have hfz : w6.frozen? ⟨g, z, none⟩ = false := World.ownsRow.frozenAt (own_n HO6.out HN.out) z
    obtain ⟨x9, hcell⟩ : ∃ x, w6.cell? ⟨g, z, none⟩ = some x := by
      have h1 := World.ownsRow.cellAt (own_n HO6.out HN.out) z (by omega)
      rw [h1]
      exact ⟨_, List.getElem?_eq_getElem (by rw [List.length_map, ← HN.out]; exact hz)⟩
    have hset := OwnS.set HN.out.symm HO6.out z s
    have hz' : (z : Int) < (n : Int) := by omega
    have hgr6 : Below w.heap.size w (w6.setCell ⟨g, z, none⟩ (.string s)) := (cur_below HG6.out).setCell (by have := HT2.out.lt; show w.heap.size ≤ g; omega) _
    have HS := Lib.hid hset
    clear hset
    go_wp2_with fail
    go_ret
    obtain ⟨q1, q2, q3⟩ := HS.out.inSD (by rw [List.length_set]; exact HN.out.symm)
    exact ⟨_, n, cap, _, by rw [List.length_set]; exact HN.out.symm, q2, by omega, q3, q1, fun u hu => by
      rcases set_mem hu with hu | rfl
      · have := hsz2.out u hu; omega
      · omega, rfl, hgr6⟩
  by_cases h1 : y = 1
  · subst h1
    obtain ⟨q1, q2, q3⟩ := HO4.out.inSD HN.out.symm
    have QI := Lib.hid q1
    obtain ⟨m, rfl⟩ : ∃ m, n = m + 1 := ⟨n - 1, by omega⟩
    have hm1 : (m : Int) ≤ (cap : Int) := by omega
    clear q1
    go_wp2_with fail
    go_ret
    exact ⟨_, m, cap, L.take m, by rw [List.length_take]; have := HN.out; omega, by omega, by omega, q3, QI.out.takeD m, fun u hu => by have := hsz2.out u (List.mem_of_mem_take hu); omega, rfl, cur_below HG4.out⟩
  by_cases h2 : y = 2
  · subst h2
    obtain ⟨i0, hi, hz0, hz1, hz2⟩ := info_parts info_str
    have hN := HN.out
    subst hN
    clear HN
    go_wp2_with (at_builtin; refine wpList_append_own _ rfl _ _ 25 rfl w2.heap.size 9 i0 (.string ⟨#[]⟩) 1 16 Try.underlying25 hi hz0 hz1 hz2 rfl (by decide) _ _ _ rfl (HO4.out.keep (allocB _ _)) ⟨w4.heap.size, 0, none⟩ 1 1 [.string ⟨#[49]⟩] rfl rfl (new1 _ _ _) (oneS [⟨#[49]⟩]) (by unfold maxLen; omega) (by omega) (by simp; omega) ?_; intro v' w5 hown' hgrow hnn)
    have hown1 : OwnS w2.heap.size w5 v' (L ++ [⟨#[49]⟩]) := OwnS.app hown'
    obtain ⟨g5, cap5, hv⟩ := hown1.shape (by simp)
    have hbw5 : Below w.heap.size w w5 := below_app0 ((cur_below HG4.out).trans ((allocB _ _).mono (cur_below HG4.out).size)) (HO4.out.keep (allocB _ _)) (by have := HT2.out.lt; omega) hgrow
    have HV := Lib.hid hv
    have HW := Lib.hid hown1
    clear hown' hgrow hv hnn hown1
    go_wp2_with fail
    go_ret
    have h9 := HW.out
    rw [HV.out] at h9
    obtain ⟨q1, q2, q3⟩ := h9.inSD rfl
    exact ⟨_, _, cap5, L ++ [⟨#[49]⟩], rfl, q2, by rw [List.length_append]; simp; omega, q3, q1, fun u hu => by
      rw [List.mem_append, List.mem_singleton] at hu
      rcases hu with hu | rfl
      · have := hsz2.out u hu; omega
      · decide, by rw [← HV.out]; rfl, hbw5⟩
  · have h0' : ¬ (y : Int) = 0 := by omega
    have h1' : ¬ (y : Int) = 1 := by omega
    have h2' : ¬ (y : Int) = 2 := by omega
    have e0 : ((y : Int) == 0) = false := by simpa using h0'
    have e1 : ((y : Int) == 1) = false := by simpa using h1'
    have e2 : ((y : Int) == 2) = false := by simpa using h2'
    clear h0 h1 h0' h1' h2 h2'
    go_wp2_with fail
    go_ret
    obtain ⟨q1, q2, q3⟩ := HO4.out.inSD HN.out.symm
    exact ⟨_, n, cap, L, HN.out.symm, q2, by omega, q3, q1, fun u hu => by have := hsz2.out u hu; omega, rfl, cur_below HG4.out⟩
end Go.Proofs.Yteflpaebckichab

/-! In0 -/
namespace Go.Proofs.Yteflpaebckichab
open Go.RowKit

theorem l1In_yes (n lo hi : Int) (w : World) (h1 : lo ≤ n) (h2 : n ≤ hi) :
    Calls Try.prog 118 #[.int .i64 n, .int .i64 lo, .int .i64 hi] w fun e w' => e = .returned (.bool true) ∧ w = w' := by
  go_enter Try.func118, Try.ntmps118
  go_wp2_with fail
  go_ret
  exact ⟨rfl, rfl⟩
theorem l1In_no (n lo hi : Int) (w : World) (h : n < lo ∨ hi < n) :
    Calls Try.prog 118 #[.int .i64 n, .int .i64 lo, .int .i64 hi] w fun e w' => e = .returned (.bool false) ∧ w = w' := by
  by_cases h1 : n < lo
  · clear h
    go_enter Try.func118, Try.ntmps118
    go_wp2_with fail
    go_ret
    exact ⟨rfl, rfl⟩
  · have h1' : lo ≤ n := by omega
    have h2 : hi < n := by omega
    clear h h1
    go_enter Try.func118, Try.ntmps118
    go_wp2_with fail
    go_ret
    exact ⟨ret_bool (by simp; omega), rfl⟩

end Go.Proofs.Yteflpaebckichab

/-! In -/
namespace Go.Proofs.Yteflpaebckichab
open Go.RowKit

/-- An answer of a text and a bool. -/
def ans2 (o : Option ByteArray) : Value := .tuple #[.string (o.getD ⟨#[]⟩), .bool o.isSome]

end Go.Proofs.Yteflpaebckichab

/-! Comb -/
namespace Go.Proofs.Yteflpaebckichab
open Go.RowKit

theorem trSize_yes (n : Int) (w : World) (h1 : 0 ≤ n) (h2 : n ≤ 8) : Calls Try.prog 114 #[.int .i64 n] w fun e w' => e = .returned (.bool true) ∧ w = w' := by
  go_enter Try.func114, Try.ntmps114
  go_wp2_with fail
  refine (l1In_yes n 0 8 _ h1 h2).mono ?_; rintro e w1 ⟨rfl, rfl⟩
  go_wp2_with fail
  go_ret
  exact ⟨rfl, rfl⟩
theorem trSize_no (n : Int) (w : World) (h : n < 0 ∨ 8 < n) : Calls Try.prog 114 #[.int .i64 n] w fun e w' => e = .returned (.bool false) ∧ w = w' := by
  have H := Lib.hid h
  clear h
  go_enter Try.func114, Try.ntmps114
  go_wp2_with fail
  refine (l1In_no n 0 8 _ H.out).mono ?_; rintro e w1 ⟨rfl, rfl⟩
  go_wp2_with fail
  go_ret
  exact ⟨rfl, rfl⟩

def rcomb : Nat → Tr
  | 0 => .lf
  | n + 1 => .nd .lf (rcomb n)
def lcomb : Nat → Tr
  | 0 => .lf
  | n + 1 => .nd (lcomb n) .lf
theorem rcomb_carets (n : Nat) : (rcomb n).carets = n := by induction n with | zero => rfl | succ n ih => simp [rcomb, Tr.carets, ih]
theorem lcomb_carets (n : Nat) : (lcomb n).carets = n := by induction n with | zero => rfl | succ n ih => simp [lcomb, Tr.carets, ih]
theorem rcomb_mir (n : Nat) : (rcomb n).mir = lcomb n := by induction n with | zero => rfl | succ n ih => simp [rcomb, lcomb, Tr.mir, ih]

theorem under_right (k : Nat) (w : World) (h : k ≤ 100) :
    Calls Try.prog 123 #[.string (rcomb k).str] w fun e w' => e = .returned (.string (rcomb (k + 1)).str) ∧ w = w' := by
  have hz := (rcomb k).str_size
  rw [rcomb_carets] at hz
  have e1 : (rcomb (k + 1)).str = ⟨#[40, 46]⟩ ++ (rcomb k).str ++ ⟨#[41]⟩ := by
    apply ba_ext
    rw [rcomb]
    simp [Tr.str, Tr.text]
  have E1 := Lib.hid e1
  clear e1
  go_enter Try.func123, Try.ntmps123
  go_wp2_with fail
  go_ret
  exact ⟨ret_str (by rw [E1.out]), rfl⟩
theorem under_left (k : Nat) (w : World) (h : k ≤ 100) :
    Calls Try.prog 122 #[.string (lcomb k).str] w fun e w' => e = .returned (.string (lcomb (k + 1)).str) ∧ w = w' := by
  have hz := (lcomb k).str_size
  rw [lcomb_carets] at hz
  have e1 : (lcomb (k + 1)).str = ⟨#[40]⟩ ++ (lcomb k).str ++ ⟨#[46]⟩ ++ ⟨#[41]⟩ := by
    apply ba_ext
    rw [lcomb]
    simp [Tr.str, Tr.text]
  have E1 := Lib.hid e1
  clear e1
  go_enter Try.func122, Try.ntmps122
  go_wp2_with fail
  go_ret
  exact ⟨ret_str (by rw [E1.out]), rfl⟩

def combO (g : Nat → Tr) (n : Int) : Option Tr := if 0 ≤ n ∧ n ≤ 8 then some (g n.toNat) else none

set_option maxHeartbeats 400000 in
theorem comb_any (g : Nat → Tr) (f : FuncId) (n : Int) (w : World) (h0 : g 0 = .lf)
    (hf : ∀ k w, k ≤ 100 → Calls Try.prog f #[.string (g k).str] w fun e w' => e = .returned (.string (g (k + 1)).str) ∧ w = w')
    (hcall : ∀ (args : Array Value) (w : World), (callFunc f args).run Try.prog w = .ok (.enter f args) w) :
    Calls Try.prog 121 #[.int .i64 n, .func (Fn.func f) #[] #[]] w fun e w' => e = .returned (ansV (combO g n)) ∧ w = w' := by
  unfold combO
  by_cases h1 : n < 0
  · rw [if_neg (by omega)]
    clear hf
    go_enter Try.func121, Try.ntmps121
    go_wp2_with fail
    go_ret2
    exact ⟨rfl, rfl⟩
  · by_cases h2 : 8 < n
    · rw [if_neg (by omega)]
      clear hf
      go_enter Try.func121, Try.ntmps121
      go_wp2_with fail
      go_ret2
      exact ⟨rfl, rfl⟩
    · rw [if_pos (by omega)]
      have HF := Lib.hid hf
      have H0 := Lib.hid h0
      clear hf h0
      go_enter Try.func121, Try.ntmps121
      go_wp2_with fail
      go_loop [6, 14] (fun t i => ∃ k : Nat, (k : Int) ≤ n ∧ i = .int .i64 k ∧ t = .string (g k).str) (fun _ i => n.toNat - (intOf i).toNat)
      case atStart => exact ⟨0, by omega, rfl, by rw [H0.out]; rfl⟩
      case round =>
        obtain ⟨k, hk, rfl, rfl⟩ := hrel
        by_cases hlt : (k : Int) < n
        · go_wp2_with fail
          refine (HF.out k _ (by omega)).mono ?_; rintro e w1 ⟨rfl, rfl⟩
          go_wp2_with fail
          go_round
          case rel => exact ⟨k + 1, by omega, by go_num, rfl⟩
          case measure => simp [intOf]; omega
        · obtain rfl : n = k := by omega
          go_wp2_with fail
          go_ret2
          exact ⟨rfl, rfl⟩

theorem implRightComb_any (n : Int) (w : World) (_lo : -9223372036854775808 ≤ n) (_hi : n ≤ 9223372036854775807) :
    Calls Try.prog 51 #[.int .i64 n] w (Gives (ansV (combO rcomb n)) w) := by
  go_enter Try.func51, Try.ntmps51
  go_wp2_with fail
  refine (comb_any rcomb 123 n _ rfl under_right (fun _ _ => by kernel_rfl)).mono ?_; rintro e w1 ⟨rfl, rfl⟩
  unfold ansV
  go_wp2_with fail
  go_ret2
  exact ⟨rfl, Below.refl _ _⟩

theorem implLeftComb_any (n : Int) (w : World) (_lo : -9223372036854775808 ≤ n) (_hi : n ≤ 9223372036854775807) :
    Calls Try.prog 50 #[.int .i64 n] w (Gives (ansV (combO lcomb n)) w) := by
  go_enter Try.func50, Try.ntmps50
  go_wp2_with fail
  refine (comb_any lcomb 122 n _ rfl under_left (fun _ _ => by kernel_rfl)).mono ?_; rintro e w1 ⟨rfl, rfl⟩
  unfold ansV
  go_wp2_with fail
  go_ret2
  exact ⟨rfl, Below.refl _ _⟩

theorem trRight_any (n : Nat) (w : World) (h : n ≤ 100) :
    Calls Try.prog 124 #[.int .i64 n] w fun e w' => e = .returned (.string (rcomb n).str) ∧ w = w' := by
  go_enter Try.func124, Try.ntmps124
  go_wp2_with fail
  go_loop [0, 3] (fun i t => ∃ k : Nat, k ≤ n ∧ i = .int .i64 k ∧ t = .string (rcomb (n - k)).str) (fun i _ => (intOf i).toNat)
  case atStart => exact ⟨n, Nat.le_refl _, rfl, by rw [Nat.sub_self]; rfl⟩
  case round =>
    obtain ⟨k, hk, rfl, rfl⟩ := hrel
    by_cases hlt : (0 : Int) < k
    · have hc := rcomb_carets (n - k)
      have he : Hid (rcomb (n - k + 1) = rcomb (n - (k - 1))) := by show _ = _; congr 1; omega
      go_wp2_with fail
      refine (trOf_any .lf (rcomb (n - k)) _ (by simp [Tr.carets, hc]; omega)).mono ?_; rintro e w1 ⟨rfl, rfl⟩
      go_wp2_with fail
      go_round
      case rel => exact ⟨k - 1, by omega, by go_num, by rw [← he.out]; rfl⟩
      case measure => simp [intOf]; omega
    · obtain rfl : k = 0 := by omega
      go_wp2_with fail
      go_ret
      exact ⟨rfl, rfl⟩

theorem specRightComb_any (n : Int) (w : World) (_lo : -9223372036854775808 ≤ n) (_hi : n ≤ 9223372036854775807) :
    Calls Try.prog 53 #[.int .i64 n] w (Gives (ansV (combO rcomb n)) w) := by
  unfold combO
  by_cases h : 0 ≤ n ∧ n ≤ 8
  · rw [if_pos h]
    obtain ⟨k, rfl⟩ : ∃ k : Nat, n = k := ⟨n.toNat, by omega⟩
    have h8 : k ≤ 8 := by omega
    clear h
    go_enter Try.func53, Try.ntmps53
    go_wp2_with fail
    refine (trSize_yes k _ (by omega) (by omega)).mono ?_; rintro e w1 ⟨rfl, rfl⟩
    go_wp2_with fail
    refine (trRight_any k _ (by omega)).mono ?_; rintro e w1 ⟨rfl, rfl⟩
    go_wp2_with fail
    go_ret2
    exact ⟨rfl, Below.refl _ _⟩
  · rw [if_neg h]
    have H : Hid (n < 0 ∨ 8 < n) := show _ ∨ _ by omega
    clear h
    go_enter Try.func53, Try.ntmps53
    go_wp2_with fail
    refine (trSize_no n _ H.out).mono ?_; rintro e w1 ⟨rfl, rfl⟩
    go_wp2_with fail
    go_ret2
    exact ⟨rfl, Below.refl _ _⟩

theorem specLeftComb_any (n : Int) (w : World) (_lo : -9223372036854775808 ≤ n) (_hi : n ≤ 9223372036854775807) :
    Calls Try.prog 54 #[.int .i64 n] w (Gives (ansV (combO lcomb n)) w) := by
  unfold combO
  by_cases h : 0 ≤ n ∧ n ≤ 8
  · rw [if_pos h]
    obtain ⟨k, rfl⟩ : ∃ k : Nat, n = k := ⟨n.toNat, by omega⟩
    have h8 : k ≤ 8 := by omega
    have hc := rcomb_carets k
    have hm := trMirror_any (rcomb k)
    rw [rcomb_mir] at hm
    clear h
    go_enter Try.func54, Try.ntmps54
    go_wp2_with fail
    refine (trSize_yes k _ (by omega) (by omega)).mono ?_; rintro e w1 ⟨rfl, rfl⟩
    go_wp2_with fail
    refine (trRight_any k _ (by omega)).mono ?_; rintro e w1 ⟨rfl, rfl⟩
    go_wp2_with fail
    refine (hm _ (by omega)).mono ?_; rintro e w1 ⟨rfl, hb1⟩
    go_wp2_with fail
    go_ret2
    exact ⟨rfl, hb1⟩
  · rw [if_neg h]
    have H : Hid (n < 0 ∨ 8 < n) := show _ ∨ _ by omega
    clear h
    go_enter Try.func54, Try.ntmps54
    go_wp2_with fail
    refine (trSize_no n _ H.out).mono ?_; rintro e w1 ⟨rfl, rfl⟩
    go_wp2_with fail
    go_ret2
    exact ⟨rfl, Below.refl _ _⟩
end Go.Proofs.Yteflpaebckichab

/-! CountP -/
namespace Go.Proofs.Yteflpaebckichab

/-- p choose k, step by step. -/
def chM (p : Nat) : Nat → Nat
  | 0 => 1
  | k + 1 => chM p k * (p - k) / (k + 1)

/-- How many lists of t trees have c carets together. -/
def listsN (t c : Nat) : Nat := chM (2 * c + t) c * t / (2 * c + t)

/-- How many trees have k carets. -/
def catN : Nat → Nat
  | 0 => 1
  | k + 1 => catN k * 2 * (2 * k + 1) / (k + 2)

theorem chM_le (p : Nat) (hp : p ≤ 40) : ∀ k, k ≤ 8 → chM p k ≤ 40 ^ k := by
  intro k
  induction k with
  | zero => intro _; simp [chM]
  | succ k ih =>
    intro h
    have h1 := ih (by omega)
    rw [chM, Nat.pow_succ]
    refine Nat.le_trans (Nat.div_le_self _ _) ?_
    exact Nat.mul_le_mul h1 (by omega)

theorem chM_bd (p k : Nat) (hp : p ≤ 40) (hk : k ≤ 8) : chM p k ≤ 6553600000000 := by
  have h1 := chM_le p hp k hk
  have h2 : 40 ^ k ≤ 40 ^ 8 := Nat.pow_le_pow_right (by omega) hk
  have h3 : (40 : Nat) ^ 8 = 6553600000000 := by decide
  omega

theorem catN_bd : ∀ k, k ≤ 8 → catN k ≤ 1430 := by decide
theorem lists_cat : ∀ k, k ≤ 8 → listsN 1 k = catN k := by decide

end Go.Proofs.Yteflpaebckichab

/-! CountT -/
namespace Go.Proofs.Yteflpaebckichab
open Go.RowKit

set_option maxHeartbeats 1000000 in
theorem countLists_any (t c : Nat) (w : World) (ht : 1 ≤ t) (ht' : t ≤ 20) (hc : c ≤ 8) :
    Calls Try.prog 120 #[.int .i64 t, .int .i64 c] w fun e w' => e = .returned (.int .i64 (listsN t c)) ∧ w = w' := by
  go_enter Try.func120, Try.ntmps120
  go_wp2_with fail
  go_loop [6, 13] (fun v i => ∃ k : Nat, k ≤ c ∧ i = .int .i64 k ∧ v = .int .i64 (chM (2 * c + t) k)) (fun _ i => c - (intOf i).toNat)
  case atStart => exact ⟨0, Nat.zero_le _, rfl, rfl⟩
  case round =>
    obtain ⟨k, hk, rfl, rfl⟩ := hrel
    have hb := chM_bd (2 * c + t) k (by omega) (by omega)
    by_cases hlt : (k : Int) < c
    · have hb1 : (0 : Int) ≤ (chM (2 * c + t) k : Int) * (2 * (c : Int) + t - k) ∧ (chM (2 * c + t) k : Int) * (2 * (c : Int) + t - k) ≤ 6553600000000 * 40 := by
        have e : (2 * (c : Int) + t - k) = ((2 * c + t - k : Nat) : Int) := by omega
        rw [e, ← Int.natCast_mul]
        have := Nat.mul_le_mul hb (show 2 * c + t - k ≤ 40 by omega)
        omega
      have hs : Hid (((chM (2 * c + t) k : Nat) : Int) * (2 * (c : Int) + t - k) / ((k : Int) + 1) = (chM (2 * c + t) (k + 1) : Nat)) := by
        show _ = _
        have e : (2 * (c : Int) + t - k) = ((2 * c + t - k : Nat) : Int) := by omega
        rw [e, ← Int.natCast_mul, chM]
        rfl
      go_wp2_with fail
      go_round
      case rel => exact ⟨k + 1, by omega, by go_num, by rw [hs.out]⟩
      case measure => simp [intOf]; omega
    · obtain rfl : k = c := by omega
      have hb1 : (0 : Int) ≤ (chM (2 * k + t) k : Int) * (t : Int) ∧ (chM (2 * k + t) k : Int) * (t : Int) ≤ 6553600000000 * 40 := by
        rw [← Int.natCast_mul]
        have := Nat.mul_le_mul hb (show t ≤ 40 by omega)
        omega
      have hs : Hid (((chM (2 * k + t) k : Nat) : Int) * (t : Int) / (2 * (k : Int) + t) = (listsN t k : Nat)) := by
        show _ = _
        unfold listsN
        rw [← Int.natCast_mul]
        have e : (2 * (k : Int) + t) = ((2 * k + t : Nat) : Int) := by omega
        rw [e]
        rfl
      go_wp2_with fail
      go_ret
      exact ⟨ret_int hs.out, rfl⟩

set_option maxHeartbeats 1000000 in
theorem trCount_any (n : Nat) (w : World) (hn : n ≤ 8) :
    Calls Try.prog 116 #[.int .i64 n] w fun e w' => e = .returned (.int .i64 (catN n)) ∧ w = w' := by
  go_enter Try.func116, Try.ntmps116
  go_wp2_with fail
  go_loop [3, 4] (fun v i => ∃ k : Nat, k ≤ n ∧ i = .int .i64 k ∧ v = .int .i64 (catN k)) (fun _ i => n - (intOf i).toNat)
  case atStart => exact ⟨0, Nat.zero_le _, rfl, rfl⟩
  case round =>
    obtain ⟨k, hk, rfl, rfl⟩ := hrel
    have hb := catN_bd k (by omega)
    by_cases hlt : (k : Int) < n
    · have hb1 : (0 : Int) ≤ (catN k : Int) * 2 * (2 * (k : Int) + 1) ∧ (catN k : Int) * 2 * (2 * (k : Int) + 1) ≤ 1000000 := by
        have e : (catN k : Int) * 2 * (2 * (k : Int) + 1) = ((catN k * 2 * (2 * k + 1) : Nat) : Int) := by simp
        rw [e]
        have := Nat.mul_le_mul (Nat.mul_le_mul_right 2 hb) (show 2 * k + 1 ≤ 17 by omega)
        omega
      have hs : Hid ((catN k : Int) * 2 * (2 * (k : Int) + 1) / ((k : Int) + 2) = (catN (k + 1) : Nat)) := by
        show _ = _
        rw [catN]
        simp
      go_wp2_with fail
      go_round
      case rel => exact ⟨k + 1, by omega, by go_num, by rw [hs.out]⟩
      case measure => simp [intOf]; omega
    · obtain rfl : k = n := by omega
      go_wp2_with fail
      go_ret
      exact ⟨rfl, rfl⟩

/-- An answer of a number and a bool. -/
def ansN (o : Option Nat) : Value := .tuple #[.int .i64 (o.getD 0), .bool o.isSome]
def countO (n : Int) : Option Nat := if 0 ≤ n ∧ n ≤ 8 then some (catN n.toNat) else none

theorem specCountTrees_any (n : Int) (w : World) (_lo : -9223372036854775808 ≤ n) (_hi : n ≤ 9223372036854775807) :
    Calls Try.prog 46 #[.int .i64 n] w (Gives (ansN (countO n)) w) := by
  unfold countO
  by_cases h : 0 ≤ n ∧ n ≤ 8
  · rw [if_pos h]
    obtain ⟨k, rfl⟩ : ∃ k : Nat, n = k := ⟨n.toNat, by omega⟩
    have h8 : k ≤ 8 := by omega
    clear h
    go_enter Try.func46, Try.ntmps46
    go_wp2_with fail
    refine (trSize_yes k _ (by omega) (by omega)).mono ?_; rintro e w1 ⟨rfl, rfl⟩
    go_wp2_with fail
    refine (trCount_any k _ h8).mono ?_; rintro e w1 ⟨rfl, rfl⟩
    go_wp2_with fail
    go_ret2
    exact ⟨rfl, Below.refl _ _⟩
  · rw [if_neg h]
    have H : Hid (n < 0 ∨ 8 < n) := show _ ∨ _ by omega
    clear h
    go_enter Try.func46, Try.ntmps46
    go_wp2_with fail
    refine (trSize_no n _ H.out).mono ?_; rintro e w1 ⟨rfl, rfl⟩
    go_wp2_with fail
    go_ret2
    exact ⟨rfl, Below.refl _ _⟩

theorem implCountTrees_any (n : Int) (w : World) (_lo : -9223372036854775808 ≤ n) (_hi : n ≤ 9223372036854775807) :
    Calls Try.prog 45 #[.int .i64 n] w (Gives (ansN (countO n)) w) := by
  unfold countO
  by_cases h1 : n < 0
  · rw [if_neg (by omega)]
    go_enter Try.func45, Try.ntmps45
    go_wp2_with fail
    go_ret2
    exact ⟨rfl, Below.refl _ _⟩
  · by_cases h2 : 8 < n
    · rw [if_neg (by omega)]
      go_enter Try.func45, Try.ntmps45
      go_wp2_with fail
      go_ret2
      exact ⟨rfl, Below.refl _ _⟩
    · rw [if_pos (by omega)]
      obtain ⟨k, rfl⟩ : ∃ k : Nat, n = k := ⟨n.toNat, by omega⟩
      have h8 : k ≤ 8 := by omega
      have hk := fun w => countLists_any 1 k w (by omega) (by omega) h8
      rw [lists_cat k h8] at hk
      clear h1 h2
      go_enter Try.func45, Try.ntmps45
      go_wp2_with fail
      refine (hk _).mono ?_; rintro e w1 ⟨rfl, rfl⟩
      go_wp2_with fail
      go_ret2
      exact ⟨rfl, Below.refl _ _⟩
end Go.Proofs.Yteflpaebckichab

/-! Dw9 -/
namespace Go.Proofs.Yteflpaebckichab
open Go.RowKit

/-- A tree's text, or none. -/
theorem tree_or (s : ByteArray) : (∃ t : Tr, s = t.str ∧ t.carets ≤ 8 ∧ treeOf s = some t) ∨ treeOf s = none := by
  cases h : treeOf s with
  | none => exact .inr rfl
  | some t => obtain ⟨e, hc⟩ := treeOf_some h; exact .inl ⟨t, e, hc, rfl⟩

/-- A place of a row is drawn, and what stands there is told. -/
theorem pickI_any (L : List Int) (n g b : Nat) (c : Bts) (k : Nat) (w : World) (h : Cur w b c k) (hL : ∀ i, i < n → w.cell? ⟨g, i, none⟩ = some (.int .i64 (L.getD i 0))) (hn : n = L.length) (hgb : g ≠ b) (hk : k ≤ 900000000) (h1 : 1 ≤ n) (hm : n ≤ 60000) :
    Calls Try.prog 96 #[.pointer (some ⟨b, 0, none⟩), .int .i64 n] w (fun e w' => ∃ (y : Nat) (z : Int), y < n ∧ z ∈ L ∧ w'.cell? ⟨g, y, none⟩ = some (.int .i64 z) ∧ e = .returned (.int .i64 y) ∧ Turns b c (k + 2) w w') := by
  refine (drawPick_any n b c k w h hk h1 hm).mono ?_
  rintro e w1 ⟨y, hy, rfl, hT⟩
  exact ⟨y, L.getD y 0, hy, getD_memI (by omega), cell_grown hT.2 hgb (hL y hy), rfl, hT⟩
theorem pickS_any (L : List ByteArray) (n g b : Nat) (c : Bts) (k : Nat) (w : World) (h : Cur w b c k) (hL : ∀ i, i < n → w.cell? ⟨g, i, none⟩ = some (.string (L.getD i ⟨#[]⟩))) (hn : n = L.length) (hgb : g ≠ b) (hk : k ≤ 900000000) (h1 : 1 ≤ n) (hm : n ≤ 60000) :
    Calls Try.prog 96 #[.pointer (some ⟨b, 0, none⟩), .int .i64 n] w (fun e w' => ∃ (y : Nat) (z : ByteArray), y < n ∧ z ∈ L ∧ w'.cell? ⟨g, y, none⟩ = some (.string z) ∧ e = .returned (.int .i64 y) ∧ Turns b c (k + 2) w w') := by
  refine (drawPick_any n b c k w h hk h1 hm).mono ?_
  rintro e w1 ⟨y, hy, rfl, hT⟩
  exact ⟨y, L.getD y ⟨#[]⟩, hy, getD_memT (by omega), cell_grown hT.2 hgb (hL y hy), rfl, hT⟩

set_option maxRecDepth 100000 in
set_option maxHeartbeats 1000000 in
theorem drawDropExposed_any (c : Bts) (w : World) (h : InB w c) : Calls Try.prog 27 #[.slice c.a c.n c.cap] w (GivesZI 60 w) := by
  have H := Lib.hid (cur_new h)
  clear h
  go_enter Try.func27, Try.ntmps27
  go_wp2_with fail
  refine (drawTree_any 7 _ c 0 _ H.out (by omega) (by omega)).mono ?_; rintro e w1 ⟨s, hs, rfl, hT, hg⟩
  have HT := Lib.hid hT
  have HG := Lib.hid hg
  clear hT hg
  rcases tree_or s with ⟨t, rfl, htc, _⟩ | hno
  · go_wp2_with fail
    refine (trIs_yes t _ htc).mono ?_; rintro e w2 ⟨rfl, rfl⟩
    go_wp2_with fail
    refine (drawOne_any 3 _ c _ _ HT.out (by omega) (by omega) (by omega)).mono ?_; rintro e w2 ⟨x, rfl, hT, hg⟩
    have HT2 := Lib.hid hT
    have HG2 := Lib.hid (grown_trans HG.out hg)
    clear hT hg
    cases x with
    | true =>
      go_wp2_with fail
      refine (drawPick_any 9 _ c _ _ HT2.out (by omega) (by omega) (by omega)).mono ?_; rintro e w3 ⟨y, hy, rfl, hT, hg⟩
      go_wp2_with fail
      go_ret2
      exact ⟨t.str, (y : Int) - 1, by omega, by omega, by omega, rfl, cur_below (grown_trans HG2.out hg)⟩
    | false =>
      go_wp2_with fail
      refine (trExposed_any t.str _ (by have := t.str_size; omega)).mono ?_; rintro e w3 ⟨v, hO, hb3, rfl⟩
      have hrg := exps_range t 0
      have hlt2 := HT2.out.lt
      rw [t.str_list, exps_text] at hO
      have HT3 := Lib.hid (HT2.out.keep hb3)
      have HG3 := Lib.hid (grown_below HG2.out hb3)
      have hrg2 : Hid (∀ m ∈ t.exps 0, 0 ≤ m ∧ m ≤ 100) := fun m hm => by
        have := hrg m hm
        have := t.str_size
        unfold Tr.leaves at *
        omega
      have hel : (t.exps 0).length ≤ 60 := by have := exps_length t 0; omega
      clear hrg
      generalize t.exps 0 = L at *
      rcases hO.cells with ⟨rfl, rfl⟩ | ⟨g, cap, rfl, h1, h2, h3, h4, h5, h6⟩
      · clear hO hb3
        go_wp2_with fail
        refine (drawPick_any 9 _ c _ _ HT3.out (by omega) (by omega) (by omega)).mono ?_; rintro e w4 ⟨y, hy, rfl, hT, hg⟩
        go_wp2_with fail
        go_ret2
        exact ⟨t.str, (y : Int) - 1, by omega, by omega, by omega, rfl, cur_below (grown_trans HG3.out hg)⟩
      · obtain ⟨n, hn⟩ : ∃ n, n = L.length := ⟨_, rfl⟩
        rw [← hn] at h3 h5 ⊢
        have HN := Lib.hid hn
        have HX := Lib.hid h5
        have hnl : n ≤ 60 := by omega
        clear hO hb3 h5 h6 hn hel
        by_cases h0 : n = 0
        · subst h0
          go_wp2_with fail
          refine (drawPick_any 9 _ c _ _ HT3.out (by omega) (by omega) (by omega)).mono ?_; rintro e w4 ⟨y, hy, rfl, hT, hg⟩
          go_wp2_with fail
          go_ret2
          exact ⟨t.str, (y : Int) - 1, by omega, by omega, by omega, rfl, cur_below (grown_trans HG3.out hg)⟩
        · have h0' : (0 : Int) < (n : Int) := by omega
          go_wp2_with fail
          go_region_with (go_at_call 96; refine (pickI_any L n g _ c _ _ (HT3.out.drewN _) HX.out HN.out (by omega) (by omega) (by omega) (by omega)).mono ?_; rintro e w4 ⟨y, z, hy, hz, c4, rfl, hT, hg⟩; have hy' : (y : Int) < (n : Int) := by omega)
          have HG4 := Lib.hid (grown_trans (show World.grownBy _ w3.drew _ from grown_drew (n := 1) HG3.out) hg)
          have hm := hrg2.out z hz
          go_wp2_with fail
          go_ret2
          exact ⟨t.str, z, by omega, by omega, by omega, rfl, cur_below HG4.out⟩
  · go_wp2_with fail
    refine (trIs_no s _ (by omega) hno).mono ?_; rintro e w2 ⟨rfl, rfl⟩
    go_wp2_with fail
    refine (drawPick_any 9 _ c _ _ HT.out (by omega) (by omega) (by omega)).mono ?_; rintro e w4 ⟨y, hy, rfl, hT, hg⟩
    go_wp2_with fail
    go_ret2
    exact ⟨s, (y : Int) - 1, by omega, by omega, by omega, rfl, cur_below (grown_trans HG.out hg)⟩

set_option maxRecDepth 100000 in
set_option maxHeartbeats 1000000 in
theorem drawIsPartOf_any (c : Bts) (w : World) (h : InB w c) : Calls Try.prog 35 #[.slice c.a c.n c.cap] w (GivesZ2 100 w) := by
  have H := Lib.hid (cur_new h)
  clear h
  go_enter Try.func35, Try.ntmps35
  go_wp2_with fail
  refine (drawTree_any 4 _ c 0 _ H.out (by omega) (by omega)).mono ?_; rintro e w1 ⟨s, hs, rfl, hT, hg⟩
  have HT := Lib.hid hT
  have HG := Lib.hid hg
  clear hT hg
  rcases tree_or s with ⟨t, rfl, htc, _⟩ | hno
  · go_wp2_with fail
    refine (trIs_yes t _ htc).mono ?_; rintro e w2 ⟨rfl, rfl⟩
    go_wp2_with fail
    refine (drawOne_any 3 _ c _ _ HT.out (by omega) (by omega) (by omega)).mono ?_; rintro e w2 ⟨x, rfl, hT, hg⟩
    have HT2 := Lib.hid hT
    have HG2 := Lib.hid (grown_trans HG.out hg)
    clear hT hg
    cases x with
    | true =>
      go_wp2_with fail
      refine (drawTree_any 6 _ c _ _ HT2.out (by omega) (by omega)).mono ?_; rintro e w3 ⟨u, hu, rfl, hT, hg⟩
      go_wp2_with fail
      go_ret2
      exact ⟨t.str, u, by omega, by omega, rfl, cur_below (grown_trans HG2.out hg)⟩
    | false =>
      go_wp2_with fail
      refine (drawPick_any 4 _ c _ _ HT2.out (by omega) (by omega) (by omega)).mono ?_; rintro e w3 ⟨y, hy, rfl, hT, hg⟩
      have HT3 := Lib.hid hT
      have HG3 := Lib.hid (grown_trans HG2.out hg)
      clear hT hg
      go_wp2_with fail
      go_loopw [6, 7] (fun s i wr => ∃ (j : Nat) (u : Tr), j ≤ 3 ∧ u.carets ≤ 11 - j ∧ s = .string u.str ∧ i = .int .i64 j ∧ Hid (Cur wr w.heap.size c (100 - 2 * j)) ∧ Hid ((w.alloc (.cells #[.slice c.a c.n c.cap, .int .i64 0, .int .u64 0] 95 (0, 0))).grownBy wr (some w.heap.size))) (fun _ i _ => (intOf i).toNat)
      case atStart => exact ⟨y, t, by omega, by omega, rfl, rfl, Lib.hid (HT3.out.mono (by omega)), HG3⟩
      case round =>
        obtain ⟨j, u, hj, hu, rfl, rfl, hT, hG⟩ := hrel
        by_cases hlt : 0 < j
        · obtain ⟨j, rfl⟩ : ∃ i, j = i + 1 := ⟨j - 1, by omega⟩
          go_wp2_with fail
          refine (carets_str u _ (by omega)).mono ?_; rintro e w4 ⟨rfl, rfl⟩
          go_wp2_with fail
          refine (drawPick_any (u.carets + 1) _ c _ _ hT.out (by omega) (by omega) (by omega)).mono ?_; rintro e w4 ⟨z, hz, rfl, hT2, hg2⟩
          have HT4 := Lib.hid hT2
          have HG4 := Lib.hid (grown_trans hG.out hg2)
          clear hT2 hg2
          go_wp2_with fail
          rw [two_str]
          refine (graft_at u (.nd .lf .lf) z _ (by unfold Tr.leaves; omega) (by omega) (by decide)).mono ?_; rintro e w5 ⟨rfl, hb2⟩
          have hc2 := graft_carets u (.nd .lf .lf) z (by omega) (by unfold Tr.leaves; omega)
          have hlt4 := HT4.out.lt
          have HT5 := Lib.hid (HT4.out.keep hb2)
          have HG5 := Lib.hid (grown_below HG4.out hb2)
          have hc3 : (u.graft z (.nd .lf .lf)).carets ≤ 11 - j := by rw [hc2]; show _ + 1 ≤ _; omega
          clear hb2 hc2
          generalize u.graft z (.nd .lf .lf) = u2 at *
          go_wp2_with fail
          go_roundw
          case rel => exact ⟨j, u2, by omega, hc3, rfl, by go_num, Lib.hid (HT5.out.mono (by omega)), HG5⟩
          case measure => simp [intOf]
        · obtain rfl : j = 0 := by omega
          go_wp2_with fail
          go_ret2
          exact ⟨t.str, u.str, by omega, by have := u.str_size; omega, rfl, cur_below hG.out⟩
  · go_wp2_with fail
    refine (trIs_no s _ (by omega) hno).mono ?_; rintro e w2 ⟨rfl, rfl⟩
    go_wp2_with fail
    refine (drawTree_any 6 _ c _ _ HT.out (by omega) (by omega)).mono ?_; rintro e w3 ⟨u, hu, rfl, hT, hg⟩
    go_wp2_with fail
    go_ret2
    exact ⟨s, u, by omega, by omega, rfl, cur_below (grown_trans HG.out hg)⟩

/-- A call that draws a text, a number and a text. -/
def GivesZIZ (n : Nat) (w : World) (e : Ending) (w' : World) : Prop := ∃ (s t : ByteArray) (i : Int), s.size ≤ n ∧ t.size ≤ n ∧ -1000000 ≤ i ∧ i ≤ 1000000 ∧ e = .returned (.tuple #[.string s, .int .i64 i, .string t]) ∧ Below w.heap.size w w'
end Go.Proofs.Yteflpaebckichab

/-! Dw10 -/
namespace Go.Proofs.Yteflpaebckichab
open Go.RowKit

set_option maxRecDepth 100000 in
set_option maxHeartbeats 1000000 in
theorem drawSubtreeAt_any (c : Bts) (w : World) (h : InB w c) : Calls Try.prog 37 #[.slice c.a c.n c.cap] w (GivesZ2 100 w) := by
  have H := Lib.hid (cur_new h)
  clear h
  have hoff := fun w1 k (hT : Cur w1 w.heap.size c k) (hk : k ≤ 1000) => drawOf_any [⟨#[]⟩, ⟨#[48]⟩, ⟨#[49]⟩, ⟨#[48, 48]⟩, ⟨#[49, 48]⟩, ⟨#[50]⟩, ⟨#[48, 120]⟩, ⟨#[48, 48, 48, 48, 48, 48, 48, 48, 48, 48]⟩] 8 w1.heap.size 8 w.heap.size c k _ (hT.keep (allocB _ _)) (rowT_alloc w1 [⟨#[]⟩, ⟨#[48]⟩, ⟨#[49]⟩, ⟨#[48, 48]⟩, ⟨#[49, 48]⟩, ⟨#[50]⟩, ⟨#[48, 120]⟩, ⟨#[48, 48, 48, 48, 48, 48, 48, 48, 48, 48]⟩] 9) rfl (by have := hT.lt; omega) (by omega) (by omega) (by omega)
  have hsz : ∀ s ∈ [(⟨#[]⟩ : ByteArray), ⟨#[48]⟩, ⟨#[49]⟩, ⟨#[48, 48]⟩, ⟨#[49, 48]⟩, ⟨#[50]⟩, ⟨#[48, 120]⟩, ⟨#[48, 48, 48, 48, 48, 48, 48, 48, 48, 48]⟩], s.size ≤ 100 := by
    intro s hs
    simp only [List.mem_cons, List.not_mem_nil, or_false] at hs
    rcases hs with rfl | rfl | rfl | rfl | rfl | rfl | rfl | rfl <;> decide
  have HOF := Lib.hid hoff
  have HSZ := Lib.hid hsz
  clear hoff hsz
  go_enter Try.func37, Try.ntmps37
  go_wp2_with fail
  refine (drawTree_any 7 _ c 0 _ H.out (by omega) (by omega)).mono ?_; rintro e w1 ⟨s, hs, rfl, hT, hg⟩
  have HT := Lib.hid hT
  have HG := Lib.hid hg
  clear hT hg
  rcases tree_or s with ⟨t, rfl, htc, _⟩ | hno
  · go_wp2_with fail
    refine (trIs_yes t _ htc).mono ?_; rintro e w2 ⟨rfl, rfl⟩
    go_wp2_with fail
    refine (drawOne_any 5 _ c _ _ HT.out (by omega) (by omega) (by omega)).mono ?_; rintro e w2 ⟨x, rfl, hT, hg⟩
    have HT2 := Lib.hid hT
    have HG2 := Lib.hid (grown_trans HG.out hg)
    clear hT hg
    cases x with
    | true =>
      go_wp2_with fail
      refine (HOF.out _ _ HT2.out (by omega)).mono ?_; rintro e w3 ⟨u, hu, rfl, hT, hg⟩
      have hb3 : Below w.heap.size w w3 := cur_below (grown_trans (grown_below HG2.out (allocB _ _)) hg)
      have hu2 := HSZ.out u hu
      clear hu hT hg
      go_wp2_with fail
      go_ret2
      exact ⟨t.str, u, by omega, by omega, rfl, hb3⟩
    | false =>
      go_wp2_with fail
      refine (trAddresses_any t ⟨#[]⟩ _ (by omega) (by show 0 + _ ≤ _; omega)).mono ?_; rintro e w3 ⟨g, cap, hO, hb3, rfl⟩
      have hsz := addrs_size t ⟨#[]⟩
      have hln := addrs_length t ⟨#[]⟩
      have hge := own_ge hO
      generalize t.addrs ⟨#[]⟩ = L at *
      have hlt2 := HT2.out.lt
      have HT3 := Lib.hid (HT2.out.keep hb3)
      have HG3 := Lib.hid (grown_below HG2.out hb3)
      have hsz2 : Hid (∀ s ∈ L, s.size ≤ 90) := fun s hs => by have := hsz s hs; rw [empty_size] at this; omega
      obtain ⟨n, hn⟩ : ∃ n, n = L.length := ⟨_, rfl⟩
      have hn1 : 1 ≤ n ∧ n ≤ 50 := by omega
      have hL : Hid (∀ i, i < n → w3.cell? ⟨g, i, none⟩ = some (.string (L.getD i ⟨#[]⟩))) := by
        rw [hn]
        rcases hO.cells with ⟨h1, _⟩ | ⟨g2, cap2, h1, _, _, h3, h4, h5, _⟩
        · cases h1
        · simp only [Value.slice.injEq, Option.some.injEq, Addr.mk.injEq, and_true] at h1
          obtain ⟨rfl, _⟩ := h1
          exact h5
      rw [← hn]
      have HN := Lib.hid hn
      clear hsz hln hb3 hO hn
      go_wp2_with fail
      refine (pickS_any L n g _ c _ _ HT3.out hL.out HN.out (by omega) (by omega) (by omega) (by omega)).mono ?_; rintro e w4 ⟨y, z, hy, hz, c4, rfl, hT, hg⟩
      have hy' : (y : Int) < (n : Int) := by omega
      have HT4 := Lib.hid hT
      have HG4 := Lib.hid (grown_trans HG3.out hg)
      have hz2 := hsz2.out z hz
      clear hT hg hz
      go_wp2_with fail
      have hpk2 := drawPick_any (z.size + 1) w.heap.size c _ w4.drew (show Cur w4.drew w.heap.size c _ from HT4.out) (by omega) (by omega) (by omega)
      have hpk3 : ∀ v : Int, v = ((z.size + 1 : Nat) : Int) → Calls Try.prog 96 #[.pointer (some ⟨w.heap.size, 0, none⟩), .int .i64 v] w4.drew _ := fun v hv => by rw [hv]; exact hpk2
      clear hpk2
      clear HOF HSZ
      have HZ : ∀ m, m < z.size + 1 → Hid ((z.extract 0 m).size ≤ 100) := fun m _ => by show _ ≤ _; rw [ByteArray.size_extract]; omega
      go_region_with (go_at_call 96; refine (hpk3 _ (by first | (rw [IntKind.wrap_i64] <;> omega) | (unfold wrap64; omega) | omega)).mono ?_; rintro e w5 ⟨m, hm, rfl, hT, hg⟩; have hm' : (m : Int) ≤ (z.size : Int) := by omega)
      have hb5 : Below w.heap.size w w5 := cur_below (grown_trans (show World.grownBy _ w4.drew _ from grown_drew (n := 1) HG4.out) hg)
      have HZ := HZ m hm
      go_wp2_with fail
      go_ret2
      exact ⟨t.str, z.extract 0 m, by omega, HZ.out, rfl, hb5⟩
  · go_wp2_with fail
    refine (trIs_no s _ (by omega) hno).mono ?_; rintro e w2 ⟨rfl, rfl⟩
    go_wp2_with fail
    refine (HOF.out _ _ HT.out (by omega)).mono ?_; rintro e w3 ⟨u, hu, rfl, hT, hg⟩
    have hb3 : Below w.heap.size w w3 := cur_below (grown_trans (grown_below HG.out (allocB _ _)) hg)
    have hu2 := HSZ.out u hu
    clear hu hT hg
    go_wp2_with fail
    go_ret2
    exact ⟨s, u, by omega, by omega, rfl, hb3⟩

set_option maxRecDepth 100000 in
set_option maxHeartbeats 1000000 in
theorem drawGraftAt_any (c : Bts) (w : World) (h : InB w c) : Calls Try.prog 40 #[.slice c.a c.n c.cap] w (GivesZIZ 100 w) := by
  have H := Lib.hid (cur_new h)
  clear h
  go_enter Try.func40, Try.ntmps40
  go_wp2_with fail
  refine (drawTree_any 5 _ c 0 _ H.out (by omega) (by omega)).mono ?_; rintro e w1 ⟨s, hs, rfl, hT, hg⟩
  have HT := Lib.hid hT
  have HG := Lib.hid hg
  clear hT hg
  go_wp2_with fail
  refine (carets_any s _ (by omega)).mono ?_; rintro e w2 ⟨rfl, rfl⟩
  obtain ⟨hc0, hc1⟩ := cnt_le s s.size
  obtain ⟨q, hq⟩ : ∃ q : Nat, cnt s s.size = q := ⟨(cnt s s.size).toNat, by omega⟩
  rw [hq] at hc0 hc1 ⊢
  clear hq
  go_wp2_with fail
  have hpk := fun w h => drawPick_any (q + 3) w.heap.size c (0 + 2 * 5 + 40) w h (by omega) (by omega) (by omega)
  clear hpk
  have hpk := drawPick_any (q + 3) _ c _ _ HT.out (by omega) (by omega) (by omega)
  push_cast at hpk
  refine hpk.mono ?_; rintro e w2 ⟨y, hy, rfl, hT, hg⟩
  have HT2 := Lib.hid hT
  have HG2 := Lib.hid (grown_trans HG.out hg)
  clear hT hg hpk
  go_wp2_with fail
  refine (drawTree_any 4 _ c _ _ HT2.out (by omega) (by omega)).mono ?_; rintro e w3 ⟨u, hu, rfl, hT, hg⟩
  go_wp2_with fail
  go_ret3
  exact ⟨s, u, (y : Int) - 1, by omega, by omega, by omega, by omega, rfl, cur_below (grown_trans HG2.out hg)⟩

/-- A call that draws a number. -/
def GivesN2 (w : World) (e : Ending) (w' : World) : Prop := ∃ i j : Int, -1 ≤ i ∧ i ≤ 50 ∧ -1 ≤ j ∧ j ≤ 4611686018427387904 ∧ e = .returned (.tuple #[.int .i64 i, .int .i64 j]) ∧ Below w.heap.size w w'
def GivesN1 (w : World) (e : Ending) (w' : World) : Prop := ∃ i : Int, -1 ≤ i ∧ i ≤ 50 ∧ e = .returned (.int .i64 i) ∧ Below w.heap.size w w'
set_option maxRecDepth 100000 in
set_option maxHeartbeats 1000000 in
theorem drawTreeAt_any (c : Bts) (w : World) (h : InB w c) : Calls Try.prog 42 #[.slice c.a c.n c.cap] w (GivesN2 w) := by
  have H := Lib.hid (cur_new h)
  clear h
  have ham := fun w1 k (hT : Cur w1 w.heap.size c k) (hk : k ≤ 1000) => drawAmong_any [-1, 0, 1, 2, 5, 14, 42, 4611686018427387904] 8 w1.heap.size 8 w.heap.size c k _ (hT.keep (allocB _ _)) (rowI_alloc w1 [-1, 0, 1, 2, 5, 14, 42, 4611686018427387904] 3) rfl (by have := hT.lt; omega) (by omega) (by omega) (by omega)
  have hsz : ∀ s ∈ [(-1 : Int), 0, 1, 2, 5, 14, 42, 4611686018427387904], -1 ≤ s ∧ s ≤ 4611686018427387904 := by
    intro s hs
    simp only [List.mem_cons, List.not_mem_nil, or_false] at hs
    omega
  have HOF := Lib.hid ham
  have HSZ := Lib.hid hsz
  clear ham hsz
  go_enter Try.func42, Try.ntmps42
  go_wp2_with fail
  refine (drawCarets_any 5 _ c 0 _ H.out (by omega) (by omega)).mono ?_; rintro e w1 ⟨s, hs1, hs2, rfl, hT, hg⟩
  have HT := Lib.hid hT
  have HG := Lib.hid hg
  clear hT hg
  by_cases hin : 0 ≤ s ∧ s ≤ 8
  · go_wp2_with fail
    refine (trSize_yes s _ hin.1 hin.2).mono ?_; rintro e w2 ⟨rfl, rfl⟩
    go_wp2_with fail
    refine (drawOne_any 4 _ c _ _ HT.out (by omega) (by omega) (by omega)).mono ?_; rintro e w2 ⟨x, rfl, hT, hg⟩
    have HT2 := Lib.hid hT
    have HG2 := Lib.hid (grown_trans HG.out hg)
    clear hT hg
    cases x with
    | true =>
      go_wp2_with fail
      refine (HOF.out _ _ HT2.out (by omega)).mono ?_; rintro e w3 ⟨u, hu, rfl, hT, hg⟩
      have hb3 : Below w.heap.size w w3 := cur_below (grown_trans (grown_below HG2.out (allocB _ _)) hg)
      have hu2 := HSZ.out u hu
      clear hu hT hg
      go_wp2_with fail
      go_ret2
      exact ⟨s, u, by omega, by omega, by omega, by omega, rfl, hb3⟩
    | false =>
      obtain ⟨q, rfl⟩ : ∃ q : Nat, s = q := ⟨s.toNat, by omega⟩
      have hcb := catN_bd q (by omega)
      have hcp : 1 ≤ catN q := by
        have : ∀ k, k ≤ 8 → 1 ≤ catN k := by decide
        exact this q (by omega)
      have htc := trCount_any q
      generalize catN q = m at *
      go_wp2_with fail
      refine (htc _ (by omega)).mono ?_; rintro e w3 ⟨rfl, rfl⟩
      go_wp2_with fail
      refine (drawPick_any m _ c _ _ HT2.out (by omega) (by omega) (by omega)).mono ?_; rintro e w3 ⟨y, hy, rfl, hT, hg⟩
      go_wp2_with fail
      go_ret2
      exact ⟨q, y, by omega, by omega, by omega, by omega, rfl, cur_below (grown_trans HG2.out hg)⟩
  · go_wp2_with fail
    refine (trSize_no s _ (by omega)).mono ?_; rintro e w2 ⟨rfl, rfl⟩
    go_wp2_with fail
    refine (HOF.out _ _ HT.out (by omega)).mono ?_; rintro e w3 ⟨u, hu, rfl, hT, hg⟩
    have hb3 : Below w.heap.size w w3 := cur_below (grown_trans (grown_below HG.out (allocB _ _)) hg)
    have hu2 := HSZ.out u hu
    clear hu hT hg
    go_wp2_with fail
    go_ret2
    exact ⟨s, u, by omega, by omega, by omega, by omega, rfl, hb3⟩
set_option maxRecDepth 100000 in
theorem drawAllTrees_any (c : Bts) (w : World) (h : InB w c) : Calls Try.prog 47 #[.slice c.a c.n c.cap] w (GivesN1 w) := by
  have H := Lib.hid (cur_new h)
  clear h
  go_enter Try.func47, Try.ntmps47
  go_wp2_with fail
  refine (drawCarets_any 5 _ c 0 _ H.out (by omega) (by omega)).mono ?_; rintro e w1 ⟨s, hs1, hs2, rfl, hT, hg⟩
  go_wp2_with fail
  go_ret
  exact ⟨s, hs1, hs2, rfl, cur_below hg⟩
set_option maxRecDepth 100000 in
theorem drawRightComb_any (c : Bts) (w : World) (h : InB w c) : Calls Try.prog 52 #[.slice c.a c.n c.cap] w (GivesN1 w) := by
  have H := Lib.hid (cur_new h)
  clear h
  go_enter Try.func52, Try.ntmps52
  go_wp2_with fail
  refine (drawCarets_any 8 _ c 0 _ H.out (by omega) (by omega)).mono ?_; rintro e w1 ⟨s, hs1, hs2, rfl, hT, hg⟩
  go_wp2_with fail
  go_ret
  exact ⟨s, hs1, hs2, rfl, cur_below hg⟩
set_option maxRecDepth 100000 in
theorem drawRankTree_any (c : Bts) (w : World) (h : InB w c) : Calls Try.prog 55 #[.slice c.a c.n c.cap] w (GivesZ 60 w) := by
  have H := Lib.hid (cur_new h)
  clear h
  go_enter Try.func55, Try.ntmps55
  go_wp2_with fail
  refine (drawTree_any 5 _ c 0 _ H.out (by omega) (by omega)).mono ?_; rintro e w1 ⟨s, hs, rfl, hT, hg⟩
  go_wp2_with fail
  go_ret
  exact ⟨s, by omega, rfl, cur_below hg⟩
end Go.Proofs.Yteflpaebckichab

/-! PrP -/
namespace Go.Proofs.Yteflpaebckichab

/-- A pair of trees. -/
abbrev Pr := Tr × Tr

/-- The left leaves with which both trees have exposed carets. -/
def both (p : Pr) : List Int := (p.1.exps 0).filter fun n => (p.2.exps 0).contains n

/-- Both carets dropped. -/
def dropP (p : Pr) (n : Int) : Pr := (p.1.dropAt n, p.2.dropAt n)

/-- Which of so many a step takes: the first choice modulo their number, or the first one. -/
def pickI (cs : List Int) (k : Nat) : Nat := match cs with
  | [] => 0
  | c :: _ => (c % k).toNat

/-- The reduced pair by choices (fuel: the number of steps that are left at most). -/
def redF : Nat → Pr → List Int → Pr
  | 0, p, _ => p
  | k + 1, p, cs => match both p with
    | [] => p
    | n :: ns => redF k (dropP p ((n :: ns).getD (pickI cs (ns.length + 1)) 0)) cs.tail
def redBy (p : Pr) (cs : List Int) : Pr := redF p.1.carets p cs
def red (p : Pr) : Pr := redBy p []

theorem mem_both {p : Pr} {n : Int} : n ∈ both p ↔ n ∈ p.1.exps 0 ∧ n ∈ p.2.exps 0 := by
  simp [both]

theorem both_length (p : Pr) : (both p).length ≤ p.1.carets :=
  Nat.le_trans (List.length_filter_le _ _) (exps_length _ _)

theorem both_empty {p : Pr} (h : p.1.carets = 0) : both p = [] := by
  have := both_length p
  exact List.length_eq_zero_iff.1 (by omega)

theorem pickI_lt (cs : List Int) (k : Nat) (h : 0 < k) : pickI cs k < k := by
  unfold pickI
  split
  · exact h
  · next c _ =>
    have h1 := Int.emod_lt_of_pos c (show (0 : Int) < k by omega)
    have h2 := Int.emod_nonneg c (show (k : Int) ≠ 0 by omega)
    omega

theorem pick_mem {p : Pr} {n : Int} {ns : List Int} (h : both p = n :: ns) (cs : List Int) : (n :: ns).getD (pickI cs (ns.length + 1)) 0 ∈ both p := by
  rw [h]
  have := pickI_lt cs (ns.length + 1) (by omega)
  rw [List.getD_eq_getElem?_getD, List.getElem?_eq_getElem (by simpa using this)]
  exact List.getElem_mem _

theorem dropP_carets {p : Pr} {n : Int} (h : n ∈ both p) : (dropP p n).1.carets + 1 = p.1.carets ∧ (dropP p n).2.carets + 1 = p.2.carets :=
  ⟨dropAt_carets _ _ (mem_both.1 h).1, dropAt_carets _ _ (mem_both.1 h).2⟩

/-- One step. -/
theorem redBy_step {p : Pr} {n : Int} {ns : List Int} (h : both p = n :: ns) (cs : List Int) :
    redBy p cs = redBy (dropP p ((n :: ns).getD (pickI cs (ns.length + 1)) 0)) cs.tail := by
  have hc := (dropP_carets (pick_mem h cs)).1
  unfold redBy
  obtain ⟨k, hk⟩ : ∃ k, p.1.carets = k + 1 := ⟨p.1.carets - 1, by omega⟩
  rw [hk, redF, h]
  have : (dropP p ((n :: ns).getD (pickI cs (ns.length + 1)) 0)).1.carets = k := by omega
  rw [this]
theorem redBy_end {p : Pr} (h : both p = []) (cs : List Int) : redBy p cs = p := by
  unfold redBy
  cases hk : p.1.carets with
  | zero => rfl
  | succ k => rw [redF, h]

theorem redF_carets (k : Nat) : ∀ (p : Pr) (cs : List Int), (redF k p cs).1.carets ≤ p.1.carets ∧ (redF k p cs).2.carets ≤ p.2.carets ∧ (redF k p cs).1.carets + p.2.carets = (redF k p cs).2.carets + p.1.carets := by
  induction k with
  | zero => intro p cs; simp [redF]; omega
  | succ k ih =>
    intro p cs
    rw [redF]
    split
    · refine ⟨Nat.le_refl _, Nat.le_refl _, by omega⟩
    · next n ns h =>
      have h1 := dropP_carets (pick_mem h cs)
      have h2 := ih (dropP p ((n :: ns).getD (pickI cs (ns.length + 1)) 0)) cs.tail
      omega
theorem redBy_carets (p : Pr) (cs : List Int) : (redBy p cs).1.carets ≤ p.1.carets ∧ (redBy p cs).2.carets ≤ p.2.carets ∧ (redBy p cs).1.carets + p.2.carets = (redBy p cs).2.carets + p.1.carets := redF_carets _ p cs

theorem redF_both (k : Nat) : ∀ (p : Pr) (cs : List Int), p.1.carets ≤ k → both (redF k p cs) = [] := by
  induction k with
  | zero => intro p cs h; rw [redF]; exact both_empty (by omega)
  | succ k ih =>
    intro p cs hk
    rw [redF]
    split
    · next h => exact h
    · next n ns h =>
      have h1 := dropP_carets (pick_mem h cs)
      exact ih _ _ (by omega)
theorem red_both (p : Pr) (cs : List Int) : both (redBy p cs) = [] := redF_both _ p cs (Nat.le_refl _)

/-- A pair is what is left of it just if it is reduced. -/
theorem red_self (p : Pr) : red p = p ↔ both p = [] := by
  constructor
  · intro h; rw [← h]; exact red_both p []
  · exact fun h => redBy_end h []

namespace Tr
/-- What a greater tree has at the leaves of one that is part of it. -/
def subs : Tr → Tr → List Tr
  | lf, g => [g]
  | nd l r, nd p q => l.subs p ++ r.subs q
  | nd _ _, lf => []
/-- A tree with others in place of its leaves, and those that are left. -/
def fillR : Tr → List Tr → Tr × List Tr
  | lf, [] => (lf, [])
  | lf, u :: us => (u, us)
  | nd l r, us => (nd (l.fillR us).1 (r.fillR (l.fillR us).2).1, (r.fillR (l.fillR us).2).2)
def fill (t : Tr) (us : List Tr) : Tr := (t.fillR us).1
end Tr

theorem below_length (a : Tr) : ∀ b : Tr, (a.subs (a.join b)).length = a.leaves := by
  induction a with
  | lf => intro b; rfl
  | nd l r ihl ihr =>
    intro b
    cases b with
    | lf =>
      have h1 := ihl .lf
      have h2 := ihr .lf
      rw [leaves_nd]
      have j : ∀ t : Tr, t.join .lf = t := fun t => by cases t <;> rfl
      rw [j] at h1 h2
      show ((Tr.nd l r).subs (.nd l r)).length = _
      simp [Tr.subs, h1, h2]
    | nd p q =>
      rw [leaves_nd]
      simp [Tr.join, Tr.subs, ihl p, ihr q]

theorem join_comm (a : Tr) : ∀ b : Tr, a.join b = b.join a := by
  induction a with
  | lf => intro b; cases b <;> rfl
  | nd l r ihl ihr =>
    intro b
    cases b with
    | lf => rfl
    | nd p q => simp [Tr.join, ihl p, ihr q]

/-- a is part of g, whose texts below a are told. -/
def sumC (us : List Tr) : Nat := (us.map Tr.carets).sum

theorem sumC_cons (u : Tr) (us : List Tr) : sumC (u :: us) = u.carets + sumC us := by simp [sumC]
theorem sumC_append (us vs : List Tr) : sumC (us ++ vs) = sumC us + sumC vs := by simp [sumC]

theorem below_carets (a : Tr) : ∀ g : Tr, a.part g = true → a.carets + sumC (a.subs g) = g.carets ∧ (a.subs g).length = a.leaves := by
  induction a with
  | lf => intro g _; simp [Tr.subs, sumC, Tr.carets, Tr.leaves]
  | nd l r ihl ihr =>
    intro g h
    cases g with
    | lf => simp [Tr.part] at h
    | nd p q =>
      simp [Tr.part] at h
      have h1 := ihl p h.1
      have h2 := ihr q h.2
      rw [leaves_nd]
      simp only [Tr.subs, sumC_append, Tr.carets, List.length_append]
      omega

theorem part_refl (a : Tr) : a.part a = true := by
  induction a with
  | lf => rfl
  | nd l r ihl ihr => simp [Tr.part, ihl, ihr]

theorem part_join (a : Tr) : ∀ b : Tr, a.part (a.join b) = true := by
  induction a with
  | lf => intro b; rfl
  | nd l r ihl ihr =>
    intro b
    cases b with
    | lf => show (Tr.nd l r).part (.nd l r) = true; exact part_refl _
    | nd p q => simp [Tr.join, Tr.part, ihl p, ihr q]
theorem part_join' (a b : Tr) : b.part (a.join b) = true := by rw [join_comm]; exact part_join b a

theorem fillR_carets (t : Tr) : ∀ us : List Tr, t.leaves ≤ us.length → (t.fillR us).1.carets + sumC (t.fillR us).2 = t.carets + sumC us ∧ (t.fillR us).2.length + t.leaves = us.length := by
  induction t with
  | lf =>
    intro us h
    cases us with
    | nil => simp [Tr.leaves] at h
    | cons u us => simp [Tr.fillR, sumC_cons, Tr.carets, Tr.leaves]
  | nd l r ihl ihr =>
    intro us h
    rw [leaves_nd] at *
    have h1 := ihl us (by omega)
    have h2 := ihr (l.fillR us).2 (by omega)
    simp only [Tr.fillR, Tr.carets]
    omega

theorem fill_carets (t : Tr) (us : List Tr) (h : us.length = t.leaves) : (t.fill us).carets = t.carets + sumC us := by
  have h1 := fillR_carets t us (by omega)
  have : (t.fillR us).2 = [] := List.length_eq_zero_iff.1 (by omega)
  rw [this] at h1
  have h2 := h1.1
  show (t.fillR us).1.carets = _
  simp [sumC] at h2 ⊢
  exact h2

/-- The text of a tree with texts in place of its leaves: the texts that are left. -/
def fillL : List UInt8 → List ByteArray → List UInt8
  | [], _ => []
  | c :: r, us => if c = 46 then (us.getD 0 ⟨#[]⟩).data.toList ++ fillL r us.tail else c :: fillL r us

theorem fillL_text (t : Tr) : ∀ (us : List Tr) (q : List UInt8), t.leaves ≤ us.length → fillL (t.text ++ q) (us.map Tr.str) = (t.fillR us).1.text ++ fillL q ((t.fillR us).2.map Tr.str) := by
  induction t with
  | lf =>
    intro us q h
    cases us with
    | nil => simp [Tr.leaves] at h
    | cons u us => simp [Tr.fillR, Tr.text, fillL, Tr.str_list]
  | nd l r ihl ihr =>
    intro us q h
    rw [leaves_nd] at h
    have e : (Tr.nd l r).text ++ q = 40 :: (l.text ++ (r.text ++ (41 :: q))) := by simp [Tr.text]
    have h1 := fillR_carets l us (by omega)
    rw [e, fillL, if_neg (by decide), ihl us _ (by omega), ihr _ _ (by omega), fillL, if_neg (by decide)]
    simp [Tr.fillR, Tr.text]

theorem fill_text (t : Tr) (us : List Tr) (h : us.length = t.leaves) : fillL t.text (us.map Tr.str) = (t.fill us).text := by
  have := fillL_text t us [] (by omega)
  show _ = (t.fillR us).1.text
  simpa [fillL] using this

/-- The product, before it is reduced. -/
def rawP (p q : Pr) : Pr := (p.1.fill (p.2.subs (p.2.join q.1)), q.2.fill (q.1.subs (p.2.join q.1)))
/-- The product. -/
def mulP (p q : Pr) : Pr := red (rawP p q)
def invP (p : Pr) : Pr := (p.2, p.1)
/-- A pair: as many leaves. -/
def okP (p : Pr) : Prop := p.1.carets = p.2.carets

theorem rawP_carets {p q : Pr} (hp : okP p) (hq : okP q) : (rawP p q).1.carets = (p.2.join q.1).carets ∧ (rawP p q).2.carets = (p.2.join q.1).carets := by
  unfold okP at *
  have h1 := below_carets p.2 _ (part_join p.2 q.1)
  have h2 := below_carets q.1 _ (part_join' p.2 q.1)
  have f1 := fill_carets p.1 (p.2.subs (p.2.join q.1)) (by rw [h1.2]; simp [Tr.leaves, hp])
  have f2 := fill_carets q.2 (q.1.subs (p.2.join q.1)) (by rw [h2.2]; simp [Tr.leaves, hq])
  show (p.1.fill _).carets = _ ∧ (q.2.fill _).carets = _
  omega
theorem rawP_ok {p q : Pr} (hp : okP p) (hq : okP q) : okP (rawP p q) := by
  have := rawP_carets hp hq; unfold okP; omega
theorem red_ok {p : Pr} (hp : okP p) (cs : List Int) : okP (redBy p cs) := by
  have := redBy_carets p cs; unfold okP at *; omega
theorem mulP_ok {p q : Pr} (hp : okP p) (hq : okP q) : okP (mulP p q) := red_ok (rawP_ok hp hq) []
theorem mulP_carets {p q : Pr} (hp : okP p) (hq : okP q) : (mulP p q).1.carets ≤ p.2.carets + q.1.carets := by
  have h1 := rawP_carets hp hq
  have h2 := redBy_carets (rawP p q) []
  have h3 := join_carets p.2 q.1
  show (redBy _ _).1.carets ≤ _
  omega
end Go.Proofs.Yteflpaebckichab

/-! PairOf -/
namespace Go.Proofs.Yteflpaebckichab

/-- The pair of two texts, if they are one. -/
def pairOf (a b : ByteArray) : Option Pr :=
  match treeOf a, treeOf b with
  | some t, some u => if t.carets = u.carets then some (t, u) else none
  | _, _ => none

theorem pairOf_some {a b : ByteArray} {p : Pr} (h : pairOf a b = some p) : a = p.1.str ∧ b = p.2.str ∧ okP p ∧ p.1.carets ≤ 8 ∧ p.2.carets ≤ 8 := by
  unfold pairOf at h
  split at h
  · next t u ht hu =>
    split at h
    · next hc =>
      injection h with h
      subst h
      obtain ⟨rfl, h1⟩ := treeOf_some ht
      obtain ⟨rfl, h2⟩ := treeOf_some hu
      exact ⟨rfl, rfl, hc, h1, h2⟩
    · simp at h
  · simp at h

theorem pairOf_str {p : Pr} (h : okP p) (k : p.1.carets ≤ 8) : pairOf p.1.str p.2.str = some p := by
  unfold pairOf
  rw [treeOf_str p.1 k, treeOf_str p.2 (by unfold okP at h; omega)]
  simp [show p.1.carets = p.2.carets from h]

/-- The texts are no pair: why. -/
theorem pairOf_none {a b : ByteArray} (h : pairOf a b = none) : treeOf a = none ∨ (∃ t : Tr, a = t.str ∧ t.carets ≤ 8 ∧ treeOf b = none) ∨ ∃ t u : Tr, a = t.str ∧ b = u.str ∧ t.carets ≤ 8 ∧ u.carets ≤ 8 ∧ ¬ t.carets = u.carets := by
  cases ha : treeOf a with
  | none => exact .inl rfl
  | some t =>
    obtain ⟨rfl, h1⟩ := treeOf_some ha
    cases hb : treeOf b with
    | none => exact .inr (.inl ⟨t, rfl, h1, rfl⟩)
    | some u =>
      obtain ⟨rfl, h2⟩ := treeOf_some hb
      refine .inr (.inr ⟨t, u, rfl, rfl, h1, h2, ?_⟩)
      intro e
      unfold pairOf at h
      rw [ha, hb] at h
      simp [e] at h
end Go.Proofs.Yteflpaebckichab

/-! PairK -/
namespace Go.Proofs.Yteflpaebckichab
open Go.RowKit

theorem two_cells {w : World} {g : Nat} {u v : Value} {t : TypeId} (h : w.heap[g]? = some (.cells #[u, v] t (0, 0))) : w.cell? ⟨g, 0, none⟩ = some u ∧ w.cell? ⟨g, 1, none⟩ = some v := by
  simp [World.cell?, h]
theorem two_facts {w : World} {g : Nat} {u v : Value} {t : TypeId} (h : w.heap[g]? = some (.cells #[u, v] t (0, 0))) : w.cell? ⟨g, 0, none⟩ = some u ∧ w.cell? ⟨g, 1, none⟩ = some v ∧ g < w.heap.size :=
  ⟨(two_cells h).1, (two_cells h).2, lt_of_block h⟩
theorem keep_two {w w' : World} {g : Nat} {u v : Value} (hb : Below w.heap.size w w') (hg : g < w.heap.size) (h : w.cell? ⟨g, 0, none⟩ = some u ∧ w.cell? ⟨g, 1, none⟩ = some v) : w'.cell? ⟨g, 0, none⟩ = some u ∧ w'.cell? ⟨g, 1, none⟩ = some v :=
  ⟨(hb.cell (p := ⟨g, 0, none⟩) hg).trans h.1, (hb.cell (p := ⟨g, 1, none⟩) hg).trans h.2⟩


theorem two_frozen {w : World} {g : Nat} {u v : Value} {t : TypeId} (h : w.heap[g]? = some (.cells #[u, v] t (0, 0))) : w.frozen? ⟨g, 0, none⟩ = false ∧ w.frozen? ⟨g, 1, none⟩ = false := by
  simp [World.frozen?, h]
theorem set_first {w : World} {g : Nat} {u v u' : Value} {t : TypeId} (h : w.heap[g]? = some (.cells #[u, v] t (0, 0))) : (w.setCell ⟨g, 0, none⟩ u').heap[g]? = some (.cells #[u', v] t (0, 0)) := Joins.block_setCell h u'
theorem set_second {w : World} {g : Nat} {u v v' : Value} {t : TypeId} (h : w.heap[g]? = some (.cells #[u, v] t (0, 0))) : (w.setCell ⟨g, 1, none⟩ v').heap[g]? = some (.cells #[u, v'] t (0, 0)) := Joins.block_setCell h v'
theorem set_two {w : World} {g : Nat} {u v : Value} (u' v' : Value) {t : TypeId} (h : w.heap[g]? = some (.cells #[u, v] t (0, 0))) : ((w.setCell ⟨g, 0, none⟩ u').setCell ⟨g, 1, none⟩ v').heap[g]? = some (.cells #[u', v'] t (0, 0)) := set_second (set_first h)
theorem heap_keep {w w' : World} {g : Nat} {o : Obj} (hb : Below w.heap.size w w') (h : w.heap[g]? = some o) : w'.heap[g]? = some o := (hb.block g (lt_of_block h)).trans h


def pS1 (o : Option Pr) : ByteArray := match o with
  | some p => p.1.str
  | none => ⟨#[]⟩
def pS2 (o : Option Pr) : ByteArray := match o with
  | some p => p.2.str
  | none => ⟨#[]⟩
/-- An answer of a pair and a bool. -/
def ansPr (o : Option Pr) : Value := .tuple #[.agg #[.string (pS1 o), .string (pS2 o)], .bool o.isSome]
end Go.Proofs.Yteflpaebckichab

/-! RegT -/
namespace Go.Proofs.Yteflpaebckichab
open Go.RowKit

section
variable {P : Program} {ops : Array Oper} {md : Region.Mode} {C : World → Prop}

/-- Whatever order is drawn for the first n operations. -/
def headQ (P : Program) (md : Region.Mode) (ops : Array Oper) (C : World → Prop) (n : Nat) (L : Array Bool → Act → Prop) : Nat → Array Bool → Act → Prop
  | 0, listed, a => L listed a
  | f + 1, listed, a => Region.ready md ops listed ≠ [] ∧ ∀ i ∈ Region.ready md ops listed, i < n ∧ qOp P ops C i (headQ P md ops C n L f (listed.setIfInBounds i true)) a

theorem any_of_headQ {n g : Nat} {L : Array Bool → Act → Prop} {Q' : Exit → Act → World → Prop} (hL : ∀ listed a w, C w → L listed a → wpAny P md ops Q' g listed a w) :
    ∀ (f : Nat) (listed : Array Bool) (a : Act) (w : World), C w → headQ P md ops C n L f listed a → wpAny P md ops Q' (f + g) listed a w
  | 0, listed, a, w, hw, h => by rw [Nat.zero_add]; exact hL _ _ _ hw h
  | f + 1, listed, a, w, hw, h => by
    rw [Nat.add_right_comm]
    exact ⟨fun h0 => absurd h0 h.1, fun i hi => wpOp_of_qOp hw (fun a' w' hw' h' => any_of_headQ hL f _ a' w' hw' h') (h.2 i hi).2⟩

theorem headQ_first {n i : Nat} {oi : Oper} {v : Value} {L : Array Bool → Act → Prop} (hi : ops[i]? = some oi) (hsel : ∀ (j : Nat) (o : Oper) cs b, ops[j]? = some o → o.op ≠ .select cs b)
    (hs : Region.sinkB md ops n = true) (hc : Region.chainB md ops n = true) (hn : n < ops.size) (hin : i < n)
    (hdone : ∀ listed a, L listed a → ∀ j ∈ Region.ready md ops listed, n ≤ j) :
    ∀ (f : Nat) (listed : Array Bool) (a : Act), HeadInv md ops n listed →
      (∀ j oj, ops[j]? = some oj → j ≠ i → listed.getD j true = false → (∀ e ∈ oj.after, Region.binds md e = true → e.on ≠ i) → oi.apart ops oj = true) →
      i ∈ Region.ready md ops listed → YieldsIn P ops C oi v a →
      headQ P md ops C n L f (listed.setIfInBounds i true) (a.put oi.dst v) → headQ P md ops C n L (f + 1) listed a := by
  intro f
  induction f with
  | zero =>
    intro listed a inv _ hr hy H
    have hun := (mem_ready.1 hr).1
    refine ⟨(List.ne_nil_of_mem hr), fun j hj => ?_⟩
    have hjn : j < n := Nat.lt_of_not_le fun h => tail_waits hs hc hn inv _ i rfl hin hun j h hj
    refine ⟨hjn, ?_⟩
    by_cases hji : j = i
    · subst hji; exact hy.qOp hi H
    · have := hdone _ _ H j (ready_mono hj hji)
      omega
  | succ f ih =>
    intro listed a inv hfree hr hy H
    have hun := (mem_ready.1 hr).1
    refine ⟨(List.ne_nil_of_mem hr), fun j hj => ?_⟩
    have hjn : j < n := Nat.lt_of_not_le fun h => tail_waits hs hc hn inv _ i rfl hin hun j h hj
    refine ⟨hjn, ?_⟩
    by_cases hji : j = i
    · subst hji; exact hy.qOp hi H
    · have k1 := (H.2 j (ready_mono hj hji)).2
      obtain ⟨hjun, oj, hoj, hall⟩ := mem_ready.1 hj
      have hnot : ∀ e ∈ oj.after, Region.binds md e = true → e.on ≠ i := by
        intro e he hb heq
        have k2 := hall e he hb
        rw [heq, getD_both hun] at k2
        cases k2
      have k3 := qOp_put hoj (hfree j oj hoj hji hjun hnot) (fun cs b => hsel i oi cs b hi) (fun cs b => hsel j oj cs b hoj) hy k1
      refine qOp_mono (fun a' k4 => ih (listed.setIfInBounds j true) a' (inv.set hj hjn) ?_ (ready_mono hr (Ne.symm hji)) k4.1 ?_) k3
      · intro k ok hk hki hunk hno
        refine hfree k ok hk hki ?_ hno
        by_cases hjk : j = k
        · subst hjk; exact hjun
        · rw [getD_set_ne true hjk] at hunk; exact hunk
      · rw [Array.setIfInBounds_comm _ _ hji]
        exact k4.2

theorem headQ_lex {n g : Nat} {Lq : Act → Prop} (hsel : Region.noSelect ops = true) (hs : Region.sinkB md ops n = true) (hc : Region.chainB md ops n = true) (hn : n < ops.size) :
    ∀ (l : List Oper) (k : Nat) (listed : Array Bool) (a : Act), (∀ j, j < l.length → l[j]? = ops[k + j]?) → k + l.length = n → HeadInv md ops n listed →
    Region.lexHead md ops g l.length k listed = true → wpQuiet P ops C Lq l a →
    headQ P md ops C n (fun listed' a' => Region.seqB md ops g n listed' = true ∧ Lq a') l.length listed a
  | [], k, listed, a, _, hk, _, hB, h => by
    obtain rfl : k = n := by simpa using hk
    exact ⟨by simpa [Region.lexHead] using hB, h⟩
  | o :: l, k, listed, a, hl, hk, inv, hB, h => by
    have h0 : ops[k]? = some o := by simpa using (hl 0 (by simp)).symm
    simp only [List.length_cons, Region.lexHead, Bool.and_eq_true] at hB
    obtain ⟨⟨hr, hf⟩, hB'⟩ := hB
    have hkn : k < n := by simp only [List.length_cons] at hk; omega
    have hr' : k ∈ Region.ready md ops listed := by simpa using hr
    have hst : qOp P ops C k (wpQuiet P ops C Lq l) a := by unfold qOp; simp only [h0]; exact h
    obtain ⟨v, hy, hK⟩ := yieldsIn_of_qOp h0 hst
    refine headQ_first h0 (Region.noSelect_spec hsel) hs hc hn hkn (fun listed' a' hL => seqB_ready hL.1) l.length listed a inv (Region.free_spec h0 hf) hr' hy ?_
    refine headQ_lex hsel hs hc hn l (k + 1) _ _ (fun j hj => ?_) (by simp only [List.length_cons] at hk; omega) (inv.set hr' hkn) hB' hK
    have := hl (j + 1) (by simp; omega)
    simpa [Nat.add_assoc, Nat.add_comm 1 j] using this

/-- The first n operations are quiet in the class; the rest is walked in each of its worlds. -/
theorem wp_region_headQ {id : Nat} {Q : Exit → Act → World → Prop} {a : Act} {w : World} {l : List Oper} (n : Nat) (hm : P.follows .mixedOrders = true) (hB : Region.lexTailB .any l.toArray n = true) (hC : C w.drew)
    (h : wpQuiet P l.toArray C (fun a' => ∀ w', C w' → wpList P l.toArray Q (l.drop n) a' w') (l.take n) a) : (Code.region id l.toArray true).wp P Q a w := by
  simp only [Region.lexTailB, Bool.and_eq_true, decide_eq_true_eq] at hB
  obtain ⟨⟨⟨⟨hsel, hn⟩, hs⟩, hc⟩, hlex⟩ := hB
  have hn' : n < l.length := by simpa using hn
  have htl : (l.take n).length = n := by simp; omega
  have hdl : (l.drop n).length = l.toArray.size - n := by simp
  have inv0 : HeadInv .any l.toArray n (Array.replicate l.toArray.size false) := by
    refine ⟨by simp, fun j oj _ hl => ?_, fun t _ ht => getD_in (by simpa using ht) (getD_replicate_false _ _)⟩
    rw [getD_replicate_false] at hl; cases hl
  have H := headQ_lex (md := .any) (C := C) (g := l.toArray.size - n) hsel hs hc hn (l.take n) 0 _ a (fun j hj => by
    have hj' : j < n := by rw [htl] at hj; exact hj
    simp [hj']) (by simpa using htl) inv0 (by rw [htl]; exact hlex) h
  refine wp_region_any hm ?_
  have := any_of_headQ (Q' := Q) (g := l.toArray.size - n) (fun listed a' w' hw' hL => by
    have := wpAny_of_seq (md := .any) (Q' := Q) (l.drop n) n listed a' w' (fun j => by simp [List.getElem?_drop]) (by rw [hdl]; exact hL.1) (hL.2 w' hw')
    rwa [hdl] at this) _ _ _ _ hC H
  rw [htl, show n + (l.toArray.size - n) = l.toArray.size by omega] at this
  exact this
end

/-- The worlds that leave what was there. -/
def Cls (w w' : World) : Prop := Below w.heap.size w w'
theorem Cls.cell {w w' : World} (h : Cls w w') {g i : Nat} {v : Value} (hg : g < w.heap.size) (hc : w.cell? ⟨g, i, none⟩ = some v) : w'.cell? ⟨g, i, none⟩ = some v := (Below.cell h (p := ⟨g, i, none⟩) hg).trans hc
theorem Cls.call {P : Program} {f : FuncId} {args : Array Value} {w w' : World} {v : Value} (h : Cls w w') (k : Calls P f args w' (Gives v w')) : Calls P f args w' fun e w'' => e = .returned v ∧ Cls w w'' :=
  k.mono fun _ _ ⟨he, hb⟩ => ⟨he, nx h hb⟩

theorem wp_region_cls {P : Program} {id : Nat} {Q : Exit → Act → World → Prop} {a : Act} {w : World} {l : List Oper} (hm : P.follows .mixedOrders = true) (hB : Region.lexB .any l.toArray = true)
    (h : wpQuiet P l.toArray (Cls w) (fun a' => ∀ w', Cls w w' → Q .normal a' w') l a) : (Code.region id l.toArray true).wp P Q a w :=
  wp_region_quiet (C := Cls w) hm hB ((Below.refl _ _).drew) (by simpa using h)

theorem wp_region_clsT {P : Program} {id : Nat} {Q : Exit → Act → World → Prop} {a : Act} {w : World} {l : List Oper} (n : Nat) (hm : P.follows .mixedOrders = true) (hB : Region.lexTailB .any l.toArray n = true)
    (h : wpQuiet P l.toArray (Cls w) (fun a' => ∀ w', Cls w w' → wpList P l.toArray Q (l.drop n) a' w') (l.take n) a) : (Code.region id l.toArray true).wp P Q a w :=
  wp_region_headQ n hm hB ((Below.refl _ _).drew) h
end Go.Proofs.Yteflpaebckichab

/-! Dw11 -/
namespace Go.Proofs.Yteflpaebckichab
open Go.RowKit

theorem grown_block {w w' : World} {b g : Nat} {o : Obj} (h : w.grownBy w' (some b)) (ho : w.heap[g]? = some o) (hg : g ≠ b) : w'.heap[g]? = some o :=
  (h.block g (lt_of_block ho) (fun e => by cases e; exact hg rfl)).trans ho
theorem grown_setN {w w' : World} {r : Option Nat} {g i : Nat} {v : Value} (h : w.grownBy w' r) (hg : w.heap.size ≤ g) : w.grownBy (w'.setCell ⟨g, i, none⟩ v) r :=
  ⟨h.os, h.tape, h.output, by simpa using h.size, fun k hk hr => (heap_setCell_other w' ⟨g, i, none⟩ k v (fun e => by have : k = g := e; omega)).trans (h.block k hk hr)⟩
theorem Cur.set {w : World} {b g i : Nat} {v : Value} {c : Bts} {k : Nat} (h : Cur w b c k) (hg : b < g) : Cur (w.setCell ⟨g, i, none⟩ v) b c k :=
  h.grown (grown_setD w g i v) (fun x hx => by cases hx; exact hg)
theorem grown_alloc (w : World) (o : Obj) (r : Option Nat) : w.grownBy (w.alloc o) r := grown_below (grown_refl w r) (allocB w o)

/-- A call that draws a pair of texts of bounded size. -/
def DrawQ (n b : Nat) (c : Bts) (k : Nat) (w : World) (e : Ending) (w' : World) : Prop := ∃ s t : ByteArray, s.size ≤ n ∧ t.size ≤ n ∧ e = .returned (.agg #[.string s, .string t]) ∧ Turns b c k w w'
/-- A call that draws a pair of so many carets at most. -/
def DrawP (n b : Nat) (c : Bts) (k : Nat) (w : World) (e : Ending) (w' : World) : Prop := ∃ p : Pr, okP p ∧ p.1.carets ≤ n ∧ e = .returned (.agg #[.string p.1.str, .string p.2.str]) ∧ Turns b c k w w'

set_option maxRecDepth 100000 in
set_option maxHeartbeats 1000000 in
theorem surePair_any (n b : Nat) (c : Bts) (k : Nat) (w : World) (h : Cur w b c k) (hk : k ≤ 700000000) (hn : n ≤ 100) :
    Calls Try.prog 141 #[.pointer (some ⟨b, 0, none⟩), .int .i64 n] w (fun e w' => ∃ p : Pr, p.1.carets = n ∧ p.2.carets = n ∧ e = .returned (.agg #[.string p.1.str, .string p.2.str]) ∧ Turns b c (k + 4 * n) w w') := by
  have hlt := h.lt
  have H := Lib.hid (h.keep (allocB w (.cells #[.string ⟨#[]⟩, .string ⟨#[]⟩] 59 (0, 0))))
  have hx := heap_alloc_at w (.cells #[.string ⟨#[]⟩, .string ⟨#[]⟩] 59 (0, 0))
  have hg0 := grown_alloc w (.cells #[.string ⟨#[]⟩, .string ⟨#[]⟩] 59 (0, 0)) (some b)
  clear h
  go_enter Try.func141, Try.ntmps141
  go_wp2_with fail
  refine (sureTree_any n b c k _ H.out (by omega) (by omega)).mono ?_; rintro e w1 ⟨t, ht, rfl, hT, hg⟩
  have HT := Lib.hid hT
  have HG := Lib.hid (grown_trans hg0 hg)
  have hx1 := grown_block hg hx (by omega)
  clear hT hg
  go_wp2_with fail
  refine (sureTree_any n b c _ _ HT.out (by omega) (by omega)).mono ?_; rintro e w2 ⟨u, hu, rfl, hT, hg⟩
  have HT2 := Lib.hid hT
  have HG2 := Lib.hid (grown_trans HG.out hg)
  have hx2 := grown_block hg hx1 (by omega)
  clear hT hg hx hx1
  obtain ⟨hxa, hxb, hxc⟩ := two_facts hx2
  obtain ⟨hxf, hxg⟩ := two_frozen hx2
  go_wp2_with fail
  obtain ⟨q1, q2⟩ := two_cells (set_two (.string t.str) (.string u.str) hx2)
  refine bodyPost_ret (v := .agg #[.string t.str, .string u.str]) (by simp [q1, q2, results, Try.results141, go_sem]) rfl ⟨(t, u), ht, hu, rfl, ?_, ?_⟩
  · exact ((HT2.out.mono (by omega)).set hlt).set hlt
  · exact grown_setN (grown_setN HG2.out (Nat.le_refl _)) (Nat.le_refl _)

set_option maxRecDepth 100000 in
set_option maxHeartbeats 4000000 in
theorem drawPair_any (m b : Nat) (c : Bts) (k : Nat) (w : World) (h : Cur w b c k) (hk : k ≤ 600000000) (hm : m ≤ 50)
    (hgen : ∀ (i : Nat) (w : World), i < 4 → Calls Try.prog 156 #[.int .i64 i] w (fun e w' => ∃ s t : ByteArray, s.size ≤ 60 ∧ t.size ≤ 60 ∧ e = .returned (.agg #[.string s, .string t]) ∧ Below w.heap.size w w')) :
    Calls Try.prog 128 #[.pointer (some ⟨b, 0, none⟩), .int .i64 m] w (DrawQ (3 * m + 60) b c (k + 6 * m + 200) w) := by
  have hlt := h.lt
  have H := Lib.hid (h.keep (allocB w (.cells #[.string ⟨#[]⟩, .string ⟨#[]⟩] 59 (0, 0))))
  have hr := heap_alloc_at w (.cells #[.string ⟨#[]⟩, .string ⟨#[]⟩] 59 (0, 0))
  have hg0 := Lib.hid (grown_alloc w (.cells #[.string ⟨#[]⟩, .string ⟨#[]⟩] 59 (0, 0)) (some b))
  have hGEN := Lib.hid hgen
  clear h hgen
  go_enter Try.func128, Try.ntmps128
  go_wp2_with fail
  refine (drawPick_any (m + 1) b c k _ H.out (by omega) (by omega) (by omega)).mono ?_; rintro e w1 ⟨x, hx, rfl, hT, hg⟩
  have HT := Lib.hid hT
  have HG := Lib.hid (grown_trans hg0.out hg)
  have hr1 := grown_block hg hr (by omega)
  clear hT hg hr
  go_wp2_with fail
  refine (surePair_any x b c _ _ HT.out (by omega) (by omega)).mono ?_; rintro e w2 ⟨p, hp1, hp2, rfl, hT, hg⟩
  have HT2 := Lib.hid hT
  have HG2 := Lib.hid (grown_trans HG.out hg)
  have hr2 := grown_block hg hr1 (by omega)
  have hlt2 := lt_of_block hr2
  have s1 := p.1.str_size
  have s2 := p.2.str_size
  have hz1 : p.1.str.size ≤ 3 * m + 1 := by omega
  have hz2 : p.2.str.size ≤ 3 * m + 1 := by omega
  clear hT hg hr1 s1 s2 hp1 hp2
  generalize p.1.str = s at *
  generalize p.2.str = t at *
  have hx3 := heap_alloc_at w2 (.cells #[.string s, .string t] 59 (0, 0))
  have hr3 := heap_keep (allocB w2 (.cells #[.string s, .string t] 59 (0, 0))) hr2
  have HT3 := Lib.hid (HT2.out.keep (allocB w2 (.cells #[.string s, .string t] 59 (0, 0))))
  have HG3 := Lib.hid (grown_below HG2.out (allocB w2 (.cells #[.string s, .string t] 59 (0, 0))))
  obtain ⟨g, hg9⟩ : ∃ g, g = w2.heap.size := ⟨_, rfl⟩
  rw [← hg9] at hx3
  have hgw : w.heap.size < g := by omega
  clear hr2 hlt2
  go_wp2_with fail
  rw [← hg9]
  refine (drawPick_any 14 b c _ _ HT3.out (by omega) (by omega) (by omega)).mono ?_; rintro e w4 ⟨y, hy, rfl, hT, hg⟩
  have HT4 := Lib.hid hT
  have HG4 := Lib.hid (grown_trans HG3.out hg)
  have hx4 := grown_block hg hx3 (by omega)
  have hr4 := grown_block hg hr3 (by omega)
  clear hT hg hx3 hr3 HG3 hg9
  obtain ⟨hp4a, hp4b, hp4c⟩ := two_facts hx4
  obtain ⟨hp4f, hp4g⟩ := two_frozen hx4
  by_cases h0 : y = 0
  · subst h0
    go_wp2_with fail
    refine (drawTree_any m b c _ _ HT4.out (by omega) (by omega)).mono ?_; rintro e w5 ⟨z, hz, rfl, hT, hg⟩
    have hx5 := grown_block hg hx4 (by omega)
    have hr5 := grown_block hg hr4 (by omega)
    have HT5 := Lib.hid (hT.set (i := 1) (v := .string z) (show b < g by omega))
    have HG5 := Lib.hid (grown_setN (i := 1) (v := .string z) (grown_trans HG4.out hg) (show w.heap.size ≤ g by omega))
    clear hT hg hp4a hp4b hp4c hp4f hp4g hx4 hr4
    obtain ⟨hp5a, hp5b, hp5c⟩ := two_facts hx5
    obtain ⟨hp5f, hp5g⟩ := two_frozen hx5
    have hx6 := set_second (v' := .string z) hx5
    have hr6 : (w5.setCell ⟨g, 1, none⟩ (.string z)).heap[w.heap.size]? = _ := (heap_setCell_other w5 ⟨g, 1, none⟩ w.heap.size (.string z) (show w.heap.size ≠ g by omega)).trans hr5
    clear hx5 hr5
    obtain ⟨hpa, hpb, hpc⟩ := two_facts hx6
    obtain ⟨hra, hrb, hrc⟩ := two_facts hr6
    obtain ⟨hrf, hrg⟩ := two_frozen hr6
    go_wp2_with fail
    obtain ⟨q1, q2⟩ := two_cells (set_two (.string s) (.string z) hr6)
    refine bodyPost_ret (v := .agg #[.string s, .string z]) (by simp [q1, q2, results, Try.results128, go_sem]) rfl ⟨s, z, by omega, by omega, rfl, ?_, ?_⟩
    · exact ((HT5.out.mono (by omega)).set hlt).set hlt
    · exact grown_setN (grown_setN HG5.out (Nat.le_refl _)) (Nat.le_refl _)
  by_cases h1 : y = 1
  · subst h1
    go_wp2_with fail
    refine (spoilt_any s ⟨#[40, 46, 41]⟩ b c _ _ HT4.out (by omega) (by omega) (by decide) (by decide)).mono ?_; rintro e w5 ⟨z, hz, rfl, hT, hg⟩
    have hx5 := grown_block hg hx4 (by omega)
    have hr5 := grown_block hg hr4 (by omega)
    have HT5 := Lib.hid (hT.set (i := 0) (v := .string z) (show b < g by omega))
    have HG5 := Lib.hid (grown_setN (i := 0) (v := .string z) (grown_trans HG4.out hg) (show w.heap.size ≤ g by omega))
    clear hT hg hp4a hp4b hp4c hp4f hp4g hx4 hr4
    obtain ⟨hp5a, hp5b, hp5c⟩ := two_facts hx5
    obtain ⟨hp5f, hp5g⟩ := two_frozen hx5
    have hx6 := set_first (u' := .string z) hx5
    have hr6 : (w5.setCell ⟨g, 0, none⟩ (.string z)).heap[w.heap.size]? = _ := (heap_setCell_other w5 ⟨g, 0, none⟩ w.heap.size (.string z) (show w.heap.size ≠ g by omega)).trans hr5
    clear hx5 hr5
    obtain ⟨hpa, hpb, hpc⟩ := two_facts hx6
    obtain ⟨hra, hrb, hrc⟩ := two_facts hr6
    obtain ⟨hrf, hrg⟩ := two_frozen hr6
    go_wp2_with fail
    obtain ⟨q1, q2⟩ := two_cells (set_two (.string z) (.string t) hr6)
    refine bodyPost_ret (v := .agg #[.string z, .string t]) (by simp [q1, q2, results, Try.results128, go_sem]) rfl ⟨z, t, by omega, by omega, rfl, ?_, ?_⟩
    · exact ((HT5.out.mono (by omega)).set hlt).set hlt
    · exact grown_setN (grown_setN HG5.out (Nat.le_refl _)) (Nat.le_refl _)
  by_cases h2 : y = 2
  · subst h2
    go_wp2_with fail
    refine (drawPick_any 2 b c _ _ HT4.out (by omega) (by omega) (by omega)).mono ?_; rintro e w5 ⟨z, hz, rfl, hT, hg⟩
    have HT5 := Lib.hid hT
    have HG5 := Lib.hid (grown_trans HG4.out hg)
    have hx5 := grown_block hg hx4 (by omega)
    have hr5 := grown_block hg hr4 (by omega)
    clear hT hg hp4a hp4b hp4c hp4f hp4g hx4 hr4
    have hc5 := fun w k h (hk : k ≤ 700000000) => surePair_any (8 + z) b c k w h hk (by omega)
    push_cast at hc5
    go_wp2_with fail
    refine (hc5 _ _ HT5.out (by omega)).mono ?_; rintro e w6 ⟨q, hq1, hq2, rfl, hT, hg⟩
    have k1 := q.1.str_size
    have k2 := q.2.str_size
    have hz1' : q.1.str.size ≤ 28 := by omega
    have hz2' : q.2.str.size ≤ 28 := by omega
    clear k1 k2 hq1 hq2 hc5
    generalize q.1.str = s' at *
    generalize q.2.str = t' at *
    have hx6 := grown_block hg hx5 (by omega)
    have hr6 := grown_block hg hr5 (by omega)
    have HT6 := Lib.hid ((hT.set (i := 0) (v := .string s') (show b < g by omega)).set (i := 1) (v := .string t') (show b < g by omega))
    have HG6 := Lib.hid (grown_setN (i := 1) (v := .string t') (grown_setN (i := 0) (v := .string s') (grown_trans HG5.out hg) (show w.heap.size ≤ g by omega)) (show w.heap.size ≤ g by omega))
    clear hT hg hx5 hr5
    obtain ⟨hp5a, hp5b, hp5c⟩ := two_facts hx6
    obtain ⟨hp5f, hp5g⟩ := two_frozen hx6
    have hx7 := set_two (.string s') (.string t') hx6
    have hr7 : ((w6.setCell ⟨g, 0, none⟩ (.string s')).setCell ⟨g, 1, none⟩ (.string t')).heap[w.heap.size]? = _ := (heap_setCell_other _ ⟨g, 1, none⟩ w.heap.size (.string t') (show w.heap.size ≠ g by omega)).trans ((heap_setCell_other w6 ⟨g, 0, none⟩ w.heap.size (.string s') (show w.heap.size ≠ g by omega)).trans hr6)
    clear hx6
    obtain ⟨hpa, hpb, hpc⟩ := two_facts hx7
    obtain ⟨hra, hrb, hrc⟩ := two_facts hr7
    obtain ⟨hrf, hrg⟩ := two_frozen hr7
    go_wp2_with fail
    obtain ⟨q1, q2⟩ := two_cells (set_two (.string s') (.string t') hr7)
    refine bodyPost_ret (v := .agg #[.string s', .string t']) (by simp [q1, q2, results, Try.results128, go_sem]) rfl ⟨s', t', by omega, by omega, rfl, ?_, ?_⟩
    · exact ((HT6.out.mono (by omega)).set hlt).set hlt
    · exact grown_setN (grown_setN HG6.out (Nat.le_refl _)) (Nat.le_refl _)
  by_cases h3 : y = 3
  · subst h3
    go_wp2_with fail
    refine (drawPick_any 4 b c _ _ HT4.out (by omega) (by omega) (by omega)).mono ?_; rintro e w5 ⟨z, hz, rfl, hT, hg⟩
    have HT5 := Lib.hid hT
    have HG5 := Lib.hid (grown_trans HG4.out hg)
    have hx5 := grown_block hg hx4 (by omega)
    have hr5 := grown_block hg hr4 (by omega)
    clear hT hg hp4a hp4b hp4c hp4f hp4g hx4 hr4
    go_wp2_with fail
    refine (hGEN.out z _ hz).mono ?_; rintro e w6 ⟨s', t', hz1', hz2', rfl, hb⟩
    have hx6 := heap_keep hb hx5
    have hr6 := heap_keep hb hr5
    have HT6 := Lib.hid (((HT5.out.keep hb).set (i := 0) (v := .string s') (show b < g by omega)).set (i := 1) (v := .string t') (show b < g by omega))
    have HG6 := Lib.hid (grown_setN (i := 1) (v := .string t') (grown_setN (i := 0) (v := .string s') (grown_below HG5.out hb) (show w.heap.size ≤ g by omega)) (show w.heap.size ≤ g by omega))
    clear hb hx5 hr5
    obtain ⟨hp5a, hp5b, hp5c⟩ := two_facts hx6
    obtain ⟨hp5f, hp5g⟩ := two_frozen hx6
    have hx7 := set_two (.string s') (.string t') hx6
    have hr7 : ((w6.setCell ⟨g, 0, none⟩ (.string s')).setCell ⟨g, 1, none⟩ (.string t')).heap[w.heap.size]? = _ := (heap_setCell_other _ ⟨g, 1, none⟩ w.heap.size (.string t') (show w.heap.size ≠ g by omega)).trans ((heap_setCell_other w6 ⟨g, 0, none⟩ w.heap.size (.string s') (show w.heap.size ≠ g by omega)).trans hr6)
    clear hx6
    obtain ⟨hpa, hpb, hpc⟩ := two_facts hx7
    obtain ⟨hra, hrb, hrc⟩ := two_facts hr7
    obtain ⟨hrf, hrg⟩ := two_frozen hr7
    go_wp2_with fail
    obtain ⟨q1, q2⟩ := two_cells (set_two (.string s') (.string t') hr7)
    refine bodyPost_ret (v := .agg #[.string s', .string t']) (by simp [q1, q2, results, Try.results128, go_sem]) rfl ⟨s', t', by omega, by omega, rfl, ?_, ?_⟩
    · exact ((HT6.out.mono (by omega)).set hlt).set hlt
    · exact grown_setN (grown_setN HG6.out (Nat.le_refl _)) (Nat.le_refl _)
  · have e0 : ((y : Int) == 0) = false := by simp; omega
    have e1 : ((y : Int) == 1) = false := by simp; omega
    have e2 : ((y : Int) == 2) = false := by simp; omega
    have e3 : ((y : Int) == 3) = false := by simp; omega
    clear h0 h1 h2 h3
    obtain ⟨hpa, hpb, hpc⟩ := two_facts hx4
    obtain ⟨hra, hrb, hrc⟩ := two_facts hr4
    obtain ⟨hrf, hrg⟩ := two_frozen hr4
    go_wp2_with fail
    obtain ⟨q1, q2⟩ := two_cells (set_two (.string s) (.string t) hr4)
    refine bodyPost_ret (v := .agg #[.string s, .string t]) (by simp [q1, q2, results, Try.results128, go_sem]) rfl ⟨s, t, by omega, by omega, rfl, ?_, ?_⟩
    · exact ((HT4.out.mono (by omega)).set hlt).set hlt
    · exact grown_setN (grown_setN HG4.out (Nat.le_refl _)) (Nat.le_refl _)

/-- A call that draws a list of numbers. -/
def DrawC (lo : Int) (b : Nat) (c : Bts) (k : Nat) (w : World) (e : Ending) (w' : World) : Prop :=
  ∃ (v : Value) (L : List Int), L.length ≤ 10 ∧ (∀ x ∈ L, lo ≤ x ∧ x ≤ 4611686018427387904) ∧ OwnI w.heap.size w' v L ∧ e = .returned v ∧ Turns b c k w w'
theorem ownI_keptD {base b : Nat} {w w' : World} {v : Value} {L : List Int} (h : OwnI base w v L) (hg : w.grownBy w' (some b)) (hb : b < base) : OwnI base w' v L := by
  obtain ⟨h1, h2⟩ := h
  refine ⟨h1, ?_⟩
  rcases h2 with h2 | ⟨g, cap, cur, hv, hg2, hh, r⟩
  · exact .inl h2
  · exact .inr ⟨g, cap, cur, hv, hg2, grown_block hg hh (by omega), r⟩
theorem grown_newer {a b c : World} {r s : Option Nat} (h : a.grownBy b r) (k : b.grownBy c s) (hs : ∀ q, s = some q → a.heap.size ≤ q) : a.grownBy c r :=
  ⟨k.os.trans h.os, k.tape.trans h.tape, k.output.trans h.output, Nat.le_trans h.size k.size, fun i hi hn => (k.block i (Nat.lt_of_lt_of_le hi h.size) (fun e => by have := hs i e.symm; omega)).trans (h.block i hi hn)⟩

set_option maxRecDepth 100000 in
set_option maxHeartbeats 1000000 in
theorem drawchoices0_any (b : Nat) (c : Bts) (k : Nat) (w : World) (h : Cur w b c k) (hk : k ≤ 700000000) :
    Calls Try.prog 138 #[.pointer (some ⟨b, 0, none⟩)] w (DrawC 0 b c (k + 40) w) := by
  obtain ⟨i0, hi, hz0, hz1, hz2⟩ := info_parts info_int
  have hlt := h.lt
  have H := Lib.hid h
  clear h
  go_enter Try.func138, Try.ntmps138
  go_wp2_with fail
  refine (drawPick_any 4 b c k _ H.out (by omega) (by omega) (by omega)).mono ?_; rintro e w1 ⟨x, hx, rfl, hT, hg⟩
  have HT := Lib.hid hT
  have HG := Lib.hid hg
  clear hT hg
  go_wp2_with fail
  go_loopw [3, 4] (fun v i wr => ∃ (j : Nat) (L : List Int), j + L.length ≤ 3 ∧ i = .int .i64 j ∧ Hid (OwnI w.heap.size wr v L) ∧ Hid (∀ x ∈ L, 0 ≤ x ∧ x ≤ 4611686018427387904) ∧ Hid (Cur wr b c (k + 2 + 2 * L.length)) ∧ Hid (w.grownBy wr (some b))) (fun _ i _ => (intOf i).toNat)
  case atStart => exact ⟨x, [], by simp; omega, rfl, Lib.hid (OwnI.nil _ _), Lib.hid (fun x hx => by cases hx), Lib.hid (HT.out.mono (by omega)), HG⟩
  case round =>
    obtain ⟨j, L, hj, rfl, hO, hL, hT, hG⟩ := hrel
    by_cases hlt0 : 0 < j
    · obtain ⟨j, rfl⟩ : ∃ i, j = i + 1 := ⟨j - 1, by omega⟩
      go_wp2_with fail
      refine (drawPick_any 5 b c _ _ hT.out (by omega) (by omega) (by omega)).mono ?_; rintro e w2 ⟨y, hy, rfl, hT2, hg2⟩
      have HT2 := Lib.hid hT2
      have HG2 := Lib.hid (grown_trans hG.out hg2)
      have HO2 := Lib.hid (ownI_keptD hO.out hg2 hlt)
      have hs2 : w.heap.size ≤ w2.heap.size := HG2.out.size
      clear hT2 hg2
      go_wp2_with (at_builtin; refine wpList_append_own _ rfl _ _ 28 rfl w.heap.size 3 i0 (.int .i64 0) 1 8 Try.underlying28 hi hz0 hz1 hz2 rfl (by decide) _ _ _ rfl (OwnI.keep HO2.out (allocB _ _)) ⟨w2.heap.size, 0, none⟩ 1 1 [.int .i64 y] rfl rfl (new1 _ _ _) (one1 _) (by unfold maxLen; omega) (by omega) (by simp; omega) ?_; intro v' w3 hown' hgrow hnn)
      have hown1 : OwnI w.heap.size w3 v' (L ++ [(y : Int)]) := by unfold OwnI; rw [List.length_append, List.map_append]; exact hown'
      have HT3 := Lib.hid ((HT2.out.keep (allocB _ _)).grown hgrow (fun q hq => by have := ownsRow_ge HO2.out q hq; omega))
      have HG3 := Lib.hid (grown_newer (grown_below HG2.out (allocB _ _)) hgrow (fun q hq => ownsRow_ge HO2.out q hq))
      have HO3 := Lib.hid hown1
      clear hown' hgrow hnn hown1
      go_wp2_with fail
      go_roundw
      case rel =>
        refine ⟨j, L ++ [(y : Int)], by simp; omega, by go_num, HO3, Lib.hid (fun z hz => ?_), Lib.hid (HT3.out.mono (by simp; omega)), HG3⟩
        rw [List.mem_append, List.mem_singleton] at hz
        rcases hz with hz | rfl
        · exact hL.out z hz
        · omega
      case measure => simp [intOf]
    · obtain rfl : j = 0 := by omega
      go_wp2_with fail
      go_ret
      exact ⟨_, L, by omega, hL.out, hO.out, rfl, hT.out.mono (by omega), hG.out⟩

set_option maxRecDepth 100000 in
set_option maxHeartbeats 1000000 in
theorem drawchoices_any (b : Nat) (c : Bts) (k : Nat) (w : World) (h : Cur w b c k) (hk : k ≤ 700000000) :
    Calls Try.prog 129 #[.pointer (some ⟨b, 0, none⟩)] w (DrawC (-1) b c (k + 40) w) := by
  obtain ⟨i0, hi, hz0, hz1, hz2⟩ := info_parts info_int
  have hlt := h.lt
  have H := Lib.hid h
  clear h
  go_enter Try.func129, Try.ntmps129
  go_wp2_with fail
  refine (drawPick_any 7 b c k _ H.out (by omega) (by omega) (by omega)).mono ?_; rintro e w1 ⟨x, hx, rfl, hT, hg⟩
  have HT := Lib.hid hT
  have HG := Lib.hid hg
  clear hT hg
  go_wp2_with fail
  go_loopw [3, 4] (fun v i wr => ∃ (j : Nat) (L : List Int), j + L.length ≤ 6 ∧ i = .int .i64 j ∧ Hid (OwnI w.heap.size wr v L) ∧ Hid (∀ x ∈ L, (-1) ≤ x ∧ x ≤ 4611686018427387904) ∧ Hid (Cur wr b c (k + 2 + 2 * L.length)) ∧ Hid (w.grownBy wr (some b))) (fun _ i _ => (intOf i).toNat)
  case atStart => exact ⟨x, [], by simp; omega, rfl, Lib.hid (OwnI.nil _ _), Lib.hid (fun x hx => by cases hx), Lib.hid (HT.out.mono (by omega)), HG⟩
  case round =>
    obtain ⟨j, L, hj, rfl, hO, hL, hT, hG⟩ := hrel
    by_cases hlt0 : 0 < j
    · obtain ⟨j, rfl⟩ : ∃ i, j = i + 1 := ⟨j - 1, by omega⟩
      go_wp2_with fail
      refine (drawPick_any 5 b c _ _ hT.out (by omega) (by omega) (by omega)).mono ?_; rintro e w2 ⟨y, hy, rfl, hT2, hg2⟩
      have HT2 := Lib.hid hT2
      have HG2 := Lib.hid (grown_trans hG.out hg2)
      have HO2 := Lib.hid (ownI_keptD hO.out hg2 hlt)
      have hs2 : w.heap.size ≤ w2.heap.size := HG2.out.size
      clear hT2 hg2
      go_wp2_with (at_builtin; refine wpList_append_own _ rfl _ _ 28 rfl w.heap.size 3 i0 (.int .i64 0) 1 8 Try.underlying28 hi hz0 hz1 hz2 rfl (by decide) _ _ _ rfl (OwnI.keep HO2.out (allocB _ _)) ⟨w2.heap.size, 0, none⟩ 1 1 [.int .i64 y] rfl rfl (new1 _ _ _) (one1 _) (by unfold maxLen; omega) (by omega) (by simp; omega) ?_; intro v' w3 hown' hgrow hnn)
      have hown1 : OwnI w.heap.size w3 v' (L ++ [(y : Int)]) := by unfold OwnI; rw [List.length_append, List.map_append]; exact hown'
      have HT3 := Lib.hid ((HT2.out.keep (allocB _ _)).grown hgrow (fun q hq => by have := ownsRow_ge HO2.out q hq; omega))
      have HG3 := Lib.hid (grown_newer (grown_below HG2.out (allocB _ _)) hgrow (fun q hq => ownsRow_ge HO2.out q hq))
      have HO3 := Lib.hid hown1
      clear hown' hgrow hnn hown1
      go_wp2_with fail
      go_roundw
      case rel =>
        refine ⟨j, L ++ [(y : Int)], by simp; omega, by go_num, HO3, Lib.hid (fun z hz => ?_), Lib.hid (HT3.out.mono (by simp; omega)), HG3⟩
        rw [List.mem_append, List.mem_singleton] at hz
        rcases hz with hz | rfl
        · exact hL.out z hz
        · omega
      case measure => simp [intOf]
    · obtain rfl : j = 0 := by omega
      go_wp2_with fail
      refine (drawOne_any 14 b c _ _ hT.out (by omega) (by omega) (by omega)).mono ?_; rintro e w4 ⟨q, rfl, hT4, hg4⟩
      have HT4 := Lib.hid hT4
      have HG4 := Lib.hid (grown_trans hG.out hg4)
      have HO4 := Lib.hid (ownI_keptD hO.out hg4 hlt)
      have hs4 : w.heap.size ≤ w4.heap.size := HG4.out.size
      clear hT4 hg4
      cases q with
      | false =>
        go_wp2_with fail
        go_ret
        exact ⟨_, L, by omega, hL.out, HO4.out, rfl, HT4.out.mono (by omega), HG4.out⟩
      | true =>
        go_wp2_with fail
        have hlt4 := HT4.out.lt
        refine (drawAmong_any [-1, 4611686018427387904] 2 _ 2 b c _ _ (HT4.out.keep (allocB _ _)) (rowI_alloc _ [-1, 4611686018427387904] _) rfl (by omega) (by omega) (by omega) (by omega)).mono ?_; rintro e w5 ⟨y, hy, rfl, hT5, hg5⟩
        have hy2 : -1 ≤ y ∧ y ≤ 4611686018427387904 := by
          simp only [List.mem_cons, List.not_mem_nil, or_false] at hy
          omega
        have HT5 := Lib.hid hT5
        have HG5 := Lib.hid (grown_trans (grown_below HG4.out (allocB _ _)) hg5)
        have HO5 := Lib.hid (ownI_keptD (OwnI.keep HO4.out (allocB _ _)) hg5 hlt)
        have hs5 : w.heap.size ≤ w5.heap.size := HG5.out.size
        clear hy hT5 hg5
        go_wp2_with (at_builtin; refine wpList_append_own _ rfl _ _ 28 rfl w.heap.size 3 i0 (.int .i64 0) 1 8 Try.underlying28 hi hz0 hz1 hz2 rfl (by decide) _ _ _ rfl (OwnI.keep HO5.out (allocB _ _)) ⟨w5.heap.size, 0, none⟩ 1 1 [.int .i64 y] rfl rfl (new1 _ _ _) (one1 _) (by unfold maxLen; omega) (by omega) (by simp; omega) ?_; intro v' w6 hown' hgrow hnn)
        have hown1 : OwnI w.heap.size w6 v' (L ++ [y]) := by unfold OwnI; rw [List.length_append, List.map_append]; exact hown'
        have HT6 := Lib.hid ((HT5.out.keep (allocB _ _)).grown hgrow (fun q hq => by have := ownsRow_ge HO5.out q hq; omega))
        have HG6 := Lib.hid (grown_newer (grown_below HG5.out (allocB _ _)) hgrow (fun q hq => ownsRow_ge HO5.out q hq))
        have HO6 := Lib.hid hown1
        clear hown' hgrow hnn hown1
        go_wp2_with fail
        go_ret
        refine ⟨_, L ++ [y], by simp; omega, fun z hz => ?_, HO6.out, rfl, HT6.out.mono (by omega), HG6.out⟩
        rw [List.mem_append, List.mem_singleton] at hz
        rcases hz with hz | rfl
        · exact hL.out z hz
        · exact hy2

theorem trGraftD (t u : Tr) (n : Int) (w : World) (h : 0 ≤ n) (k : n ≤ t.carets) (ht : t.carets ≤ 100) (hu : u.carets ≤ 100) :
    Calls Try.prog 109 #[.string t.str, .int .i64 n, .string u.str] w (Gives (.string (t.graft n u).str) w) := by
  have := graft_at t u n.toNat w (by unfold Tr.leaves; omega) (by omega) (by omega)
  rwa [show ((n.toNat : Nat) : Int) = n by omega] at this
set_option maxRecDepth 100000 in
set_option maxHeartbeats 4000000 in
theorem drawLoose_any (b : Nat) (c : Bts) (k : Nat) (w : World) (h : Cur w b c k) (hk : k ≤ 600000000) :
    Calls Try.prog 130 #[.pointer (some ⟨b, 0, none⟩)] w (DrawP 7 b c (k + 60) w) := by
  have hlt := h.lt
  have H := Lib.hid (h.keep (allocB w (.cells #[.string ⟨#[]⟩, .string ⟨#[]⟩] 59 (0, 0))))
  have hr := heap_alloc_at w (.cells #[.string ⟨#[]⟩, .string ⟨#[]⟩] 59 (0, 0))
  have hg0 := Lib.hid (grown_alloc w (.cells #[.string ⟨#[]⟩, .string ⟨#[]⟩] 59 (0, 0)) (some b))
  clear h
  go_enter Try.func130, Try.ntmps130
  go_wp2_with fail
  refine (drawPick_any 4 b c k _ H.out (by omega) (by omega) (by omega)).mono ?_; rintro e w1 ⟨x, hx, rfl, hT, hg⟩
  have HT := Lib.hid hT
  have HG := Lib.hid (grown_trans hg0.out hg)
  have hr1 := grown_block hg hr (by omega)
  clear hT hg hr
  go_wp2_with fail
  refine (surePair_any x b c _ _ HT.out (by omega) (by omega)).mono ?_; rintro e w2 ⟨p, hp1, hp2, rfl, hT, hg⟩
  have HT2 := Lib.hid hT
  have HG2 := Lib.hid (grown_trans HG.out hg)
  have hr2 := grown_block hg hr1 (by omega)
  have hlt2 := lt_of_block hr2
  have hx3 := heap_alloc_at w2 (.cells #[.string p.1.str, .string p.2.str] 59 (0, 0))
  have hr3 := heap_keep (allocB w2 (.cells #[.string p.1.str, .string p.2.str] 59 (0, 0))) hr2
  have HT3 := Lib.hid (HT2.out.keep (allocB w2 (.cells #[.string p.1.str, .string p.2.str] 59 (0, 0))))
  have HG3 := Lib.hid (grown_below HG2.out (allocB w2 (.cells #[.string p.1.str, .string p.2.str] 59 (0, 0))))
  obtain ⟨g, hg9⟩ : ∃ g, g = w2.heap.size := ⟨_, rfl⟩
  rw [← hg9] at hx3
  have hgw : w.heap.size < g := by omega
  clear hr2 hlt2 hT hg hr1
  go_wp2_with fail
  rw [← hg9]
  refine (drawPick_any 5 b c _ _ HT3.out (by omega) (by omega) (by omega)).mono ?_; rintro e w4 ⟨y, hy, rfl, hT, hg⟩
  have HT4 := Lib.hid hT
  have HG4 := Lib.hid (grown_trans HG3.out hg)
  have HX4 := Lib.hid (grown_block hg hx3 (by omega))
  have HR4 := Lib.hid (grown_block hg hr3 (by omega))
  have hpk : okP p := by unfold okP; omega
  clear hT hg hx3 hr3 HG3 hg9
  go_wp2_with fail
  go_loopw [4] (fun i wr => ∃ (j : Nat) (q : Pr), j ≤ 4 ∧ okP q ∧ q.1.carets + j ≤ 7 ∧ i = .int .i64 j ∧ Hid (wr.heap[g]? = some (.cells #[.string q.1.str, .string q.2.str] 59 (0, 0))) ∧ Hid (wr.heap[w.heap.size]? = some (.cells #[.string ⟨#[]⟩, .string ⟨#[]⟩] 59 (0, 0))) ∧ Hid (Cur wr b c (k + 2 + 4 * x + 2 + 2 * (4 - j))) ∧ Hid (w.grownBy wr (some b))) (fun i _ => (intOf i).toNat)
  case atStart => exact ⟨y, p, by omega, hpk, by omega, rfl, HX4, HR4, Lib.hid (HT4.out.mono (by omega)), HG4⟩
  case round =>
    clear HX4 HR4 HT4 HG4 HT3 HT2 HG2 HT HG
    obtain ⟨j, q, hj, hqk, hqc, rfl, HX, HR, hT, hG⟩ := hrel
    by_cases hlt0 : 0 < j
    · obtain ⟨j, rfl⟩ : ∃ i, j = i + 1 := ⟨j - 1, by omega⟩
      obtain ⟨hpa, hpb, hpc⟩ := two_facts HX.out
      go_wp2_with fail
      refine (carets_str q.1 _ (by omega)).mono ?_; rintro e w5 ⟨rfl, rfl⟩
      go_wp2_with fail
      refine (drawPick_any (q.1.carets + 1) b c _ _ hT.out (by omega) (by omega) (by omega)).mono ?_; rintro e w5 ⟨z, hz, rfl, hT2, hg2⟩
      have HT5 := Lib.hid hT2
      have HG5 := Lib.hid (grown_trans hG.out hg2)
      have hx5 := grown_block hg2 HX.out (by omega)
      have HR5 := Lib.hid (grown_block hg2 HR.out (by omega))
      clear hT2 hg2 hpa hpb hpc
      obtain ⟨hx1a, hx1b, hx1c⟩ := two_facts hx5
      have HX5 := Lib.hid hx5
      have hqk' : q.1.carets = q.2.carets := hqk
      have T1 := fun w => trGraftD q.1 (.nd .lf .lf) z w (by omega) (by omega) (by omega) (by decide)
      have T2 := fun w => trGraftD q.2 (.nd .lf .lf) z w (by omega) (by omega) (by omega) (by decide)
      have n1 := graft_carets q.1 (.nd .lf .lf) z (by omega) (by unfold Tr.leaves; omega)
      have n2 := graft_carets q.2 (.nd .lf .lf) z (by omega) (by unfold Tr.leaves; omega)
      have e9 : (Tr.nd .lf .lf).carets = 1 := rfl
      rw [e9] at n1 n2
      rw [← two_str] at T1 T2
      obtain ⟨q', hq'⟩ : ∃ q' : Pr, q' = (q.1.graft z (.nd .lf .lf), q.2.graft z (.nd .lf .lf)) := ⟨_, rfl⟩
      rw [show q.1.graft z (.nd .lf .lf) = q'.1 by rw [hq']] at T1 n1
      rw [show q.2.graft z (.nd .lf .lf) = q'.2 by rw [hq']] at T2 n2
      have hk9 : okP q' := by unfold okP; omega
      have hlt5 := HT5.out.lt
      have hgs5 := hx1c
      clear hq' e9 hx5
      go_wp2_with fail
      refine wp_region_clsT 9 (by kernel_rfl) (by kernel_rfl) ?_
      simp only [List.take_succ_cons, List.take_zero, List.drop_succ_cons, List.drop_zero]
      repeat (
        refine wpQuiet_step (fun K hK => ?_)
        go_simp
        first
          | (refine hK _ ?_; clear hK K)
          | (refine ⟨_, fun _ _ => rfl, hK _ ?_⟩; clear hK K)
          | (apply Exists.intro
             refine ⟨fun w' hw' => ?_, hK _ ?_⟩
             · first
                 | (rw [hw'.cell hx1c hx1a]; exact ⟨rfl, rfl⟩)
                 | (rw [hw'.cell hx1c hx1b]; exact ⟨rfl, rfl⟩)
                 | (go_at_call 109; first | (with_reducible exact hw'.call (T1 _)) | (with_reducible exact hw'.call (T2 _)))
             clear hK K))
      refine wpQuiet_nil ?_
      intro w' hw'
      have hb : Below w5.heap.size w5 w' := hw'
      have HT6 := Lib.hid (((HT5.out.keep hb).set (i := 0) (v := .string q'.1.str) (show b < g by omega)).set (i := 1) (v := .string q'.2.str) (show b < g by omega))
      have HG6 := Lib.hid (grown_setN (i := 1) (v := .string q'.2.str) (grown_setN (i := 0) (v := .string q'.1.str) (grown_below HG5.out hb) (show w.heap.size ≤ g by omega)) (show w.heap.size ≤ g by omega))
      have hx6 := heap_keep hb HX5.out
      have hr6 := heap_keep hb HR5.out
      obtain ⟨hp6a, hp6b, hp6c⟩ := two_facts hx6
      obtain ⟨hp6f, hp6g⟩ := two_frozen hx6
      have HX7 := Lib.hid (set_two (.string q'.1.str) (.string q'.2.str) hx6)
      have hr7 : ((w'.setCell ⟨g, 0, none⟩ (.string q'.1.str)).setCell ⟨g, 1, none⟩ (.string q'.2.str)).heap[w.heap.size]? = some (.cells #[.string ⟨#[]⟩, .string ⟨#[]⟩] 59 (0, 0)) := (heap_setCell_other _ ⟨g, 1, none⟩ w.heap.size (.string q'.2.str) (show w.heap.size ≠ g by omega)).trans ((heap_setCell_other w' ⟨g, 0, none⟩ w.heap.size (.string q'.1.str) (show w.heap.size ≠ g by omega)).trans hr6)
      have HR7 := Lib.hid hr7
      clear hb hw' hx6 hr6 hr7 HT5 HG5 HX5 HR5 T1 T2 hx1a hx1b hx1c
      go_wp2_with fail
      go_roundw
      case rel => exact ⟨j, q', by omega, hk9, by omega, by go_num, HX7, HR7, Lib.hid (HT6.out.mono (by omega)), HG6⟩
      case measure => simp [intOf]
    · obtain rfl : j = 0 := by omega
      obtain ⟨hpa, hpb, hpc⟩ := two_facts HX.out
      obtain ⟨hra, hrb, hrc⟩ := two_facts HR.out
      obtain ⟨hrf, hrg⟩ := two_frozen HR.out
      go_wp2_with fail
      obtain ⟨q1, q2⟩ := two_cells (set_two (.string q.1.str) (.string q.2.str) HR.out)
      refine bodyPost_ret (v := .agg #[.string q.1.str, .string q.2.str]) (by simp [q1, q2, results, Try.results130, go_sem]) rfl ⟨q, hqk, by omega, rfl, ?_, ?_⟩
      · exact ((hT.out.mono (by omega)).set hlt).set hlt
      · exact grown_setN (grown_setN hG.out (Nat.le_refl _)) (Nat.le_refl _)
end Go.Proofs.Yteflpaebckichab

/-! Count -/
namespace Go.Proofs.Yteflpaebckichab
open Go.RowKit

set_option maxHeartbeats 1000000 in
set_option maxRecDepth 100000 in
theorem count_any (s : ByteArray) (w : World) :
    Calls Try.prog 152 #[.string s, .string ⟨#[40]⟩] w fun e w' => e = .returned (.int .i64 (Lib.countByte s.data.toList 40 : Nat)) ∧ w = w' := by
  go_enter Try.func152, Try.ntmps152
  go_wp2
  rw [run_callFunc_extern Try.func164 (by kernel_rfl) (by kernel_rfl) (by kernel_rfl) (e := Extern.BytealgCount.count) (by kernel_rfl), Lib.run_countString]
  simp only [Result.andThen]
  rw [Oper.upon_value]
  go_wp2
  go_ret
  exact ⟨rfl, rfl⟩

theorem countCarets_any (t : Tr) (w : World) (_h : t.carets ≤ 1000) :
    Calls Try.prog 86 #[.string t.str] w (Gives (.int .i64 t.carets) w) := by
  have e : Hid (Lib.countByte t.str.data.toList 40 = t.carets) := by rw [show Hid _ = _ from rfl, Tr.str_list, ← text_count]; rfl
  go_enter Try.func86, Try.ntmps86
  go_wp2_with fail
  refine (count_any t.str _).mono ?_; rintro _ w1 ⟨rfl, rfl⟩
  rw [e.out]
  go_wp2_with fail
  go_ret
  exact ⟨rfl, Below.refl _ _⟩
end Go.Proofs.Yteflpaebckichab

/-! Pair -/
namespace Go.Proofs.Yteflpaebckichab
open Go.RowKit

/-- A pair of texts as a value. -/
abbrev pv (a b : ByteArray) : Value := .agg #[.string a, .string b]

theorem pairOf_isSome (a b : ByteArray) (t u : Tr) (ha : treeOf a = some t) (hb : treeOf b = some u) : (pairOf a b).isSome = ((t.carets : Int) == (u.carets : Int)) := by
  unfold pairOf
  rw [ha, hb, Bool.eq_iff_iff, beq_iff_eq]
  by_cases h : t.carets = u.carets
  · simp [h]
  · simp only [h, if_false]; simp; omega

set_option maxRecDepth 100000 in
set_option maxHeartbeats 1000000 in
theorem prGood_any (a b : ByteArray) (w : World) (ha : a.size ≤ 9223372036854775806) (hb : b.size ≤ 9223372036854775806) :
    Calls Try.prog 134 #[.agg #[.string a, .string b]] w (Gives (.bool (pairOf a b).isSome) w) := by
  cases h : treeOf a with
  | none =>
    have e : (pairOf a b).isSome = false := by unfold pairOf; rw [h]; rfl
    rw [e]
    have T := fun w => trIs_no a w ha h
    clear h e
    go_enter Try.func134, Try.ntmps134
    go_wp2_with fail
    go_quiet ((go_at_call 81; with_reducible exact quiet_eq (T _)))
    go_wp2_with fail
    go_ret
    exact ⟨rfl, drewB (nxAlloc (Below.refl _ _) _) _⟩
  | some t =>
    cases k : treeOf b with
    | none =>
      have e : (pairOf a b).isSome = false := by unfold pairOf; rw [h, k]; rfl
      rw [e]
      obtain ⟨rfl, hc⟩ := treeOf_some h
      have T := fun w => trIs_yes t w hc
      have U := fun w => trIs_no b w hb k
      clear h k e
      go_enter Try.func134, Try.ntmps134
      go_wp2_with fail
      go_quiet ((go_at_call 81; first | (with_reducible exact quiet_eq (T _)) | (with_reducible exact quiet_eq (U _))))
      go_wp2_with fail
      go_ret
      exact ⟨rfl, drewB (nxAlloc (Below.refl _ _) _) _⟩
    | some u =>
      rw [pairOf_isSome a b t u h k]
      obtain ⟨rfl, hc⟩ := treeOf_some h
      obtain ⟨rfl, hd⟩ := treeOf_some k
      have T := fun w => trIs_yes t w hc
      have U := fun w => trIs_yes u w hd
      have C := fun w => carets_str t w (by omega)
      have D := fun w => carets_str u w (by omega)
      clear h k
      go_enter Try.func134, Try.ntmps134
      go_wp2_with fail
      go_quiet ((first | (go_at_call 81; first | (with_reducible exact quiet_eq (T _)) | (with_reducible exact quiet_eq (U _))) | (go_at_call 87; first | (with_reducible exact quiet_eq (C _)) | (with_reducible exact quiet_eq (D _)))))
      go_wp2_with fail
      go_ret
      exact ⟨rfl, drewB (nxAlloc (Below.refl _ _) _) _⟩
end Go.Proofs.Yteflpaebckichab

/-! IsPair -/
namespace Go.Proofs.Yteflpaebckichab
open Go.RowKit

theorem isTree_yes' (t : Tr) (w : World) (h : t.carets ≤ 8) : Calls Try.prog 21 #[.string t.str] w (Gives (.bool true) w) := (implIsTree_yes t w h).mono fun _ _ ⟨h1, h2⟩ => ⟨h2, h1⟩
theorem isTree_no' (s : ByteArray) (w : World) (hs : s.size ≤ 9223372036854775806) (h : treeOf s = none) : Calls Try.prog 21 #[.string s] w (Gives (.bool false) w) := (implIsTree_no s w hs h).mono fun _ _ ⟨h1, h2⟩ => ⟨h2, h1⟩

set_option maxRecDepth 100000 in
set_option maxHeartbeats 2000000 in
theorem isPair_any (a b : ByteArray) (w : World) (ha : a.size ≤ 9223372036854775806) (hb : b.size ≤ 9223372036854775806) :
    Calls Try.prog 63 #[.agg #[.string a, .string b]] w (Gives (.bool (pairOf a b).isSome) w) := by
  cases h : treeOf a with
  | none =>
    have e : (pairOf a b).isSome = false := by unfold pairOf; rw [h]; rfl
    rw [e]
    have T := fun w => isTree_no' a w ha h
    clear h e
    go_enter Try.func63, Try.ntmps63
    go_wp2_with fail
    have hb0 : Below w.heap.size w (w.alloc (.cells #[.string a, .string b] 59 (0, 0))) := nxAlloc (Below.refl _ _) _
    have hc := two_cells (heap_alloc_at w (.cells #[.string a, .string b] 59 (0, 0)))
    have hs : w.heap.size < (w.alloc (.cells #[.string a, .string b] 59 (0, 0))).heap.size := by simp
    generalize w.alloc (.cells #[.string a, .string b] 59 (0, 0)) = w0 at *
    refine wp_region_cls (by kernel_rfl) (by kernel_rfl) ?_
    repeat (
      refine wpQuiet_step (fun K hK => ?_)
      go_simp
      first
        | (refine hK _ ?_; clear hK K)
        | (refine ⟨_, fun _ _ => rfl, hK _ ?_⟩; clear hK K)
        | (apply Exists.intro
           refine ⟨fun w' hw' => ?_, hK _ ?_⟩
           · first
               | (rw [hw'.cell hs hc.1]; exact ⟨rfl, rfl⟩)
               | (rw [hw'.cell hs hc.2]; exact ⟨rfl, rfl⟩)
               | (go_at_call 21; exact hw'.call (T _))
           clear hK K))
    refine wpQuiet_nil ?_
    intro w' hw'
    go_wp2_with fail
    go_ret
    exact ⟨rfl, nx hb0 hw'⟩
  | some t =>
    cases k : treeOf b with
    | none =>
      have e : (pairOf a b).isSome = false := by unfold pairOf; rw [h, k]; rfl
      rw [e]
      obtain ⟨rfl, hc⟩ := treeOf_some h
      have T := fun w => isTree_yes' t w hc
      have U := fun w => isTree_no' b w hb k
      clear h k e hc
      go_enter Try.func63, Try.ntmps63
      go_wp2_with fail
      have hb0 : Below w.heap.size w (w.alloc (.cells #[.string t.str, .string b] 59 (0, 0))) := nxAlloc (Below.refl _ _) _
      have hc := two_cells (heap_alloc_at w (.cells #[.string t.str, .string b] 59 (0, 0)))
      have hs : w.heap.size < (w.alloc (.cells #[.string t.str, .string b] 59 (0, 0))).heap.size := by simp
      generalize w.alloc (.cells #[.string t.str, .string b] 59 (0, 0)) = w0 at *
      refine wp_region_cls (by kernel_rfl) (by kernel_rfl) ?_
      repeat (
        refine wpQuiet_step (fun K hK => ?_)
        go_simp
        first
          | (refine hK _ ?_; clear hK K)
          | (refine ⟨_, fun _ _ => rfl, hK _ ?_⟩; clear hK K)
          | (apply Exists.intro
             refine ⟨fun w' hw' => ?_, hK _ ?_⟩
             · first
                 | (rw [hw'.cell hs hc.1]; exact ⟨rfl, rfl⟩)
                 | (rw [hw'.cell hs hc.2]; exact ⟨rfl, rfl⟩)
                 | (go_at_call 21; first | (with_reducible exact hw'.call (T _)) | (with_reducible exact hw'.call (U _)))
             clear hK K))
      refine wpQuiet_nil ?_
      intro w' hw'
      go_wp2_with fail
      go_ret
      exact ⟨rfl, nx hb0 hw'⟩
    | some u =>
      rw [pairOf_isSome a b t u h k]
      obtain ⟨rfl, hc⟩ := treeOf_some h
      obtain ⟨rfl, hd⟩ := treeOf_some k
      have T := fun w => isTree_yes' t w hc
      have U := fun w => isTree_yes' u w hd
      have C := fun w => countCarets_any t w (by omega)
      have D := fun w => countCarets_any u w (by omega)
      clear h k hc hd
      go_enter Try.func63, Try.ntmps63
      go_wp2_with fail
      have hb0 : Below w.heap.size w (w.alloc (.cells #[.string t.str, .string u.str] 59 (0, 0))) := nxAlloc (Below.refl _ _) _
      have hc := two_cells (heap_alloc_at w (.cells #[.string t.str, .string u.str] 59 (0, 0)))
      have hs : w.heap.size < (w.alloc (.cells #[.string t.str, .string u.str] 59 (0, 0))).heap.size := by simp
      generalize w.alloc (.cells #[.string t.str, .string u.str] 59 (0, 0)) = w0 at *
      refine wp_region_cls (by kernel_rfl) (by kernel_rfl) ?_
      repeat (
        refine wpQuiet_step (fun K hK => ?_)
        go_simp
        first
          | (refine hK _ ?_; clear hK K)
          | (refine ⟨_, fun _ _ => rfl, hK _ ?_⟩; clear hK K)
          | (apply Exists.intro
             refine ⟨fun w' hw' => ?_, hK _ ?_⟩
             · first
                 | (rw [hw'.cell hs hc.1]; exact ⟨rfl, rfl⟩)
                 | (rw [hw'.cell hs hc.2]; exact ⟨rfl, rfl⟩)
                 | (go_at_call 21; first | (with_reducible exact hw'.call (T _)) | (with_reducible exact hw'.call (U _)))
                 | (go_at_call 86; first | (with_reducible exact hw'.call (C _)) | (with_reducible exact hw'.call (D _)))
             clear hK K))
      refine wpQuiet_nil ?_
      intro w' hw'
      go_wp2_with fail
      go_ret
      exact ⟨rfl, nx hb0 hw'⟩
end Go.Proofs.Yteflpaebckichab

/-! Graft -/
namespace Go.Proofs.Yteflpaebckichab
open Go.RowKit

theorem trLeaves_yes (t : Tr) (n : Int) (w : World) (h : t.carets ≤ 8) (h1 : 0 ≤ n) (h2 : n ≤ t.carets) :
    Calls Try.prog 112 #[.string t.str, .int .i64 n] w fun e w' => e = .returned (.bool true) ∧ w = w' := by
  go_enter Try.func112, Try.ntmps112
  go_wp2_with fail
  refine (trIs_yes t _ h).mono ?_; rintro e w1 ⟨rfl, rfl⟩
  go_wp2_with fail
  refine (carets_str t _ (by omega)).mono ?_; rintro e w1 ⟨rfl, rfl⟩
  go_wp2_with fail
  refine (l1In_yes n 0 t.carets _ h1 h2).mono ?_; rintro e w1 ⟨rfl, rfl⟩
  go_wp2_with fail
  go_ret
  exact ⟨rfl, rfl⟩
theorem trLeaves_out (t : Tr) (n : Int) (w : World) (h : t.carets ≤ 8) (h1 : n < 0 ∨ t.carets < n) :
    Calls Try.prog 112 #[.string t.str, .int .i64 n] w fun e w' => e = .returned (.bool false) ∧ w = w' := by
  have H := Lib.hid h1
  clear h1
  go_enter Try.func112, Try.ntmps112
  go_wp2_with fail
  refine (trIs_yes t _ h).mono ?_; rintro e w1 ⟨rfl, rfl⟩
  go_wp2_with fail
  refine (carets_str t _ (by omega)).mono ?_; rintro e w1 ⟨rfl, rfl⟩
  go_wp2_with fail
  refine (l1In_no n 0 t.carets _ H.out).mono ?_; rintro e w1 ⟨rfl, rfl⟩
  go_wp2_with fail
  go_ret
  exact ⟨rfl, rfl⟩
theorem trLeaves_no (s : ByteArray) (n : Int) (w : World) (hs : s.size ≤ 9223372036854775806) (h : treeOf s = none) :
    Calls Try.prog 112 #[.string s, .int .i64 n] w fun e w' => e = .returned (.bool false) ∧ w = w' := by
  have H := Lib.hid h
  clear h
  go_enter Try.func112, Try.ntmps112
  go_wp2_with fail
  refine (trIs_no s _ hs H.out).mono ?_; rintro e w1 ⟨rfl, rfl⟩
  go_wp2_with fail
  go_ret
  exact ⟨rfl, rfl⟩

theorem limitS_yes (s : ByteArray) (w : World) (h : (s.size : Int) ≤ 25) : Calls Try.prog 94 #[.string s] w fun e w' => e = .returned (.tuple #[.string s, .bool true]) ∧ w = w' := by
  go_enter Try.func94, Try.ntmps94
  go_wp2_with fail
  go_ret2
  exact ⟨rfl, rfl⟩
theorem limitS_no (s : ByteArray) (w : World) (h : 25 < (s.size : Int)) : Calls Try.prog 94 #[.string s] w fun e w' => e = .returned (.tuple #[.string ⟨#[]⟩, .bool false]) ∧ w = w' := by
  go_enter Try.func94, Try.ntmps94
  go_wp2_with fail
  go_ret2
  exact ⟨rfl, rfl⟩

def graftO (a : ByteArray) (n : Int) (b : ByteArray) : Option ByteArray :=
  match treeOf a, treeOf b with
  | some t, some u => if 0 ≤ n ∧ n ≤ t.carets ∧ t.carets + u.carets ≤ 8 then some (graftS a n b) else none
  | _, _ => none

set_option maxHeartbeats 400000 in
theorem specGraftAt_any (a : ByteArray) (n : Int) (b : ByteArray) (w : World) (ha : a.size ≤ 9223372036854775806) (hb : b.size ≤ 9223372036854775806) (_hn' : -9223372036854775808 ≤ n) (hn : n ≤ 9223372036854775807) :
    Calls Try.prog 41 #[.string a, .int .i64 n, .string b] w (Gives (ans2 (graftO a n b)) w) := by
  cases h : treeOf a with
  | none =>
    rw [show graftO a n b = none by simp [graftO, h]]
    have H := Lib.hid h
    clear h
    go_enter Try.func41, Try.ntmps41
    go_wp2_with fail
    refine (trLeaves_no a n _ ha H.out).mono ?_; rintro e w1 ⟨rfl, rfl⟩
    go_wp2_with fail
    go_ret2
    exact ⟨rfl, Below.refl _ _⟩
  | some t =>
    obtain ⟨rfl, hc⟩ := treeOf_some h
    have hp := pos_str t n
    by_cases hr : n < 0 ∨ t.carets < n
    · rw [show graftO t.str n b = none by simp only [graftO, h]; cases treeOf b with | none => rfl | some u => simp only; rw [if_neg (by omega)]]
      have H := Lib.hid hr
      clear h hr hp
      go_enter Try.func41, Try.ntmps41
      go_wp2_with fail
      refine (trLeaves_out t n _ hc H.out).mono ?_; rintro e w1 ⟨rfl, rfl⟩
      go_wp2_with fail
      go_ret2
      exact ⟨rfl, Below.refl _ _⟩
    · have hr1 : 0 ≤ n := by omega
      have hr2 : n ≤ t.carets := by omega
      have hq : Hid (0 ≤ posFrom t.str.data.toList 0 n) := show _ ≤ _ by omega
      clear hr hp
      cases k : treeOf b with
      | none =>
        rw [show graftO t.str n b = none by simp [graftO, k]]
        have H := Lib.hid k
        clear h k
        go_enter Try.func41, Try.ntmps41
        go_wp2_with fail
        refine (trLeaves_yes t n _ hc hr1 hr2).mono ?_; rintro e w1 ⟨rfl, rfl⟩
        go_wp2_with fail
        refine (trIs_no b _ hb H.out).mono ?_; rintro e w1 ⟨rfl, rfl⟩
        go_wp2_with fail
        go_ret2
        exact ⟨rfl, Below.refl _ _⟩
      | some u =>
        obtain ⟨rfl, hd⟩ := treeOf_some k
        have st := t.str_size
        have su := u.str_size
        by_cases hz : (t.carets : Int) + u.carets ≤ 8
        · rw [show graftO t.str n u.str = some (graftS t.str n u.str) by simp only [graftO, h, k]; rw [if_pos (by omega)]]
          clear h k
          go_enter Try.func41, Try.ntmps41
          go_wp2_with fail
          refine (trLeaves_yes t n _ hc hr1 hr2).mono ?_; rintro e w1 ⟨rfl, rfl⟩
          go_wp2_with fail
          refine (trIs_yes u _ hd).mono ?_; rintro e w1 ⟨rfl, rfl⟩
          go_wp2_with fail
          refine (carets_str t _ (by omega)).mono ?_; rintro e w1 ⟨rfl, rfl⟩
          go_wp2_with fail
          refine (carets_str u _ (by omega)).mono ?_; rintro e w1 ⟨rfl, rfl⟩
          go_wp2_with fail
          refine (trGraft_any t.str u.str n _ (by omega) (by omega) hr1 hn hq.out).mono ?_; rintro e w1 ⟨rfl, hb1⟩
          go_wp2_with fail
          go_ret2
          exact ⟨rfl, hb1⟩
        · rw [show graftO t.str n u.str = none by simp only [graftO, h, k]; rw [if_neg (by omega)]]
          clear h k
          go_enter Try.func41, Try.ntmps41
          go_wp2_with fail
          refine (trLeaves_yes t n _ hc hr1 hr2).mono ?_; rintro e w1 ⟨rfl, rfl⟩
          go_wp2_with fail
          refine (trIs_yes u _ hd).mono ?_; rintro e w1 ⟨rfl, rfl⟩
          go_wp2_with fail
          refine (carets_str t _ (by omega)).mono ?_; rintro e w1 ⟨rfl, rfl⟩
          go_wp2_with fail
          refine (carets_str u _ (by omega)).mono ?_; rintro e w1 ⟨rfl, rfl⟩
          go_wp2_with fail
          go_ret2
          exact ⟨rfl, Below.refl _ _⟩

set_option maxRecDepth 100000 in
set_option maxHeartbeats 1000000 in
theorem leafPlace_neg (s : ByteArray) (n : Int) (w : World) (hs : s.size ≤ 1000) (hn : n < 0) (hn' : -9223372036854775808 ≤ n) :
    Calls Try.prog 93 #[.string s, .int .i64 n] w (Quietly (.int .i64 (-1)) w) := by
  go_enter Try.func93, Try.ntmps93
  go_wp2_with fail
  go_loopw [1, 8] (fun v i wr => ∃ (k : Nat) (m : Int) (d : Nat), k ≤ s.size ∧ i = .int .i64 k ∧ v = .int .i64 m ∧ -9223372036854775808 ≤ m ∧ m ≤ 9223372036854775807 ∧ Hid (m < 0 ∨ 9223372036854775807 - (k : Int) ≤ m) ∧ wr = w.drewN d) (fun _ i _ => s.size - (intOf i).toNat)
  case atStart => exact ⟨0, n, 0, Nat.zero_le _, rfl, rfl, by omega, by omega, .inl hn, rfl⟩
  case round =>
    obtain ⟨k, m, d, hk, rfl, rfl, hm, hm', hor, rfl⟩ := hrel
    by_cases hlt : k < s.size
    · cases h46 : (((s[k]'hlt).toNat : Int) == 46) with
      | true =>
        have h46' : Hid ((((s[k]'hlt).toNat : Int) != 46) = false) := by show (_ != _) = false; rw [bne, h46]; rfl
        clear h46
        have g0 : (m == 0) = false := by have := hor.out; simp; omega
        by_cases hmin : m = -9223372036854775808
        · obtain rfl := hmin
          go_wp2_with fail
          have g := h46'.out
          have gz : ((⟨#[46]⟩ : ByteArray)[0]'(by decide)).toNat = 46 := rfl
          go_quiet (fail)
          go_wp2_with fail
          clear g gz g0
          go_roundw
          case rel => exact ⟨k + 1, 9223372036854775807, _, by omega, by go_num, by unfold wrap64; rfl, by omega, by omega, .inr (by omega), rfl⟩
          case measure => simp [intOf]; omega
        · have hm2 : -9223372036854775807 ≤ m := by omega
          clear hmin
          go_wp2_with fail
          have g := h46'.out
          have gz : ((⟨#[46]⟩ : ByteArray)[0]'(by decide)).toNat = 46 := rfl
          go_quiet (fail)
          go_wp2_with fail
          clear g gz g0
          go_roundw
          case rel => exact ⟨k + 1, m - 1, _, by omega, by go_num, rfl, by omega, by omega, by have := hor.out; show _ ∨ _; omega, rfl⟩
          case measure => simp [intOf]; omega
      | false =>
        have h46' : Hid ((((s[k]'hlt).toNat : Int) != 46) = true) := by show (_ != _) = true; rw [bne, h46]; rfl
        clear h46
        go_wp2_with fail
        have g := h46'.out
        have gz : ((⟨#[46]⟩ : ByteArray)[0]'(by decide)).toNat = 46 := rfl
        go_quiet (fail)
        go_wp2_with fail
        clear g gz
        go_roundw
        case rel => exact ⟨k + 1, m, _, by omega, by go_num, rfl, by omega, by omega, by have := hor.out; show _ ∨ _; omega, rfl⟩
        case measure => simp [intOf]; omega
    · obtain rfl : k = s.size := by omega
      go_wp2_with fail
      go_ret
      exact ⟨rfl, _, rfl⟩

set_option maxHeartbeats 400000 in
theorem implGraftAt_any (a : ByteArray) (n : Int) (b : ByteArray) (w : World) (ha : a.size ≤ 9223372036854775806) (hb : b.size ≤ 9223372036854775806) (hn' : -9223372036854775808 ≤ n) (hn : n ≤ 9223372036854775807) :
    Calls Try.prog 24 #[.string a, .int .i64 n, .string b] w (Gives (ans2 (graftO a n b)) w) := by
  cases h : treeOf a with
  | none =>
    rw [show graftO a n b = none by simp [graftO, h]]
    have H := Lib.hid h
    clear h
    go_enter Try.func24, Try.ntmps24
    go_wp2_with fail
    refine (implIsTree_no a _ ha H.out).mono ?_; rintro e w1 ⟨hb1, rfl⟩
    go_wp2_with fail
    go_ret2
    exact ⟨rfl, hb1⟩
  | some t =>
    obtain ⟨rfl, hc⟩ := treeOf_some h
    have st := t.str_size
    cases k : treeOf b with
    | none =>
      rw [show graftO t.str n b = none by simp [graftO, k]]
      have H := Lib.hid k
      clear h k
      go_enter Try.func24, Try.ntmps24
      go_wp2_with fail
      refine (implIsTree_yes t _ hc).mono ?_; rintro e w1 ⟨hb1, rfl⟩
      go_wp2_with fail
      refine (implIsTree_no b _ hb H.out).mono ?_; rintro e w2 ⟨hb2, rfl⟩
      go_wp2_with fail
      go_ret2
      exact ⟨rfl, nx hb1 hb2⟩
    | some u =>
      obtain ⟨rfl, hd⟩ := treeOf_some k
      have su := u.str_size
      rcases pos_str t n with ⟨hn0, hn1, hp0, hp1⟩ | ⟨hout, hp⟩
      · have gs := graft_size t n u.str hp0 hp1
        have HG : graftO t.str n u.str = if (t.carets : Int) + u.carets ≤ 8 then some (graftS t.str n u.str) else none := by
          simp only [graftO, h, k]
          by_cases hz : (t.carets : Int) + u.carets ≤ 8
          · rw [if_pos hz, if_pos (by omega)]
          · rw [if_neg hz, if_neg (by omega)]
        clear h k
        obtain ⟨q, hq⟩ : ∃ q : Nat, posFrom t.str.data.toList 0 n = q := ⟨(posFrom t.str.data.toList 0 n).toNat, by omega⟩
        have hgr : graftS t.str n u.str = t.str.extract 0 q ++ u.str ++ t.str.extract (q + 1) t.str.size := by unfold graftS; rw [hq]; rfl
        have hlq : q < t.str.size := by omega
        have hzt : t.str.size ≤ 1000 := by omega
        have hzu : u.str.size ≤ 1000 := by omega
        have hc3 := leafPlace_any t.str n
        rw [hq] at hc3
        have HQ := Lib.hid hgr
        have GS := Lib.hid gs
        by_cases hz : (t.carets : Int) + u.carets ≤ 8
        · rw [HG, if_pos hz]
          have hsz : Hid (((t.str.extract 0 q ++ u.str ++ t.str.extract (q + 1) t.str.size).size : Int) ≤ 25) := by
            show _ ≤ _
            rw [← hgr, gs]; omega
          clear HG hq hgr gs hp0 hp1 st su
          go_enter Try.func24, Try.ntmps24
          go_wp2_with fail
          refine (implIsTree_yes t _ hc).mono ?_; rintro e w1 ⟨hb1, rfl⟩
          go_wp2_with fail
          refine (implIsTree_yes u _ hd).mono ?_; rintro e w2 ⟨hb2, rfl⟩
          go_wp2_with fail
          refine (hc3 _ ha hn0 hn).mono ?_; rintro e w3 ⟨rfl, d, hw3⟩; have hb3 : Below w.heap.size w w3 := by rw [hw3]; exact drewB (nx hb1 hb2) d
          clear hw3
          go_wp2_with fail
          have hq1 : (q : Int) ≤ (t.str.size : Int) := by omega
          have hq2 : (q : Int) + 1 ≤ (t.str.size : Int) := by omega
          go_quiet ((go_at_call 94; exact quiet_eq (limitS_yes _ _ hsz.out)))
          go_wp2_with fail
          go_ret2
          exact ⟨by rw [HQ.out]; rfl, drewB hb3 _⟩
        · rw [HG, if_neg hz]
          have hsz : Hid (25 < ((t.str.extract 0 q ++ u.str ++ t.str.extract (q + 1) t.str.size).size : Int)) := by
            show _ < _
            rw [← hgr, gs]; omega
          clear HG hq hgr gs hp0 hp1 st su
          go_enter Try.func24, Try.ntmps24
          go_wp2_with fail
          refine (implIsTree_yes t _ hc).mono ?_; rintro e w1 ⟨hb1, rfl⟩
          go_wp2_with fail
          refine (implIsTree_yes u _ hd).mono ?_; rintro e w2 ⟨hb2, rfl⟩
          go_wp2_with fail
          refine (hc3 _ ha hn0 hn).mono ?_; rintro e w3 ⟨rfl, d, hw3⟩; have hb3 : Below w.heap.size w w3 := by rw [hw3]; exact drewB (nx hb1 hb2) d
          clear hw3
          go_wp2_with fail
          have hq1 : (q : Int) ≤ (t.str.size : Int) := by omega
          have hq2 : (q : Int) + 1 ≤ (t.str.size : Int) := by omega
          go_quiet ((go_at_call 94; exact quiet_eq (limitS_no _ _ hsz.out)))
          go_wp2_with fail
          go_ret2
          exact ⟨rfl, drewB hb3 _⟩
      · have HG : graftO t.str n u.str = none := by
          simp only [graftO, h, k]
          rw [if_neg (by omega)]
        rw [HG]
        have hl : ∀ w, Calls Try.prog 93 #[.string t.str, .int .i64 n] w (Quietly (.int .i64 (-1)) w) := by
          intro w
          by_cases hneg : n < 0
          · exact leafPlace_neg t.str n w (by omega) hneg hn'
          · have := leafPlace_any t.str n w ha (by omega) hn
            rwa [hp] at this
        clear HG hp h k hout st su
        go_enter Try.func24, Try.ntmps24
        go_wp2_with fail
        refine (implIsTree_yes t _ hc).mono ?_; rintro e w1 ⟨hb1, rfl⟩
        go_wp2_with fail
        refine (implIsTree_yes u _ hd).mono ?_; rintro e w2 ⟨hb2, rfl⟩
        go_wp2_with fail
        refine (hl _).mono ?_; rintro e w3 ⟨rfl, d, rfl⟩
        go_wp2_with fail
        go_ret2
        exact ⟨rfl, drewB (nx hb1 hb2) _⟩
end Go.Proofs.Yteflpaebckichab

/-! GenC -/
namespace Go.Proofs.Yteflpaebckichab
open Go.RowKit

/-- x(i) -/
def genP (i : Nat) : Pr := ((rcomb i).graft i (lcomb 2), rcomb (i + 2))
def genO (n : Int) : Option Pr := if 0 ≤ n ∧ n ≤ 6 then some (genP n.toNat) else none
theorem lcomb2_str : (lcomb 2).str = ⟨#[40, 40, 46, 46, 41, 46, 41]⟩ := by apply ba_ext; rfl

theorem trGraft_tr (t u : Tr) (n : Int) (w : World) (h : 0 ≤ n) (k : n ≤ t.carets) (ht : t.carets ≤ 100) (hu : u.carets ≤ 100) :
    Calls Try.prog 109 #[.string t.str, .int .i64 n, .string u.str] w (Gives (.string (t.graft n u).str) w) := by
  have hz := t.str_size
  have hy := u.str_size
  have hp := pos_str t n
  have := trGraft_any t.str u.str n w (by omega) (by omega) h (by omega) (by omega)
  rw [graft_str t u n h (by unfold Tr.leaves; omega)] at this
  exact this
theorem graftO_tr (t u : Tr) (n : Int) (ht : t.carets ≤ 8) (hu : u.carets ≤ 8) : graftO t.str n u.str = if 0 ≤ n ∧ n ≤ t.carets ∧ t.carets + u.carets ≤ 8 then some (t.graft n u).str else none := by
  unfold graftO
  rw [treeOf_str t ht, treeOf_str u hu]
  by_cases h : 0 ≤ n ∧ n ≤ t.carets ∧ t.carets + u.carets ≤ 8
  · have := graft_str t u n h.1 (by unfold Tr.leaves; omega)
    simp [h, this]
  · simp [h]

set_option maxHeartbeats 1000000 in
theorem prGenerator_any (i : Nat) (w : World) (hi : i ≤ 20) :
    Calls Try.prog 156 #[.int .i64 i] w (Gives (.agg #[.string (genP i).1.str, .string (genP i).2.str]) w) := by
  have R1 := fun w => trRight_any i w (by omega)
  have R2 := fun w => trRight_any (i + 2) w (by omega)
  have c1 := rcomb_carets i
  have T := fun w => trGraft_tr (rcomb i) (lcomb 2) i w (by omega) (by omega) (by omega) (by decide)
  rw [lcomb2_str] at T
  have e2 : ((i + 2 : Nat) : Int) = (i : Int) + 2 := by omega
  rw [e2] at R2
  unfold genP
  generalize rcomb i = X at *
  generalize rcomb (i + 2) = Y at *
  generalize X.graft i (lcomb 2) = U at *
  clear e2 c1
  go_enter Try.func156, Try.ntmps156
  go_wp2_with fail
  have hb0 : Below w.heap.size w (w.alloc (.cells #[.string ⟨#[]⟩, .string ⟨#[]⟩] 59 (0, 0))) := nxAlloc (Below.refl _ _) _
  have hx := heap_alloc_at w (.cells #[.string ⟨#[]⟩, .string ⟨#[]⟩] 59 (0, 0))
  generalize w.alloc (.cells #[.string ⟨#[]⟩, .string ⟨#[]⟩] 59 (0, 0)) = w0 at *
  refine (R1 _).mono ?_; rintro e wc ⟨rfl, rfl⟩
  go_wp2_with fail
  refine (T _).mono ?_; rintro e w1 ⟨rfl, hb1⟩
  have hbw1 := nx hb0 hb1
  replace hx := heap_keep hb1 hx
  clear hb1 hb0
  obtain ⟨n1, n2⟩ := two_cells hx
  obtain ⟨f1, f2⟩ := two_frozen hx
  go_wp2_with fail
  refine (R2 _).mono ?_; rintro e wc ⟨rfl, rfl⟩
  go_wp2_with fail
  obtain ⟨q1, q2⟩ := two_cells (set_two (.string U.str) (.string Y.str) hx)
  refine bodyPost_ret (v := .agg #[.string U.str, .string Y.str]) (by simp [q1, q2, results, Try.results156, go_sem]) rfl ⟨rfl, ?_⟩
  exact (hbw1.setCell (Nat.le_refl _) _).setCell (Nat.le_refl _) _

end Go.Proofs.Yteflpaebckichab
