/- Texts that the claim needs, part 2. -/
import Derived.Test.YteflpaebckichabMgTreesJoined0
import Derived.Deep.RegionWith
import Derived.OwnWalk
import Derived.Lib.Bytealg
import Derived.Deep.RegionHeld3
/-! ImplExp -/
namespace Go.Proofs.Yteflpaebckichab
open Go.RowKit

/-- A call that hands back a slice of integers of its own, and true. -/
def IntsOk (xs : List Int) (w : World) (e : Ending) (w' : World) : Prop :=
  ∃ v, OwnI w.heap.size w' v xs ∧ Below w.heap.size w w' ∧ e = .returned (.tuple #[v, .bool true])

theorem expB_from (s : ByteArray) (k : Nat) : ((s.extract k s.size).data.toList.take (ByteArray.mk #[40, 46, 46, 41]).size == (ByteArray.mk #[40, 46, 46, 41]).data.toList) = expB (s.data.toList.drop k) := by
  unfold expB
  rw [ext_end]
  rfl

set_option maxRecDepth 100000 in
set_option maxHeartbeats 2000000 in
theorem exposedIn_any (s : ByteArray) (w : World) (hs : s.size ≤ 1000) :
    Calls Try.prog 84 #[.string s] w (GivesInts (exL s.data.toList 0) w) := by
  obtain ⟨i0, hi, hz0, hz1, hz2⟩ := info_parts info_int
  go_enter Try.func84, Try.ntmps84
  go_wp2_with fail
  go_loopw [3, 4, 8] (fun v n i wr => ∃ (k : Nat) (m : Int) (xs : List Int), k ≤ s.size ∧ 0 ≤ m ∧ m ≤ k ∧ i = .int .i64 k ∧ n = .int .i64 m ∧ xs.length ≤ k ∧ OwnI w.heap.size wr v xs ∧ Below w.heap.size w wr ∧ Hid (exL s.data.toList 0 = xs ++ exL (s.data.toList.drop k) m)) (fun _ _ i _ => s.size - (intOf i).toNat)
  case atStart => exact ⟨0, 0, [], Nat.zero_le _, by omega, by omega, rfl, rfl, Nat.le_refl _, OwnI.nil _ _, Below.refl _ _, rfl⟩
  case round =>
    obtain ⟨k, m, xs, hk, hm0, hm1, rfl, rfl, hxl, hown, hbw, he⟩ := hrel
    by_cases hlt : k < s.size
    · obtain ⟨c, r, hd, hb, hr⟩ := drop_of_byteAt hlt
      have hx : ((s[k]'hlt).toNat : Int) = (c.toNat : Int) := by rw [← hb]; exact (byteAt_eq s k hlt).symm
      have h46 : (((s[k]'hlt).toNat : Int) == 46) = decide (c = 46) := by
        rw [hx, Bool.eq_iff_iff]
        simp only [beq_iff_eq, decide_eq_true_eq]
        exact ⟨fun e => u8_eq (n := 46) (by omega) e, fun e => by rw [e]; rfl⟩
      have hstep : exL (s.data.toList.drop k) m = (if expB (s.data.toList.drop k) = true then [m] else []) ++ exL (s.data.toList.drop (k + 1)) (if c = 46 then m + 1 else m) := by
        rw [hr, hd, exL]
      have H46 := Lib.hid h46
      have HS := Lib.hid hstep
      have hpc := hasPrefixS_any (s.extract k s.size) (ByteArray.mk #[40, 46, 46, 41])
      rw [expB_from] at hpc
      have hsz : (s.extract k s.size).size ≤ 9223372036854775806 := by simp; omega
      clear hd hb hr hx h46 hstep
      cases hE : expB (s.data.toList.drop k) with
      | true =>
        rw [hE] at hpc
        have HE1 := Lib.hid hE
        clear hE
        by_cases hc : c = 46
        all_goals
          have h4 := H46.out
          simp only [hc, decide_true, decide_false] at h4
          have HC := Lib.hid hc
          have H4 := Lib.hid h4
          clear hc h4
          go_wp2_with fail
          refine (hpc _ hsz (by decide)).mono ?_; rintro e wx ⟨rfl, rfl⟩
          go_wp2_with (at_builtin; refine wpList_append_own _ rfl _ _ 28 rfl w.heap.size 3 i0 (.int .i64 0) 1 8 Try.underlying28 hi hz0 hz1 hz2 rfl (by decide) _ _ _ rfl (hown.alloc _) ⟨wr.heap.size, 0, none⟩ 1 1 [.int .i64 m] rfl rfl (new1 _ _ _) (one1 _) (by unfold maxLen; omega) (by omega) (size_al hbw _) ?_; intro v' w1 hown' hgrow hnn)
          have hbw' := below_app hbw hown (Nat.le_refl _) hgrow
          have hown1 := OwnI.snoc hown'
          have he' : exL s.data.toList 0 = (xs ++ [m]) ++ exL (s.data.toList.drop (k + 1)) (if c = 46 then m + 1 else m) := by
            rw [he.out, HS.out, if_pos HE1.out, List.append_assoc]
          have HE := Lib.hid he'
          have g := H4.out
          have gz : ((⟨#[46]⟩ : ByteArray)[0]'(by decide)).toNat = 46 := rfl
          clear hown hown' hgrow hbw hnn he' he
          go_wp2_with fail
          go_quiet (fail)
          go_wp2_with fail
          clear g gz
          go_roundw
          case rel =>
            have he' := HE.out
            have hc := HC.out
            first | rw [if_pos hc] at he' | rw [if_neg hc] at he'
            exact ⟨k + 1, _, xs ++ [m], by omega, by omega, by omega, by go_num, rfl, by simp; omega, hown1.keep (drewB (Below.refl _ _) _), drewB hbw' _, he'⟩
          case measure => simp [intOf]; omega
      | false =>
        rw [hE] at hpc
        have he' : exL s.data.toList 0 = xs ++ exL (s.data.toList.drop (k + 1)) (if c = 46 then m + 1 else m) := by
          rw [he.out, HS.out, if_neg (by rw [hE]; decide), List.nil_append]
        have HE := Lib.hid he'
        clear hE he' he
        by_cases hc : c = 46
        all_goals
          have h4 := H46.out
          simp only [hc, decide_true, decide_false] at h4
          have HC := Lib.hid hc
          have H4 := Lib.hid h4
          clear hc h4
          go_wp2_with fail
          refine (hpc _ hsz (by decide)).mono ?_; rintro e wx ⟨rfl, rfl⟩
          have g := H4.out
          have gz : ((⟨#[46]⟩ : ByteArray)[0]'(by decide)).toNat = 46 := rfl
          go_wp2_with fail
          go_quiet (fail)
          go_wp2_with fail
          clear g gz
          go_roundw
          case rel =>
            have he' := HE.out
            have hc := HC.out
            first | rw [if_pos hc] at he' | rw [if_neg hc] at he'
            exact ⟨k + 1, _, xs, by omega, by omega, by omega, by go_num, rfl, by omega, hown.keep (drewB (Below.refl _ _) _), drewB hbw _, he'⟩
          case measure => simp [intOf]; omega
    · obtain rfl : k = s.size := by omega
      have hend : exL s.data.toList 0 = xs := by
        have h1 : s.data.toList.drop s.size = [] := List.drop_of_length_le (by rw [Lib.size_eq]; exact Nat.le_refl _)
        have := he.out
        rw [h1] at this
        simpa [exL] using this
      have HE := Lib.hid hend
      clear hend he
      go_wp2_with fail
      go_ret
      exact ⟨_, by rw [HE.out]; exact hown, hbw, rfl⟩

theorem implExposedOf_yes (t : Tr) (w : World) (h : t.carets ≤ 8) :
    Calls Try.prog 13 #[.string t.str] w (IntsOk (exL t.text 0) w) := by
  rw [← Tr.str_list]
  have hs : t.str.size ≤ 1000 := by have := t.str_size; omega
  go_enter Try.func13, Try.ntmps13
  go_wp2_with fail
  refine (implIsTree_yes t _ h).mono ?_; rintro e w0 ⟨hb0, rfl⟩
  go_wp2_with fail
  refine (exposedIn_any t.str _ hs).mono ?_; rintro e w1 ⟨v, own, hb1, rfl⟩
  go_wp2_with fail
  go_ret2
  exact ⟨_, own.mono hb0.size, nx hb0 hb1, rfl⟩
end Go.Proofs.Yteflpaebckichab

/-! SpecMir -/
namespace Go.Proofs.Yteflpaebckichab
open Go.RowKit

set_option maxHeartbeats 400000 in
theorem trMirror_any (t : Tr) : ∀ (w : World), t.carets ≤ 60 →
    Calls Try.prog 90 #[.string t.str] w (Gives (.string t.mir.str) w) := by
  induction t with
  | lf =>
    intro w h
    go_enter Try.func90, Try.ntmps90
    go_wp2_with fail
    refine (trLeaf_any .lf _).mono ?_; rintro e w1 ⟨rfl, rfl⟩
    simp only [Tr.isLf]
    go_wp2_with fail
    go_ret
    exact ⟨rfl, Below.refl _ _⟩
  | nd l r ihl ihr =>
    intro w h
    have h' : l.carets + r.carets + 1 ≤ 60 := h
    have ml := mir_carets l
    have mr := mir_carets r
    go_enter Try.func90, Try.ntmps90
    go_wp2_with fail
    refine (trLeaf_any (.nd l r) _).mono ?_; rintro e w1 ⟨rfl, rfl⟩
    simp only [Tr.isLf]
    go_wp2_with fail
    refine (trSides_any l r _ (by omega)).mono ?_; rintro e w1 ⟨rfl, hb1⟩
    go_wp2_with fail
    refine (ihr _ (by omega)).mono ?_; rintro e w2 ⟨rfl, hb2⟩
    go_wp2_with fail
    refine (ihl _ (by omega)).mono ?_; rintro e w3 ⟨rfl, hb3⟩
    go_wp2_with fail
    refine (trOf_any r.mir l.mir _ (by omega)).mono ?_; rintro e w4 ⟨rfl, rfl⟩
    go_wp2_with fail
    go_ret
    exact ⟨rfl, nx (nx hb1 hb2) hb3⟩

set_option maxHeartbeats 400000 in
theorem trJoin_any (a : Tr) : ∀ (b : Tr) (w : World), a.carets ≤ 60 → b.carets ≤ 60 →
    Calls Try.prog 105 #[.string a.str, .string b.str] w (Gives (.string (a.join b).str) w) := by
  induction a with
  | lf =>
    intro b w ha hb
    go_enter Try.func105, Try.ntmps105
    go_wp2_with fail
    refine (trLeaf_any .lf _).mono ?_; rintro e w1 ⟨rfl, rfl⟩
    simp only [Tr.isLf]
    go_wp2_with fail
    go_ret
    exact ⟨rfl, Below.refl _ _⟩
  | nd l r ihl ihr =>
    intro b w ha hb
    have h' : l.carets + r.carets + 1 ≤ 60 := ha
    cases b with
    | lf =>
      go_enter Try.func105, Try.ntmps105
      go_wp2_with fail
      refine (trLeaf_any (.nd l r) _).mono ?_; rintro e w1 ⟨rfl, rfl⟩
      simp only [Tr.isLf]
      go_wp2_with fail
      refine (trLeaf_any .lf _).mono ?_; rintro e w1 ⟨rfl, rfl⟩
      simp only [Tr.isLf]
      go_wp2_with fail
      go_ret
      exact ⟨rfl, Below.refl _ _⟩
    | nd p q =>
      have h2 : p.carets + q.carets + 1 ≤ 60 := hb
      have ml := join_carets l p
      have mr := join_carets r q
      go_enter Try.func105, Try.ntmps105
      go_wp2_with fail
      refine (trLeaf_any (.nd l r) _).mono ?_; rintro e w1 ⟨rfl, rfl⟩
      simp only [Tr.isLf]
      go_wp2_with fail
      refine (trLeaf_any (.nd p q) _).mono ?_; rintro e w1 ⟨rfl, rfl⟩
      simp only [Tr.isLf]
      go_wp2_with fail
      refine (trSides_any l r _ (by omega)).mono ?_; rintro e w1 ⟨rfl, hb1⟩
      go_wp2_with fail
      refine (trSides_any p q _ (by omega)).mono ?_; rintro e w2 ⟨rfl, hb2⟩
      go_wp2_with fail
      refine (ihl p _ (by omega) (by omega)).mono ?_; rintro e w3 ⟨rfl, hb3⟩
      go_wp2_with fail
      refine (ihr q _ (by omega) (by omega)).mono ?_; rintro e w4 ⟨rfl, hb4⟩
      go_wp2_with fail
      refine (trOf_any (l.join p) (r.join q) _ (by omega)).mono ?_; rintro e w5 ⟨rfl, rfl⟩
      go_wp2_with fail
      go_ret
      exact ⟨rfl, nx (nx (nx hb1 hb2) hb3) hb4⟩

set_option maxHeartbeats 400000 in
theorem trCommon_any (a : Tr) : ∀ (b : Tr) (w : World), a.carets ≤ 60 → b.carets ≤ 60 →
    Calls Try.prog 107 #[.string a.str, .string b.str] w (Gives (.string (a.com b).str) w) := by
  induction a with
  | lf =>
    intro b w ha hb
    go_enter Try.func107, Try.ntmps107
    go_wp2_with fail
    refine (trLeaf_any .lf _).mono ?_; rintro e w1 ⟨rfl, rfl⟩
    simp only [Tr.isLf]
    go_wp2_with fail
    go_ret
    exact ⟨rfl, Below.refl _ _⟩
  | nd l r ihl ihr =>
    intro b w ha hb
    have h' : l.carets + r.carets + 1 ≤ 60 := ha
    cases b with
    | lf =>
      go_enter Try.func107, Try.ntmps107
      go_wp2_with fail
      refine (trLeaf_any (.nd l r) _).mono ?_; rintro e w1 ⟨rfl, rfl⟩
      simp only [Tr.isLf]
      go_wp2_with fail
      refine (trLeaf_any .lf _).mono ?_; rintro e w1 ⟨rfl, rfl⟩
      simp only [Tr.isLf]
      go_wp2_with fail
      go_ret
      exact ⟨rfl, Below.refl _ _⟩
    | nd p q =>
      have h2 : p.carets + q.carets + 1 ≤ 60 := hb
      have ml := com_carets l p
      have mr := com_carets r q
      go_enter Try.func107, Try.ntmps107
      go_wp2_with fail
      refine (trLeaf_any (.nd l r) _).mono ?_; rintro e w1 ⟨rfl, rfl⟩
      simp only [Tr.isLf]
      go_wp2_with fail
      refine (trLeaf_any (.nd p q) _).mono ?_; rintro e w1 ⟨rfl, rfl⟩
      simp only [Tr.isLf]
      go_wp2_with fail
      refine (trSides_any l r _ (by omega)).mono ?_; rintro e w1 ⟨rfl, hb1⟩
      go_wp2_with fail
      refine (trSides_any p q _ (by omega)).mono ?_; rintro e w2 ⟨rfl, hb2⟩
      go_wp2_with fail
      refine (ihl p _ (by omega) (by omega)).mono ?_; rintro e w3 ⟨rfl, hb3⟩
      go_wp2_with fail
      refine (ihr q _ (by omega) (by omega)).mono ?_; rintro e w4 ⟨rfl, hb4⟩
      go_wp2_with fail
      refine (trOf_any (l.com p) (r.com q) _ (by omega)).mono ?_; rintro e w5 ⟨rfl, rfl⟩
      go_wp2_with fail
      go_ret
      exact ⟨rfl, nx (nx (nx hb1 hb2) hb3) hb4⟩

end Go.Proofs.Yteflpaebckichab

/-! Ans -/
namespace Go.Proofs.Yteflpaebckichab
open Go.RowKit

def trS : Option Tr → ByteArray
  | some t => t.str
  | none => ⟨#[]⟩
def trB : Option Tr → Bool
  | some _ => true
  | none => false
/-- An answer of a text and a bool. -/
def ansV (o : Option Tr) : Value := .tuple #[.string (trS o), .bool (trB o)]
/-- A tree, if it has no more carets than allowed. -/
def lim (t : Tr) : Option Tr := if t.carets ≤ 8 then some t else none

theorem trIs_yes (t : Tr) (w : World) (h : t.carets ≤ 8) : Calls Try.prog 81 #[.string t.str] w fun e w' => e = .returned (.bool true) ∧ w = w' := by
  have := trIs_any t.str w (by have := t.str_size; omega)
  rwa [isTreeB_str t h] at this
theorem trIs_no (s : ByteArray) (w : World) (hs : s.size ≤ 9223372036854775806) (h : treeOf s = none) : Calls Try.prog 81 #[.string s] w fun e w' => e = .returned (.bool false) ∧ w = w' := by
  have := trIs_any s w hs
  rwa [isTreeB_eq, h] at this
theorem carets_str (t : Tr) (w : World) (h : t.carets ≤ 1000) : Calls Try.prog 87 #[.string t.str] w fun e w' => e = .returned (.int .i64 t.carets) ∧ w = w' := by
  have := carets_any t.str w (by have := t.str_size; omega)
  rwa [cnt_str] at this

theorem limit_yes (t : Tr) (w : World) (h : t.carets ≤ 8) : Calls Try.prog 94 #[.string t.str] w fun e w' => e = .returned (.tuple #[.string t.str, .bool true]) ∧ w = w' := by
  have hz := t.str_size
  have hz' : t.str.size ≤ 25 := by omega
  clear hz
  go_enter Try.func94, Try.ntmps94
  go_wp2_with fail
  go_ret2
  exact ⟨rfl, rfl⟩
theorem limit_no (t : Tr) (w : World) (h : 8 < t.carets) : Calls Try.prog 94 #[.string t.str] w fun e w' => e = .returned (.tuple #[.string ⟨#[]⟩, .bool false]) ∧ w = w' := by
  have hz := t.str_size
  have hz' : 25 < t.str.size := by omega
  clear hz
  go_enter Try.func94, Try.ntmps94
  go_wp2_with fail
  go_ret2
  exact ⟨rfl, rfl⟩
theorem limit_any (t : Tr) (w : World) : Calls Try.prog 94 #[.string t.str] w fun e w' => e = .returned (ansV (lim t)) ∧ w = w' := by
  by_cases h : t.carets ≤ 8
  · have := limit_yes t w h
    rw [show ansV (lim t) = .tuple #[.string t.str, .bool true] by simp [lim, h, ansV, trS, trB]]
    exact this
  · have := limit_no t w (by omega)
    rw [show ansV (lim t) = .tuple #[.string ⟨#[]⟩, .bool false] by simp [lim, h, ansV, trS, trB]]
    exact this

def TreesOk (t u : Tr) (w : World) (e : Ending) (w' : World) : Prop :=
  ∃ b c : Nat, NodeAt w' t b ∧ NodeAt w' u c ∧ Below w.heap.size w w' ∧ e = .returned (.tuple #[.pointer (some ⟨b, 0, none⟩), .pointer (some ⟨c, 0, none⟩), .bool true])
def TreesNo (w : World) (e : Ending) (w' : World) : Prop :=
  Below w.heap.size w w' ∧ e = .returned (.tuple #[.pointer none, .pointer none, .bool false])

theorem trees_yes (t u : Tr) (w : World) (h : t.carets ≤ 8) (k : u.carets ≤ 8) :
    Calls Try.prog 103 #[.string t.str, .string u.str] w (TreesOk t u w) := by
  go_enter Try.func103, Try.ntmps103
  go_wp2_with fail
  refine (read_yes t _ h).mono ?_; rintro e w1 ⟨b1, hn1, hb1, rfl⟩
  go_wp2_with fail
  refine (read_yes u _ k).mono ?_; rintro e w2 ⟨b2, hn2, hb2, rfl⟩
  go_wp2_with fail
  go_ret3
  exact ⟨b1, b2, hn1.keep hb2, hn2, nx hb1 hb2, rfl⟩

theorem trees_no1 (s u : ByteArray) (w : World) (hs : s.size ≤ 9223372036854775806) (h : treeOf s = none) :
    Calls Try.prog 103 #[.string s, .string u] w (TreesNo w) := by
  have H := Lib.hid h
  clear h
  go_enter Try.func103, Try.ntmps103
  go_wp2_with fail
  refine (read_no s _ hs H.out).mono ?_; rintro e w1 ⟨hb1, rfl⟩
  go_wp2_with fail
  go_ret3
  exact ⟨hb1, rfl⟩

theorem trees_no2 (t : Tr) (s : ByteArray) (w : World) (k : t.carets ≤ 8) (hs : s.size ≤ 9223372036854775806) (h : treeOf s = none) :
    Calls Try.prog 103 #[.string t.str, .string s] w (TreesNo w) := by
  have H := Lib.hid h
  clear h
  go_enter Try.func103, Try.ntmps103
  go_wp2_with fail
  refine (read_yes t _ k).mono ?_; rintro e w1 ⟨b1, hn1, hb1, rfl⟩
  go_wp2_with fail
  refine (read_no s _ hs H.out).mono ?_; rintro e w2 ⟨hb2, rfl⟩
  go_wp2_with fail
  go_ret3
  exact ⟨nx hb1 hb2, rfl⟩
end Go.Proofs.Yteflpaebckichab

/-! WExposedOf -/
namespace Go.Proofs.Yteflpaebckichab
open Go.RowKit

def ExposedOf_o (a : ByteArray) : Option (List Int) :=
  match treeOf a with
  | some t => some (exL t.text 0)
  | none => none

theorem ExposedOf_len (a : ByteArray) : ((ExposedOf_o a).getD []).length ≤ 1000000000 := by
  unfold ExposedOf_o
  cases h : treeOf a with
  | none => simp
  | some t =>
    have := exL_length t.text 0
    have := t.text_len
    have := (treeOf_some h).2
    simp; omega

theorem specExposedOf_any (a : ByteArray) (w : World) (ha : a.size ≤ 9223372036854775806) :
    Calls Try.prog 14 #[.string a] w (AnsIs (ExposedOf_o a) w) := by
  cases h : treeOf a with
  | none =>
    rw [show ExposedOf_o a = none by simp [ExposedOf_o, h]]
    have H := Lib.hid h
    clear h
    go_enter Try.func14, Try.ntmps14
    go_wp2_with fail
    refine (trIs_no a _ ha H.out).mono ?_; rintro e w1 ⟨rfl, rfl⟩
    go_wp2_with fail
    go_ret2
    exact ⟨_, OwnI.nil _ _, Below.refl _ _, rfl⟩
  | some t =>
    obtain ⟨rfl, hc⟩ := treeOf_some h
    rw [show ExposedOf_o t.str = some (exL t.text 0) by simp [ExposedOf_o, h]]
    have st := t.str_size
    have he := trExposed_any t.str
    rw [Tr.str_list] at he
    clear h
    go_enter Try.func14, Try.ntmps14
    go_wp2_with fail
    refine (trIs_yes t _ hc).mono ?_; rintro e w1 ⟨rfl, rfl⟩
    go_wp2_with fail
    refine (he _ (by omega)).mono ?_; rintro e w1 ⟨v, own, hb1, rfl⟩
    go_wp2_with fail
    go_ret2
    exact ⟨_, own, hb1, rfl⟩

theorem implExposedOf_any (a : ByteArray) (w : World) (ha : a.size ≤ 9223372036854775806) :
    Calls Try.prog 13 #[.string a] w (AnsIs (ExposedOf_o a) w) := by
  cases h : treeOf a with
  | none =>
    rw [show ExposedOf_o a = none by simp [ExposedOf_o, h]]
    have H := Lib.hid h
    clear h
    go_enter Try.func13, Try.ntmps13
    go_wp2_with fail
    refine (implIsTree_no a _ ha H.out).mono ?_; rintro e w1 ⟨hb1, rfl⟩
    go_wp2_with fail
    go_ret2
    exact ⟨_, OwnI.nil _ _, hb1, rfl⟩
  | some t =>
    obtain ⟨rfl, hc⟩ := treeOf_some h
    rw [show ExposedOf_o t.str = some (exL t.text 0) by simp [ExposedOf_o, h]]
    exact implExposedOf_yes t w hc

end Go.Proofs.Yteflpaebckichab

/-! Dw8 -/
namespace Go.Proofs.Yteflpaebckichab
open Go.RowKit

/-- A call that draws a list of texts. -/
def GivesL (w : World) (e : Ending) (w' : World) : Prop :=
  ∃ (a : Option Addr) (n cap : Nat) (L : List ByteArray), L.length = n ∧ n ≤ cap ∧ n ≤ 1000 ∧ cap ≤ 9223372036854775807 ∧ InS w' a L ∧ (∀ s ∈ L, s.size ≤ 1000) ∧ e = .returned (.slice a n cap) ∧ Below w.heap.size w w'

theorem OwnS.inSD {base : Nat} {w : World} {g n cap : Nat} {L : List ByteArray} (h : OwnS base w (.slice (some ⟨g, 0, none⟩) n cap) L) (hn : L.length = n) : InS w (some ⟨g, 0, none⟩) L ∧ n ≤ cap ∧ cap ≤ 9223372036854775807 := by
  rcases h.cells with ⟨h1, h2⟩ | ⟨g2, cap2, h1, _, _, h3, h4, h5, _⟩
  · cases h1
  · simp only [Value.slice.injEq, Option.some.injEq, Addr.mk.injEq, and_true] at h1
    obtain ⟨rfl, rfl, rfl⟩ := h1
    unfold maxLen at h4
    exact ⟨.inr ⟨_, 0, rfl, fun i hi => by rw [Nat.zero_add]; exact h5 i hi⟩, h3, by omega⟩

theorem own_kept {base b : Nat} {w w' : World} {g n cap : Nat} {L : List ByteArray} (h : OwnS base w (.slice (some ⟨g, 0, none⟩) n cap) L) (hg : w.grownBy w' (some b)) (hb : b < g) : OwnS base w' (.slice (some ⟨g, 0, none⟩) n cap) L :=
  World.ownsRow.kept h hg (.inr (fun e => by simp only [Value.ownBlock, Option.some.injEq] at e; omega))
theorem own_n {base : Nat} {w : World} {v : Value} {n : Nat} {L : List ByteArray} (h : OwnS base w v L) (hn : n = L.length) : w.ownsRow base 9 1 v n (L.map Value.string) := by subst hn; exact h
theorem own_ge {base : Nat} {w : World} {g n cap : Nat} {L : List ByteArray} (h : OwnS base w (.slice (some ⟨g, 0, none⟩) n cap) L) : base ≤ g := by
  rcases h.cells with ⟨h1, h2⟩ | ⟨g2, cap2, h1, h3, _⟩
  · cases h1
  · simp only [Value.slice.injEq, Option.some.injEq, Addr.mk.injEq, and_true] at h1
    obtain ⟨rfl, _⟩ := h1
    exact h3
theorem InS.takeD {w : World} {a : Option Addr} {L : List ByteArray} (h : InS w a L) (m : Nat) : InS w a (L.take m) := by
  rcases h with rfl | ⟨g, off, ha, hr⟩
  · exact .inl (by simp)
  · refine .inr ⟨g, off, ha, fun i hi => ?_⟩
    rw [List.length_take] at hi
    rw [hr i (by omega)]
    have : i < m := by omega
    simp [List.getD_eq_getElem?_getD, this]
theorem empty_size : (⟨#[]⟩ : ByteArray).size = 0 := rfl
theorem set_mem {α : Type} {L : List α} {i : Nat} {x y : α} (h : y ∈ L.set i x) : y ∈ L ∨ y = x := by
  rcases List.mem_or_eq_of_mem_set h with h | h
  · exact .inl h
  · exact .inr h

set_option maxRecDepth 100000 in
set_option maxHeartbeats 1000000 in
theorem drawTreeWith_any (c : Bts) (w : World) (h : InB w c) : Calls Try.prog 25 #[.slice c.a c.n c.cap] w (GivesL w) := by
  have H := Lib.hid (cur_new h)
  clear h
  go_enter Try.func25, Try.ntmps25
  go_wp2_with fail
  refine (drawPick_any 7 _ c 0 _ H.out (by omega) (by omega) (by omega)).mono ?_; rintro e w1 ⟨x, hx, rfl, hT, hg⟩
  have HT := Lib.hid hT
  have HG := Lib.hid hg
  clear hT hg
  go_wp2_with fail
  refine (sureTree_any x _ c _ _ HT.out (by omega) (by omega)).mono ?_; rintro e w2 ⟨t, ht, rfl, hT, hg⟩
  have HT2 := Lib.hid hT
  have HG2 := Lib.hid (grown_trans HG.out hg)
  clear hT hg
  go_wp2_with fail
  refine (trAddresses_any t ⟨#[]⟩ _ (by omega) (by show 0 + _ ≤ _; omega)).mono ?_; rintro e w3 ⟨g, cap, hO, hb3, rfl⟩
  have hsz := addrs_size t ⟨#[]⟩
  have hln := addrs_length t ⟨#[]⟩
  have hge := own_ge hO
  generalize t.addrs ⟨#[]⟩ = L at *
  have hlt2 := HT2.out.lt
  have HT3 := Lib.hid (HT2.out.keep hb3)
  have HG3 := Lib.hid (grown_below HG2.out hb3)
  have hsz2 : Hid (∀ s ∈ L, s.size ≤ 500) := fun s hs => by have := hsz s hs; rw [empty_size] at this; omega
  have HLN := Lib.hid hln
  obtain ⟨n, hn⟩ : ∃ n, n = L.length := ⟨_, rfl⟩
  have hn1 : 1 ≤ n ∧ n ≤ 50 := by omega
  have hO2 : OwnS w2.heap.size w3 (.slice (some ⟨g, 0, none⟩) n cap) L := by rw [hn]; exact hO
  have HO := Lib.hid hO2
  rw [← hn]
  have HN := Lib.hid hn
  clear hsz hln hb3 hO hn hO2
  go_wp2_with fail
  refine (drawPick_any 6 _ c _ _ HT3.out (by omega) (by omega) (by omega)).mono ?_; rintro e w4 ⟨y, hy, rfl, hT, hg⟩
  have HT4 := Lib.hid hT
  have HG4 := Lib.hid (grown_trans HG3.out hg)
  have HO4 := Lib.hid (own_kept HO.out hg (by omega))
  have hgw : g < w4.heap.size := by
    rcases HO4.out.cells with ⟨h1, h2⟩ | ⟨g2, cap2, h1, h2, h3, _⟩
    · cases h1
    · simp only [Value.slice.injEq, Option.some.injEq, Addr.mk.injEq, and_true] at h1
      obtain ⟨rfl, _⟩ := h1
      exact h3
  clear hT hg
  by_cases h0 : y = 0
  · subst h0
    go_wp2_with fail
    refine (drawPick_any n _ c _ _ HT4.out (by omega) (by omega) (by omega)).mono ?_; rintro e w5 ⟨z, hz, rfl, hT, hg⟩
    have HT5 := Lib.hid hT
    have HG5 := Lib.hid (grown_trans HG4.out hg)
    have HO5 := Lib.hid (own_kept HO4.out hg (by omega))
    have hlt5 := HT5.out.lt
    clear hT hg
    go_wp2_with fail
    refine (drawOf_any [⟨#[]⟩, ⟨#[48]⟩, ⟨#[49]⟩, ⟨#[48, 49]⟩, ⟨#[50]⟩, ⟨#[48, 48, 48, 48, 48, 48, 48, 48, 48]⟩] 6 _ 6 _ c _ _ (HT5.out.keep (allocB _ _)) (rowT_alloc _ [⟨#[]⟩, ⟨#[48]⟩, ⟨#[49]⟩, ⟨#[48, 49]⟩, ⟨#[50]⟩, ⟨#[48, 48, 48, 48, 48, 48, 48, 48, 48]⟩] _) rfl (by omega) (by omega) (by omega) (by omega)).mono ?_; rintro e w6 ⟨s, hs, rfl, hT, hg⟩
    have hs2 : s.size ≤ 9 := by
      simp only [List.mem_cons, List.not_mem_nil, or_false] at hs
      rcases hs with rfl | rfl | rfl | rfl | rfl | rfl <;> decide
    have HG6 := Lib.hid (grown_trans (grown_below HG5.out (allocB _ _)) hg)
    have HO6 := Lib.hid (own_kept (HO5.out.keep (allocB _ _)) hg (by omega))
    clear hT hg hs
    have hfz : w6.frozen? ⟨g, z, none⟩ = false := World.ownsRow.frozenAt (own_n HO6.out HN.out) z
    obtain ⟨x9, hcell⟩ : ∃ x, w6.cell? ⟨g, z, none⟩ = some x := by
      have h1 := World.ownsRow.cellAt (own_n HO6.out HN.out) z (by omega)
      rw [h1]
      exact ⟨_, List.getElem?_eq_getElem (by rw [List.length_map, ← HN.out]; exact hz)⟩
    have hset := OwnS.set HN.out.symm HO6.out z s
    have hz' : (z : Int) < (n : Int) := by omega
    have hgr6 : Below w.heap.size w (w6.setCell ⟨g, z, none⟩ (.string s)) := (cur_below HG6.out).setCell (by have := HT2.out.lt; show w.heap.size ≤ g; omega) _
    have HS := Lib.hid hset
    clear hset
    go_wp2_with fail
    go_ret
    obtain ⟨q1, q2, q3⟩ := HS.out.inSD (by rw [List.length_set]; exact HN.out.symm)
    exact ⟨_, n, cap, _, by rw [List.length_set]; exact HN.out.symm, q2, by omega, q3, q1, fun u hu => by
      rcases set_mem hu with hu | rfl
      · have := hsz2.out u hu; omega
      · omega, rfl, hgr6⟩
  by_cases h1 : y = 1
  · subst h1
    obtain ⟨q1, q2, q3⟩ := HO4.out.inSD HN.out.symm
    have QI := Lib.hid q1
    obtain ⟨m, rfl⟩ : ∃ m, n = m + 1 := ⟨n - 1, by omega⟩
    have hm1 : (m : Int) ≤ (cap : Int) := by omega
    clear q1
    go_wp2_with fail
    go_ret
    exact ⟨_, m, cap, L.take m, by rw [List.length_take]; have := HN.out; omega, by omega, by omega, q3, QI.out.takeD m, fun u hu => by have := hsz2.out u (List.mem_of_mem_take hu); omega, rfl, cur_below HG4.out⟩
  by_cases h2 : y = 2
  · subst h2
    obtain ⟨i0, hi, hz0, hz1, hz2⟩ := info_parts info_str
    have hN := HN.out
    subst hN
    clear HN
    go_wp2_with (at_builtin; refine wpList_append_own _ rfl _ _ 25 rfl w2.heap.size 9 i0 (.string ⟨#[]⟩) 1 16 Try.underlying25 hi hz0 hz1 hz2 rfl (by decide) _ _ _ rfl (HO4.out.keep (allocB _ _)) ⟨w4.heap.size, 0, none⟩ 1 1 [.string ⟨#[49]⟩] rfl rfl (new1 _ _ _) (oneS [⟨#[49]⟩]) (by unfold maxLen; omega) (by omega) (by simp; omega) ?_; intro v' w5 hown' hgrow hnn)
    have hown1 : OwnS w2.heap.size w5 v' (L ++ [⟨#[49]⟩]) := OwnS.app hown'
    obtain ⟨g5, cap5, hv⟩ := hown1.shape (by simp)
    have hbw5 : Below w.heap.size w w5 := below_app0 ((cur_below HG4.out).trans ((allocB _ _).mono (cur_below HG4.out).size)) (HO4.out.keep (allocB _ _)) (by have := HT2.out.lt; omega) hgrow
    have HV := Lib.hid hv
    have HW := Lib.hid hown1
    clear hown' hgrow hv hnn hown1
    go_wp2_with fail
    go_ret
    have h9 := HW.out
    rw [HV.out] at h9
    obtain ⟨q1, q2, q3⟩ := h9.inSD rfl
    exact ⟨_, _, cap5, L ++ [⟨#[49]⟩], rfl, q2, by rw [List.length_append]; simp; omega, q3, q1, fun u hu => by
      rw [List.mem_append, List.mem_singleton] at hu
      rcases hu with hu | rfl
      · have := hsz2.out u hu; omega
      · decide, by rw [← HV.out]; rfl, hbw5⟩
  · have h0' : ¬ (y : Int) = 0 := by omega
    have h1' : ¬ (y : Int) = 1 := by omega
    have h2' : ¬ (y : Int) = 2 := by omega
    have e0 : ((y : Int) == 0) = false := by simpa using h0'
    have e1 : ((y : Int) == 1) = false := by simpa using h1'
    have e2 : ((y : Int) == 2) = false := by simpa using h2'
    clear h0 h1 h0' h1' h2 h2'
    go_wp2_with fail
    go_ret
    obtain ⟨q1, q2, q3⟩ := HO4.out.inSD HN.out.symm
    exact ⟨_, n, cap, L, HN.out.symm, q2, by omega, q3, q1, fun u hu => by have := hsz2.out u hu; omega, rfl, cur_below HG4.out⟩
end Go.Proofs.Yteflpaebckichab

/-! In0 -/
namespace Go.Proofs.Yteflpaebckichab
open Go.RowKit

theorem l1In_yes (n lo hi : Int) (w : World) (h1 : lo ≤ n) (h2 : n ≤ hi) :
    Calls Try.prog 118 #[.int .i64 n, .int .i64 lo, .int .i64 hi] w fun e w' => e = .returned (.bool true) ∧ w = w' := by
  go_enter Try.func118, Try.ntmps118
  go_wp2_with fail
  go_ret
  exact ⟨rfl, rfl⟩
theorem l1In_no (n lo hi : Int) (w : World) (h : n < lo ∨ hi < n) :
    Calls Try.prog 118 #[.int .i64 n, .int .i64 lo, .int .i64 hi] w fun e w' => e = .returned (.bool false) ∧ w = w' := by
  by_cases h1 : n < lo
  · clear h
    go_enter Try.func118, Try.ntmps118
    go_wp2_with fail
    go_ret
    exact ⟨rfl, rfl⟩
  · have h1' : lo ≤ n := by omega
    have h2 : hi < n := by omega
    clear h h1
    go_enter Try.func118, Try.ntmps118
    go_wp2_with fail
    go_ret
    exact ⟨ret_bool (by simp; omega), rfl⟩

end Go.Proofs.Yteflpaebckichab

/-! In -/
namespace Go.Proofs.Yteflpaebckichab
open Go.RowKit

/-- An answer of a text and a bool. -/
def ans2 (o : Option ByteArray) : Value := .tuple #[.string (o.getD ⟨#[]⟩), .bool o.isSome]

end Go.Proofs.Yteflpaebckichab

/-! Comb -/
namespace Go.Proofs.Yteflpaebckichab
open Go.RowKit

theorem trSize_yes (n : Int) (w : World) (h1 : 0 ≤ n) (h2 : n ≤ 8) : Calls Try.prog 114 #[.int .i64 n] w fun e w' => e = .returned (.bool true) ∧ w = w' := by
  go_enter Try.func114, Try.ntmps114
  go_wp2_with fail
  refine (l1In_yes n 0 8 _ h1 h2).mono ?_; rintro e w1 ⟨rfl, rfl⟩
  go_wp2_with fail
  go_ret
  exact ⟨rfl, rfl⟩
theorem trSize_no (n : Int) (w : World) (h : n < 0 ∨ 8 < n) : Calls Try.prog 114 #[.int .i64 n] w fun e w' => e = .returned (.bool false) ∧ w = w' := by
  have H := Lib.hid h
  clear h
  go_enter Try.func114, Try.ntmps114
  go_wp2_with fail
  refine (l1In_no n 0 8 _ H.out).mono ?_; rintro e w1 ⟨rfl, rfl⟩
  go_wp2_with fail
  go_ret
  exact ⟨rfl, rfl⟩

def rcomb : Nat → Tr
  | 0 => .lf
  | n + 1 => .nd .lf (rcomb n)
def lcomb : Nat → Tr
  | 0 => .lf
  | n + 1 => .nd (lcomb n) .lf
theorem rcomb_carets (n : Nat) : (rcomb n).carets = n := by induction n with | zero => rfl | succ n ih => simp [rcomb, Tr.carets, ih]
theorem lcomb_carets (n : Nat) : (lcomb n).carets = n := by induction n with | zero => rfl | succ n ih => simp [lcomb, Tr.carets, ih]
theorem rcomb_mir (n : Nat) : (rcomb n).mir = lcomb n := by induction n with | zero => rfl | succ n ih => simp [rcomb, lcomb, Tr.mir, ih]

theorem under_right (k : Nat) (w : World) (h : k ≤ 100) :
    Calls Try.prog 123 #[.string (rcomb k).str] w fun e w' => e = .returned (.string (rcomb (k + 1)).str) ∧ w = w' := by
  have hz := (rcomb k).str_size
  rw [rcomb_carets] at hz
  have e1 : (rcomb (k + 1)).str = ⟨#[40, 46]⟩ ++ (rcomb k).str ++ ⟨#[41]⟩ := by
    apply ba_ext
    rw [rcomb]
    simp [Tr.str, Tr.text]
  have E1 := Lib.hid e1
  clear e1
  go_enter Try.func123, Try.ntmps123
  go_wp2_with fail
  go_ret
  exact ⟨ret_str (by rw [E1.out]), rfl⟩
theorem under_left (k : Nat) (w : World) (h : k ≤ 100) :
    Calls Try.prog 122 #[.string (lcomb k).str] w fun e w' => e = .returned (.string (lcomb (k + 1)).str) ∧ w = w' := by
  have hz := (lcomb k).str_size
  rw [lcomb_carets] at hz
  have e1 : (lcomb (k + 1)).str = ⟨#[40]⟩ ++ (lcomb k).str ++ ⟨#[46]⟩ ++ ⟨#[41]⟩ := by
    apply ba_ext
    rw [lcomb]
    simp [Tr.str, Tr.text]
  have E1 := Lib.hid e1
  clear e1
  go_enter Try.func122, Try.ntmps122
  go_wp2_with fail
  go_ret
  exact ⟨ret_str (by rw [E1.out]), rfl⟩

def combO (g : Nat → Tr) (n : Int) : Option Tr := if 0 ≤ n ∧ n ≤ 8 then some (g n.toNat) else none

set_option maxHeartbeats 400000 in
theorem comb_any (g : Nat → Tr) (f : FuncId) (n : Int) (w : World) (h0 : g 0 = .lf)
    (hf : ∀ k w, k ≤ 100 → Calls Try.prog f #[.string (g k).str] w fun e w' => e = .returned (.string (g (k + 1)).str) ∧ w = w')
    (hcall : ∀ (args : Array Value) (w : World), (callFunc f args).run Try.prog w = .ok (.enter f args) w) :
    Calls Try.prog 121 #[.int .i64 n, .func (Fn.func f) #[] #[]] w fun e w' => e = .returned (ansV (combO g n)) ∧ w = w' := by
  unfold combO
  by_cases h1 : n < 0
  · rw [if_neg (by omega)]
    clear hf
    go_enter Try.func121, Try.ntmps121
    go_wp2_with fail
    go_ret2
    exact ⟨rfl, rfl⟩
  · by_cases h2 : 8 < n
    · rw [if_neg (by omega)]
      clear hf
      go_enter Try.func121, Try.ntmps121
      go_wp2_with fail
      go_ret2
      exact ⟨rfl, rfl⟩
    · rw [if_pos (by omega)]
      have HF := Lib.hid hf
      have H0 := Lib.hid h0
      clear hf h0
      go_enter Try.func121, Try.ntmps121
      go_wp2_with fail
      go_loop [6, 14] (fun t i => ∃ k : Nat, (k : Int) ≤ n ∧ i = .int .i64 k ∧ t = .string (g k).str) (fun _ i => n.toNat - (intOf i).toNat)
      case atStart => exact ⟨0, by omega, rfl, by rw [H0.out]; rfl⟩
      case round =>
        obtain ⟨k, hk, rfl, rfl⟩ := hrel
        by_cases hlt : (k : Int) < n
        · go_wp2_with fail
          refine (HF.out k _ (by omega)).mono ?_; rintro e w1 ⟨rfl, rfl⟩
          go_wp2_with fail
          go_round
          case rel => exact ⟨k + 1, by omega, by go_num, rfl⟩
          case measure => simp [intOf]; omega
        · obtain rfl : n = k := by omega
          go_wp2_with fail
          go_ret2
          exact ⟨rfl, rfl⟩

theorem implRightComb_any (n : Int) (w : World) (_lo : -9223372036854775808 ≤ n) (_hi : n ≤ 9223372036854775807) :
    Calls Try.prog 51 #[.int .i64 n] w (Gives (ansV (combO rcomb n)) w) := by
  go_enter Try.func51, Try.ntmps51
  go_wp2_with fail
  refine (comb_any rcomb 123 n _ rfl under_right (fun _ _ => by kernel_rfl)).mono ?_; rintro e w1 ⟨rfl, rfl⟩
  unfold ansV
  go_wp2_with fail
  go_ret2
  exact ⟨rfl, Below.refl _ _⟩

theorem implLeftComb_any (n : Int) (w : World) (_lo : -9223372036854775808 ≤ n) (_hi : n ≤ 9223372036854775807) :
    Calls Try.prog 50 #[.int .i64 n] w (Gives (ansV (combO lcomb n)) w) := by
  go_enter Try.func50, Try.ntmps50
  go_wp2_with fail
  refine (comb_any lcomb 122 n _ rfl under_left (fun _ _ => by kernel_rfl)).mono ?_; rintro e w1 ⟨rfl, rfl⟩
  unfold ansV
  go_wp2_with fail
  go_ret2
  exact ⟨rfl, Below.refl _ _⟩

theorem trRight_any (n : Nat) (w : World) (h : n ≤ 100) :
    Calls Try.prog 124 #[.int .i64 n] w fun e w' => e = .returned (.string (rcomb n).str) ∧ w = w' := by
  go_enter Try.func124, Try.ntmps124
  go_wp2_with fail
  go_loop [0, 3] (fun i t => ∃ k : Nat, k ≤ n ∧ i = .int .i64 k ∧ t = .string (rcomb (n - k)).str) (fun i _ => (intOf i).toNat)
  case atStart => exact ⟨n, Nat.le_refl _, rfl, by rw [Nat.sub_self]; rfl⟩
  case round =>
    obtain ⟨k, hk, rfl, rfl⟩ := hrel
    by_cases hlt : (0 : Int) < k
    · have hc := rcomb_carets (n - k)
      have he : Hid (rcomb (n - k + 1) = rcomb (n - (k - 1))) := by show _ = _; congr 1; omega
      go_wp2_with fail
      refine (trOf_any .lf (rcomb (n - k)) _ (by simp [Tr.carets, hc]; omega)).mono ?_; rintro e w1 ⟨rfl, rfl⟩
      go_wp2_with fail
      go_round
      case rel => exact ⟨k - 1, by omega, by go_num, by rw [← he.out]; rfl⟩
      case measure => simp [intOf]; omega
    · obtain rfl : k = 0 := by omega
      go_wp2_with fail
      go_ret
      exact ⟨rfl, rfl⟩

theorem specRightComb_any (n : Int) (w : World) (_lo : -9223372036854775808 ≤ n) (_hi : n ≤ 9223372036854775807) :
    Calls Try.prog 53 #[.int .i64 n] w (Gives (ansV (combO rcomb n)) w) := by
  unfold combO
  by_cases h : 0 ≤ n ∧ n ≤ 8
  · rw [if_pos h]
    obtain ⟨k, rfl⟩ : ∃ k : Nat, n = k := ⟨n.toNat, by omega⟩
    have h8 : k ≤ 8 := by omega
    clear h
    go_enter Try.func53, Try.ntmps53
    go_wp2_with fail
    refine (trSize_yes k _ (by omega) (by omega)).mono ?_; rintro e w1 ⟨rfl, rfl⟩
    go_wp2_with fail
    refine (trRight_any k _ (by omega)).mono ?_; rintro e w1 ⟨rfl, rfl⟩
    go_wp2_with fail
    go_ret2
    exact ⟨rfl, Below.refl _ _⟩
  · rw [if_neg h]
    have H : Hid (n < 0 ∨ 8 < n) := show _ ∨ _ by omega
    clear h
    go_enter Try.func53, Try.ntmps53
    go_wp2_with fail
    refine (trSize_no n _ H.out).mono ?_; rintro e w1 ⟨rfl, rfl⟩
    go_wp2_with fail
    go_ret2
    exact ⟨rfl, Below.refl _ _⟩

theorem specLeftComb_any (n : Int) (w : World) (_lo : -9223372036854775808 ≤ n) (_hi : n ≤ 9223372036854775807) :
    Calls Try.prog 54 #[.int .i64 n] w (Gives (ansV (combO lcomb n)) w) := by
  unfold combO
  by_cases h : 0 ≤ n ∧ n ≤ 8
  · rw [if_pos h]
    obtain ⟨k, rfl⟩ : ∃ k : Nat, n = k := ⟨n.toNat, by omega⟩
    have h8 : k ≤ 8 := by omega
    have hc := rcomb_carets k
    have hm := trMirror_any (rcomb k)
    rw [rcomb_mir] at hm
    clear h
    go_enter Try.func54, Try.ntmps54
    go_wp2_with fail
    refine (trSize_yes k _ (by omega) (by omega)).mono ?_; rintro e w1 ⟨rfl, rfl⟩
    go_wp2_with fail
    refine (trRight_any k _ (by omega)).mono ?_; rintro e w1 ⟨rfl, rfl⟩
    go_wp2_with fail
    refine (hm _ (by omega)).mono ?_; rintro e w1 ⟨rfl, hb1⟩
    go_wp2_with fail
    go_ret2
    exact ⟨rfl, hb1⟩
  · rw [if_neg h]
    have H : Hid (n < 0 ∨ 8 < n) := show _ ∨ _ by omega
    clear h
    go_enter Try.func54, Try.ntmps54
    go_wp2_with fail
    refine (trSize_no n _ H.out).mono ?_; rintro e w1 ⟨rfl, rfl⟩
    go_wp2_with fail
    go_ret2
    exact ⟨rfl, Below.refl _ _⟩
end Go.Proofs.Yteflpaebckichab

/-! CountP -/
namespace Go.Proofs.Yteflpaebckichab

/-- p choose k, step by step. -/
def chM (p : Nat) : Nat → Nat
  | 0 => 1
  | k + 1 => chM p k * (p - k) / (k + 1)

/-- How many lists of t trees have c carets together. -/
def listsN (t c : Nat) : Nat := chM (2 * c + t) c * t / (2 * c + t)

/-- How many trees have k carets. -/
def catN : Nat → Nat
  | 0 => 1
  | k + 1 => catN k * 2 * (2 * k + 1) / (k + 2)

theorem chM_le (p : Nat) (hp : p ≤ 40) : ∀ k, k ≤ 8 → chM p k ≤ 40 ^ k := by
  intro k
  induction k with
  | zero => intro _; simp [chM]
  | succ k ih =>
    intro h
    have h1 := ih (by omega)
    rw [chM, Nat.pow_succ]
    refine Nat.le_trans (Nat.div_le_self _ _) ?_
    exact Nat.mul_le_mul h1 (by omega)

theorem chM_bd (p k : Nat) (hp : p ≤ 40) (hk : k ≤ 8) : chM p k ≤ 6553600000000 := by
  have h1 := chM_le p hp k hk
  have h2 : 40 ^ k ≤ 40 ^ 8 := Nat.pow_le_pow_right (by omega) hk
  have h3 : (40 : Nat) ^ 8 = 6553600000000 := by decide
  omega

theorem catN_bd : ∀ k, k ≤ 8 → catN k ≤ 1430 := by decide
theorem lists_cat : ∀ k, k ≤ 8 → listsN 1 k = catN k := by decide

end Go.Proofs.Yteflpaebckichab

/-! CountT -/
namespace Go.Proofs.Yteflpaebckichab
open Go.RowKit

set_option maxHeartbeats 1000000 in
theorem countLists_any (t c : Nat) (w : World) (ht : 1 ≤ t) (ht' : t ≤ 20) (hc : c ≤ 8) :
    Calls Try.prog 120 #[.int .i64 t, .int .i64 c] w fun e w' => e = .returned (.int .i64 (listsN t c)) ∧ w = w' := by
  go_enter Try.func120, Try.ntmps120
  go_wp2_with fail
  go_loop [6, 13] (fun v i => ∃ k : Nat, k ≤ c ∧ i = .int .i64 k ∧ v = .int .i64 (chM (2 * c + t) k)) (fun _ i => c - (intOf i).toNat)
  case atStart => exact ⟨0, Nat.zero_le _, rfl, rfl⟩
  case round =>
    obtain ⟨k, hk, rfl, rfl⟩ := hrel
    have hb := chM_bd (2 * c + t) k (by omega) (by omega)
    by_cases hlt : (k : Int) < c
    · have hb1 : (0 : Int) ≤ (chM (2 * c + t) k : Int) * (2 * (c : Int) + t - k) ∧ (chM (2 * c + t) k : Int) * (2 * (c : Int) + t - k) ≤ 6553600000000 * 40 := by
        have e : (2 * (c : Int) + t - k) = ((2 * c + t - k : Nat) : Int) := by omega
        rw [e, ← Int.natCast_mul]
        have := Nat.mul_le_mul hb (show 2 * c + t - k ≤ 40 by omega)
        omega
      have hs : Hid (((chM (2 * c + t) k : Nat) : Int) * (2 * (c : Int) + t - k) / ((k : Int) + 1) = (chM (2 * c + t) (k + 1) : Nat)) := by
        show _ = _
        have e : (2 * (c : Int) + t - k) = ((2 * c + t - k : Nat) : Int) := by omega
        rw [e, ← Int.natCast_mul, chM]
        rfl
      go_wp2_with fail
      go_round
      case rel => exact ⟨k + 1, by omega, by go_num, by rw [hs.out]⟩
      case measure => simp [intOf]; omega
    · obtain rfl : k = c := by omega
      have hb1 : (0 : Int) ≤ (chM (2 * k + t) k : Int) * (t : Int) ∧ (chM (2 * k + t) k : Int) * (t : Int) ≤ 6553600000000 * 40 := by
        rw [← Int.natCast_mul]
        have := Nat.mul_le_mul hb (show t ≤ 40 by omega)
        omega
      have hs : Hid (((chM (2 * k + t) k : Nat) : Int) * (t : Int) / (2 * (k : Int) + t) = (listsN t k : Nat)) := by
        show _ = _
        unfold listsN
        rw [← Int.natCast_mul]
        have e : (2 * (k : Int) + t) = ((2 * k + t : Nat) : Int) := by omega
        rw [e]
        rfl
      go_wp2_with fail
      go_ret
      exact ⟨ret_int hs.out, rfl⟩

set_option maxHeartbeats 1000000 in
theorem trCount_any (n : Nat) (w : World) (hn : n ≤ 8) :
    Calls Try.prog 116 #[.int .i64 n] w fun e w' => e = .returned (.int .i64 (catN n)) ∧ w = w' := by
  go_enter Try.func116, Try.ntmps116
  go_wp2_with fail
  go_loop [3, 4] (fun v i => ∃ k : Nat, k ≤ n ∧ i = .int .i64 k ∧ v = .int .i64 (catN k)) (fun _ i => n - (intOf i).toNat)
  case atStart => exact ⟨0, Nat.zero_le _, rfl, rfl⟩
  case round =>
    obtain ⟨k, hk, rfl, rfl⟩ := hrel
    have hb := catN_bd k (by omega)
    by_cases hlt : (k : Int) < n
    · have hb1 : (0 : Int) ≤ (catN k : Int) * 2 * (2 * (k : Int) + 1) ∧ (catN k : Int) * 2 * (2 * (k : Int) + 1) ≤ 1000000 := by
        have e : (catN k : Int) * 2 * (2 * (k : Int) + 1) = ((catN k * 2 * (2 * k + 1) : Nat) : Int) := by simp
        rw [e]
        have := Nat.mul_le_mul (Nat.mul_le_mul_right 2 hb) (show 2 * k + 1 ≤ 17 by omega)
        omega
      have hs : Hid ((catN k : Int) * 2 * (2 * (k : Int) + 1) / ((k : Int) + 2) = (catN (k + 1) : Nat)) := by
        show _ = _
        rw [catN]
        simp
      go_wp2_with fail
      go_round
      case rel => exact ⟨k + 1, by omega, by go_num, by rw [hs.out]⟩
      case measure => simp [intOf]; omega
    · obtain rfl : k = n := by omega
      go_wp2_with fail
      go_ret
      exact ⟨rfl, rfl⟩

/-- An answer of a number and a bool. -/
def ansN (o : Option Nat) : Value := .tuple #[.int .i64 (o.getD 0), .bool o.isSome]
def countO (n : Int) : Option Nat := if 0 ≤ n ∧ n ≤ 8 then some (catN n.toNat) else none

theorem specCountTrees_any (n : Int) (w : World) (_lo : -9223372036854775808 ≤ n) (_hi : n ≤ 9223372036854775807) :
    Calls Try.prog 46 #[.int .i64 n] w (Gives (ansN (countO n)) w) := by
  unfold countO
  by_cases h : 0 ≤ n ∧ n ≤ 8
  · rw [if_pos h]
    obtain ⟨k, rfl⟩ : ∃ k : Nat, n = k := ⟨n.toNat, by omega⟩
    have h8 : k ≤ 8 := by omega
    clear h
    go_enter Try.func46, Try.ntmps46
    go_wp2_with fail
    refine (trSize_yes k _ (by omega) (by omega)).mono ?_; rintro e w1 ⟨rfl, rfl⟩
    go_wp2_with fail
    refine (trCount_any k _ h8).mono ?_; rintro e w1 ⟨rfl, rfl⟩
    go_wp2_with fail
    go_ret2
    exact ⟨rfl, Below.refl _ _⟩
  · rw [if_neg h]
    have H : Hid (n < 0 ∨ 8 < n) := show _ ∨ _ by omega
    clear h
    go_enter Try.func46, Try.ntmps46
    go_wp2_with fail
    refine (trSize_no n _ H.out).mono ?_; rintro e w1 ⟨rfl, rfl⟩
    go_wp2_with fail
    go_ret2
    exact ⟨rfl, Below.refl _ _⟩

theorem implCountTrees_any (n : Int) (w : World) (_lo : -9223372036854775808 ≤ n) (_hi : n ≤ 9223372036854775807) :
    Calls Try.prog 45 #[.int .i64 n] w (Gives (ansN (countO n)) w) := by
  unfold countO
  by_cases h1 : n < 0
  · rw [if_neg (by omega)]
    go_enter Try.func45, Try.ntmps45
    go_wp2_with fail
    go_ret2
    exact ⟨rfl, Below.refl _ _⟩
  · by_cases h2 : 8 < n
    · rw [if_neg (by omega)]
      go_enter Try.func45, Try.ntmps45
      go_wp2_with fail
      go_ret2
      exact ⟨rfl, Below.refl _ _⟩
    · rw [if_pos (by omega)]
      obtain ⟨k, rfl⟩ : ∃ k : Nat, n = k := ⟨n.toNat, by omega⟩
      have h8 : k ≤ 8 := by omega
      have hk := fun w => countLists_any 1 k w (by omega) (by omega) h8
      rw [lists_cat k h8] at hk
      clear h1 h2
      go_enter Try.func45, Try.ntmps45
      go_wp2_with fail
      refine (hk _).mono ?_; rintro e w1 ⟨rfl, rfl⟩
      go_wp2_with fail
      go_ret2
      exact ⟨rfl, Below.refl _ _⟩
end Go.Proofs.Yteflpaebckichab

/-! Dw9 -/
namespace Go.Proofs.Yteflpaebckichab
open Go.RowKit

/-- A tree's text, or none. -/
theorem tree_or (s : ByteArray) : (∃ t : Tr, s = t.str ∧ t.carets ≤ 8 ∧ treeOf s = some t) ∨ treeOf s = none := by
  cases h : treeOf s with
  | none => exact .inr rfl
  | some t => obtain ⟨e, hc⟩ := treeOf_some h; exact .inl ⟨t, e, hc, rfl⟩

/-- A place of a row is drawn, and what stands there is told. -/
theorem pickI_any (L : List Int) (n g b : Nat) (c : Bts) (k : Nat) (w : World) (h : Cur w b c k) (hL : ∀ i, i < n → w.cell? ⟨g, i, none⟩ = some (.int .i64 (L.getD i 0))) (hn : n = L.length) (hgb : g ≠ b) (hk : k ≤ 900000000) (h1 : 1 ≤ n) (hm : n ≤ 60000) :
    Calls Try.prog 96 #[.pointer (some ⟨b, 0, none⟩), .int .i64 n] w (fun e w' => ∃ (y : Nat) (z : Int), y < n ∧ z ∈ L ∧ w'.cell? ⟨g, y, none⟩ = some (.int .i64 z) ∧ e = .returned (.int .i64 y) ∧ Turns b c (k + 2) w w') := by
  refine (drawPick_any n b c k w h hk h1 hm).mono ?_
  rintro e w1 ⟨y, hy, rfl, hT⟩
  exact ⟨y, L.getD y 0, hy, getD_memI (by omega), cell_grown hT.2 hgb (hL y hy), rfl, hT⟩
theorem pickS_any (L : List ByteArray) (n g b : Nat) (c : Bts) (k : Nat) (w : World) (h : Cur w b c k) (hL : ∀ i, i < n → w.cell? ⟨g, i, none⟩ = some (.string (L.getD i ⟨#[]⟩))) (hn : n = L.length) (hgb : g ≠ b) (hk : k ≤ 900000000) (h1 : 1 ≤ n) (hm : n ≤ 60000) :
    Calls Try.prog 96 #[.pointer (some ⟨b, 0, none⟩), .int .i64 n] w (fun e w' => ∃ (y : Nat) (z : ByteArray), y < n ∧ z ∈ L ∧ w'.cell? ⟨g, y, none⟩ = some (.string z) ∧ e = .returned (.int .i64 y) ∧ Turns b c (k + 2) w w') := by
  refine (drawPick_any n b c k w h hk h1 hm).mono ?_
  rintro e w1 ⟨y, hy, rfl, hT⟩
  exact ⟨y, L.getD y ⟨#[]⟩, hy, getD_memT (by omega), cell_grown hT.2 hgb (hL y hy), rfl, hT⟩

set_option maxRecDepth 100000 in
set_option maxHeartbeats 1000000 in
theorem drawDropExposed_any (c : Bts) (w : World) (h : InB w c) : Calls Try.prog 27 #[.slice c.a c.n c.cap] w (GivesZI 60 w) := by
  have H := Lib.hid (cur_new h)
  clear h
  go_enter Try.func27, Try.ntmps27
  go_wp2_with fail
  refine (drawTree_any 7 _ c 0 _ H.out (by omega) (by omega)).mono ?_; rintro e w1 ⟨s, hs, rfl, hT, hg⟩
  have HT := Lib.hid hT
  have HG := Lib.hid hg
  clear hT hg
  rcases tree_or s with ⟨t, rfl, htc, _⟩ | hno
  · go_wp2_with fail
    refine (trIs_yes t _ htc).mono ?_; rintro e w2 ⟨rfl, rfl⟩
    go_wp2_with fail
    refine (drawOne_any 3 _ c _ _ HT.out (by omega) (by omega) (by omega)).mono ?_; rintro e w2 ⟨x, rfl, hT, hg⟩
    have HT2 := Lib.hid hT
    have HG2 := Lib.hid (grown_trans HG.out hg)
    clear hT hg
    cases x with
    | true =>
      go_wp2_with fail
      refine (drawPick_any 9 _ c _ _ HT2.out (by omega) (by omega) (by omega)).mono ?_; rintro e w3 ⟨y, hy, rfl, hT, hg⟩
      go_wp2_with fail
      go_ret2
      exact ⟨t.str, (y : Int) - 1, by omega, by omega, by omega, rfl, cur_below (grown_trans HG2.out hg)⟩
    | false =>
      go_wp2_with fail
      refine (trExposed_any t.str _ (by have := t.str_size; omega)).mono ?_; rintro e w3 ⟨v, hO, hb3, rfl⟩
      have hrg := exps_range t 0
      have hlt2 := HT2.out.lt
      rw [t.str_list, exps_text] at hO
      have HT3 := Lib.hid (HT2.out.keep hb3)
      have HG3 := Lib.hid (grown_below HG2.out hb3)
      have hrg2 : Hid (∀ m ∈ t.exps 0, 0 ≤ m ∧ m ≤ 100) := fun m hm => by
        have := hrg m hm
        have := t.str_size
        unfold Tr.leaves at *
        omega
      have hel : (t.exps 0).length ≤ 60 := by have := exps_length t 0; omega
      clear hrg
      generalize t.exps 0 = L at *
      rcases hO.cells with ⟨rfl, rfl⟩ | ⟨g, cap, rfl, h1, h2, h3, h4, h5, h6⟩
      · clear hO hb3
        go_wp2_with fail
        refine (drawPick_any 9 _ c _ _ HT3.out (by omega) (by omega) (by omega)).mono ?_; rintro e w4 ⟨y, hy, rfl, hT, hg⟩
        go_wp2_with fail
        go_ret2
        exact ⟨t.str, (y : Int) - 1, by omega, by omega, by omega, rfl, cur_below (grown_trans HG3.out hg)⟩
      · obtain ⟨n, hn⟩ : ∃ n, n = L.length := ⟨_, rfl⟩
        rw [← hn] at h3 h5 ⊢
        have HN := Lib.hid hn
        have HX := Lib.hid h5
        have hnl : n ≤ 60 := by omega
        clear hO hb3 h5 h6 hn hel
        by_cases h0 : n = 0
        · subst h0
          go_wp2_with fail
          refine (drawPick_any 9 _ c _ _ HT3.out (by omega) (by omega) (by omega)).mono ?_; rintro e w4 ⟨y, hy, rfl, hT, hg⟩
          go_wp2_with fail
          go_ret2
          exact ⟨t.str, (y : Int) - 1, by omega, by omega, by omega, rfl, cur_below (grown_trans HG3.out hg)⟩
        · have h0' : (0 : Int) < (n : Int) := by omega
          go_wp2_with fail
          go_region_with (go_at_call 96; refine (pickI_any L n g _ c _ _ (HT3.out.drewN _) HX.out HN.out (by omega) (by omega) (by omega) (by omega)).mono ?_; rintro e w4 ⟨y, z, hy, hz, c4, rfl, hT, hg⟩; have hy' : (y : Int) < (n : Int) := by omega)
          have HG4 := Lib.hid (grown_trans (show World.grownBy _ w3.drew _ from grown_drew (n := 1) HG3.out) hg)
          have hm := hrg2.out z hz
          go_wp2_with fail
          go_ret2
          exact ⟨t.str, z, by omega, by omega, by omega, rfl, cur_below HG4.out⟩
  · go_wp2_with fail
    refine (trIs_no s _ (by omega) hno).mono ?_; rintro e w2 ⟨rfl, rfl⟩
    go_wp2_with fail
    refine (drawPick_any 9 _ c _ _ HT.out (by omega) (by omega) (by omega)).mono ?_; rintro e w4 ⟨y, hy, rfl, hT, hg⟩
    go_wp2_with fail
    go_ret2
    exact ⟨s, (y : Int) - 1, by omega, by omega, by omega, rfl, cur_below (grown_trans HG.out hg)⟩

set_option maxRecDepth 100000 in
set_option maxHeartbeats 1000000 in
theorem drawIsPartOf_any (c : Bts) (w : World) (h : InB w c) : Calls Try.prog 35 #[.slice c.a c.n c.cap] w (GivesZ2 100 w) := by
  have H := Lib.hid (cur_new h)
  clear h
  go_enter Try.func35, Try.ntmps35
  go_wp2_with fail
  refine (drawTree_any 4 _ c 0 _ H.out (by omega) (by omega)).mono ?_; rintro e w1 ⟨s, hs, rfl, hT, hg⟩
  have HT := Lib.hid hT
  have HG := Lib.hid hg
  clear hT hg
  rcases tree_or s with ⟨t, rfl, htc, _⟩ | hno
  · go_wp2_with fail
    refine (trIs_yes t _ htc).mono ?_; rintro e w2 ⟨rfl, rfl⟩
    go_wp2_with fail
    refine (drawOne_any 3 _ c _ _ HT.out (by omega) (by omega) (by omega)).mono ?_; rintro e w2 ⟨x, rfl, hT, hg⟩
    have HT2 := Lib.hid hT
    have HG2 := Lib.hid (grown_trans HG.out hg)
    clear hT hg
    cases x with
    | true =>
      go_wp2_with fail
      refine (drawTree_any 6 _ c _ _ HT2.out (by omega) (by omega)).mono ?_; rintro e w3 ⟨u, hu, rfl, hT, hg⟩
      go_wp2_with fail
      go_ret2
      exact ⟨t.str, u, by omega, by omega, rfl, cur_below (grown_trans HG2.out hg)⟩
    | false =>
      go_wp2_with fail
      refine (drawPick_any 4 _ c _ _ HT2.out (by omega) (by omega) (by omega)).mono ?_; rintro e w3 ⟨y, hy, rfl, hT, hg⟩
      have HT3 := Lib.hid hT
      have HG3 := Lib.hid (grown_trans HG2.out hg)
      clear hT hg
      go_wp2_with fail
      go_loopw [6, 7] (fun s i wr => ∃ (j : Nat) (u : Tr), j ≤ 3 ∧ u.carets ≤ 11 - j ∧ s = .string u.str ∧ i = .int .i64 j ∧ Hid (Cur wr w.heap.size c (100 - 2 * j)) ∧ Hid ((w.alloc (.cells #[.slice c.a c.n c.cap, .int .i64 0, .int .u64 0] 95 (0, 0))).grownBy wr (some w.heap.size))) (fun _ i _ => (intOf i).toNat)
      case atStart => exact ⟨y, t, by omega, by omega, rfl, rfl, Lib.hid (HT3.out.mono (by omega)), HG3⟩
      case round =>
        obtain ⟨j, u, hj, hu, rfl, rfl, hT, hG⟩ := hrel
        by_cases hlt : 0 < j
        · obtain ⟨j, rfl⟩ : ∃ i, j = i + 1 := ⟨j - 1, by omega⟩
          go_wp2_with fail
          refine (carets_str u _ (by omega)).mono ?_; rintro e w4 ⟨rfl, rfl⟩
          go_wp2_with fail
          refine (drawPick_any (u.carets + 1) _ c _ _ hT.out (by omega) (by omega) (by omega)).mono ?_; rintro e w4 ⟨z, hz, rfl, hT2, hg2⟩
          have HT4 := Lib.hid hT2
          have HG4 := Lib.hid (grown_trans hG.out hg2)
          clear hT2 hg2
          go_wp2_with fail
          rw [two_str]
          refine (graft_at u (.nd .lf .lf) z _ (by unfold Tr.leaves; omega) (by omega) (by decide)).mono ?_; rintro e w5 ⟨rfl, hb2⟩
          have hc2 := graft_carets u (.nd .lf .lf) z (by omega) (by unfold Tr.leaves; omega)
          have hlt4 := HT4.out.lt
          have HT5 := Lib.hid (HT4.out.keep hb2)
          have HG5 := Lib.hid (grown_below HG4.out hb2)
          have hc3 : (u.graft z (.nd .lf .lf)).carets ≤ 11 - j := by rw [hc2]; show _ + 1 ≤ _; omega
          clear hb2 hc2
          generalize u.graft z (.nd .lf .lf) = u2 at *
          go_wp2_with fail
          go_roundw
          case rel => exact ⟨j, u2, by omega, hc3, rfl, by go_num, Lib.hid (HT5.out.mono (by omega)), HG5⟩
          case measure => simp [intOf]
        · obtain rfl : j = 0 := by omega
          go_wp2_with fail
          go_ret2
          exact ⟨t.str, u.str, by omega, by have := u.str_size; omega, rfl, cur_below hG.out⟩
  · go_wp2_with fail
    refine (trIs_no s _ (by omega) hno).mono ?_; rintro e w2 ⟨rfl, rfl⟩
    go_wp2_with fail
    refine (drawTree_any 6 _ c _ _ HT.out (by omega) (by omega)).mono ?_; rintro e w3 ⟨u, hu, rfl, hT, hg⟩
    go_wp2_with fail
    go_ret2
    exact ⟨s, u, by omega, by omega, rfl, cur_below (grown_trans HG.out hg)⟩

/-- A call that draws a text, a number and a text. -/
def GivesZIZ (n : Nat) (w : World) (e : Ending) (w' : World) : Prop := ∃ (s t : ByteArray) (i : Int), s.size ≤ n ∧ t.size ≤ n ∧ -1000000 ≤ i ∧ i ≤ 1000000 ∧ e = .returned (.tuple #[.string s, .int .i64 i, .string t]) ∧ Below w.heap.size w w'
end Go.Proofs.Yteflpaebckichab

/-! Dw10 -/
namespace Go.Proofs.Yteflpaebckichab
open Go.RowKit

set_option maxRecDepth 100000 in
set_option maxHeartbeats 1000000 in
theorem drawSubtreeAt_any (c : Bts) (w : World) (h : InB w c) : Calls Try.prog 37 #[.slice c.a c.n c.cap] w (GivesZ2 100 w) := by
  have H := Lib.hid (cur_new h)
  clear h
  have hoff := fun w1 k (hT : Cur w1 w.heap.size c k) (hk : k ≤ 1000) => drawOf_any [⟨#[]⟩, ⟨#[48]⟩, ⟨#[49]⟩, ⟨#[48, 48]⟩, ⟨#[49, 48]⟩, ⟨#[50]⟩, ⟨#[48, 120]⟩, ⟨#[48, 48, 48, 48, 48, 48, 48, 48, 48, 48]⟩] 8 w1.heap.size 8 w.heap.size c k _ (hT.keep (allocB _ _)) (rowT_alloc w1 [⟨#[]⟩, ⟨#[48]⟩, ⟨#[49]⟩, ⟨#[48, 48]⟩, ⟨#[49, 48]⟩, ⟨#[50]⟩, ⟨#[48, 120]⟩, ⟨#[48, 48, 48, 48, 48, 48, 48, 48, 48, 48]⟩] 9) rfl (by have := hT.lt; omega) (by omega) (by omega) (by omega)
  have hsz : ∀ s ∈ [(⟨#[]⟩ : ByteArray), ⟨#[48]⟩, ⟨#[49]⟩, ⟨#[48, 48]⟩, ⟨#[49, 48]⟩, ⟨#[50]⟩, ⟨#[48, 120]⟩, ⟨#[48, 48, 48, 48, 48, 48, 48, 48, 48, 48]⟩], s.size ≤ 100 := by
    intro s hs
    simp only [List.mem_cons, List.not_mem_nil, or_false] at hs
    rcases hs with rfl | rfl | rfl | rfl | rfl | rfl | rfl | rfl <;> decide
  have HOF := Lib.hid hoff
  have HSZ := Lib.hid hsz
  clear hoff hsz
  go_enter Try.func37, Try.ntmps37
  go_wp2_with fail
  refine (drawTree_any 7 _ c 0 _ H.out (by omega) (by omega)).mono ?_; rintro e w1 ⟨s, hs, rfl, hT, hg⟩
  have HT := Lib.hid hT
  have HG := Lib.hid hg
  clear hT hg
  rcases tree_or s with ⟨t, rfl, htc, _⟩ | hno
  · go_wp2_with fail
    refine (trIs_yes t _ htc).mono ?_; rintro e w2 ⟨rfl, rfl⟩
    go_wp2_with fail
    refine (drawOne_any 5 _ c _ _ HT.out (by omega) (by omega) (by omega)).mono ?_; rintro e w2 ⟨x, rfl, hT, hg⟩
    have HT2 := Lib.hid hT
    have HG2 := Lib.hid (grown_trans HG.out hg)
    clear hT hg
    cases x with
    | true =>
      go_wp2_with fail
      refine (HOF.out _ _ HT2.out (by omega)).mono ?_; rintro e w3 ⟨u, hu, rfl, hT, hg⟩
      have hb3 : Below w.heap.size w w3 := cur_below (grown_trans (grown_below HG2.out (allocB _ _)) hg)
      have hu2 := HSZ.out u hu
      clear hu hT hg
      go_wp2_with fail
      go_ret2
      exact ⟨t.str, u, by omega, by omega, rfl, hb3⟩
    | false =>
      go_wp2_with fail
      refine (trAddresses_any t ⟨#[]⟩ _ (by omega) (by show 0 + _ ≤ _; omega)).mono ?_; rintro e w3 ⟨g, cap, hO, hb3, rfl⟩
      have hsz := addrs_size t ⟨#[]⟩
      have hln := addrs_length t ⟨#[]⟩
      have hge := own_ge hO
      generalize t.addrs ⟨#[]⟩ = L at *
      have hlt2 := HT2.out.lt
      have HT3 := Lib.hid (HT2.out.keep hb3)
      have HG3 := Lib.hid (grown_below HG2.out hb3)
      have hsz2 : Hid (∀ s ∈ L, s.size ≤ 90) := fun s hs => by have := hsz s hs; rw [empty_size] at this; omega
      obtain ⟨n, hn⟩ : ∃ n, n = L.length := ⟨_, rfl⟩
      have hn1 : 1 ≤ n ∧ n ≤ 50 := by omega
      have hL : Hid (∀ i, i < n → w3.cell? ⟨g, i, none⟩ = some (.string (L.getD i ⟨#[]⟩))) := by
        rw [hn]
        rcases hO.cells with ⟨h1, _⟩ | ⟨g2, cap2, h1, _, _, h3, h4, h5, _⟩
        · cases h1
        · simp only [Value.slice.injEq, Option.some.injEq, Addr.mk.injEq, and_true] at h1
          obtain ⟨rfl, _⟩ := h1
          exact h5
      rw [← hn]
      have HN := Lib.hid hn
      clear hsz hln hb3 hO hn
      go_wp2_with fail
      refine (pickS_any L n g _ c _ _ HT3.out hL.out HN.out (by omega) (by omega) (by omega) (by omega)).mono ?_; rintro e w4 ⟨y, z, hy, hz, c4, rfl, hT, hg⟩
      have hy' : (y : Int) < (n : Int) := by omega
      have HT4 := Lib.hid hT
      have HG4 := Lib.hid (grown_trans HG3.out hg)
      have hz2 := hsz2.out z hz
      clear hT hg hz
      go_wp2_with fail
      have hpk2 := drawPick_any (z.size + 1) w.heap.size c _ w4.drew (show Cur w4.drew w.heap.size c _ from HT4.out) (by omega) (by omega) (by omega)
      have hpk3 : ∀ v : Int, v = ((z.size + 1 : Nat) : Int) → Calls Try.prog 96 #[.pointer (some ⟨w.heap.size, 0, none⟩), .int .i64 v] w4.drew _ := fun v hv => by rw [hv]; exact hpk2
      clear hpk2
      clear HOF HSZ
      have HZ : ∀ m, m < z.size + 1 → Hid ((z.extract 0 m).size ≤ 100) := fun m _ => by show _ ≤ _; rw [ByteArray.size_extract]; omega
      go_region_with (go_at_call 96; refine (hpk3 _ (by first | (rw [IntKind.wrap_i64] <;> omega) | (unfold wrap64; omega) | omega)).mono ?_; rintro e w5 ⟨m, hm, rfl, hT, hg⟩; have hm' : (m : Int) ≤ (z.size : Int) := by omega)
      have hb5 : Below w.heap.size w w5 := cur_below (grown_trans (show World.grownBy _ w4.drew _ from grown_drew (n := 1) HG4.out) hg)
      have HZ := HZ m hm
      go_wp2_with fail
      go_ret2
      exact ⟨t.str, z.extract 0 m, by omega, HZ.out, rfl, hb5⟩
  · go_wp2_with fail
    refine (trIs_no s _ (by omega) hno).mono ?_; rintro e w2 ⟨rfl, rfl⟩
    go_wp2_with fail
    refine (HOF.out _ _ HT.out (by omega)).mono ?_; rintro e w3 ⟨u, hu, rfl, hT, hg⟩
    have hb3 : Below w.heap.size w w3 := cur_below (grown_trans (grown_below HG.out (allocB _ _)) hg)
    have hu2 := HSZ.out u hu
    clear hu hT hg
    go_wp2_with fail
    go_ret2
    exact ⟨s, u, by omega, by omega, rfl, hb3⟩

set_option maxRecDepth 100000 in
set_option maxHeartbeats 1000000 in
theorem drawGraftAt_any (c : Bts) (w : World) (h : InB w c) : Calls Try.prog 40 #[.slice c.a c.n c.cap] w (GivesZIZ 100 w) := by
  have H := Lib.hid (cur_new h)
  clear h
  go_enter Try.func40, Try.ntmps40
  go_wp2_with fail
  refine (drawTree_any 5 _ c 0 _ H.out (by omega) (by omega)).mono ?_; rintro e w1 ⟨s, hs, rfl, hT, hg⟩
  have HT := Lib.hid hT
  have HG := Lib.hid hg
  clear hT hg
  go_wp2_with fail
  refine (carets_any s _ (by omega)).mono ?_; rintro e w2 ⟨rfl, rfl⟩
  obtain ⟨hc0, hc1⟩ := cnt_le s s.size
  obtain ⟨q, hq⟩ : ∃ q : Nat, cnt s s.size = q := ⟨(cnt s s.size).toNat, by omega⟩
  rw [hq] at hc0 hc1 ⊢
  clear hq
  go_wp2_with fail
  have hpk := fun w h => drawPick_any (q + 3) w.heap.size c (0 + 2 * 5 + 40) w h (by omega) (by omega) (by omega)
  clear hpk
  have hpk := drawPick_any (q + 3) _ c _ _ HT.out (by omega) (by omega) (by omega)
  push_cast at hpk
  refine hpk.mono ?_; rintro e w2 ⟨y, hy, rfl, hT, hg⟩
  have HT2 := Lib.hid hT
  have HG2 := Lib.hid (grown_trans HG.out hg)
  clear hT hg hpk
  go_wp2_with fail
  refine (drawTree_any 4 _ c _ _ HT2.out (by omega) (by omega)).mono ?_; rintro e w3 ⟨u, hu, rfl, hT, hg⟩
  go_wp2_with fail
  go_ret3
  exact ⟨s, u, (y : Int) - 1, by omega, by omega, by omega, by omega, rfl, cur_below (grown_trans HG2.out hg)⟩

/-- A call that draws a number. -/
def GivesN2 (w : World) (e : Ending) (w' : World) : Prop := ∃ i j : Int, -1 ≤ i ∧ i ≤ 50 ∧ -1 ≤ j ∧ j ≤ 4611686018427387904 ∧ e = .returned (.tuple #[.int .i64 i, .int .i64 j]) ∧ Below w.heap.size w w'
def GivesN1 (w : World) (e : Ending) (w' : World) : Prop := ∃ i : Int, -1 ≤ i ∧ i ≤ 50 ∧ e = .returned (.int .i64 i) ∧ Below w.heap.size w w'
set_option maxRecDepth 100000 in
set_option maxHeartbeats 1000000 in
theorem drawTreeAt_any (c : Bts) (w : World) (h : InB w c) : Calls Try.prog 42 #[.slice c.a c.n c.cap] w (GivesN2 w) := by
  have H := Lib.hid (cur_new h)
  clear h
  have ham := fun w1 k (hT : Cur w1 w.heap.size c k) (hk : k ≤ 1000) => drawAmong_any [-1, 0, 1, 2, 5, 14, 42, 4611686018427387904] 8 w1.heap.size 8 w.heap.size c k _ (hT.keep (allocB _ _)) (rowI_alloc w1 [-1, 0, 1, 2, 5, 14, 42, 4611686018427387904] 3) rfl (by have := hT.lt; omega) (by omega) (by omega) (by omega)
  have hsz : ∀ s ∈ [(-1 : Int), 0, 1, 2, 5, 14, 42, 4611686018427387904], -1 ≤ s ∧ s ≤ 4611686018427387904 := by
    intro s hs
    simp only [List.mem_cons, List.not_mem_nil, or_false] at hs
    omega
  have HOF := Lib.hid ham
  have HSZ := Lib.hid hsz
  clear ham hsz
  go_enter Try.func42, Try.ntmps42
  go_wp2_with fail
  refine (drawCarets_any 5 _ c 0 _ H.out (by omega) (by omega)).mono ?_; rintro e w1 ⟨s, hs1, hs2, rfl, hT, hg⟩
  have HT := Lib.hid hT
  have HG := Lib.hid hg
  clear hT hg
  by_cases hin : 0 ≤ s ∧ s ≤ 8
  · go_wp2_with fail
    refine (trSize_yes s _ hin.1 hin.2).mono ?_; rintro e w2 ⟨rfl, rfl⟩
    go_wp2_with fail
    refine (drawOne_any 4 _ c _ _ HT.out (by omega) (by omega) (by omega)).mono ?_; rintro e w2 ⟨x, rfl, hT, hg⟩
    have HT2 := Lib.hid hT
    have HG2 := Lib.hid (grown_trans HG.out hg)
    clear hT hg
    cases x with
    | true =>
      go_wp2_with fail
      refine (HOF.out _ _ HT2.out (by omega)).mono ?_; rintro e w3 ⟨u, hu, rfl, hT, hg⟩
      have hb3 : Below w.heap.size w w3 := cur_below (grown_trans (grown_below HG2.out (allocB _ _)) hg)
      have hu2 := HSZ.out u hu
      clear hu hT hg
      go_wp2_with fail
      go_ret2
      exact ⟨s, u, by omega, by omega, by omega, by omega, rfl, hb3⟩
    | false =>
      obtain ⟨q, rfl⟩ : ∃ q : Nat, s = q := ⟨s.toNat, by omega⟩
      have hcb := catN_bd q (by omega)
      have hcp : 1 ≤ catN q := by
        have : ∀ k, k ≤ 8 → 1 ≤ catN k := by decide
        exact this q (by omega)
      have htc := trCount_any q
      generalize catN q = m at *
      go_wp2_with fail
      refine (htc _ (by omega)).mono ?_; rintro e w3 ⟨rfl, rfl⟩
      go_wp2_with fail
      refine (drawPick_any m _ c _ _ HT2.out (by omega) (by omega) (by omega)).mono ?_; rintro e w3 ⟨y, hy, rfl, hT, hg⟩
      go_wp2_with fail
      go_ret2
      exact ⟨q, y, by omega, by omega, by omega, by omega, rfl, cur_below (grown_trans HG2.out hg)⟩
  · go_wp2_with fail
    refine (trSize_no s _ (by omega)).mono ?_; rintro e w2 ⟨rfl, rfl⟩
    go_wp2_with fail
    refine (HOF.out _ _ HT.out (by omega)).mono ?_; rintro e w3 ⟨u, hu, rfl, hT, hg⟩
    have hb3 : Below w.heap.size w w3 := cur_below (grown_trans (grown_below HG.out (allocB _ _)) hg)
    have hu2 := HSZ.out u hu
    clear hu hT hg
    go_wp2_with fail
    go_ret2
    exact ⟨s, u, by omega, by omega, by omega, by omega, rfl, hb3⟩
set_option maxRecDepth 100000 in
theorem drawAllTrees_any (c : Bts) (w : World) (h : InB w c) : Calls Try.prog 47 #[.slice c.a c.n c.cap] w (GivesN1 w) := by
  have H := Lib.hid (cur_new h)
  clear h
  go_enter Try.func47, Try.ntmps47
  go_wp2_with fail
  refine (drawCarets_any 5 _ c 0 _ H.out (by omega) (by omega)).mono ?_; rintro e w1 ⟨s, hs1, hs2, rfl, hT, hg⟩
  go_wp2_with fail
  go_ret
  exact ⟨s, hs1, hs2, rfl, cur_below hg⟩
set_option maxRecDepth 100000 in
theorem drawRightComb_any (c : Bts) (w : World) (h : InB w c) : Calls Try.prog 52 #[.slice c.a c.n c.cap] w (GivesN1 w) := by
  have H := Lib.hid (cur_new h)
  clear h
  go_enter Try.func52, Try.ntmps52
  go_wp2_with fail
  refine (drawCarets_any 8 _ c 0 _ H.out (by omega) (by omega)).mono ?_; rintro e w1 ⟨s, hs1, hs2, rfl, hT, hg⟩
  go_wp2_with fail
  go_ret
  exact ⟨s, hs1, hs2, rfl, cur_below hg⟩
set_option maxRecDepth 100000 in
theorem drawRankTree_any (c : Bts) (w : World) (h : InB w c) : Calls Try.prog 55 #[.slice c.a c.n c.cap] w (GivesZ 60 w) := by
  have H := Lib.hid (cur_new h)
  clear h
  go_enter Try.func55, Try.ntmps55
  go_wp2_with fail
  refine (drawTree_any 5 _ c 0 _ H.out (by omega) (by omega)).mono ?_; rintro e w1 ⟨s, hs, rfl, hT, hg⟩
  go_wp2_with fail
  go_ret
  exact ⟨s, by omega, rfl, cur_below hg⟩
end Go.Proofs.Yteflpaebckichab

/-! Lw0 -/
namespace Go.Proofs.Yteflpaebckichab
open Go.RowKit

theorem pow_cast2 (n : Nat) : (2 : Int) ^ n = ((2 ^ n : Nat) : Int) := by
  rw [Int.natCast_pow]; rfl
theorem share_step (S P T : Nat) (h : T = S + P) (h1 : P ≤ 256) (h2 : T ≤ 100000) : wrap64 ((S : Int) + wrap64 (P : Int)) = (T : Int) := by
  subst h
  unfold wrap64
  omega
theorem less_byL : ∀ (x y : List UInt8), Go.Op.bytesLess x y = decide (x < y) := by
  intro x
  induction x with
  | nil => intro y; cases y <;> simp [Go.Op.bytesLess]
  | cons a x ih =>
    intro y
    cases y with
    | nil => simp [Go.Op.bytesLess]
    | cons b y =>
      rw [Go.Op.bytesLess, ih y, Bool.eq_iff_iff]
      simp [List.cons_lt_cons_iff]
theorem less_data (a b : ByteArray) : Go.Op.bytesLess a.toList b.toList = decide (a.data.toList < b.data.toList) := by
  rw [less_byL, Lib.toList_data, Lib.toList_data]
theorem big_yes (c d : Bts) (w : World) (hc : (c.n : Int) ≤ 9223372036854775807) (_hd : (d.n : Int) ≤ 9223372036854775807) (h : 1048576 < c.n ∨ 1048576 < c.n + d.n) :
    Calls Try.prog 7 #[.slice c.a c.n c.cap, .slice d.a d.n d.cap] w (fun e w' => e = .returned (.bool true) ∧ w = w') := by
  by_cases h1 : 1048576 < c.n
  · have h1' : (1048576 : Int) < (c.n : Int) := by omega
    go_enter Try.func7, Try.ntmps7
    go_wp2_with fail
    go_ret
    exact ⟨rfl, rfl⟩
  · have h1' : (c.n : Int) ≤ 1048576 := by omega
    have h2' : 1048576 - (c.n : Int) < (d.n : Int) := by omega
    go_enter Try.func7, Try.ntmps7
    go_wp2_with fail
    go_ret
    exact ⟨ret_bool (by first | rfl | (simp; done) | (simp; omega)), rfl⟩
theorem big_no (c d : Bts) (w : World) (h : c.n + d.n ≤ 1048576) :
    Calls Try.prog 7 #[.slice c.a c.n c.cap, .slice d.a d.n d.cap] w (fun e w' => e = .returned (.bool false) ∧ w = w') := by
  have h1' : (c.n : Int) ≤ 1048576 := by omega
  have h2' : (d.n : Int) ≤ 1048576 - (c.n : Int) := by omega
  go_enter Try.func7, Try.ntmps7
  go_wp2_with fail
  go_ret
  exact ⟨ret_bool (by first | rfl | (simp; done) | (simp; omega)), rfl⟩
/-- An argument of a law: bytes that can be read. -/
def RawB (w : World) (c : Bts) : Prop := (c.n : Int) ≤ 9223372036854775807 ∧ (c.n = 0 ∨ ∃ g off, c.a = some ⟨g, off, none⟩ ∧ ∀ i, i < c.n → ∃ x : Nat, x < 256 ∧ w.cell? ⟨g, off + i, none⟩ = some (.int .u8 x))

set_option maxHeartbeats 1000000 in
theorem fSame_any (b1 b2 : Nat) (v1 v2 : Value) (xs : List Int) (w : World) (h1 : CellsI b1 w v1 xs) (h2 : CellsI b2 w v2 xs) :
    Calls Try.prog 20 #[v1, v2] w (Quietly (.bool true) w) := by
  have hl := h1.len
  rcases h1 with ⟨rfl, rfl⟩ | ⟨g, cap, rfl, hb1, hg1, hc1, hm1, hx1, _⟩
  · rcases h2 with ⟨rfl, _⟩ | ⟨g, cap, rfl, hb1, hg1, hc1, hm1, hx1, _⟩
    all_goals
      go_enter Try.func20, Try.ntmps20
      go_wp2_with fail
      go_loopw [13] (fun i wr => i = .int .i64 0 ∧ wr = w) (fun _ _ => 0)
      case atStart => exact ⟨rfl, rfl⟩
      case round =>
        obtain ⟨rfl, rfl⟩ := hrel
        go_wp2_with fail
        go_ret
        exact ⟨rfl, 0, rfl⟩
  · rcases h2 with ⟨rfl, rfl⟩ | ⟨g2, cap2, rfl, hb2, hg2, hc2, hm2, hx2, _⟩
    · go_enter Try.func20, Try.ntmps20
      go_wp2_with fail
      go_loopw [13] (fun i wr => i = .int .i64 0 ∧ wr = w) (fun _ _ => 0)
      case atStart => exact ⟨rfl, rfl⟩
      case round =>
        obtain ⟨rfl, rfl⟩ := hrel
        go_wp2_with fail
        go_ret
        exact ⟨rfl, 0, rfl⟩
    · have HX1 := Lib.hid hx1
      have HX2 := Lib.hid hx2
      clear hx1 hx2
      go_enter Try.func20, Try.ntmps20
      go_wp2_with fail
      go_loopw [13] (fun i wr => ∃ k d : Nat, k ≤ xs.length ∧ i = .int .i64 k ∧ wr = w.drewN d) (fun i _ => xs.length - (intOf i).toNat)
      case atStart => exact ⟨0, 0, Nat.zero_le _, rfl, rfl⟩
      case round =>
        obtain ⟨k, d, hk, rfl, rfl⟩ := hrel
        by_cases hlt : k < xs.length
        · have hlt' : (k : Int) < (xs.length : Int) := by omega
          have c1 := HX1.out k hlt
          have c2 := HX2.out k hlt
          obtain ⟨x, hx⟩ : ∃ x, x = xs.getD k 0 := ⟨_, rfl⟩
          rw [← hx] at c1 c2
          clear hx
          go_wp2_with fail
          go_quiet (fail)
          go_wp2_with fail
          go_roundw
          case rel => exact ⟨k + 1, _, by omega, by go_num, rfl⟩
          case measure => simp [intOf]; omega
        · obtain rfl : k = xs.length := by omega
          go_wp2_with fail
          go_ret
          exact ⟨rfl, _, rfl⟩

set_option maxHeartbeats 1000000 in
theorem fTexts_any (b1 b2 : Nat) (v1 v2 : Value) (xs : List ByteArray) (w : World) (h1 : CellsS b1 w v1 xs) (h2 : CellsS b2 w v2 xs) :
    Calls Try.prog 19 #[v1, v2] w (Quietly (.bool true) w) := by
  have hl := h1.len
  rcases h1 with ⟨rfl, rfl⟩ | ⟨g, cap, rfl, hb1, hg1, hc1, hm1, hx1, _⟩
  · rcases h2 with ⟨rfl, _⟩ | ⟨g, cap, rfl, hb1, hg1, hc1, hm1, hx1, _⟩
    all_goals
      go_enter Try.func19, Try.ntmps19
      go_wp2_with fail
      go_loopw [13] (fun i wr => i = .int .i64 0 ∧ wr = w) (fun _ _ => 0)
      case atStart => exact ⟨rfl, rfl⟩
      case round =>
        obtain ⟨rfl, rfl⟩ := hrel
        go_wp2_with fail
        go_ret
        exact ⟨rfl, 0, rfl⟩
  · rcases h2 with ⟨rfl, rfl⟩ | ⟨g2, cap2, rfl, hb2, hg2, hc2, hm2, hx2, _⟩
    · go_enter Try.func19, Try.ntmps19
      go_wp2_with fail
      go_loopw [13] (fun i wr => i = .int .i64 0 ∧ wr = w) (fun _ _ => 0)
      case atStart => exact ⟨rfl, rfl⟩
      case round =>
        obtain ⟨rfl, rfl⟩ := hrel
        go_wp2_with fail
        go_ret
        exact ⟨rfl, 0, rfl⟩
    · have HX1 := Lib.hid hx1
      have HX2 := Lib.hid hx2
      clear hx1 hx2
      go_enter Try.func19, Try.ntmps19
      go_wp2_with fail
      go_loopw [13] (fun i wr => ∃ k d : Nat, k ≤ xs.length ∧ i = .int .i64 k ∧ wr = w.drewN d) (fun i _ => xs.length - (intOf i).toNat)
      case atStart => exact ⟨0, 0, Nat.zero_le _, rfl, rfl⟩
      case round =>
        obtain ⟨k, d, hk, rfl, rfl⟩ := hrel
        by_cases hlt : k < xs.length
        · have hlt' : (k : Int) < (xs.length : Int) := by omega
          have c1 := HX1.out k hlt
          have c2 := HX2.out k hlt
          obtain ⟨x, hx⟩ : ∃ x, x = xs.getD k ⟨#[]⟩ := ⟨_, rfl⟩
          rw [← hx] at c1 c2
          clear hx
          go_wp2_with fail
          go_quiet (fail)
          go_wp2_with fail
          go_roundw
          case rel => exact ⟨k + 1, _, by omega, by go_num, rfl⟩
          case measure => simp [intOf]; omega
        · obtain rfl : k = xs.length := by omega
          go_wp2_with fail
          go_ret
          exact ⟨rfl, _, rfl⟩

end Go.Proofs.Yteflpaebckichab

/-! ArgI -/
namespace Go.Proofs.Yteflpaebckichab
open Go.RowKit

/-- A slice of integers that came in: it is nil, or leads to a row of 'cap' cells, the first 'len' of which are its elements. -/
def IsInts (w : World) (a : Option Addr) (len cap : Nat) (ss : List Int) : Prop :=
  (a = none ∧ len = 0 ∧ cap = 0 ∧ ss = []) ∨
  ∃ x, a = some x ∧ len ≤ cap ∧ cap ≤ maxLen ∧ ss.length = cap ∧ (∀ i, i < ss.length → w.cell? (x.add i) = some (.int .i64 (ss.getD i 0))) ∧ ∀ s ∈ ss, (Lit.int .i64 s).wf = true

/-- What can be read of a slice of integers: the cells from an address on. -/
def ReadI (w : World) (g off : Nat) (ss : List Int) : Prop := ∀ i, i < ss.length → w.cell? ⟨g, off + i, none⟩ = some (.int .i64 (ss.getD i 0))

theorem ReadI.keep {w w' : World} {g off : Nat} {ss : List Int} (h : ReadI w g off ss) (hb : Below w.heap.size w w') : ReadI w' g off ss := by
  intro i hi
  have := h i hi
  exact (hb.cell (p := ⟨g, off + i, none⟩) (World.block_lt_of_cell? w _ this)).trans this

/-- The slice as the walks take it: empty, or readable from an address on. -/
def InI (w : World) (a : Option Addr) (ss : List Int) : Prop := ss = [] ∨ ∃ g off, a = some ⟨g, off, none⟩ ∧ ReadI w g off ss

theorem IsInts.inI {w : World} {a : Option Addr} {len cap : Nat} {ss : List Int} (h : IsInts w a len cap ss) : InI w a (ss.take len) ∧ (ss.take len).length = len ∧ (len : Int) ≤ 9223372036854775807 ∧ ∀ s ∈ ss.take len, -9223372036854775808 ≤ s ∧ s ≤ 9223372036854775807 := by
  rcases h with ⟨rfl, rfl, rfl, rfl⟩ | ⟨x, rfl, h1, h2, h3, h4, h5⟩
  · exact ⟨.inl rfl, rfl, by omega, by simp⟩
  · have hl : (ss.take len).length = len := by rw [List.length_take]; omega
    unfold maxLen at h2
    refine ⟨?_, hl, by omega, fun s hs => i64_bounds (h5 s (List.mem_of_mem_take hs))⟩
    by_cases h0 : len = 0
    · left; subst h0; rfl
    · right
      obtain ⟨b, off, spot⟩ := x
      have hc := h4 0 (by omega)
      have hspot : spot = none := by simpa [Addr.add] using World.cell?_spot hc
      subst hspot
      refine ⟨b, off, rfl, fun i hi => ?_⟩
      rw [hl] at hi
      have := h4 i (by omega)
      have e : (⟨b, off, none⟩ : Addr).add i = ⟨b, off + i, none⟩ := by
        unfold Addr.add
        split
        · next h => rw [h]; simp
        · rfl
      rw [e] at this
      rw [this]
      simp [List.getD_eq_getElem?_getD, hi]

theorem InI.keep {w w' : World} {a : Option Addr} {ss : List Int} (h : InI w a ss) (hb : Below w.heap.size w w') : InI w' a ss := by
  rcases h with h | ⟨g, off, rfl, hr⟩
  · exact .inl h
  · exact .inr ⟨g, off, rfl, hr.keep hb⟩

/-- A call that hands back a copy, in new memory. -/
def CopyOfI (ss : List Int) (n : Nat) (w : World) (e : Ending) (w' : World) : Prop :=
  ∃ g : Nat, OwnI w.heap.size w' (.slice (some ⟨g, 0, none⟩) n n) ss ∧ Below w.heap.size w w' ∧ e = .returned (.slice (some ⟨g, 0, none⟩) n n)

theorem madeCells_int (n : Nat) : (madeCells (Value.int .i64 0).cells (n * 1)).toList = (List.replicate n (0 : Int)).map (Value.int .i64) := by
  rw [List.map_replicate, Nat.mul_one]
  exact toList_madeCells_one _ _

end Go.Proofs.Yteflpaebckichab

/-! Lw3 -/
namespace Go.Proofs.Yteflpaebckichab
open Go.RowKit

/-- The law's answer: true, and what was there is left. -/
def SaysTrue (w : World) (e : Ending) (w' : World) : Prop := e = .returned (.bool true) ∧ Below w.heap.size w w'

theorem OwnS.flat {base : Nat} {w : World} {v : Value} {L : List ByteArray} (h : OwnS base w v L) : ∃ (a : Option Addr) (cap : Nat), v = .slice a L.length cap ∧ InS w a L ∧ L.length ≤ cap ∧ cap ≤ 9223372036854775807 := by
  rcases h.cells with ⟨rfl, rfl⟩ | ⟨g, cap, rfl, _, _, h1, h2, h3, _⟩
  · exact ⟨none, 0, rfl, .inl rfl, Nat.le_refl _, by omega⟩
  · unfold maxLen at h2
    exact ⟨_, cap, rfl, .inr ⟨g, 0, rfl, fun i hi => by rw [Nat.zero_add]; exact h3 i hi⟩, h1, by omega⟩
theorem OwnI.flat {base : Nat} {w : World} {v : Value} {L : List Int} (h : OwnI base w v L) : ∃ (a : Option Addr) (cap : Nat), v = .slice a L.length cap ∧ InI w a L ∧ L.length ≤ cap ∧ cap ≤ 9223372036854775807 := by
  rcases h.cells with ⟨rfl, rfl⟩ | ⟨g, cap, rfl, _, _, h1, h2, h3, _⟩
  · exact ⟨none, 0, rfl, .inl rfl, Nat.le_refl _, by omega⟩
  · unfold maxLen at h2
    exact ⟨_, cap, rfl, .inr ⟨g, 0, rfl, fun i hi => by rw [Nat.zero_add]; exact h3 i hi⟩, h1, by omega⟩
end Go.Proofs.Yteflpaebckichab

/-! WithP -/
namespace Go.Proofs.Yteflpaebckichab

/-- The spec's reading of addresses: the tree behind an address and how many addresses it takes (k: how many levels are left). -/
def withS : Nat → List ByteArray → ByteArray → Option (Tr × Nat)
  | 0, _, _ => none
  | _ + 1, [], _ => none
  | k + 1, a :: L, here =>
    if a = here then some (.lf, 1)
    else match withS k (a :: L) (here ++ ⟨#[48]⟩) with
      | none => none
      | some (l, n) =>
        match withS k ((a :: L).drop n) (here ++ ⟨#[49]⟩) with
        | none => none
        | some (r, m) => some (.nd l r, n + m)

def prefixB (a here : ByteArray) : Bool := a.data.toList.take here.size == here.data.toList

/-- The program's reading: the tree and what is left of the addresses. -/
def withI : Nat → List ByteArray → ByteArray → Option (Tr × List ByteArray)
  | 0, _, _ => none
  | _ + 1, [], _ => none
  | k + 1, a :: L, here =>
    if prefixB a here = false then none
    else if a = here then some (.lf, L)
    else match withI k (a :: L) (here ++ ⟨#[48]⟩) with
      | none => none
      | some (l, L1) =>
        match withI k L1 (here ++ ⟨#[49]⟩) with
        | none => none
        | some (r, L2) => some (.nd l r, L2)

theorem withS_sound (k : Nat) : ∀ (L : List ByteArray) (here : ByteArray) (t : Tr) (n : Nat), withS k L here = some (t, n) → n = t.carets + 1 ∧ n ≤ L.length ∧ L.take n = t.addrs here := by
  induction k with
  | zero => intro L here t n h; simp [withS] at h
  | succ k ih =>
    intro L here t n h
    match L with
    | [] => simp [withS] at h
    | a :: L =>
      rw [withS] at h
      split at h
      · next ha => simp at h; obtain ⟨rfl, rfl⟩ := h; exact ⟨rfl, by simp, by simp [Tr.addrs, ha]⟩
      · split at h
        · simp at h
        · next l n1 h1 =>
          split at h
          · simp at h
          · next r m h2 =>
            simp at h
            obtain ⟨rfl, rfl⟩ := h
            obtain ⟨e1, l1, f1⟩ := ih _ _ _ _ h1
            obtain ⟨e2, l2, f2⟩ := ih _ _ _ _ h2
            rw [List.length_drop] at l2
            refine ⟨by simp [Tr.carets]; omega, by omega, ?_⟩
            rw [List.take_add, f1, f2, Tr.addrs]

theorem addrs_cons (t : Tr) : ∀ here, ∃ a L, t.addrs here = a :: L ∧ prefixB a here = true ∧ here.size ≤ a.size := by
  induction t with
  | lf => intro here; exact ⟨here, [], rfl, by unfold prefixB; rw [Lib.size_eq, List.take_length]; simp, Nat.le_refl _⟩
  | nd l r ihl _ =>
    intro here
    obtain ⟨a, L, h1, h2, h3⟩ := ihl (here ++ ⟨#[48]⟩)
    refine ⟨a, L ++ r.addrs (here ++ ⟨#[49]⟩), by rw [Tr.addrs, h1]; rfl, ?_, ?_⟩
    · unfold prefixB at *
      have e : (here ++ (⟨#[48]⟩ : ByteArray)).size = here.size + 1 := ByteArray.size_append
      rw [e] at h2
      simp only [beq_iff_eq] at h2 ⊢
      have h4 := congrArg (List.take here.size) h2
      rw [List.take_take, Nat.min_eq_left (by omega)] at h4
      rw [h4, ByteArray.data_append, Array.toList_append, List.take_append_of_le_length (by rw [← Lib.size_eq]; exact Nat.le_refl _), Lib.size_eq, List.take_length]
    · have e : (here ++ (⟨#[48]⟩ : ByteArray)).size = here.size + 1 := ByteArray.size_append
      omega

theorem addrs_ne (l r : Tr) (here : ByteArray) {a : ByteArray} {L : List ByteArray} (h : (Tr.nd l r).addrs here = a :: L) : a ≠ here := by
  obtain ⟨b, M, h1, _, h3⟩ := addrs_cons l (here ++ ⟨#[48]⟩)
  rw [Tr.addrs, h1] at h
  injection h with h _
  have e : (here ++ (⟨#[48]⟩ : ByteArray)).size = here.size + 1 := ByteArray.size_append
  intro heq
  rw [← h] at heq
  rw [heq] at h3
  omega

theorem withS_complete (t : Tr) : ∀ (k : Nat) (here : ByteArray) (r : List ByteArray), t.carets < k → withS k (t.addrs here ++ r) here = some (t, t.carets + 1) := by
  induction t with
  | lf => intro k here r h; cases k with | zero => omega | succ k => simp [Tr.addrs, withS, Tr.carets]
  | nd a b iha ihb =>
    intro k here r h
    cases k with
    | zero => omega
    | succ k =>
      have h' : a.carets < k ∧ b.carets < k := by simp [Tr.carets] at h; omega
      obtain ⟨x, L, hx, _, _⟩ := addrs_cons (.nd a b) here
      have hne := addrs_ne a b here hx
      rw [hx, List.cons_append, withS, if_neg hne]
      have e : x :: (L ++ r) = a.addrs (here ++ ⟨#[48]⟩) ++ (b.addrs (here ++ ⟨#[49]⟩) ++ r) := by
        rw [← List.cons_append, ← hx, Tr.addrs, List.append_assoc]
      rw [e, iha k _ _ h'.1]
      show (match withS k ((a.addrs (here ++ ⟨#[48]⟩) ++ (b.addrs (here ++ ⟨#[49]⟩) ++ r)).drop (a.carets + 1)) (here ++ ⟨#[49]⟩) with | none => none | some (q, m) => _) = _
      rw [List.drop_left' (addrs_length a _), ihb k _ _ h'.2]
      simp [Tr.carets]; omega

theorem withI_sound (k : Nat) : ∀ (L : List ByteArray) (here : ByteArray) (t : Tr) (R : List ByteArray), withI k L here = some (t, R) → L = t.addrs here ++ R := by
  induction k with
  | zero => intro L here t n h; simp [withI] at h
  | succ k ih =>
    intro L here t R h
    match L with
    | [] => simp [withI] at h
    | a :: L =>
      rw [withI] at h
      split at h
      · simp at h
      · split at h
        · next ha => simp at h; obtain ⟨rfl, rfl⟩ := h; simp [Tr.addrs, ha]
        · split at h
          · simp at h
          · next l L1 h1 =>
            split at h
            · simp at h
            · next r L2 h2 =>
              simp at h
              obtain ⟨rfl, rfl⟩ := h
              rw [ih _ _ _ _ h1, ih _ _ _ _ h2, Tr.addrs, List.append_assoc]

theorem withI_complete (t : Tr) : ∀ (k : Nat) (here : ByteArray) (r : List ByteArray), t.carets < k → withI k (t.addrs here ++ r) here = some (t, r) := by
  induction t with
  | lf =>
    intro k here r h
    cases k with
    | zero => omega
    | succ k =>
      obtain ⟨x, L, hx, hp, _⟩ := addrs_cons .lf here
      simp [Tr.addrs] at hx
      obtain ⟨rfl, rfl⟩ := hx
      simp [Tr.addrs, withI, hp]
  | nd a b iha ihb =>
    intro k here r h
    cases k with
    | zero => omega
    | succ k =>
      have h' : a.carets < k ∧ b.carets < k := by simp [Tr.carets] at h; omega
      obtain ⟨x, L, hx, hp, _⟩ := addrs_cons (.nd a b) here
      have hne := addrs_ne a b here hx
      rw [hx, List.cons_append, withI, if_neg (by rw [hp]; decide), if_neg hne]
      have e : x :: (L ++ r) = a.addrs (here ++ ⟨#[48]⟩) ++ (b.addrs (here ++ ⟨#[49]⟩) ++ r) := by
        rw [← List.cons_append, ← hx, Tr.addrs, List.append_assoc]
      rw [e, iha k _ _ h'.1]
      show (match withI k (b.addrs (here ++ ⟨#[49]⟩) ++ r) (here ++ ⟨#[49]⟩) with | none => none | some (q, m) => _) = _
      rw [ihb k _ _ h'.2]

/-- The tree with such addresses, if there is one: at most nine of them. -/
def withO (L : List ByteArray) : Option Tr :=
  if L.length ≤ 9 then
    match withS 9 L ⟨#[]⟩ with
    | some (t, n) => if n = L.length then some t else none
    | none => none
  else none

theorem withO_of {L : List ByteArray} {t : Tr} {n : Nat} (hl : L.length ≤ 9) (h : withS 9 L ⟨#[]⟩ = some (t, n)) : withO L = if n = L.length then some t else none := by
  unfold withO; rw [if_pos hl, h]
theorem withO_no {L : List ByteArray} (h : withS 9 L ⟨#[]⟩ = none) : withO L = none := by
  unfold withO; rw [h]; simp

theorem withO_some {L : List ByteArray} {t : Tr} (h : withO L = some t) : L = t.addrs ⟨#[]⟩ ∧ t.carets ≤ 8 := by
  unfold withO at h
  split at h
  · next hl =>
    split at h
    · next t' n hw =>
      split at h
      · next hn =>
        injection h with h
        subst h
        obtain ⟨e1, e2, e3⟩ := withS_sound _ _ _ _ _ hw
        exact ⟨by rw [← e3, hn, List.take_length], by omega⟩
      · simp at h
    · simp at h
  · simp at h

theorem withO_addrs (t : Tr) (h : t.carets ≤ 8) : withO (t.addrs ⟨#[]⟩) = some t := by
  have hl := addrs_length t ⟨#[]⟩
  have hc := withS_complete t 9 ⟨#[]⟩ [] (by omega)
  rw [List.append_nil] at hc
  unfold withO
  rw [if_pos (by omega), hc]
  simp [hl]

theorem withO_eq {L : List ByteArray} (hl : L.length ≤ 9) : withO L = match withI 10 L ⟨#[]⟩ with | some (t, []) => some t | _ => none := by
  cases h : withO L with
  | some t =>
    obtain ⟨rfl, hc⟩ := withO_some h
    have := withI_complete t 10 ⟨#[]⟩ [] (by omega)
    rw [List.append_nil] at this
    rw [this]
  | none =>
    cases hi : withI 10 L ⟨#[]⟩ with
    | none => rfl
    | some p =>
      obtain ⟨t, R⟩ := p
      cases R with
      | cons a R => rfl
      | nil =>
        have e := withI_sound _ _ _ _ _ hi
        rw [List.append_nil] at e
        subst e
        have hc := addrs_length t ⟨#[]⟩
        rw [withO_addrs t (by omega)] at h
        simp at h
end Go.Proofs.Yteflpaebckichab

/-! DepthP -/
namespace Go.Proofs.Yteflpaebckichab
def Tr.depths : Tr → Int → List Int
  | .lf, d => [d]
  | .nd l r, d => l.depths (d + 1) ++ r.depths (d + 1)

/-- The depths that are told along a text. -/
def depL : List UInt8 → Int → List Int
  | [], _ => []
  | c :: r, d => if c = 40 then depL r (d + 1) else if c = 41 then depL r (d - 1) else d :: depL r d

theorem depL_text (t : Tr) : ∀ (r : List UInt8) (d : Int), depL (t.text ++ r) d = t.depths d ++ depL r d := by
  induction t with
  | lf => intro r d; simp [Tr.text, Tr.depths, depL]
  | nd a b iha ihb =>
    intro r d
    have e : (Tr.nd a b).text ++ r = 40 :: (a.text ++ (b.text ++ (41 :: r))) := by simp [Tr.text]
    rw [e, depL, if_pos rfl, iha, ihb, depL, if_neg (by decide), if_pos rfl, Int.add_sub_cancel, Tr.depths, List.append_assoc]

theorem depths_length (t : Tr) : ∀ d, (t.depths d).length = t.carets + 1 := by
  induction t with
  | lf => intro d; rfl
  | nd a b iha ihb => intro d; simp [Tr.depths, Tr.carets, iha, ihb]; omega

theorem depths_addrs (t : Tr) : ∀ here : ByteArray, (t.addrs here).map (fun s => (s.size : Int)) = t.depths here.size := by
  induction t with
  | lf => intro here; rfl
  | nd a b iha ihb =>
    intro here
    have e0 : ∀ c : UInt8, (((here ++ (⟨#[c]⟩ : ByteArray)).size : Nat) : Int) = (here.size : Int) + 1 := fun c => by
      rw [ByteArray.size_append]; rfl
    rw [Tr.addrs, List.map_append, iha, ihb, e0, e0]; rfl
end Go.Proofs.Yteflpaebckichab

/-! TaP -/
namespace Go.Proofs.Yteflpaebckichab

theorem list_lt_at (h a b : List UInt8) (x y : UInt8) (hxy : x < y) : h ++ x :: a < h ++ y :: b := by
  induction h with
  | nil => exact List.Lex.rel hxy
  | cons c h ih => exact List.Lex.cons ih
theorem addrs_here (t : Tr) : ∀ (here : ByteArray), ∀ s ∈ t.addrs here, ∃ q, s.data.toList = here.data.toList ++ q := by
  induction t with
  | lf => intro here s hs; simp [Tr.addrs] at hs; subst hs; exact ⟨[], by simp⟩
  | nd l r ihl ihr =>
    intro here s hs
    rw [Tr.addrs, List.mem_append] at hs
    rcases hs with hs | hs
    · obtain ⟨q, hq⟩ := ihl _ s hs
      exact ⟨48 :: q, by rw [hq]; simp⟩
    · obtain ⟨q, hq⟩ := ihr _ s hs
      exact ⟨49 :: q, by rw [hq]; simp⟩
theorem addrs_inc (t : Tr) : ∀ here : ByteArray, (t.addrs here).Pairwise (fun a b => a.data.toList < b.data.toList) := by
  induction t with
  | lf => intro here; simp [Tr.addrs]
  | nd l r ihl ihr =>
    intro here
    rw [Tr.addrs, List.pairwise_append]
    refine ⟨ihl _, ihr _, fun a ha b hb => ?_⟩
    obtain ⟨q, hq⟩ := addrs_here l _ a ha
    obtain ⟨q', hq'⟩ := addrs_here r _ b hb
    rw [hq, hq']
    have e : ∀ (c : UInt8) (x : List UInt8), (here ++ (⟨#[c]⟩ : ByteArray)).data.toList ++ x = here.data.toList ++ c :: x := by intro c x; simp
    rw [e, e]
    exact list_lt_at _ _ _ _ _ (by decide)
/-- What the addresses share of 2 ^ 8. -/
def shareL (L : List ByteArray) : Nat := (L.map fun s => 2 ^ (8 - s.size)).sum
theorem shareL_cons (s : ByteArray) (L : List ByteArray) : shareL (s :: L) = 2 ^ (8 - s.size) + shareL L := by simp [shareL]
theorem shareL_append (L M : List ByteArray) : shareL (L ++ M) = shareL L + shareL M := by simp [shareL]
theorem share_addrs (t : Tr) : ∀ here : ByteArray, here.size + t.carets ≤ 8 → shareL (t.addrs here) = 2 ^ (8 - here.size) := by
  induction t with
  | lf => intro here h; simp [Tr.addrs, shareL]
  | nd l r ihl ihr =>
    intro here h
    rw [Tr.carets] at h
    have e0 : ∀ c : UInt8, (here ++ (⟨#[c]⟩ : ByteArray)).size = here.size + 1 := fun c => ByteArray.size_append
    rw [Tr.addrs, shareL_append, ihl _ (by rw [e0]; omega), ihr _ (by rw [e0]; omega), e0, e0]
    have e : 8 - here.size = (8 - (here.size + 1)) + 1 := by omega
    rw [e, Nat.pow_succ]; omega
theorem share_le (L : List ByteArray) : shareL L ≤ 256 * L.length := by
  induction L with
  | nil => simp [shareL]
  | cons s L ih =>
    rw [shareL_cons, List.length_cons]
    have : 2 ^ (8 - s.size) ≤ 2 ^ 8 := Nat.pow_le_pow_right (by decide) (by omega)
    omega
theorem exps_any (t : Tr) (h : 0 < t.carets) : ∀ n : Int, t.exps n ≠ [] := by
  induction t with
  | lf => simp [Tr.carets] at h
  | nd l r ihl ihr =>
    intro n e
    rw [Tr.exps, List.append_eq_nil_iff, List.append_eq_nil_iff] at e
    obtain ⟨e1, e2, e3⟩ := e
    by_cases hl : 0 < l.carets
    · exact ihl hl n e2
    by_cases hr : 0 < r.carets
    · exact ihr hr _ e3
    have a : l = .lf := by cases l with | lf => rfl | nd a b => simp [Tr.carets] at hl
    have b : r = .lf := by cases r with | lf => rfl | nd a b => simp [Tr.carets] at hr
    subst a; subst b
    simp [Tr.isLf] at e1
theorem put_back (t : Tr) : ∀ n : Int, n ∈ t.exps 0 → (t.dropAt n).graft n (.nd .lf .lf) = t := by
  induction t with
  | lf => intro n h; simp [Tr.exps] at h
  | nd l r ihl ihr =>
    intro n h
    have hr := exps_range _ 0 n h
    rw [Tr.exps, List.mem_append, List.mem_append] at h
    by_cases hb : (l.isLf && r.isLf) = true
    · obtain ⟨rfl, rfl⟩ := both_lf hb
      simp [Tr.exps, Tr.isLf] at h
      subst h
      simp [Tr.dropAt, Tr.isLf, Tr.graft]
    · have h2 : n ∈ l.exps 0 ∨ n ∈ r.exps (0 + l.leaves) := by
        rcases h with h | h
        · rw [if_neg hb] at h; simp at h
        · exact h
      clear h
      rw [Tr.dropAt, if_neg hb]
      rcases h2 with h | h
      · have h1 := exps_range l 0 n h
        have hc := dropAt_carets l n h
        rw [if_pos (by omega), Tr.graft, if_pos (by unfold Tr.leaves at *; omega), ihl n h]
      · have h3 : n - l.leaves ∈ r.exps 0 := by
          have := (exps_shift_mem r (0 + l.leaves) n).1 h
          simpa using this
        have h1 := exps_range r 0 _ h3
        rw [if_neg (by omega), Tr.graft, if_neg (by omega), ihr _ h3]
theorem mir_mir (t : Tr) : t.mir.mir = t := by
  induction t with
  | lf => rfl
  | nd l r ihl ihr => simp [Tr.mir, ihl, ihr]
end Go.Proofs.Yteflpaebckichab

/-! AtP -/
namespace Go.Proofs.Yteflpaebckichab
def Tr.sub : Tr → List UInt8 → Option Tr
  | t, [] => some t
  | .lf, _ :: _ => none
  | .nd l r, c :: cs => if c = 48 then l.sub cs else if c = 49 then r.sub cs else none

theorem sub_carets : ∀ (l : List UInt8) (t u : Tr), t.sub l = some u → u.carets + l.length ≤ t.carets := by
  intro l
  induction l with
  | nil => intro t u h; simp [Tr.sub] at h; subst h; simp
  | cons c cs ih =>
    intro t u h
    cases t with
    | lf => simp [Tr.sub] at h
    | nd a b =>
      rw [Tr.sub] at h
      split at h
      · have := ih _ _ h; simp [Tr.carets]; omega
      · split at h
        · have := ih _ _ h; simp [Tr.carets]; omega
        · simp at h
end Go.Proofs.Yteflpaebckichab

/-! PrP -/
namespace Go.Proofs.Yteflpaebckichab

/-- A pair of trees. -/
abbrev Pr := Tr × Tr

/-- The left leaves with which both trees have exposed carets. -/
def both (p : Pr) : List Int := (p.1.exps 0).filter fun n => (p.2.exps 0).contains n

/-- Both carets dropped. -/
def dropP (p : Pr) (n : Int) : Pr := (p.1.dropAt n, p.2.dropAt n)

/-- Which of so many a step takes: the first choice modulo their number, or the first one. -/
def pickI (cs : List Int) (k : Nat) : Nat := match cs with
  | [] => 0
  | c :: _ => (c % k).toNat

/-- The reduced pair by choices (fuel: the number of steps that are left at most). -/
def redF : Nat → Pr → List Int → Pr
  | 0, p, _ => p
  | k + 1, p, cs => match both p with
    | [] => p
    | n :: ns => redF k (dropP p ((n :: ns).getD (pickI cs (ns.length + 1)) 0)) cs.tail
def redBy (p : Pr) (cs : List Int) : Pr := redF p.1.carets p cs
def red (p : Pr) : Pr := redBy p []

theorem mem_both {p : Pr} {n : Int} : n ∈ both p ↔ n ∈ p.1.exps 0 ∧ n ∈ p.2.exps 0 := by
  simp [both]

theorem both_length (p : Pr) : (both p).length ≤ p.1.carets :=
  Nat.le_trans (List.length_filter_le _ _) (exps_length _ _)

theorem both_empty {p : Pr} (h : p.1.carets = 0) : both p = [] := by
  have := both_length p
  exact List.length_eq_zero_iff.1 (by omega)

theorem pickI_lt (cs : List Int) (k : Nat) (h : 0 < k) : pickI cs k < k := by
  unfold pickI
  split
  · exact h
  · next c _ =>
    have h1 := Int.emod_lt_of_pos c (show (0 : Int) < k by omega)
    have h2 := Int.emod_nonneg c (show (k : Int) ≠ 0 by omega)
    omega

theorem pick_mem {p : Pr} {n : Int} {ns : List Int} (h : both p = n :: ns) (cs : List Int) : (n :: ns).getD (pickI cs (ns.length + 1)) 0 ∈ both p := by
  rw [h]
  have := pickI_lt cs (ns.length + 1) (by omega)
  rw [List.getD_eq_getElem?_getD, List.getElem?_eq_getElem (by simpa using this)]
  exact List.getElem_mem _

theorem dropP_carets {p : Pr} {n : Int} (h : n ∈ both p) : (dropP p n).1.carets + 1 = p.1.carets ∧ (dropP p n).2.carets + 1 = p.2.carets :=
  ⟨dropAt_carets _ _ (mem_both.1 h).1, dropAt_carets _ _ (mem_both.1 h).2⟩

/-- One step. -/
theorem redBy_step {p : Pr} {n : Int} {ns : List Int} (h : both p = n :: ns) (cs : List Int) :
    redBy p cs = redBy (dropP p ((n :: ns).getD (pickI cs (ns.length + 1)) 0)) cs.tail := by
  have hc := (dropP_carets (pick_mem h cs)).1
  unfold redBy
  obtain ⟨k, hk⟩ : ∃ k, p.1.carets = k + 1 := ⟨p.1.carets - 1, by omega⟩
  rw [hk, redF, h]
  have : (dropP p ((n :: ns).getD (pickI cs (ns.length + 1)) 0)).1.carets = k := by omega
  rw [this]
theorem redBy_end {p : Pr} (h : both p = []) (cs : List Int) : redBy p cs = p := by
  unfold redBy
  cases hk : p.1.carets with
  | zero => rfl
  | succ k => rw [redF, h]

theorem redF_carets (k : Nat) : ∀ (p : Pr) (cs : List Int), (redF k p cs).1.carets ≤ p.1.carets ∧ (redF k p cs).2.carets ≤ p.2.carets ∧ (redF k p cs).1.carets + p.2.carets = (redF k p cs).2.carets + p.1.carets := by
  induction k with
  | zero => intro p cs; simp [redF]; omega
  | succ k ih =>
    intro p cs
    rw [redF]
    split
    · refine ⟨Nat.le_refl _, Nat.le_refl _, by omega⟩
    · next n ns h =>
      have h1 := dropP_carets (pick_mem h cs)
      have h2 := ih (dropP p ((n :: ns).getD (pickI cs (ns.length + 1)) 0)) cs.tail
      omega
theorem redBy_carets (p : Pr) (cs : List Int) : (redBy p cs).1.carets ≤ p.1.carets ∧ (redBy p cs).2.carets ≤ p.2.carets ∧ (redBy p cs).1.carets + p.2.carets = (redBy p cs).2.carets + p.1.carets := redF_carets _ p cs

theorem redF_both (k : Nat) : ∀ (p : Pr) (cs : List Int), p.1.carets ≤ k → both (redF k p cs) = [] := by
  induction k with
  | zero => intro p cs h; rw [redF]; exact both_empty (by omega)
  | succ k ih =>
    intro p cs hk
    rw [redF]
    split
    · next h => exact h
    · next n ns h =>
      have h1 := dropP_carets (pick_mem h cs)
      exact ih _ _ (by omega)
theorem red_both (p : Pr) (cs : List Int) : both (redBy p cs) = [] := redF_both _ p cs (Nat.le_refl _)

/-- A pair is what is left of it just if it is reduced. -/
theorem red_self (p : Pr) : red p = p ↔ both p = [] := by
  constructor
  · intro h; rw [← h]; exact red_both p []
  · exact fun h => redBy_end h []

namespace Tr
/-- What a greater tree has at the leaves of one that is part of it. -/
def subs : Tr → Tr → List Tr
  | lf, g => [g]
  | nd l r, nd p q => l.subs p ++ r.subs q
  | nd _ _, lf => []
/-- A tree with others in place of its leaves, and those that are left. -/
def fillR : Tr → List Tr → Tr × List Tr
  | lf, [] => (lf, [])
  | lf, u :: us => (u, us)
  | nd l r, us => (nd (l.fillR us).1 (r.fillR (l.fillR us).2).1, (r.fillR (l.fillR us).2).2)
def fill (t : Tr) (us : List Tr) : Tr := (t.fillR us).1
end Tr

theorem below_length (a : Tr) : ∀ b : Tr, (a.subs (a.join b)).length = a.leaves := by
  induction a with
  | lf => intro b; rfl
  | nd l r ihl ihr =>
    intro b
    cases b with
    | lf =>
      have h1 := ihl .lf
      have h2 := ihr .lf
      rw [leaves_nd]
      have j : ∀ t : Tr, t.join .lf = t := fun t => by cases t <;> rfl
      rw [j] at h1 h2
      show ((Tr.nd l r).subs (.nd l r)).length = _
      simp [Tr.subs, h1, h2]
    | nd p q =>
      rw [leaves_nd]
      simp [Tr.join, Tr.subs, ihl p, ihr q]

theorem join_comm (a : Tr) : ∀ b : Tr, a.join b = b.join a := by
  induction a with
  | lf => intro b; cases b <;> rfl
  | nd l r ihl ihr =>
    intro b
    cases b with
    | lf => rfl
    | nd p q => simp [Tr.join, ihl p, ihr q]

/-- a is part of g, whose texts below a are told. -/
def sumC (us : List Tr) : Nat := (us.map Tr.carets).sum

theorem sumC_cons (u : Tr) (us : List Tr) : sumC (u :: us) = u.carets + sumC us := by simp [sumC]
theorem sumC_append (us vs : List Tr) : sumC (us ++ vs) = sumC us + sumC vs := by simp [sumC]

theorem below_carets (a : Tr) : ∀ g : Tr, a.part g = true → a.carets + sumC (a.subs g) = g.carets ∧ (a.subs g).length = a.leaves := by
  induction a with
  | lf => intro g _; simp [Tr.subs, sumC, Tr.carets, Tr.leaves]
  | nd l r ihl ihr =>
    intro g h
    cases g with
    | lf => simp [Tr.part] at h
    | nd p q =>
      simp [Tr.part] at h
      have h1 := ihl p h.1
      have h2 := ihr q h.2
      rw [leaves_nd]
      simp only [Tr.subs, sumC_append, Tr.carets, List.length_append]
      omega

theorem part_refl (a : Tr) : a.part a = true := by
  induction a with
  | lf => rfl
  | nd l r ihl ihr => simp [Tr.part, ihl, ihr]

theorem part_join (a : Tr) : ∀ b : Tr, a.part (a.join b) = true := by
  induction a with
  | lf => intro b; rfl
  | nd l r ihl ihr =>
    intro b
    cases b with
    | lf => show (Tr.nd l r).part (.nd l r) = true; exact part_refl _
    | nd p q => simp [Tr.join, Tr.part, ihl p, ihr q]
theorem part_join' (a b : Tr) : b.part (a.join b) = true := by rw [join_comm]; exact part_join b a

theorem fillR_carets (t : Tr) : ∀ us : List Tr, t.leaves ≤ us.length → (t.fillR us).1.carets + sumC (t.fillR us).2 = t.carets + sumC us ∧ (t.fillR us).2.length + t.leaves = us.length := by
  induction t with
  | lf =>
    intro us h
    cases us with
    | nil => simp [Tr.leaves] at h
    | cons u us => simp [Tr.fillR, sumC_cons, Tr.carets, Tr.leaves]
  | nd l r ihl ihr =>
    intro us h
    rw [leaves_nd] at *
    have h1 := ihl us (by omega)
    have h2 := ihr (l.fillR us).2 (by omega)
    simp only [Tr.fillR, Tr.carets]
    omega

theorem fill_carets (t : Tr) (us : List Tr) (h : us.length = t.leaves) : (t.fill us).carets = t.carets + sumC us := by
  have h1 := fillR_carets t us (by omega)
  have : (t.fillR us).2 = [] := List.length_eq_zero_iff.1 (by omega)
  rw [this] at h1
  have h2 := h1.1
  show (t.fillR us).1.carets = _
  simp [sumC] at h2 ⊢
  exact h2

/-- The text of a tree with texts in place of its leaves: the texts that are left. -/
def fillL : List UInt8 → List ByteArray → List UInt8
  | [], _ => []
  | c :: r, us => if c = 46 then (us.getD 0 ⟨#[]⟩).data.toList ++ fillL r us.tail else c :: fillL r us

theorem fillL_text (t : Tr) : ∀ (us : List Tr) (q : List UInt8), t.leaves ≤ us.length → fillL (t.text ++ q) (us.map Tr.str) = (t.fillR us).1.text ++ fillL q ((t.fillR us).2.map Tr.str) := by
  induction t with
  | lf =>
    intro us q h
    cases us with
    | nil => simp [Tr.leaves] at h
    | cons u us => simp [Tr.fillR, Tr.text, fillL, Tr.str_list]
  | nd l r ihl ihr =>
    intro us q h
    rw [leaves_nd] at h
    have e : (Tr.nd l r).text ++ q = 40 :: (l.text ++ (r.text ++ (41 :: q))) := by simp [Tr.text]
    have h1 := fillR_carets l us (by omega)
    rw [e, fillL, if_neg (by decide), ihl us _ (by omega), ihr _ _ (by omega), fillL, if_neg (by decide)]
    simp [Tr.fillR, Tr.text]

theorem fill_text (t : Tr) (us : List Tr) (h : us.length = t.leaves) : fillL t.text (us.map Tr.str) = (t.fill us).text := by
  have := fillL_text t us [] (by omega)
  show _ = (t.fillR us).1.text
  simpa [fillL] using this

/-- The product, before it is reduced. -/
def rawP (p q : Pr) : Pr := (p.1.fill (p.2.subs (p.2.join q.1)), q.2.fill (q.1.subs (p.2.join q.1)))
/-- The product. -/
def mulP (p q : Pr) : Pr := red (rawP p q)
def invP (p : Pr) : Pr := (p.2, p.1)
/-- A pair: as many leaves. -/
def okP (p : Pr) : Prop := p.1.carets = p.2.carets

theorem rawP_carets {p q : Pr} (hp : okP p) (hq : okP q) : (rawP p q).1.carets = (p.2.join q.1).carets ∧ (rawP p q).2.carets = (p.2.join q.1).carets := by
  unfold okP at *
  have h1 := below_carets p.2 _ (part_join p.2 q.1)
  have h2 := below_carets q.1 _ (part_join' p.2 q.1)
  have f1 := fill_carets p.1 (p.2.subs (p.2.join q.1)) (by rw [h1.2]; simp [Tr.leaves, hp])
  have f2 := fill_carets q.2 (q.1.subs (p.2.join q.1)) (by rw [h2.2]; simp [Tr.leaves, hq])
  show (p.1.fill _).carets = _ ∧ (q.2.fill _).carets = _
  omega
theorem rawP_ok {p q : Pr} (hp : okP p) (hq : okP q) : okP (rawP p q) := by
  have := rawP_carets hp hq; unfold okP; omega
theorem red_ok {p : Pr} (hp : okP p) (cs : List Int) : okP (redBy p cs) := by
  have := redBy_carets p cs; unfold okP at *; omega
theorem mulP_ok {p q : Pr} (hp : okP p) (hq : okP q) : okP (mulP p q) := red_ok (rawP_ok hp hq) []
theorem mulP_carets {p q : Pr} (hp : okP p) (hq : okP q) : (mulP p q).1.carets ≤ p.2.carets + q.1.carets := by
  have h1 := rawP_carets hp hq
  have h2 := redBy_carets (rawP p q) []
  have h3 := join_carets p.2 q.1
  show (redBy _ _).1.carets ≤ _
  omega
end Go.Proofs.Yteflpaebckichab

/-! TaQ -/
namespace Go.Proofs.Yteflpaebckichab

theorem com_part1 (a : Tr) : ∀ b : Tr, (a.com b).part a = true := by
  induction a with
  | lf => intro b; simp [Tr.com, Tr.part]
  | nd l r ihl ihr =>
    intro b
    cases b with
    | lf => simp [Tr.com, Tr.part]
    | nd p q => simp [Tr.com, Tr.part, ihl, ihr]
theorem com_part2 (a : Tr) : ∀ b : Tr, (a.com b).part b = true := by
  induction a with
  | lf => intro b; simp [Tr.com, Tr.part]
  | nd l r ihl ihr =>
    intro b
    cases b with
    | lf => simp [Tr.com, Tr.part]
    | nd p q => simp [Tr.com, Tr.part, ihl, ihr]
theorem join_com_carets (a : Tr) : ∀ b : Tr, (a.join b).carets + (a.com b).carets = a.carets + b.carets := by
  induction a with
  | lf => intro b; simp [Tr.join, Tr.com, Tr.carets]
  | nd l r ihl ihr =>
    intro b
    cases b with
    | lf => simp [Tr.join, Tr.com, Tr.carets]
    | nd p q =>
      have h1 := ihl p
      have h2 := ihr q
      simp only [Tr.join, Tr.com, Tr.carets]
      omega
theorem join_eq_part (a : Tr) : ∀ b : Tr, a.join b = b ↔ a.part b = true := by
  induction a with
  | lf => intro b; simp [Tr.join, Tr.part]
  | nd l r ihl ihr =>
    intro b
    cases b with
    | lf => simp [Tr.join, Tr.part]
    | nd p q => simp [Tr.join, Tr.part, ihl, ihr]
theorem str_inj {t u : Tr} (h : t.str.toList = u.str.toList) : t = u := by
  rw [Lib.toList_data, Lib.toList_data, Tr.str_list, Tr.str_list] at h
  exact (Tr.text_inj (r := []) (q := []) (by simpa using h)).1
theorem join_str (t u : Tr) : ((t.join u).str.toList == u.str.toList) = t.part u := by
  rw [Bool.eq_iff_iff, ← join_eq_part]
  constructor
  · intro h; exact str_inj (by simpa using h)
  · intro h; rw [h]; simp
theorem sub_graft (t u : Tr) : ∀ (n : Nat) (here : ByteArray), n < t.leaves → ∃ q, ((t.addrs here).getD n ⟨#[]⟩).data.toList = here.data.toList ++ q ∧ (t.graft n u).sub q = some u := by
  induction t with
  | lf =>
    intro n here h
    have : n = 0 := by unfold Tr.leaves Tr.carets at h; omega
    subst this
    exact ⟨[], by simp [Tr.addrs], by simp [Tr.graft, Tr.sub]⟩
  | nd l r ihl ihr =>
    intro n here h
    rw [leaves_nd] at h
    have hl := addrs_length l (here ++ ⟨#[48]⟩)
    have e : ∀ (c : UInt8) (x : List UInt8), (here ++ (⟨#[c]⟩ : ByteArray)).data.toList ++ x = here.data.toList ++ c :: x := by intro c x; simp
    have hlv : l.leaves = l.carets + 1 := rfl
    rw [Tr.addrs, Tr.graft]
    by_cases hn : n < l.leaves
    · obtain ⟨q, h1, h2⟩ := ihl n (here ++ ⟨#[48]⟩) hn
      refine ⟨48 :: q, ?_, ?_⟩
      · rw [List.getD_eq_getElem?_getD, List.getElem?_append_left (by omega), ← List.getD_eq_getElem?_getD, h1, e]
      · rw [if_pos (by omega), Tr.sub, if_pos rfl, h2]
    · obtain ⟨q, h1, h2⟩ := ihr (n - l.leaves) (here ++ ⟨#[49]⟩) (by omega)
      refine ⟨49 :: q, ?_, ?_⟩
      · rw [List.getD_eq_getElem?_getD, List.getElem?_append_right (by omega), ← List.getD_eq_getElem?_getD, hl, ← hlv, h1, e]
      · rw [if_neg (by omega), Tr.sub, if_neg (by decide), if_pos rfl, show ((n : Int) - (l.leaves : Int)) = ((n - l.leaves : Nat) : Int) by omega, h2]
end Go.Proofs.Yteflpaebckichab

/-! WAddressesOf -/
namespace Go.Proofs.Yteflpaebckichab
open Go.RowKit

def AddressesOf_o (a : ByteArray) : Option (List ByteArray) :=
  match treeOf a with
  | some t => some (t.addrs ⟨#[]⟩)
  | none => none

theorem AddressesOf_len (a : ByteArray) : ((AddressesOf_o a).getD []).length ≤ 1000000000 := by
  unfold AddressesOf_o
  cases h : treeOf a with
  | none => simp
  | some t =>
    have := addrs_length t ⟨#[]⟩
    have := (treeOf_some h).2
    simp; omega

theorem specAddressesOf_any (a : ByteArray) (w : World) (ha : a.size ≤ 9223372036854775806) :
    Calls Try.prog 10 #[.string a] w (AnsSs (AddressesOf_o a) w) := by
  cases h : treeOf a with
  | none =>
    rw [show AddressesOf_o a = none by simp [AddressesOf_o, h]]
    have H := Lib.hid h
    clear h
    go_enter Try.func10, Try.ntmps10
    go_wp2_with fail
    refine (trIs_no a _ ha H.out).mono ?_; rintro e w1 ⟨rfl, rfl⟩
    go_wp2_with fail
    go_ret2
    exact ⟨_, OwnS.nil _ _, Below.refl _ _, rfl⟩
  | some t =>
    obtain ⟨rfl, hc⟩ := treeOf_some h
    rw [show AddressesOf_o t.str = some (t.addrs ⟨#[]⟩) by simp [AddressesOf_o, h]]
    have st := t.str_size
    clear h
    have hz : (⟨#[]⟩ : ByteArray).size = 0 := rfl
    have hA := fun w => trAddresses_any t ⟨#[]⟩ w (by omega) (by omega)
    clear hz
    go_enter Try.func10, Try.ntmps10
    go_wp2_with fail
    refine (trIs_yes t _ hc).mono ?_; rintro e w1 ⟨rfl, rfl⟩
    go_wp2_with fail
    refine (hA _).mono ?_; rintro e w2 ⟨g, cap, own, hb1, rfl⟩
    go_wp2_with fail
    go_ret2
    exact ⟨_, own, hb1, rfl⟩

theorem implAddressesOf_any (a : ByteArray) (w : World) (ha : a.size ≤ 9223372036854775806) :
    Calls Try.prog 9 #[.string a] w (AnsSs (AddressesOf_o a) w) := by
  cases h : treeOf a with
  | none =>
    rw [show AddressesOf_o a = none by simp [AddressesOf_o, h]]
    have H := Lib.hid h
    clear h
    go_enter Try.func9, Try.ntmps9
    go_wp2_with fail
    refine (read_no a _ ha H.out).mono ?_; rintro e w1 ⟨hb1, rfl⟩
    go_wp2_with fail
    go_ret2
    exact ⟨_, OwnS.nil _ _, hb1, rfl⟩
  | some t =>
    obtain ⟨rfl, hc⟩ := treeOf_some h
    rw [show AddressesOf_o t.str = some (t.addrs ⟨#[]⟩) by simp [AddressesOf_o, h]]
    have st := t.str_size
    clear h
    have hz : (⟨#[]⟩ : ByteArray).size = 0 := rfl
    have hA := fun b w h => addressesFrom_any t b ⟨#[]⟩ w h (by omega) (by omega)
    clear hz
    go_enter Try.func9, Try.ntmps9
    go_wp2_with fail
    refine (read_yes t _ hc).mono ?_; rintro e w1 ⟨b1, hn1, hb1, rfl⟩
    go_wp2_with fail
    refine (hA b1 _ hn1).mono ?_; rintro e w2 ⟨g, cap, own, hb2, rfl⟩
    go_wp2_with fail
    go_ret2
    exact ⟨_, own.mono hb1.size, nx hb1 hb2, rfl⟩

end Go.Proofs.Yteflpaebckichab

/-! Count -/
namespace Go.Proofs.Yteflpaebckichab
open Go.RowKit

set_option maxHeartbeats 1000000 in
set_option maxRecDepth 100000 in
theorem count_any (s : ByteArray) (w : World) :
    Calls Try.prog 152 #[.string s, .string ⟨#[40]⟩] w fun e w' => e = .returned (.int .i64 (Lib.countByte s.data.toList 40 : Nat)) ∧ w = w' := by
  go_enter Try.func152, Try.ntmps152
  go_wp2
  rw [run_callFunc_extern Try.func164 (by kernel_rfl) (by kernel_rfl) (by kernel_rfl) (e := Extern.BytealgCount.count) (by kernel_rfl), Lib.run_countString]
  simp only [Result.andThen]
  rw [Oper.upon_value]
  go_wp2
  go_ret
  exact ⟨rfl, rfl⟩

theorem countCarets_any (t : Tr) (w : World) (_h : t.carets ≤ 1000) :
    Calls Try.prog 86 #[.string t.str] w (Gives (.int .i64 t.carets) w) := by
  have e : Hid (Lib.countByte t.str.data.toList 40 = t.carets) := by rw [show Hid _ = _ from rfl, Tr.str_list, ← text_count]; rfl
  go_enter Try.func86, Try.ntmps86
  go_wp2_with fail
  refine (count_any t.str _).mono ?_; rintro _ w1 ⟨rfl, rfl⟩
  rw [e.out]
  go_wp2_with fail
  go_ret
  exact ⟨rfl, Below.refl _ _⟩
end Go.Proofs.Yteflpaebckichab

/-! WCaretsOf -/
namespace Go.Proofs.Yteflpaebckichab
open Go.RowKit

/-- An answer of a number and a bool. -/
def ansI (o : Option Nat) : Value := .tuple #[.int .i64 (o.getD 0), .bool o.isSome]

theorem specCaretsOf_no (s : ByteArray) (w : World) (hs : s.size ≤ 9223372036854775806) (h : treeOf s = none) :
    Calls Try.prog 16 #[.string s] w (Gives (ansI none) w) := by
  have H := Lib.hid h
  clear h
  go_enter Try.func16, Try.ntmps16
  go_wp2_with fail
  refine (trIs_no s _ hs H.out).mono ?_; rintro e w1 ⟨rfl, rfl⟩
  go_wp2_with fail
  go_ret2
  exact ⟨rfl, Below.refl _ _⟩

set_option maxHeartbeats 400000 in
theorem specCaretsOf_yes (t : Tr) (w : World) (h : t.carets ≤ 8) :
    Calls Try.prog 16 #[.string t.str] w (Gives (ansI (some t.carets)) w) := by
  go_enter Try.func16, Try.ntmps16
  go_wp2_with fail
  refine (trIs_yes t _ h).mono ?_; rintro e w1 ⟨rfl, rfl⟩
  go_wp2_with fail
  refine (carets_str t _ (by omega)).mono ?_; rintro e w1 ⟨rfl, rfl⟩
  go_wp2_with fail
  go_ret2
  exact ⟨rfl, Below.refl _ _⟩

theorem implCaretsOf_no (s : ByteArray) (w : World) (hs : s.size ≤ 9223372036854775806) (h : treeOf s = none) :
    Calls Try.prog 15 #[.string s] w (Gives (ansI none) w) := by
  have H := Lib.hid h
  clear h
  go_enter Try.func15, Try.ntmps15
  go_wp2_with fail
  refine (implIsTree_no s _ hs H.out).mono ?_; rintro e w1 ⟨hb1, rfl⟩
  go_wp2_with fail
  go_ret2
  exact ⟨rfl, hb1⟩

set_option maxHeartbeats 400000 in
theorem implCaretsOf_yes (t : Tr) (w : World) (h : t.carets ≤ 8) :
    Calls Try.prog 15 #[.string t.str] w (Gives (ansI (some t.carets)) w) := by
  go_enter Try.func15, Try.ntmps15
  go_wp2_with fail
  refine (implIsTree_yes t _ h).mono ?_; rintro e w1 ⟨hb1, rfl⟩
  go_wp2_with fail
  refine (countCarets_any t _ (by omega)).mono ?_; rintro e w2 ⟨rfl, hb2⟩
  go_wp2_with fail
  go_ret2
  exact ⟨rfl, nx hb1 hb2⟩

def caretsO (a : ByteArray) : Option Nat :=
  match treeOf a with
  | some t => some t.carets
  | none => none

theorem specCaretsOf_any (a : ByteArray) (w : World) (ha : a.size ≤ 9223372036854775806) :
    Calls Try.prog 16 #[.string a] w (Gives (ansI (caretsO a)) w) := by
  cases h : treeOf a with
  | none =>
    rw [show caretsO a = none by simp [caretsO, h]]
    exact specCaretsOf_no a w ha h
  | some t =>
    obtain ⟨rfl, hc⟩ := treeOf_some h
    rw [show caretsO t.str = some t.carets by simp [caretsO, h]]
    exact specCaretsOf_yes t w hc

theorem implCaretsOf_any (a : ByteArray) (w : World) (ha : a.size ≤ 9223372036854775806) :
    Calls Try.prog 15 #[.string a] w (Gives (ansI (caretsO a)) w) := by
  cases h : treeOf a with
  | none =>
    rw [show caretsO a = none by simp [caretsO, h]]
    exact implCaretsOf_no a w ha h
  | some t =>
    obtain ⟨rfl, hc⟩ := treeOf_some h
    rw [show caretsO t.str = some t.carets by simp [caretsO, h]]
    exact implCaretsOf_yes t w hc

end Go.Proofs.Yteflpaebckichab

/-! Join -/
namespace Go.Proofs.Yteflpaebckichab
open Go.RowKit

set_option maxRecDepth 100000 in
set_option maxHeartbeats 2000000 in
theorem join_any (t : Tr) : ∀ (u : Tr) (b c : Nat) (w : World), NodeAt w t b → NodeAt w u c →
    Calls Try.prog 104 #[.pointer (some ⟨b, 0, none⟩), .pointer (some ⟨c, 0, none⟩)] w (GivesNode (t.join u) w) := by
  induction t with
  | lf =>
    intro u b c w h k
    have H := Lib.hid h
    have K := Lib.hid k
    clear h k
    go_enter Try.func104, Try.ntmps104
    go_wp2_with fail
    refine (isLeaf_any .lf b _ H.out).mono ?_; rintro e w1 ⟨rfl, rfl⟩
    simp only [Tr.isLf]
    go_wp2_with fail
    go_ret
    exact ⟨c, K.out, Below.refl _ _, rfl⟩
  | nd l r ihl ihr =>
    intro u b c w h k
    cases u with
    | lf =>
      have H := Lib.hid h
      have K := Lib.hid k
      clear h k ihl ihr
      go_enter Try.func104, Try.ntmps104
      go_wp2_with fail
      refine (isLeaf_any (.nd l r) b _ H.out).mono ?_; rintro e w1 ⟨rfl, rfl⟩
      simp only [Tr.isLf]
      go_wp2_with fail
      refine (isLeaf_any .lf c _ K.out).mono ?_; rintro e w1 ⟨rfl, rfl⟩
      simp only [Tr.isLf]
      go_wp2_with fail
      go_ret
      exact ⟨b, H.out, Below.refl _ _, rfl⟩
    | nd p q =>
      have H := Lib.hid h
      have K := Lib.hid k
      obtain ⟨bl, br, h, hl, hr⟩ := h
      obtain ⟨cl, cr, k, kl, kr⟩ := k
      have h1 := two_left h
      have h2 := two_right h
      have k1 := two_left k
      have k2 := two_right k
      clear h k
      go_enter Try.func104, Try.ntmps104
      go_wp2_with fail
      refine (isLeaf_any (.nd l r) b _ H.out).mono ?_; rintro e w1 ⟨rfl, rfl⟩
      simp only [Tr.isLf]
      go_wp2_with fail
      refine (isLeaf_any (.nd p q) c _ K.out).mono ?_; rintro e w1 ⟨rfl, rfl⟩
      simp only [Tr.isLf]
      go_wp2_with fail
      have hb0 := Below.refl w.heap.size w
      go_region_held3 (fun w' => w'.cell? ⟨b, 0, none⟩ = some (.pointer (some ⟨bl, 0, none⟩)) ∧ w'.cell? ⟨b, 1, none⟩ = some (.pointer (some ⟨br, 0, none⟩)) ∧ w'.cell? ⟨c, 0, none⟩ = some (.pointer (some ⟨cl, 0, none⟩)) ∧ w'.cell? ⟨c, 1, none⟩ = some (.pointer (some ⟨cr, 0, none⟩)))
          (first
            | exact ⟨h1, h2, k1, k2⟩
            | exact ⟨q1, q2, q3, q4⟩
            | exact ⟨s1, s2, s3, s4⟩
            | exact ⟨(a1 _).1, (a1 _).2, (a2 _).1, (a2 _).2⟩)
          (first
          | (go_at_call_of 104 (some (⟨bl, 0, none⟩ : Addr)); refine (ihl p bl cl _ ?_ ?_).mono ?_; exact hl.keep hb0.drew; exact kl.keep hb0.drew; rintro e w1 ⟨b1, hn1, hb1, rfl⟩; have hb1' := nx hb0.drew hb1; obtain ⟨q1, q2⟩ := below_two hb1' h1 h2; obtain ⟨q3, q4⟩ := below_two hb1' k1 k2)
          | (go_at_call_of 104 (some (⟨br, 0, none⟩ : Addr)); refine (ihr q br cr _ ?_ ?_).mono ?_; exact hr.keep hb1'; exact kr.keep hb1'; rintro e w2 ⟨b2, hn2, hb2, rfl⟩; have hb2' := nx hb1' hb2; obtain ⟨s1, s2⟩ := below_two hb2' h1 h2; obtain ⟨s3, s4⟩ := below_two hb2' k1 k2; have a1 := fun o => below_two (nxAlloc hb2' o) h1 h2; have a2 := fun o => below_two (nxAlloc hb2' o) k1 k2))
      all_goals (try go_wp2_with fail)
      all_goals go_ret
      all_goals exact ⟨_, node_new hn1 hb2 hn2, nxAlloc hb2' _, rfl⟩
set_option maxRecDepth 100000 in
set_option maxHeartbeats 2000000 in
theorem common_any (t : Tr) : ∀ (u : Tr) (b c : Nat) (w : World), NodeAt w t b → NodeAt w u c →
    Calls Try.prog 106 #[.pointer (some ⟨b, 0, none⟩), .pointer (some ⟨c, 0, none⟩)] w (GivesNode (t.com u) w) := by
  induction t with
  | lf =>
    intro u b c w h k
    have H := Lib.hid h
    have K := Lib.hid k
    clear h k
    go_enter Try.func106, Try.ntmps106
    go_wp2_with fail
    refine (isLeaf_any .lf b _ H.out).mono ?_; rintro e w1 ⟨rfl, rfl⟩
    simp only [Tr.isLf]
    go_wp2_with fail
    go_ret
    exact ⟨_, heap_alloc_at _ _, nxAlloc (Below.refl _ _) _, rfl⟩
  | nd l r ihl ihr =>
    intro u b c w h k
    cases u with
    | lf =>
      have H := Lib.hid h
      have K := Lib.hid k
      clear h k ihl ihr
      go_enter Try.func106, Try.ntmps106
      go_wp2_with fail
      refine (isLeaf_any (.nd l r) b _ H.out).mono ?_; rintro e w1 ⟨rfl, rfl⟩
      simp only [Tr.isLf]
      go_wp2_with fail
      refine (isLeaf_any .lf c _ K.out).mono ?_; rintro e w1 ⟨rfl, rfl⟩
      simp only [Tr.isLf]
      go_wp2_with fail
      go_ret
      exact ⟨_, heap_alloc_at _ _, nxAlloc (Below.refl _ _) _, rfl⟩
    | nd p q =>
      have H := Lib.hid h
      have K := Lib.hid k
      obtain ⟨bl, br, h, hl, hr⟩ := h
      obtain ⟨cl, cr, k, kl, kr⟩ := k
      have h1 := two_left h
      have h2 := two_right h
      have k1 := two_left k
      have k2 := two_right k
      clear h k
      go_enter Try.func106, Try.ntmps106
      go_wp2_with fail
      refine (isLeaf_any (.nd l r) b _ H.out).mono ?_; rintro e w1 ⟨rfl, rfl⟩
      simp only [Tr.isLf]
      go_wp2_with fail
      refine (isLeaf_any (.nd p q) c _ K.out).mono ?_; rintro e w1 ⟨rfl, rfl⟩
      simp only [Tr.isLf]
      go_wp2_with fail
      have hb0 := Below.refl w.heap.size w
      go_region_held3 (fun w' => w'.cell? ⟨b, 0, none⟩ = some (.pointer (some ⟨bl, 0, none⟩)) ∧ w'.cell? ⟨b, 1, none⟩ = some (.pointer (some ⟨br, 0, none⟩)) ∧ w'.cell? ⟨c, 0, none⟩ = some (.pointer (some ⟨cl, 0, none⟩)) ∧ w'.cell? ⟨c, 1, none⟩ = some (.pointer (some ⟨cr, 0, none⟩)))
          (first
            | exact ⟨h1, h2, k1, k2⟩
            | exact ⟨q1, q2, q3, q4⟩
            | exact ⟨s1, s2, s3, s4⟩
            | exact ⟨(a1 _).1, (a1 _).2, (a2 _).1, (a2 _).2⟩)
          (first
          | (go_at_call_of 106 (some (⟨bl, 0, none⟩ : Addr)); refine (ihl p bl cl _ ?_ ?_).mono ?_; exact hl.keep hb0.drew; exact kl.keep hb0.drew; rintro e w1 ⟨b1, hn1, hb1, rfl⟩; have hb1' := nx hb0.drew hb1; obtain ⟨q1, q2⟩ := below_two hb1' h1 h2; obtain ⟨q3, q4⟩ := below_two hb1' k1 k2)
          | (go_at_call_of 106 (some (⟨br, 0, none⟩ : Addr)); refine (ihr q br cr _ ?_ ?_).mono ?_; exact hr.keep hb1'; exact kr.keep hb1'; rintro e w2 ⟨b2, hn2, hb2, rfl⟩; have hb2' := nx hb1' hb2; obtain ⟨s1, s2⟩ := below_two hb2' h1 h2; obtain ⟨s3, s4⟩ := below_two hb2' k1 k2; have a1 := fun o => below_two (nxAlloc hb2' o) h1 h2; have a2 := fun o => below_two (nxAlloc hb2' o) k1 k2))
      all_goals (try go_wp2_with fail)
      all_goals go_ret
      all_goals exact ⟨_, node_new hn1 hb2 hn2, nxAlloc hb2' _, rfl⟩

set_option maxHeartbeats 1000000 in
theorem isPart_any (t : Tr) : ∀ (u : Tr) (b c : Nat) (w : World), NodeAt w t b → NodeAt w u c →
    Calls Try.prog 108 #[.pointer (some ⟨b, 0, none⟩), .pointer (some ⟨c, 0, none⟩)] w (Quietly (.bool (t.part u)) w) := by
  induction t with
  | lf =>
    intro u b c w h k
    have H := Lib.hid h
    have K := Lib.hid k
    clear h k
    go_enter Try.func108, Try.ntmps108
    go_wp2_with fail
    refine (isLeaf_any .lf b _ H.out).mono ?_; rintro e w1 ⟨rfl, rfl⟩
    simp only [Tr.isLf]
    go_wp2_with fail
    go_ret
    exact ⟨rfl, 0, rfl⟩
  | nd l r ihl ihr =>
    intro u b c w h k
    cases u with
    | lf =>
      have H := Lib.hid h
      have K := Lib.hid k
      clear h k ihl ihr
      go_enter Try.func108, Try.ntmps108
      go_wp2_with fail
      refine (isLeaf_any (.nd l r) b _ H.out).mono ?_; rintro e w1 ⟨rfl, rfl⟩
      simp only [Tr.isLf]
      go_wp2_with fail
      have L : ∀ n, Calls Try.prog 147 #[.pointer (some ⟨c, 0, none⟩)] (w.drewN n) (Quietly (.bool true) (w.drewN n)) := fun n => (isLeaf_any .lf c _ (K.out.drewN n)).mono fun e w' ⟨h1, h2⟩ => ⟨h1, 0, h2.symm⟩
      go_quiet ((go_at_call 147; exact Calls.quiet_of (L _)))
      go_wp2_with fail
      go_ret
      exact ⟨rfl, _, rfl⟩
    | nd p q =>
      have H := Lib.hid h
      have K := Lib.hid k
      obtain ⟨bl, br, h, hl, hr⟩ := h
      obtain ⟨cl, cr, k, kl, kr⟩ := k
      have h1 := two_left h
      have h2 := two_right h
      have k1 := two_left k
      have k2 := two_right k
      clear h k
      have L : ∀ n, Calls Try.prog 147 #[.pointer (some ⟨c, 0, none⟩)] (w.drewN n) (Quietly (.bool false) (w.drewN n)) := fun n => (isLeaf_any (.nd p q) c _ (K.out.drewN n)).mono fun e w' ⟨h1, h2⟩ => ⟨h1, 0, h2.symm⟩
      have HL : ∀ n, Calls Try.prog 108 #[.pointer (some ⟨bl, 0, none⟩), .pointer (some ⟨cl, 0, none⟩)] (w.drewN n) (Quietly (.bool (l.part p)) (w.drewN n)) := fun n => ihl p bl cl _ (hl.drewN n) (kl.drewN n)
      have HR : ∀ n, Calls Try.prog 108 #[.pointer (some ⟨br, 0, none⟩), .pointer (some ⟨cr, 0, none⟩)] (w.drewN n) (Quietly (.bool (r.part q)) (w.drewN n)) := fun n => ihr q br cr _ (hr.drewN n) (kr.drewN n)
      have HP : Hid ((Tr.nd l r).part (.nd p q) = (l.part p && r.part q)) := rfl
      cases hlp : l.part p with
      | false =>
        rw [hlp] at HP HL
        clear hlp
        go_enter Try.func108, Try.ntmps108
        go_wp2_with fail
        refine (isLeaf_any (.nd l r) b _ H.out).mono ?_; rintro e w1 ⟨rfl, rfl⟩
        simp only [Tr.isLf]
        go_wp2_with fail
        go_quiet ((first | (go_at_call 147; exact Calls.quiet_of (L _)) | (go_at_call_of 108 (some (⟨bl, 0, none⟩ : Addr)); exact Calls.quiet_of (HL _)) | (go_at_call_of 108 (some (⟨br, 0, none⟩ : Addr)); exact Calls.quiet_of (HR _))))
        go_wp2_with fail
        go_ret
        exact ⟨by rw [HP.out]; rfl, _, rfl⟩
      | true =>
        rw [hlp] at HP HL
        clear hlp
        go_enter Try.func108, Try.ntmps108
        go_wp2_with fail
        refine (isLeaf_any (.nd l r) b _ H.out).mono ?_; rintro e w1 ⟨rfl, rfl⟩
        simp only [Tr.isLf]
        go_wp2_with fail
        go_quiet ((first | (go_at_call 147; exact Calls.quiet_of (L _)) | (go_at_call_of 108 (some (⟨bl, 0, none⟩ : Addr)); exact Calls.quiet_of (HL _)) | (go_at_call_of 108 (some (⟨br, 0, none⟩ : Addr)); exact Calls.quiet_of (HR _))))
        go_wp2_with fail
        go_ret
        exact ⟨by rw [HP.out]; rfl, _, rfl⟩
end Go.Proofs.Yteflpaebckichab

/-! Two -/
namespace Go.Proofs.Yteflpaebckichab
open Go.RowKit

theorem specJoinTrees_no1 (s u : ByteArray) (w : World) (hs : s.size ≤ 9223372036854775806) (h : treeOf s = none) :
    Calls Try.prog 31 #[.string s, .string u] w (Gives (ansV none) w) := by
  have H := Lib.hid h
  clear h
  go_enter Try.func31, Try.ntmps31
  go_wp2_with fail
  refine (trIs_no s _ hs H.out).mono ?_; rintro e w1 ⟨rfl, rfl⟩
  go_wp2_with fail
  go_ret2
  exact ⟨rfl, Below.refl _ _⟩

theorem specJoinTrees_no2 (t : Tr) (s : ByteArray) (w : World) (k : t.carets ≤ 8) (hs : s.size ≤ 9223372036854775806) (h : treeOf s = none) :
    Calls Try.prog 31 #[.string t.str, .string s] w (Gives (ansV none) w) := by
  have H := Lib.hid h
  clear h
  go_enter Try.func31, Try.ntmps31
  go_wp2_with fail
  refine (trIs_yes t _ k).mono ?_; rintro e w1 ⟨rfl, rfl⟩
  go_wp2_with fail
  refine (trIs_no s _ hs H.out).mono ?_; rintro e w1 ⟨rfl, rfl⟩
  go_wp2_with fail
  go_ret2
  exact ⟨rfl, Below.refl _ _⟩

theorem specJoinTrees_yes (t u : Tr) (w : World) (h : t.carets ≤ 8) (k : u.carets ≤ 8) :
    Calls Try.prog 31 #[.string t.str, .string u.str] w (Gives (ansV (lim (t.join u))) w) := by
  have hj := join_carets t u
  go_enter Try.func31, Try.ntmps31
  go_wp2_with fail
  refine (trIs_yes t _ h).mono ?_; rintro e w1 ⟨rfl, rfl⟩
  go_wp2_with fail
  refine (trIs_yes u _ k).mono ?_; rintro e w1 ⟨rfl, rfl⟩
  go_wp2_with fail
  refine (trJoin_any t u _ (by omega) (by omega)).mono ?_; rintro e w2 ⟨rfl, hb2⟩
  go_wp2_with fail
  refine (carets_str (t.join u) _ (by omega)).mono ?_; rintro e w3 ⟨rfl, rfl⟩
  by_cases hl : ((t.join u).carets : Int) ≤ 8
  all_goals
    go_wp2_with fail
    go_ret2
  · exact ⟨by rw [lim, if_pos (by omega)]; rfl, hb2⟩
  · exact ⟨by rw [lim, if_neg (by omega)]; rfl, hb2⟩

theorem implJoinTrees_no1 (s u : ByteArray) (w : World) (hs : s.size ≤ 9223372036854775806) (h : treeOf s = none) :
    Calls Try.prog 30 #[.string s, .string u] w (Gives (ansV none) w) := by
  have H := Lib.hid h
  clear h
  go_enter Try.func30, Try.ntmps30
  go_wp2_with fail
  refine (trees_no1 s u _ hs H.out).mono ?_; rintro e w1 ⟨hb1, rfl⟩
  go_wp2_with fail
  go_ret2
  exact ⟨rfl, hb1⟩

theorem implJoinTrees_no2 (t : Tr) (s : ByteArray) (w : World) (k : t.carets ≤ 8) (hs : s.size ≤ 9223372036854775806) (h : treeOf s = none) :
    Calls Try.prog 30 #[.string t.str, .string s] w (Gives (ansV none) w) := by
  have H := Lib.hid h
  clear h
  go_enter Try.func30, Try.ntmps30
  go_wp2_with fail
  refine (trees_no2 t s _ k hs H.out).mono ?_; rintro e w1 ⟨hb1, rfl⟩
  go_wp2_with fail
  go_ret2
  exact ⟨rfl, hb1⟩

theorem implJoinTrees_yes (t u : Tr) (w : World) (h : t.carets ≤ 8) (k : u.carets ≤ 8) :
    Calls Try.prog 30 #[.string t.str, .string u.str] w (Gives (ansV (lim (t.join u))) w) := by
  have hj := join_carets t u
  go_enter Try.func30, Try.ntmps30
  go_wp2_with fail
  refine (trees_yes t u _ h k).mono ?_; rintro e w1 ⟨b1, b2, hn1, hn2, hb1, rfl⟩
  go_wp2_with fail
  refine (join_any t u b1 b2 _ hn1 hn2).mono ?_; rintro e w2 ⟨b3, hn3, hb3, rfl⟩
  go_wp2_with fail
  refine (text_any (t.join u) b3 _ hn3 (by omega)).mono ?_; rintro e w3 ⟨rfl, n, rfl⟩
  go_wp2_with fail
  refine (limit_any (t.join u) _).mono ?_; rintro e w3 ⟨rfl, rfl⟩
  unfold ansV
  go_wp2_with fail
  go_ret2
  exact ⟨rfl, drewB (nx hb1 hb3) _⟩

theorem specCommonTree_no1 (s u : ByteArray) (w : World) (hs : s.size ≤ 9223372036854775806) (h : treeOf s = none) :
    Calls Try.prog 33 #[.string s, .string u] w (Gives (ansV none) w) := by
  have H := Lib.hid h
  clear h
  go_enter Try.func33, Try.ntmps33
  go_wp2_with fail
  refine (trIs_no s _ hs H.out).mono ?_; rintro e w1 ⟨rfl, rfl⟩
  go_wp2_with fail
  go_ret2
  exact ⟨rfl, Below.refl _ _⟩

theorem specCommonTree_no2 (t : Tr) (s : ByteArray) (w : World) (k : t.carets ≤ 8) (hs : s.size ≤ 9223372036854775806) (h : treeOf s = none) :
    Calls Try.prog 33 #[.string t.str, .string s] w (Gives (ansV none) w) := by
  have H := Lib.hid h
  clear h
  go_enter Try.func33, Try.ntmps33
  go_wp2_with fail
  refine (trIs_yes t _ k).mono ?_; rintro e w1 ⟨rfl, rfl⟩
  go_wp2_with fail
  refine (trIs_no s _ hs H.out).mono ?_; rintro e w1 ⟨rfl, rfl⟩
  go_wp2_with fail
  go_ret2
  exact ⟨rfl, Below.refl _ _⟩

theorem specCommonTree_yes (t u : Tr) (w : World) (h : t.carets ≤ 8) (k : u.carets ≤ 8) :
    Calls Try.prog 33 #[.string t.str, .string u.str] w (Gives (ansV (some (t.com u))) w) := by
  go_enter Try.func33, Try.ntmps33
  go_wp2_with fail
  refine (trIs_yes t _ h).mono ?_; rintro e w1 ⟨rfl, rfl⟩
  go_wp2_with fail
  refine (trIs_yes u _ k).mono ?_; rintro e w1 ⟨rfl, rfl⟩
  go_wp2_with fail
  refine (trCommon_any t u _ (by omega) (by omega)).mono ?_; rintro e w2 ⟨rfl, hb2⟩
  go_wp2_with fail
  go_ret2
  exact ⟨rfl, hb2⟩

theorem implCommonTree_no1 (s u : ByteArray) (w : World) (hs : s.size ≤ 9223372036854775806) (h : treeOf s = none) :
    Calls Try.prog 32 #[.string s, .string u] w (Gives (ansV none) w) := by
  have H := Lib.hid h
  clear h
  go_enter Try.func32, Try.ntmps32
  go_wp2_with fail
  refine (trees_no1 s u _ hs H.out).mono ?_; rintro e w1 ⟨hb1, rfl⟩
  go_wp2_with fail
  go_ret2
  exact ⟨rfl, hb1⟩

theorem implCommonTree_no2 (t : Tr) (s : ByteArray) (w : World) (k : t.carets ≤ 8) (hs : s.size ≤ 9223372036854775806) (h : treeOf s = none) :
    Calls Try.prog 32 #[.string t.str, .string s] w (Gives (ansV none) w) := by
  have H := Lib.hid h
  clear h
  go_enter Try.func32, Try.ntmps32
  go_wp2_with fail
  refine (trees_no2 t s _ k hs H.out).mono ?_; rintro e w1 ⟨hb1, rfl⟩
  go_wp2_with fail
  go_ret2
  exact ⟨rfl, hb1⟩

theorem implCommonTree_yes (t u : Tr) (w : World) (h : t.carets ≤ 8) (k : u.carets ≤ 8) :
    Calls Try.prog 32 #[.string t.str, .string u.str] w (Gives (ansV (some (t.com u))) w) := by
  have hj := com_carets t u
  go_enter Try.func32, Try.ntmps32
  go_wp2_with fail
  refine (trees_yes t u _ h k).mono ?_; rintro e w1 ⟨b1, b2, hn1, hn2, hb1, rfl⟩
  go_wp2_with fail
  refine (common_any t u b1 b2 _ hn1 hn2).mono ?_; rintro e w2 ⟨b3, hn3, hb3, rfl⟩
  go_wp2_with fail
  refine (text_any (t.com u) b3 _ hn3 (by omega)).mono ?_; rintro e w3 ⟨rfl, n, rfl⟩
  go_wp2_with fail
  go_ret2
  exact ⟨rfl, drewB (nx hb1 hb3) _⟩

/-- An answer of two bools. -/
def ansB (o : Option Bool) : Value := .tuple #[.bool (o == some true), .bool o.isSome]
theorem com_str (t u : Tr) : ((t.com u).str.toList == t.str.toList) = t.part u := by
  rw [Bool.eq_iff_iff, ← com_eq_part]
  simp only [Lib.toList_data, Tr.str_list, beq_iff_eq]
  constructor
  · intro h
    exact (Tr.text_inj (r := []) (q := []) (by rw [h])).1
  · intro h; rw [h]

theorem specIsPartOf_no1 (s u : ByteArray) (w : World) (hs : s.size ≤ 9223372036854775806) (h : treeOf s = none) :
    Calls Try.prog 36 #[.string s, .string u] w (Gives (ansB none) w) := by
  have H := Lib.hid h
  clear h
  go_enter Try.func36, Try.ntmps36
  go_wp2_with fail
  refine (trIs_no s _ hs H.out).mono ?_; rintro e w1 ⟨rfl, rfl⟩
  go_wp2_with fail
  go_ret2
  exact ⟨rfl, Below.refl _ _⟩

theorem specIsPartOf_no2 (t : Tr) (s : ByteArray) (w : World) (k : t.carets ≤ 8) (hs : s.size ≤ 9223372036854775806) (h : treeOf s = none) :
    Calls Try.prog 36 #[.string t.str, .string s] w (Gives (ansB none) w) := by
  have H := Lib.hid h
  clear h
  go_enter Try.func36, Try.ntmps36
  go_wp2_with fail
  refine (trIs_yes t _ k).mono ?_; rintro e w1 ⟨rfl, rfl⟩
  go_wp2_with fail
  refine (trIs_no s _ hs H.out).mono ?_; rintro e w1 ⟨rfl, rfl⟩
  go_wp2_with fail
  go_ret2
  exact ⟨rfl, Below.refl _ _⟩

theorem specIsPartOf_yes (t u : Tr) (w : World) (h : t.carets ≤ 8) (k : u.carets ≤ 8) :
    Calls Try.prog 36 #[.string t.str, .string u.str] w (Gives (ansB (some (t.part u))) w) := by
  go_enter Try.func36, Try.ntmps36
  go_wp2_with fail
  refine (trIs_yes t _ h).mono ?_; rintro e w1 ⟨rfl, rfl⟩
  go_wp2_with fail
  refine (trIs_yes u _ k).mono ?_; rintro e w1 ⟨rfl, rfl⟩
  go_wp2_with fail
  refine (trCommon_any t u _ (by omega) (by omega)).mono ?_; rintro e w2 ⟨rfl, hb2⟩
  go_wp2_with fail
  go_ret2
  exact ⟨by unfold ansB; rw [← com_str]; simp, hb2⟩

theorem implIsPartOf_no1 (s u : ByteArray) (w : World) (hs : s.size ≤ 9223372036854775806) (h : treeOf s = none) :
    Calls Try.prog 34 #[.string s, .string u] w (Gives (ansB none) w) := by
  have H := Lib.hid h
  clear h
  go_enter Try.func34, Try.ntmps34
  go_wp2_with fail
  refine (trees_no1 s u _ hs H.out).mono ?_; rintro e w1 ⟨hb1, rfl⟩
  go_wp2_with fail
  go_ret2
  exact ⟨rfl, hb1⟩

theorem implIsPartOf_no2 (t : Tr) (s : ByteArray) (w : World) (k : t.carets ≤ 8) (hs : s.size ≤ 9223372036854775806) (h : treeOf s = none) :
    Calls Try.prog 34 #[.string t.str, .string s] w (Gives (ansB none) w) := by
  have H := Lib.hid h
  clear h
  go_enter Try.func34, Try.ntmps34
  go_wp2_with fail
  refine (trees_no2 t s _ k hs H.out).mono ?_; rintro e w1 ⟨hb1, rfl⟩
  go_wp2_with fail
  go_ret2
  exact ⟨rfl, hb1⟩

theorem implIsPartOf_yes (t u : Tr) (w : World) (h : t.carets ≤ 8) (k : u.carets ≤ 8) :
    Calls Try.prog 34 #[.string t.str, .string u.str] w (Gives (ansB (some (t.part u))) w) := by
  go_enter Try.func34, Try.ntmps34
  go_wp2_with fail
  refine (trees_yes t u _ h k).mono ?_; rintro e w1 ⟨b1, b2, hn1, hn2, hb1, rfl⟩
  go_wp2_with fail
  refine (isPart_any t u b1 b2 _ hn1 hn2).mono ?_; rintro e w3 ⟨rfl, n, rfl⟩
  go_wp2_with fail
  go_ret2
  exact ⟨by unfold ansB; simp, drewB hb1 _⟩

end Go.Proofs.Yteflpaebckichab

/-! WJoinTrees -/
namespace Go.Proofs.Yteflpaebckichab
open Go.RowKit

def joinO (a b : ByteArray) : Option Tr :=
  match treeOf a, treeOf b with
  | some t, some u => lim (t.join u)
  | _, _ => none

theorem specJoinTrees_any (a b : ByteArray) (w : World) (ha : a.size ≤ 9223372036854775806) (hb : b.size ≤ 9223372036854775806) :
    Calls Try.prog 31 #[.string a, .string b] w (Gives (ansV (joinO a b)) w) := by
  cases h : treeOf a with
  | none =>
    rw [show joinO a b = none by simp [joinO, h]]
    exact specJoinTrees_no1 a b w ha h
  | some t =>
    obtain ⟨rfl, hc⟩ := treeOf_some h
    cases k : treeOf b with
    | none =>
      rw [show joinO t.str b = none by simp [joinO, k]]
      exact specJoinTrees_no2 t b w hc hb k
    | some u =>
      obtain ⟨rfl, hd⟩ := treeOf_some k
      rw [show joinO t.str u.str = lim (t.join u) by simp [joinO, h, k]]
      exact specJoinTrees_yes t u w hc hd

theorem implJoinTrees_any (a b : ByteArray) (w : World) (ha : a.size ≤ 9223372036854775806) (hb : b.size ≤ 9223372036854775806) :
    Calls Try.prog 30 #[.string a, .string b] w (Gives (ansV (joinO a b)) w) := by
  cases h : treeOf a with
  | none =>
    rw [show joinO a b = none by simp [joinO, h]]
    exact implJoinTrees_no1 a b w ha h
  | some t =>
    obtain ⟨rfl, hc⟩ := treeOf_some h
    cases k : treeOf b with
    | none =>
      rw [show joinO t.str b = none by simp [joinO, k]]
      exact implJoinTrees_no2 t b w hc hb k
    | some u =>
      obtain ⟨rfl, hd⟩ := treeOf_some k
      rw [show joinO t.str u.str = lim (t.join u) by simp [joinO, h, k]]
      exact implJoinTrees_yes t u w hc hd

end Go.Proofs.Yteflpaebckichab

/-! WCommonTree -/
namespace Go.Proofs.Yteflpaebckichab
open Go.RowKit

def comO (a b : ByteArray) : Option Tr :=
  match treeOf a, treeOf b with
  | some t, some u => some (t.com u)
  | _, _ => none

theorem specCommonTree_any (a b : ByteArray) (w : World) (ha : a.size ≤ 9223372036854775806) (hb : b.size ≤ 9223372036854775806) :
    Calls Try.prog 33 #[.string a, .string b] w (Gives (ansV (comO a b)) w) := by
  cases h : treeOf a with
  | none =>
    rw [show comO a b = none by simp [comO, h]]
    exact specCommonTree_no1 a b w ha h
  | some t =>
    obtain ⟨rfl, hc⟩ := treeOf_some h
    cases k : treeOf b with
    | none =>
      rw [show comO t.str b = none by simp [comO, k]]
      exact specCommonTree_no2 t b w hc hb k
    | some u =>
      obtain ⟨rfl, hd⟩ := treeOf_some k
      rw [show comO t.str u.str = some (t.com u) by simp [comO, h, k]]
      exact specCommonTree_yes t u w hc hd

theorem implCommonTree_any (a b : ByteArray) (w : World) (ha : a.size ≤ 9223372036854775806) (hb : b.size ≤ 9223372036854775806) :
    Calls Try.prog 32 #[.string a, .string b] w (Gives (ansV (comO a b)) w) := by
  cases h : treeOf a with
  | none =>
    rw [show comO a b = none by simp [comO, h]]
    exact implCommonTree_no1 a b w ha h
  | some t =>
    obtain ⟨rfl, hc⟩ := treeOf_some h
    cases k : treeOf b with
    | none =>
      rw [show comO t.str b = none by simp [comO, k]]
      exact implCommonTree_no2 t b w hc hb k
    | some u =>
      obtain ⟨rfl, hd⟩ := treeOf_some k
      rw [show comO t.str u.str = some (t.com u) by simp [comO, h, k]]
      exact implCommonTree_yes t u w hc hd

end Go.Proofs.Yteflpaebckichab

/-! WIsPartOf -/
namespace Go.Proofs.Yteflpaebckichab
open Go.RowKit

def partO (a b : ByteArray) : Option Bool :=
  match treeOf a, treeOf b with
  | some t, some u => some (t.part u)
  | _, _ => none

theorem specIsPartOf_any (a b : ByteArray) (w : World) (ha : a.size ≤ 9223372036854775806) (hb : b.size ≤ 9223372036854775806) :
    Calls Try.prog 36 #[.string a, .string b] w (Gives (ansB (partO a b)) w) := by
  cases h : treeOf a with
  | none =>
    rw [show partO a b = none by simp [partO, h]]
    exact specIsPartOf_no1 a b w ha h
  | some t =>
    obtain ⟨rfl, hc⟩ := treeOf_some h
    cases k : treeOf b with
    | none =>
      rw [show partO t.str b = none by simp [partO, k]]
      exact specIsPartOf_no2 t b w hc hb k
    | some u =>
      obtain ⟨rfl, hd⟩ := treeOf_some k
      rw [show partO t.str u.str = some (t.part u) by simp [partO, h, k]]
      exact specIsPartOf_yes t u w hc hd

theorem implIsPartOf_any (a b : ByteArray) (w : World) (ha : a.size ≤ 9223372036854775806) (hb : b.size ≤ 9223372036854775806) :
    Calls Try.prog 34 #[.string a, .string b] w (Gives (ansB (partO a b)) w) := by
  cases h : treeOf a with
  | none =>
    rw [show partO a b = none by simp [partO, h]]
    exact implIsPartOf_no1 a b w ha h
  | some t =>
    obtain ⟨rfl, hc⟩ := treeOf_some h
    cases k : treeOf b with
    | none =>
      rw [show partO t.str b = none by simp [partO, k]]
      exact implIsPartOf_no2 t b w hc hb k
    | some u =>
      obtain ⟨rfl, hd⟩ := treeOf_some k
      rw [show partO t.str u.str = some (t.part u) by simp [partO, h, k]]
      exact implIsPartOf_yes t u w hc hd

end Go.Proofs.Yteflpaebckichab

/-! At -/
namespace Go.Proofs.Yteflpaebckichab
open Go.RowKit

theorem side0 (b : Nat) (x : Int) (w : World) (h : (x == 48) = true) :
    Calls Try.prog 155 #[.pointer (some ⟨b, 0, none⟩), .int .u8 x] w fun e w' => e = .returned (.func (Fn.func 166) #[.pointer (some ⟨b, 0, none⟩)] #[]) ∧ w = w' := by
  go_enter Try.func155, Try.ntmps155
  go_wp2_with fail
  go_ret
  exact ⟨rfl, rfl⟩

theorem side1 (b : Nat) (x : Int) (w : World) (h0 : (x == 48) = false) (h : (x == 49) = true) :
    Calls Try.prog 155 #[.pointer (some ⟨b, 0, none⟩), .int .u8 x] w fun e w' => e = .returned (.func (Fn.func 167) #[.pointer (some ⟨b, 0, none⟩)] #[]) ∧ w = w' := by
  go_enter Try.func155, Try.ntmps155
  go_wp2_with fail
  go_ret
  exact ⟨rfl, rfl⟩

theorem sideN (b : Nat) (x : Int) (w : World) (h0 : (x == 48) = false) (h : (x == 49) = false) :
    Calls Try.prog 155 #[.pointer (some ⟨b, 0, none⟩), .int .u8 x] w fun e w' => e = .returned Value.nilFunc ∧ w = w' := by
  go_enter Try.func155, Try.ntmps155
  go_wp2_with fail
  go_ret
  exact ⟨rfl, rfl⟩

theorem eqFn (f b : Nat) (w : World) : (binOp .eql 86 (.func (.func f) #[.pointer (some ⟨b, 0, none⟩)] #[]) .nilFunc).run Try.prog w = .ok (.bool false) w := by kernel_rfl
theorem eqNil (w : World) : (binOp .eql 86 .nilFunc .nilFunc).run Try.prog w = .ok (.bool true) w := by kernel_rfl

theorem leftSide_any (b : Nat) (v : Value) (w : World) (h : w.cell? ⟨b, 0, none⟩ = some v) :
    Calls Try.prog 166 #[.pointer (some ⟨b, 0, none⟩)] w fun e w' => e = .returned v ∧ w = w' := by
  go_enter Try.func166, Try.ntmps166
  go_wp2_with fail
  go_ret
  exact ⟨rfl, rfl⟩

theorem rightSide_any (b : Nat) (v : Value) (w : World) (h : w.cell? ⟨b, 1, none⟩ = some v) :
    Calls Try.prog 167 #[.pointer (some ⟨b, 0, none⟩)] w fun e w' => e = .returned v ∧ w = w' := by
  go_enter Try.func167, Try.ntmps167
  go_wp2_with fail
  go_ret
  exact ⟨rfl, rfl⟩

def AtPost (o : Option Tr) (w : World) (e : Ending) (w' : World) : Prop :=
  match o with
  | some u => ∃ b, NodeAt w u b ∧ e = .returned (.pointer (some ⟨b, 0, none⟩)) ∧ w = w'
  | none => e = .returned (.pointer none) ∧ w = w'

set_option maxRecDepth 100000 in
set_option maxHeartbeats 1000000 in
theorem at_any (t : Tr) (b : Nat) (s : ByteArray) (w : World) (h : NodeAt w t b) (hs : s.size ≤ 9223372036854775806) :
    Calls Try.prog 110 #[.pointer (some ⟨b, 0, none⟩), .string s] w (AtPost (t.sub s.data.toList) w) := by
  have H := Lib.hid h
  clear h
  go_enter Try.func110, Try.ntmps110
  have ef := eqFn
  have en := eqNil
  go_wp2_with fail
  go_loop [0, 9] (fun n i => ∃ (k : Nat) (u : Tr) (c : Nat), k ≤ s.size ∧ i = .int .i64 k ∧ n = .pointer (some ⟨c, 0, none⟩) ∧ Hid (NodeAt w u c) ∧ Hid (t.sub s.data.toList = u.sub (s.data.toList.drop k))) (fun _ i => s.size - (intOf i).toNat)
  case atStart => exact ⟨0, t, b, Nat.zero_le _, rfl, rfl, H, rfl⟩
  case round =>
    obtain ⟨k, u, c, hk, rfl, rfl, hn, he⟩ := hrel
    by_cases hlt : k < s.size
    · obtain ⟨x, r, hd, hb, hr⟩ := drop_of_byteAt hlt
      have hx : ((s[k]'hlt).toNat : Int) = (x.toNat : Int) := by rw [← hb]; exact (byteAt_eq s k hlt).symm
      have HD := Lib.hid hd
      have HR := Lib.hid hr
      have HX := Lib.hid hx
      clear hd hb hr hx
      cases u with
      | lf =>
        have hnone : Hid (t.sub s.data.toList = none) := by
          have := he.out
          rw [HD.out] at this
          exact this
        have hw : AtPost (t.sub s.data.toList) w (.returned (.pointer none)) w := by rw [hnone.out]; exact ⟨rfl, rfl⟩
        have HW := Lib.hid hw
        clear hw he
        by_cases h48 : x = 48
        · have h0 : Hid (((((s[k]'hlt).toNat : Nat) : Int) == 48) = true) := by show (_ == _) = true; rw [HX.out, h48]; rfl
          go_wp2_with fail
          refine (side0 c _ _ h0.out).mono ?_; rintro e w1 ⟨rfl, rfl⟩
          go_wp2_with fail
          refine (isLeaf_any _ c _ hn.out).mono ?_; rintro e w1 ⟨rfl, rfl⟩
          simp only [Tr.isLf]
          go_wp2_with fail
          go_ret
          exact HW.out
        · have h0 : Hid (((((s[k]'hlt).toNat : Nat) : Int) == 48) = false) := by
            show (_ == _) = false; rw [HX.out]; simp; exact fun e => h48 (u8_eq (n := 48) (by omega) e)
          by_cases h49 : x = 49
          · have h1 : Hid (((((s[k]'hlt).toNat : Nat) : Int) == 49) = true) := by show (_ == _) = true; rw [HX.out, h49]; rfl
            go_wp2_with fail
            refine (side1 c _ _ h0.out h1.out).mono ?_; rintro e w1 ⟨rfl, rfl⟩
            go_wp2_with fail
            refine (isLeaf_any _ c _ hn.out).mono ?_; rintro e w1 ⟨rfl, rfl⟩
            simp only [Tr.isLf]
            go_wp2_with fail
            go_ret
            exact HW.out
          · have h1 : Hid (((((s[k]'hlt).toNat : Nat) : Int) == 49) = false) := by
              show (_ == _) = false; rw [HX.out]; simp; exact fun e => h49 (u8_eq (n := 49) (by omega) e)
            go_wp2_with fail
            refine (sideN c _ _ h0.out h1.out).mono ?_; rintro e w1 ⟨rfl, rfl⟩
            go_wp2_with fail
            go_ret
            exact HW.out
      | nd l rr =>
        obtain ⟨bl, br, hn1, hl, hrr⟩ := hn.out
        have c1 := two_left hn1
        have c2 := two_right hn1
        have HL := Lib.hid hl
        have HRR := Lib.hid hrr
        clear hn1 hl hrr
        by_cases h48 : x = 48
        · have h0 : Hid (((((s[k]'hlt).toNat : Nat) : Int) == 48) = true) := by show (_ == _) = true; rw [HX.out, h48]; rfl
          have hnext : Hid (t.sub s.data.toList = l.sub (s.data.toList.drop (k + 1))) := by
            have := he.out
            rw [HD.out, Tr.sub, if_pos h48] at this
            rw [HR.out]; exact this
          go_wp2_with fail
          refine (side0 c _ _ h0.out).mono ?_; rintro e w1 ⟨rfl, rfl⟩
          go_wp2_with fail
          refine (isLeaf_any _ c _ hn.out).mono ?_; rintro e w1 ⟨rfl, rfl⟩
          simp only [Tr.isLf]
          go_wp2_with fail
          refine (leftSide_any c _ _ c1).mono ?_; rintro e w1 ⟨rfl, rfl⟩
          go_wp2_with fail
          go_round
          case rel => exact ⟨k + 1, l, bl, by omega, by go_num, rfl, HL, hnext⟩
          case measure => simp [intOf]; omega
        · have h0 : Hid (((((s[k]'hlt).toNat : Nat) : Int) == 48) = false) := by
            show (_ == _) = false; rw [HX.out]; simp; exact fun e => h48 (u8_eq (n := 48) (by omega) e)
          by_cases h49 : x = 49
          · have h1 : Hid (((((s[k]'hlt).toNat : Nat) : Int) == 49) = true) := by show (_ == _) = true; rw [HX.out, h49]; rfl
            have hnext : Hid (t.sub s.data.toList = rr.sub (s.data.toList.drop (k + 1))) := by
              have := he.out
              rw [HD.out, Tr.sub, if_neg h48, if_pos h49] at this
              rw [HR.out]; exact this
            go_wp2_with fail
            refine (side1 c _ _ h0.out h1.out).mono ?_; rintro e w1 ⟨rfl, rfl⟩
            go_wp2_with fail
            refine (isLeaf_any _ c _ hn.out).mono ?_; rintro e w1 ⟨rfl, rfl⟩
            simp only [Tr.isLf]
            go_wp2_with fail
            refine (rightSide_any c _ _ c2).mono ?_; rintro e w1 ⟨rfl, rfl⟩
            go_wp2_with fail
            go_round
            case rel => exact ⟨k + 1, rr, br, by omega, by go_num, rfl, HRR, hnext⟩
            case measure => simp [intOf]; omega
          · have h1 : Hid (((((s[k]'hlt).toNat : Nat) : Int) == 49) = false) := by
              show (_ == _) = false; rw [HX.out]; simp; exact fun e => h49 (u8_eq (n := 49) (by omega) e)
            have hnone : t.sub s.data.toList = none := by
              have := he.out
              rw [HD.out, Tr.sub, if_neg h48, if_neg h49] at this
              exact this
            have hw : AtPost (t.sub s.data.toList) w (.returned (.pointer none)) w := by rw [hnone]; exact ⟨rfl, rfl⟩
            have HW := Lib.hid hw
            clear hw he hnone
            go_wp2_with fail
            refine (sideN c _ _ h0.out h1.out).mono ?_; rintro e w1 ⟨rfl, rfl⟩
            go_wp2_with fail
            go_ret
            exact HW.out
    · obtain rfl : k = s.size := by omega
      have hw : AtPost (t.sub s.data.toList) w (.returned (.pointer (some ⟨c, 0, none⟩))) w := by
        have := he.out
        rw [List.drop_of_length_le (by rw [Lib.size_eq]; exact Nat.le_refl _)] at this
        rw [this]
        cases u <;> exact ⟨c, hn.out, rfl, rfl⟩
      have HW := Lib.hid hw
      clear hw he
      go_wp2_with fail
      go_ret
      exact HW.out
end Go.Proofs.Yteflpaebckichab
