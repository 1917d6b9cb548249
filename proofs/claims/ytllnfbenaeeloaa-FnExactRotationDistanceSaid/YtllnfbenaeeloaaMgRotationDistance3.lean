/- FnExactRotationDistance: for every input the law returns true and leaves its arguments as they were. No conditions. -/
import Derived.Test.YtllnfbenaeeloaaMgRotationDistance2
import Derived.Deep.RegionHeld3
import Derived.Maps.AppendAt
import Derived.ProofKit
import Derived.OpenShut
import Derived.ShutString
import Derived.ChangeOld
import Derived.Below
/-! TailS -/
namespace Go.Proofs.Ytllnfbenaeeloaa
open Go.RowKit

theorem CellsS.len {base : Nat} {w : World} {v : Value} {ss : List ByteArray} (h : CellsS base w v ss) : (ss.length : Int) ≤ 9223372036854775807 := by
  rcases h with ⟨_, rfl⟩ | ⟨g, cap, _, _, _, h1, h2, _⟩
  · simp
  · unfold maxLen at h2; omega

/-- The marks from k on: n texts. -/
def marksS (k n : Nat) : List ByteArray := (List.range n).map fun i => markT (k + i)
theorem marksS_length (k n : Nat) : (marksS k n).length = n := by simp [marksS]
theorem marksS_getD (k : Nat) {n i : Nat} (h : i < n) : (marksS k n).getD i ⟨#[]⟩ = markT (k + i) := by simp [marksS, h]

theorem CellsS.keep {base : Nat} {w w' : World} {v : Value} {ss : List ByteArray} (h : CellsS base w v ss) (hb : Below w.heap.size w w') : CellsS base w' v ss := by
  rcases h with h | ⟨g, cap, h1, h2, h3, h4, h5, h6, h7⟩
  · exact .inl h
  · exact .inr ⟨g, cap, h1, h2, Nat.lt_of_lt_of_le h3 hb.size, h4, h5, fun i hi => (hb.cell (p := ⟨g, i, none⟩) h3).trans (h6 i hi), fun i => (hb.frozen (p := ⟨g, i, none⟩) h3).trans (h7 i)⟩

theorem marksS_set (k : Nat) (xs : List ByteArray) (j : Nat) (h : j < xs.length) : (marksS k j ++ xs.drop j).set j (markT (k + j)) = marksS k (j + 1) ++ xs.drop (j + 1) := by
  have hm := marksS_length k j
  have e1 : marksS k (j + 1) = marksS k j ++ [markT (k + j)] := by simp [marksS, List.range_succ]
  rw [List.set_append_right _ _ (by omega), hm, Nat.sub_self, e1, List.append_assoc]
  congr 1
  rw [List.drop_eq_getElem_cons h]
  rfl

theorem OwnS.set {base : Nat} {w : World} {g cap : Nat} {xs : List ByteArray} {n : Nat} (hn : xs.length = n) (h : OwnS base w (.slice (some ⟨g, 0, none⟩) n cap) xs) (j : Nat) (m : ByteArray) :
    OwnS base (w.setCell ⟨g, j, none⟩ (.string m)) (.slice (some ⟨g, 0, none⟩) n cap) (xs.set j m) := by
  unfold OwnS at *
  subst hn
  rw [List.length_set, List.map_set]
  exact (World.ownsRow.stored h j _).1

/-- A call that hands back a number, and leaves the slice v with other texts. -/
def MarkedS (base : Nat) (r : Int) (v : Value) (xs : List ByteArray) (w : World) (e : Ending) (w' : World) : Prop := e = .returned (.int .i64 r) ∧ OwnS base w' v xs ∧ Below base w w'

end Go.Proofs.Ytllnfbenaeeloaa

/-! Ch7 -/
namespace Go.Proofs.Ytllnfbenaeeloaa
open Go.RowKit

/-- Two trees with as many carets. -/
def twoO (a b : ByteArray) : Option (Tr × Tr) :=
  match treeOf a, treeOf b with
  | some t, some u => if t.carets = u.carets then some (t, u) else none
  | _, _ => none
theorem twoO_some {a b : ByteArray} {p : Tr × Tr} (h : twoO a b = some p) : a = p.1.str ∧ b = p.2.str ∧ p.1.carets ≤ 8 ∧ p.2.carets ≤ 8 ∧ p.1.carets = p.2.carets := by
  unfold twoO at h
  split at h
  · next t u ht hu =>
    split at h
    · next hc => injection h with h; subst h; exact ⟨(treeOf_some ht).1, (treeOf_some hu).1, (treeOf_some ht).2, (treeOf_some hu).2, hc⟩
    · simp at h
  · simp at h
theorem twoO_pair (a b : ByteArray) : (twoO a b).isSome = (pairOf a b).isSome := by
  unfold twoO
  cases h : treeOf a with
  | none => simp [pairOf, h]
  | some t =>
    cases k : treeOf b with
    | none => simp [pairOf, h, k]
    | some u =>
      rw [pairOf_isSome a b t u h k]
      simp only
      by_cases hc : t.carets = u.carets
      · simp [hc]
      · rw [if_neg hc]; symm; simp; omega

theorem brBoth_any (a b : ByteArray) (w : World) (ha : a.size ≤ 9223372036854775806) (hb : b.size ≤ 9223372036854775806) :
    Calls Try.prog 36 #[.string a, .string b] w (Gives (.bool (twoO a b).isSome) w) := by
  rw [twoO_pair]
  have hg := fun w => prGood_any a b w ha hb
  generalize (pairOf a b).isSome = ok at *
  go_enter Try.func36, Try.ntmps36
  go_wp2_with fail
  refine (hg _).mono ?_; rintro e w1 ⟨rfl, hb1⟩
  go_wp2_with fail
  go_ret
  exact ⟨rfl, hb1⟩

theorem readTwo_no (a b : ByteArray) (w : World) (ha : a.size ≤ 9223372036854775806) (hb : b.size ≤ 9223372036854775806) (h : twoO a b = none) :
    Calls Try.prog 40 #[.string a, .string b] w (TreesNo w) := by
  cases h1 : treeOf a with
  | none =>
    have H := Lib.hid h1
    clear h h1
    go_enter Try.func40, Try.ntmps40
    go_wp2_with fail
    refine (trees_no1 a b _ ha H.out).mono ?_; rintro e w1 ⟨hb1, rfl⟩
    go_wp2_with fail
    go_ret3
    exact ⟨hb1, rfl⟩
  | some t =>
    obtain ⟨rfl, hc⟩ := treeOf_some h1
    cases h2 : treeOf b with
    | none =>
      have H := Lib.hid h2
      clear h h1 h2
      go_enter Try.func40, Try.ntmps40
      go_wp2_with fail
      refine (trees_no2 t b _ hc hb H.out).mono ?_; rintro e w1 ⟨hb1, rfl⟩
      go_wp2_with fail
      go_ret3
      exact ⟨hb1, rfl⟩
    | some u =>
      obtain ⟨rfl, hd⟩ := treeOf_some h2
      have hne : ¬ t.carets = u.carets := by
        unfold twoO at h
        rw [h1, h2] at h
        simp only at h
        intro e
        rw [if_pos e] at h
        cases h
      have hne2 : (((t.carets : Nat) : Int) != (u.carets : Nat)) = true := by simp; omega
      have C := fun w => countCarets_any t w (by omega)
      have D := fun w => countCarets_any u w (by omega)
      clear h h1 h2 hne
      have HT := Lib.hid (fun w => trees_yes t u w hc hd)
      generalize t.carets = m at *
      generalize u.carets = n at *
      go_enter Try.func40, Try.ntmps40
      go_wp2_with fail
      refine (HT.out _).mono ?_; rintro e w1 ⟨b1, c1, _, _, hb1, rfl⟩
      go_wp2_with fail
      refine (C _).mono ?_; rintro e w2 ⟨rfl, hb2⟩
      go_wp2_with fail
      refine (D _).mono ?_; rintro e w3 ⟨rfl, hb3⟩
      go_wp2_with fail
      go_ret3
      exact ⟨nx (nx hb1 hb2) hb3, rfl⟩

theorem readTwo_yes (t u : Tr) (w : World) (hc : t.carets ≤ 8) (hd : u.carets ≤ 8) (he : t.carets = u.carets) :
    Calls Try.prog 40 #[.string t.str, .string u.str] w (TreesOk t u w) := by
  have hne2 : (((t.carets : Nat) : Int) != (u.carets : Nat)) = false := by simp; omega
  have C := fun w => countCarets_any t w (by omega)
  have D := fun w => countCarets_any u w (by omega)
  have HT := Lib.hid (fun w => trees_yes t u w hc hd)
  clear he
  generalize t.carets = m at *
  generalize u.carets = n at *
  go_enter Try.func40, Try.ntmps40
  go_wp2_with fail
  refine (HT.out _).mono ?_; rintro e w1 ⟨b1, c1, hn1, hn2, hb1, rfl⟩
  have HN1 := Lib.hid hn1
  have HN2 := Lib.hid hn2
  clear hn1 hn2
  go_wp2_with fail
  refine (C _).mono ?_; rintro e w2 ⟨rfl, hb2⟩
  go_wp2_with fail
  refine (D _).mono ?_; rintro e w3 ⟨rfl, hb3⟩
  go_wp2_with fail
  go_ret3
  exact ⟨b1, c1, HN1.out.keep (nx hb2 hb3), HN2.out.keep (nx hb2 hb3), nx (nx hb1 hb2) hb3, rfl⟩
end Go.Proofs.Ytllnfbenaeeloaa

/-! Di3 -/
namespace Go.Proofs.Ytllnfbenaeeloaa
open Go.RowKit

/-- A slice of the texts of trees can be read. -/
def ReadT (w : World) (v : Value) (us : List Tr) : Prop :=
  ∃ oa cap, v = .slice oa us.length cap ∧ us.length ≤ 9223372036854775807 ∧ ∀ j, j < us.length → ∃ g, oa = some ⟨g, 0, none⟩ ∧ g < w.heap.size ∧ w.cell? ⟨g, j, none⟩ = some (.string (us.getD j .lf).str)
theorem OwnS.readT {base : Nat} {w : World} {v : Value} {us : List Tr} (h : OwnS base w v (us.map Tr.str)) : ReadT w v us := by
  rcases h.cells with ⟨h1, h0⟩ | ⟨g, cap, rfl, hgb, hg, q1, q2, hc, _⟩
  · have h9 : us = [] := by simpa using h0
    subst h9
    exact ⟨none, 0, h1, by simp, fun j hj => by simp at hj⟩
  · rw [List.length_map] at q1 hc
    unfold maxLen at q2
    refine ⟨_, cap, by rw [List.length_map], by omega, fun j hj => ⟨g, rfl, hg, ?_⟩⟩
    rw [hc j hj]
    simp [List.getD_eq_getElem?_getD, hj]
theorem str_beq {t u : Tr} : (t.str.toList == u.str.toList) = true ↔ t = u := by
  simp only [beq_iff_eq, Lib.toList_data, Tr.str_list]
  exact ⟨fun h => (Tr.text_inj (r := []) (q := []) (by rw [h])).1, fun h => by rw [h]⟩
theorem str_bne {t u : Tr} (h : t ≠ u) : (t.str.toList == u.str.toList) = false := by
  cases k : (t.str.toList == u.str.toList) with
  | false => rfl
  | true => exact absurd (str_beq.1 k) h
theorem brHas_any (us : List Tr) (t : Tr) (v : Value) (w : World) (h : ReadT w v us) :
    Calls Try.prog 38 #[v, .string t.str] w fun e w' => ∃ c, e = .returned (.bool c) ∧ (c = true ↔ t ∈ us) ∧ w = w' := by
  obtain ⟨oa, cap, rfl, h63, hc⟩ := h
  have HC := Lib.hid hc
  obtain ⟨n, hn⟩ : ∃ n, n = us.length := ⟨_, rfl⟩
  rw [← hn] at h63 ⊢
  have HN := Lib.hid hn
  clear hc hn
  go_enter Try.func38, Try.ntmps38
  go_wp2_with fail
  go_loopw [6, 9] (fun _ c wr => ∃ j : Nat, j ≤ n ∧ c = .int .i64 j ∧ wr = w ∧ Hid (t ∉ us.take j)) (fun _ c _ => n - (intOf c).toNat)
  case atStart => exact ⟨0, Nat.zero_le _, rfl, rfl, by show ¬ _; simp⟩
  case round =>
    obtain ⟨j, hj, rfl, rfl, hno⟩ := hrel
    by_cases hjn : j < n
    · have hjn' : (j : Int) < (n : Int) := by omega
      obtain ⟨g, rfl, _, c1⟩ := HC.out j (by rw [← HN.out]; exact hjn)
      have hju : j < us.length := by rw [← HN.out]; exact hjn
      have hmem : us.getD j .lf ∈ us := by rw [List.getD_eq_getElem?_getD, List.getElem?_eq_getElem hju]; exact List.getElem_mem hju
      have htk : us.take (j + 1) = us.take j ++ [us.getD j .lf] := by rw [List.take_succ_eq_append_getElem hju]; simp [hju]
      obtain ⟨u, hu⟩ : ∃ u, u = us.getD j .lf := ⟨_, rfl⟩
      rw [← hu] at c1 hmem htk
      have HTK := Lib.hid htk
      clear hu htk hju
      by_cases e : u = t
      · have hq := str_beq.2 e
        have hin : t ∈ us := e ▸ hmem
        have HIN := Lib.hid hin
        clear hin hmem e
        go_wp2_with fail
        go_ret
        exact ⟨true, rfl, ⟨fun _ => HIN.out, fun _ => rfl⟩, rfl⟩
      · have hq := str_bne e
        have hno2 : t ∉ us.take (j + 1) := by rw [HTK.out, List.mem_append]; rintro (h | h); exact hno.out h; simp at h; exact e h.symm
        have HNO := Lib.hid hno2
        clear hno2 hmem e
        go_wp2_with fail
        go_roundw
        case rel => exact ⟨j + 1, by omega, by go_num, trivial, HNO⟩
        case measure => simp [intOf]; omega
    · obtain rfl : j = n := by omega
      have hin : t ∉ us := by have := hno.out; rwa [HN.out, List.take_length] at this
      have HIN := Lib.hid hin
      clear hin
      go_wp2_with fail
      go_ret
      exact ⟨false, rfl, ⟨fun h => (by cases h), fun h => absurd h HIN.out⟩, rfl⟩
noncomputable def distO (a b : ByteArray) : Option Nat := (twoO a b).bind fun p => if p.1.carets ≤ 5 then some (wkD p.1 p.2) else none
end Go.Proofs.Ytllnfbenaeeloaa

/-! In0 -/
namespace Go.Proofs.Ytllnfbenaeeloaa
open Go.RowKit

theorem l1In_yes (n lo hi : Int) (w : World) (h1 : lo ≤ n) (h2 : n ≤ hi) :
    Calls Try.prog 29 #[.int .i64 n, .int .i64 lo, .int .i64 hi] w fun e w' => e = .returned (.bool true) ∧ w = w' := by
  go_enter Try.func29, Try.ntmps29
  go_wp2_with fail
  go_ret
  exact ⟨rfl, rfl⟩
theorem l1In_no (n lo hi : Int) (w : World) (h : n < lo ∨ hi < n) :
    Calls Try.prog 29 #[.int .i64 n, .int .i64 lo, .int .i64 hi] w fun e w' => e = .returned (.bool false) ∧ w = w' := by
  by_cases h1 : n < lo
  · clear h
    go_enter Try.func29, Try.ntmps29
    go_wp2_with fail
    go_ret
    exact ⟨rfl, rfl⟩
  · have h1' : lo ≤ n := by omega
    have h2 : hi < n := by omega
    clear h h1
    go_enter Try.func29, Try.ntmps29
    go_wp2_with fail
    go_ret
    exact ⟨ret_bool (by simp; omega), rfl⟩

end Go.Proofs.Ytllnfbenaeeloaa

/-! In -/
namespace Go.Proofs.Ytllnfbenaeeloaa
open Go.RowKit

/-- An answer of a text and a bool. -/
def ans2 (o : Option ByteArray) : Value := .tuple #[.string (o.getD ⟨#[]⟩), .bool o.isSome]

end Go.Proofs.Ytllnfbenaeeloaa

/-! Comb -/
namespace Go.Proofs.Ytllnfbenaeeloaa
open Go.RowKit

def rcomb : Nat → Tr
  | 0 => .lf
  | n + 1 => .nd .lf (rcomb n)
def lcomb : Nat → Tr
  | 0 => .lf
  | n + 1 => .nd (lcomb n) .lf
theorem rcomb_carets (n : Nat) : (rcomb n).carets = n := by induction n with | zero => rfl | succ n ih => simp [rcomb, Tr.carets, ih]
theorem lcomb_carets (n : Nat) : (lcomb n).carets = n := by induction n with | zero => rfl | succ n ih => simp [lcomb, Tr.carets, ih]
theorem rcomb_mir (n : Nat) : (rcomb n).mir = lcomb n := by induction n with | zero => rfl | succ n ih => simp [rcomb, lcomb, Tr.mir, ih]

theorem under_right (k : Nat) (w : World) (h : k ≤ 100) :
    Calls Try.prog 156 #[.string (rcomb k).str] w fun e w' => e = .returned (.string (rcomb (k + 1)).str) ∧ w = w' := by
  have hz := (rcomb k).str_size
  rw [rcomb_carets] at hz
  have e1 : (rcomb (k + 1)).str = ⟨#[40, 46]⟩ ++ (rcomb k).str ++ ⟨#[41]⟩ := by
    apply ba_ext
    rw [rcomb]
    simp [Tr.str, Tr.text]
  have E1 := Lib.hid e1
  clear e1
  go_enter Try.func156, Try.ntmps156
  go_wp2_with fail
  go_ret
  exact ⟨ret_str (by rw [E1.out]), rfl⟩
theorem under_left (k : Nat) (w : World) (h : k ≤ 100) :
    Calls Try.prog 157 #[.string (lcomb k).str] w fun e w' => e = .returned (.string (lcomb (k + 1)).str) ∧ w = w' := by
  have hz := (lcomb k).str_size
  rw [lcomb_carets] at hz
  have e1 : (lcomb (k + 1)).str = ⟨#[40]⟩ ++ (lcomb k).str ++ ⟨#[46]⟩ ++ ⟨#[41]⟩ := by
    apply ba_ext
    rw [lcomb]
    simp [Tr.str, Tr.text]
  have E1 := Lib.hid e1
  clear e1
  go_enter Try.func157, Try.ntmps157
  go_wp2_with fail
  go_ret
  exact ⟨ret_str (by rw [E1.out]), rfl⟩

def combO (g : Nat → Tr) (n : Int) : Option Tr := if 0 ≤ n ∧ n ≤ 8 then some (g n.toNat) else none

set_option maxHeartbeats 400000 in
theorem comb_any (g : Nat → Tr) (f : FuncId) (n : Int) (w : World) (h0 : g 0 = .lf)
    (hf : ∀ k w, k ≤ 100 → Calls Try.prog f #[.string (g k).str] w fun e w' => e = .returned (.string (g (k + 1)).str) ∧ w = w')
    (hcall : ∀ (args : Array Value) (w : World), (callFunc f args).run Try.prog w = .ok (.enter f args) w) :
    Calls Try.prog 155 #[.int .i64 n, .func (Fn.func f) #[] #[]] w fun e w' => e = .returned (ansV (combO g n)) ∧ w = w' := by
  unfold combO
  by_cases h1 : n < 0
  · rw [if_neg (by omega)]
    clear hf
    go_enter Try.func155, Try.ntmps155
    go_wp2_with fail
    go_ret2
    exact ⟨rfl, rfl⟩
  · by_cases h2 : 8 < n
    · rw [if_neg (by omega)]
      clear hf
      go_enter Try.func155, Try.ntmps155
      go_wp2_with fail
      go_ret2
      exact ⟨rfl, rfl⟩
    · rw [if_pos (by omega)]
      have HF := Lib.hid hf
      have H0 := Lib.hid h0
      clear hf h0
      go_enter Try.func155, Try.ntmps155
      go_wp2_with fail
      go_loop [6, 14] (fun t i => ∃ k : Nat, (k : Int) ≤ n ∧ i = .int .i64 k ∧ t = .string (g k).str) (fun _ i => n.toNat - (intOf i).toNat)
      case atStart => exact ⟨0, by omega, rfl, by rw [H0.out]; rfl⟩
      case round =>
        obtain ⟨k, hk, rfl, rfl⟩ := hrel
        by_cases hlt : (k : Int) < n
        · go_wp2_with fail
          refine (HF.out k _ (by omega)).mono ?_; rintro e w1 ⟨rfl, rfl⟩
          go_wp2_with fail
          go_round
          case rel => exact ⟨k + 1, by omega, by go_num, rfl⟩
          case measure => simp [intOf]; omega
        · obtain rfl : n = k := by omega
          go_wp2_with fail
          go_ret2
          exact ⟨rfl, rfl⟩

theorem implRightComb_any (n : Int) (w : World) (_lo : -9223372036854775808 ≤ n) (_hi : n ≤ 9223372036854775807) :
    Calls Try.prog 141 #[.int .i64 n] w (Gives (ansV (combO rcomb n)) w) := by
  go_enter Try.func141, Try.ntmps141
  go_wp2_with fail
  refine (comb_any rcomb 156 n _ rfl under_right (fun _ _ => by kernel_rfl)).mono ?_; rintro e w1 ⟨rfl, rfl⟩
  unfold ansV
  go_wp2_with fail
  go_ret2
  exact ⟨rfl, Below.refl _ _⟩

theorem implLeftComb_any (n : Int) (w : World) (_lo : -9223372036854775808 ≤ n) (_hi : n ≤ 9223372036854775807) :
    Calls Try.prog 142 #[.int .i64 n] w (Gives (ansV (combO lcomb n)) w) := by
  go_enter Try.func142, Try.ntmps142
  go_wp2_with fail
  refine (comb_any lcomb 157 n _ rfl under_left (fun _ _ => by kernel_rfl)).mono ?_; rintro e w1 ⟨rfl, rfl⟩
  unfold ansV
  go_wp2_with fail
  go_ret2
  exact ⟨rfl, Below.refl _ _⟩

theorem trRight_any (n : Nat) (w : World) (h : n ≤ 100) :
    Calls Try.prog 107 #[.int .i64 n] w fun e w' => e = .returned (.string (rcomb n).str) ∧ w = w' := by
  go_enter Try.func107, Try.ntmps107
  go_wp2_with fail
  go_loop [0, 3] (fun i t => ∃ k : Nat, k ≤ n ∧ i = .int .i64 k ∧ t = .string (rcomb (n - k)).str) (fun i _ => (intOf i).toNat)
  case atStart => exact ⟨n, Nat.le_refl _, rfl, by rw [Nat.sub_self]; rfl⟩
  case round =>
    obtain ⟨k, hk, rfl, rfl⟩ := hrel
    by_cases hlt : (0 : Int) < k
    · have hc := rcomb_carets (n - k)
      have he : Hid (rcomb (n - k + 1) = rcomb (n - (k - 1))) := by show _ = _; congr 1; omega
      go_wp2_with fail
      refine (trOf_any .lf (rcomb (n - k)) _ (by simp [Tr.carets, hc]; omega)).mono ?_; rintro e w1 ⟨rfl, rfl⟩
      go_wp2_with fail
      go_round
      case rel => exact ⟨k - 1, by omega, by go_num, by rw [← he.out]; rfl⟩
      case measure => simp [intOf]; omega
    · obtain rfl : k = 0 := by omega
      go_wp2_with fail
      go_ret
      exact ⟨rfl, rfl⟩

end Go.Proofs.Ytllnfbenaeeloaa

/-! CountT -/
namespace Go.Proofs.Ytllnfbenaeeloaa
open Go.RowKit

/-- An answer of a number and a bool. -/
def ansN (o : Option Nat) : Value := .tuple #[.int .i64 (o.getD 0), .bool o.isSome]
def countO (n : Int) : Option Nat := if 0 ≤ n ∧ n ≤ 8 then some (catN n.toNat) else none

end Go.Proofs.Ytllnfbenaeeloaa

/-! Di2 -/
namespace Go.Proofs.Ytllnfbenaeeloaa
open Go.RowKit Go.Maps



theorem wpList_ins_set {P : Program} {k e : TypeId} {w : World} {b n : Nat} {S : Lit → Prop} {ops : Array Oper} {rest : List Oper} {o : Oper} {a : Act} {Q : Exit → Act → World → Prop} (hg : o.guard = none) (m x v : Operand) (t : TypeId) (hop : o.op = Op.insert t m x v)
    (K : Keyed P k) (ht : P.underlying t = some (.map k e)) (he : P.underlying e = some .bool)
    (hm : a.eval m = .map (some b)) (h : SetM P k e w b n S) (hn : n < maxLen) (key : Value) (kl : Lit) (hx : a.eval x = key) (hv : a.eval v = .bool true) (hkey : keyOf P k key = some kl)
    (hK : ∀ w', SetM P k e w' b (n + 1) (fun x => S x ∨ x = kl) → w.grownBy w' (some b) → wpList P ops Q rest (a.put o.dst undef) w') : wpList P ops Q (o :: rest) a w := by
  refine wpList_plain hg fun K' hK' => ?_
  obtain ⟨w', hrun, r1, r2⟩ := h.put K ht he hn hkey
  unfold Oper.wp
  simp [execOp, hop, hm, hx, hv, hrun, Result.andThen]
  exact hK' _ _ (hK w' r1 r2)

set_option maxRecDepth 100000 in
set_option maxHeartbeats 2000000 in
theorem implRotationDistance_any (a b : ByteArray) (w : World) (ha : a.size ≤ 9223372036854775806) (hb : b.size ≤ 9223372036854775806) :
    Calls Try.prog 22 #[.string a, .string b] w (Gives (ansN (distO a b)) w) := by
  cases h : twoO a b with
  | none =>
    rw [show distO a b = none by simp [distO, h]]
    have H := Lib.hid h
    clear h
    show Calls _ _ _ _ (Gives (.tuple #[.int .i64 0, .bool false]) w)
    go_enter Try.func22, Try.ntmps22
    go_wp2_with fail
    refine (readTwo_no a b _ ha hb H.out).mono ?_; rintro e w1 ⟨hb1, rfl⟩
    go_wp2_with fail
    go_ret2
    exact ⟨rfl, hb1⟩
  | some p =>
    obtain ⟨rfl, rfl, hc1, hc2, hce⟩ := twoO_some h
    have hR := fun w => readTwo_yes p.1 p.2 w hc1 hc2 hce
    have hC := fun w => countCarets_any p.1 w (by omega)
    by_cases h5 : p.1.carets ≤ 5
    · rw [show distO p.1.str p.2.str = some (wkD p.1 p.2) by simp [distO, h, h5]]
      show Calls _ _ _ _ (Gives (.tuple #[.int .i64 (wkD p.1 p.2 : Nat), .bool true]) w)
      obtain ⟨hd1, hd2⟩ := wkD_is hce
      have hd50 := wkD_le50 hce h5
      clear h
      obtain ⟨d, hd⟩ : ∃ d, d = wkD p.1 p.2 := ⟨_, rfl⟩
      rw [← hd] at hd1 hd2 hd50 ⊢
      clear hd
      have h5' : (p.1.carets : Int) ≤ 5 := by omega
      have hgt : ¬ (5 : Int) < (p.1.carets : Int) := by omega
      obtain ⟨k, hk⟩ : ∃ k, k = p.1.carets := ⟨_, rfl⟩
      have hK := Lib.hid hk
      have hka := key_tree (t := p.1) hc1
      have hkb := key_tree (t := p.2) hc2
      have hmm := @run_makeMap Try.prog
      rw [← hk] at hC hgt
      clear hk h5'
      go_enter Try.func22, Try.ntmps22
      go_wp2_with fail
      refine (hR _).mono ?_; rintro e w1 ⟨b1, b2, _, _, hb1, rfl⟩
      go_wp2_with fail
      refine (hC _).mono ?_; rintro e w2 ⟨rfl, hb2⟩
      have hbw := nx hb1 hb2
      clear hb1 hb2
      go_wp2_with (first | (go_loud (refine wpList_ins_set rfl _ _ _ 62 rfl law_str Try.underlying62 Try.underlying4 rfl (SetM.made Try.prog 9 4 w2) (by unfold maxLen; omega) _ _ rfl rfl hka ?_); intro w3 hm3 hg3) | go_in)
      have hb3 : Below w.heap.size w w3 := (nxAlloc hbw (.map #[] 0)).grown hg3 (by have := hbw.size; simp; omega) (fun k hk => by cases hk; exact hbw.size)
      have hm4 : SetT w3 w2.heap.size 42 (fun t => Wk 0 p.1 t) := SetM.mono (SetM.congr hm3 (by
        intro x
        constructor
        · rintro (h | h); exact h.elim; exact ⟨p.1, rfl, h⟩
        · rintro ⟨t, ht, e⟩; rw [← (show p.1 = t from ht)] at e; exact Or.inr e)) (by omega)
      have hge : w.heap.size ≤ w2.heap.size := hbw.size
      clear hm3 hg3 hbw hmm hR hC
      generalize w2.heap.size = b9 at *
      have hS : ∀ i t, Wk i p.1 t → t.carets = k := fun i t ht => by rw [ht.carets, hK.out]
      have hk5 : k ≤ 5 := by omega
      have hSH := Lib.hid hS
      have hD1 := Lib.hid hd1
      have hD2 := Lib.hid hd2
      clear hS hd1 hd2
      go_loopw [9, 10] (fun c m wr => ∃ i bm : Nat, i ≤ d ∧ c = .int .i64 i ∧ m = .map (some bm) ∧ w.heap.size ≤ bm ∧ SetT wr bm 42 (fun t => Wk i p.1 t) ∧ Below w.heap.size w wr) (fun c _ _ => d - (intOf c).toNat)
      case atStart => exact ⟨0, b9, Nat.zero_le _, rfl, rfl, hge, hm4, hb3⟩
      case round =>
        clear hm4 hb3 hge
        obtain ⟨i, bm, hid, rfl, rfl, hbm, hm, hbw⟩ := hrel
        obtain ⟨c, hrun, hc⟩ := SetM.look hm law_str Try.underlying62 Try.underlying4 (zero_bool wr) hkb
        by_cases hlt : i < d
        · have hcf : c = false := by
            cases c with
            | false => rfl
            | true => exact absurd (setT_iff.1 (hc.1 rfl)) (hD2.out i hlt)
          subst hcf
          have hT := turnedOnce_any k hk5 _ (hSH.out i) bm wr hm
          clear hc hm
          go_wp2_with fail
          refine hT.mono ?_; rintro e w9 ⟨b9, hb9, hm9, hbw9, rfl⟩
          have hbw8 := nx hbw hbw9
          have hge8 : w.heap.size ≤ b9 := Nat.le_trans hbw.size hb9
          clear hT
          go_wp2_with fail
          go_roundw
          case rel => exact ⟨i + 1, b9, by omega, by go_num, rfl, hge8, hm9.congr (fun t => Iff.rfl), hbw8⟩
          case measure => simp [intOf]; omega
        · obtain rfl : i = d := by omega
          have hct : c = true := hc.2 (setT_iff.2 hD1.out)
          subst hct
          clear hc hm
          go_wp2_with fail
          go_ret2
          exact ⟨rfl, hbw⟩
    · rw [show distO p.1.str p.2.str = none by simp [distO, h, h5]]
      show Calls _ _ _ _ (Gives (.tuple #[.int .i64 0, .bool false]) w)
      clear h
      have hgt : (5 : Int) < (p.1.carets : Int) := by omega
      obtain ⟨k, hk⟩ : ∃ k, k = p.1.carets := ⟨_, rfl⟩
      rw [← hk] at hC hgt
      clear hk h5
      go_enter Try.func22, Try.ntmps22
      go_wp2_with fail
      refine (hR _).mono ?_; rintro e w1 ⟨b1, b2, _, _, hb1, rfl⟩
      go_wp2_with fail
      refine (hC _).mono ?_; rintro e w2 ⟨rfl, hb2⟩
      have hbw := nx hb1 hb2
      clear hb1 hb2
      go_wp2_with fail
      go_ret2
      exact ⟨rfl, hbw⟩
end Go.Proofs.Ytllnfbenaeeloaa

/-! Di4 -/
namespace Go.Proofs.Ytllnfbenaeeloaa
open Go.RowKit

/-- A block that is read while a row u grows elsewhere. -/
def FarO (w1 wr : World) (oa : Option Addr) (u : Value) : Prop := w1.heap.size ≤ wr.heap.size ∧ ∀ g, oa = some ⟨g, 0, none⟩ → g < w1.heap.size ∧ wr.heap[g]? = w1.heap[g]? ∧ u.ownBlock ≠ some g
theorem FarO.start {w : World} {oa : Option Addr} {u : Value} (h : ∀ g, oa = some ⟨g, 0, none⟩ → g < w.heap.size ∧ u.ownBlock ≠ some g) : FarO w w oa u := ⟨Nat.le_refl _, fun g hg => ⟨(h g hg).1, rfl, (h g hg).2⟩⟩
theorem FarO.keep {w1 wr w' : World} {oa : Option Addr} {u : Value} (h : FarO w1 wr oa u) (hb : Below wr.heap.size wr w') : FarO w1 w' oa u :=
  ⟨Nat.le_trans h.1 hb.size, fun g hg => ⟨(h.2 g hg).1, (hb.block g (Nat.lt_of_lt_of_le (h.2 g hg).1 h.1)).trans (h.2 g hg).2.1, (h.2 g hg).2.2⟩⟩
theorem FarO.self {w1 wr w' : World} {oa : Option Addr} {u u' : Value} (h : FarO w1 wr oa u) (hg : wr.grownBy w' u.ownBlock) (ho : u'.ownBlock = u.ownBlock ∨ u'.ownBlock = some wr.heap.size) : FarO w1 w' oa u' :=
  ⟨Nat.le_trans h.1 hg.size, fun g e => by
    obtain ⟨a1, a2, a3⟩ := h.2 g e
    refine ⟨a1, (hg.block g (Nat.lt_of_lt_of_le a1 h.1) (fun e => a3 e.symm)).trans a2, ?_⟩
    rcases ho with ho | ho <;> rw [ho]
    · exact a3
    · have := h.1; intro e; injection e with e; omega⟩
theorem FarO.other {w1 wr w' : World} {oa : Option Addr} {u v : Value} (h : FarO w1 wr oa u) (k : FarO w1 wr oa v) (hg : wr.grownBy w' u.ownBlock) : FarO w1 w' oa v :=
  ⟨Nat.le_trans h.1 hg.size, fun g e => by
    obtain ⟨a1, a2, a3⟩ := h.2 g e
    exact ⟨a1, (hg.block g (Nat.lt_of_lt_of_le a1 h.1) (fun e => a3 e.symm)).trans a2, (k.2 g e).2.2⟩⟩
theorem FarO.cell {w1 wr : World} {g i : Nat} {u x : Value} (h : FarO w1 wr (some ⟨g, 0, none⟩) u) (hc : w1.cell? ⟨g, i, none⟩ = some x) : wr.cell? ⟨g, i, none⟩ = some x := (World.cell?_of_block (a := ⟨g, i, none⟩) (h.2 g rfl).2.1).trans hc
/-- Two rows lie in two blocks. -/
def ApartV (u v : Value) : Prop := ∀ k, u.ownBlock = some k → v.ownBlock ≠ some k
theorem lt_own {base : Nat} {w : World} {v : Value} {ss : List ByteArray} (h : OwnS base w v ss) : ∀ k, v.ownBlock = some k → k < w.heap.size := fun k hk => (World.ownsRow.lt (show w.ownsRow _ _ _ _ _ _ from h) k hk).2
theorem own_kept {base : Nat} {w w' : World} {u v : Value} {xs : List ByteArray} (h : OwnS base w v xs) (hg : w.grownBy w' u.ownBlock) (ha : ApartV u v) : OwnS base w' v xs :=
  World.ownsRow.kept (show w.ownsRow _ _ _ _ _ _ from h) hg (by
    cases h9 : v.ownBlock with
    | none => exact .inl rfl
    | some k => exact .inr (fun e => ha k e.symm h9))

theorem own_snoc {base : Nat} {w : World} {v : Value} {xs : List ByteArray} {m : ByteArray} (h : w.ownsRow base 9 1 v (xs.length + 1) (xs.map Value.string ++ [Value.string m])) : OwnS base w v (xs ++ [m]) := by
  unfold OwnS; rw [List.length_append, List.map_append]; exact h
theorem ApartV.symm {u v : Value} (h : ApartV u v) : ApartV v u := fun k hk e => h k e hk
theorem ApartV.left {u u' v : Value} {n : Nat} (h : ApartV u v) (ho : u'.ownBlock = u.ownBlock ∨ u'.ownBlock = some n) (hl : ∀ k, v.ownBlock = some k → k < n) : ApartV u' v := by
  intro k hk e
  rcases ho with ho | ho <;> rw [ho] at hk
  · exact h k hk e
  · have := hl k e; injection hk with hk; omega
theorem two_far {w1 wr w9 w8 : World} {oa : Option Addr} {u v v1 v2 : Value} (h1 : FarO w1 wr oa u) (h2 : FarO w1 wr oa v) (C1 C2 : Obj) (hg9 : (wr.alloc C1).grownBy w9 u.ownBlock) (ho9 : v1.ownBlock = u.ownBlock ∨ v1.ownBlock = some (wr.alloc C1).heap.size)
    (hg8 : (w9.alloc C2).grownBy w8 v.ownBlock) (ho8 : v2.ownBlock = v.ownBlock ∨ v2.ownBlock = some (w9.alloc C2).heap.size) : FarO w1 w8 oa v1 ∧ FarO w1 w8 oa v2 := by
  have a1 := h1.keep (nxAlloc (Below.refl _ _) C1)
  have a2 := h2.keep (nxAlloc (Below.refl _ _) C1)
  have b1 := (a1.self hg9 ho9).keep (nxAlloc (Below.refl _ _) C2)
  have b2 := (a1.other a2 hg9).keep (nxAlloc (Below.refl _ _) C2)
  exact ⟨b2.other b1 hg8, b2.self hg8 ho8⟩
/-- What the spheres of turns are behind so many steps. -/
structure StD (a : Tr) (i : Nat) (R L : List Tr) : Prop where
  nd : R.Pairwise (· ≠ ·)
  rd : ∀ t, t ∈ R ↔ ∃ m, m ≤ i ∧ Wk m a t
  ld : ∀ t, t ∈ L ↔ Fst i a t
structure StN (R L : List Tr) (j : Nat) (N : List Tr) : Prop where
  nd : (R ++ N).Pairwise (· ≠ ·)
  dn : ∀ c ∈ L.take j, ∀ t, Turn c t → t ∈ R ++ N
  fr : ∀ t ∈ N, ∃ c ∈ L, Turn c t
structure StM (R L : List Tr) (j : Nat) (us : List Tr) (m : Nat) (N : List Tr) : Prop where
  st : StN R L j N
  dm : ∀ t ∈ us.take m, t ∈ R ++ N
theorem nd_small {k : Nat} {l : List Tr} (hk : k ≤ 5) (h : l.Pairwise (· ≠ ·)) (hc : ∀ t ∈ l, t.carets = k) : l.length ≤ 42 :=
  Nat.le_trans (nodup_sub_len h (fun t ht => (mem_treesN k t).2 (hc t ht))) (treesN_sm5 hk)
theorem StD.start (a : Tr) : StD a 0 [a] [a] := ⟨by simp, fun t => by
    simp only [List.mem_singleton]
    exact ⟨fun h => ⟨0, Nat.le_refl _, h.symm⟩, fun ⟨m, h1, h2⟩ => by obtain rfl : m = 0 := by omega
                                                                      exact (show a = t from h2).symm⟩, fun t => by
    simp only [List.mem_singleton]
    exact ⟨fun h => ⟨h.symm, fun m hm => by omega⟩, fun h => (show a = t from h.1).symm⟩⟩
theorem StD.next {a : Tr} {i : Nat} {R L N : List Tr} (h : StD a i R L) (k : StN R L L.length N) : StD a (i + 1) (R ++ N) N := by
  have hN : ∀ t, t ∈ N ↔ Fst (i + 1) a t := by
    intro t
    rw [fst_succ]
    constructor
    · intro ht
      obtain ⟨c, hc, hct⟩ := k.fr t ht
      refine ⟨⟨c, (h.ld c).1 hc, hct⟩, fun m hm hw => ?_⟩
      have hR := (h.rd t).2 ⟨m, hm, hw⟩
      exact (List.pairwise_append.1 k.nd).2.2 t hR t ht rfl
    · rintro ⟨⟨c, hc, hct⟩, hno⟩
      have := k.dn c (by rw [List.take_length]; exact (h.ld c).2 hc) t hct
      rcases List.mem_append.1 this with h1 | h1
      · obtain ⟨m, h2, h3⟩ := (h.rd t).1 h1
        exact absurd h3 (hno m h2)
      · exact h1
  refine ⟨k.nd, fun t => ?_, hN⟩
  rw [List.mem_append]
  constructor
  · rintro (h1 | h1)
    · obtain ⟨m, h2, h3⟩ := (h.rd t).1 h1
      exact ⟨m, by omega, h3⟩
    · exact ⟨i + 1, Nat.le_refl _, ((hN t).1 h1).1⟩
  · rintro ⟨m, h1, h2⟩
    by_cases h3 : ∃ m, m ≤ i ∧ Wk m a t
    · exact Or.inl ((h.rd t).2 h3)
    · have e : m = i + 1 := by
        rcases Nat.lt_or_ge i m with h4 | h4
        · omega
        · exact absurd ⟨m, h4, h2⟩ h3
      subst e
      exact Or.inr ((hN t).2 ⟨h2, fun m hm hw => h3 ⟨m, by omega, hw⟩⟩)
theorem StN.start {R L : List Tr} (h : R.Pairwise (· ≠ ·)) : StN R L 0 [] := ⟨by simpa using h, by simp, by simp⟩
theorem StM.done {R L us N : List Tr} {j : Nat} (hj : j < L.length) (hus : ∀ t, t ∈ us ↔ Turn (L.getD j .lf) t) (h : StM R L j us us.length N) : StN R L (j + 1) N := by
  refine ⟨h.st.nd, fun c hc t ht => ?_, h.st.fr⟩
  rw [List.take_succ_eq_append_getElem hj] at hc
  rcases List.mem_append.1 hc with h1 | h1
  · exact h.st.dn c h1 t ht
  · simp only [List.mem_singleton] at h1
    subst h1
    refine h.dm t ?_
    rw [List.take_length, hus]
    simpa [List.getD_eq_getElem?_getD, hj] using ht
theorem StM.old {R L us N : List Tr} {j m : Nat} (hm : m < us.length) (h : StM R L j us m N) (hi : us.getD m .lf ∈ R ++ N) : StM R L j us (m + 1) N := by
  refine ⟨h.st, fun t ht => ?_⟩
  rw [List.take_succ_eq_append_getElem hm] at ht
  rcases List.mem_append.1 ht with h1 | h1
  · exact h.dm t h1
  · simp only [List.mem_singleton] at h1
    subst h1
    simpa [List.getD_eq_getElem?_getD, hm] using hi
theorem StM.new {R L us N : List Tr} {j m : Nat} (hj : j < L.length) (hus : ∀ t, t ∈ us ↔ Turn (L.getD j .lf) t) (hm : m < us.length) (h : StM R L j us m N) (hi : us.getD m .lf ∉ R ++ N) : StM R L j us (m + 1) (N ++ [us.getD m .lf]) := by
  have hmu : us.getD m .lf ∈ us := by rw [List.getD_eq_getElem?_getD, List.getElem?_eq_getElem hm]; exact List.getElem_mem hm
  have hLm : L.getD j .lf ∈ L := by rw [List.getD_eq_getElem?_getD, List.getElem?_eq_getElem hj]; exact List.getElem_mem hj
  refine ⟨⟨?_, fun c hc t ht => ?_, fun t ht => ?_⟩, fun t ht => ?_⟩
  · rw [← List.append_assoc, List.pairwise_append]
    exact ⟨h.st.nd, by simp, fun x hx y hy e => by simp at hy; rw [e, hy] at hx; exact hi hx⟩
  · have := h.st.dn c hc t ht
    rw [← List.append_assoc]; exact List.mem_append_left _ this
  · rcases List.mem_append.1 ht with h1 | h1
    · exact h.st.fr t h1
    · simp only [List.mem_singleton] at h1
      subst h1
      exact ⟨_, hLm, (hus _).1 hmu⟩
  · rw [List.take_succ_eq_append_getElem hm] at ht
    rw [← List.append_assoc]
    rcases List.mem_append.1 ht with h1 | h1
    · exact List.mem_append_left _ (h.dm t h1)
    · simp only [List.mem_singleton] at h1
      refine List.mem_append_right _ ?_
      rw [h1]
      simp [List.getD_eq_getElem?_getD, hm]
theorem StN.carets {k : Nat} {R L N : List Tr} {j : Nat} (h : StN R L j N) (hR : ∀ t ∈ R, t.carets = k) (hL : ∀ t ∈ L, t.carets = k) : ∀ t ∈ R ++ N, t.carets = k := by
  intro t ht
  rcases List.mem_append.1 ht with h1 | h1
  · exact hR t h1
  · obtain ⟨c, hc, hct⟩ := h.fr t h1
    rw [hct.carets, hL c hc]

set_option maxRecDepth 100000 in
set_option maxHeartbeats 4000000 in
theorem specRotationDistance_any (a b : ByteArray) (w : World) (ha : a.size ≤ 9223372036854775806) (hb : b.size ≤ 9223372036854775806) :
    Calls Try.prog 21 #[.string a, .string b] w (Gives (ansN (distO a b)) w) := by
  have hB := fun w => brBoth_any a b w ha hb
  cases h : twoO a b with
  | none =>
    rw [show distO a b = none by simp [distO, h]]
    rw [h] at hB
    clear h
    show Calls _ _ _ _ (Gives (.tuple #[.int .i64 0, .bool false]) w)
    go_enter Try.func21, Try.ntmps21
    go_wp2_with fail
    refine (hB _).mono ?_; rintro e w1 ⟨rfl, hb1⟩
    go_wp2_with fail
    go_ret2
    exact ⟨rfl, hb1⟩
  | some p =>
    rw [h] at hB
    obtain ⟨rfl, rfl, hc1, hc2, hce⟩ := twoO_some h
    have hC := fun w => carets_str p.1 w (by omega)
    by_cases h5 : p.1.carets ≤ 5
    rotate_left
    · rw [show distO p.1.str p.2.str = none by simp [distO, h, h5]]
      show Calls _ _ _ _ (Gives (.tuple #[.int .i64 0, .bool false]) w)
      clear h
      have hgt : (5 : Int) < (p.1.carets : Int) := by omega
      obtain ⟨k, hk⟩ : ∃ k, k = p.1.carets := ⟨_, rfl⟩
      rw [← hk] at hC hgt
      clear hk h5
      go_enter Try.func21, Try.ntmps21
      go_wp2_with fail
      refine (hB _).mono ?_; rintro e w1 ⟨rfl, hb1⟩
      go_wp2_with fail
      refine (hC _).mono ?_; rintro e w2 ⟨rfl, rfl⟩
      go_wp2_with fail
      go_ret2
      exact ⟨rfl, hb1⟩
    · rw [show distO p.1.str p.2.str = some (wkD p.1 p.2) by simp [distO, h, h5]]
      show Calls _ _ _ _ (Gives (.tuple #[.int .i64 (wkD p.1 p.2 : Nat), .bool true]) w)
      obtain ⟨i0, hi, hz0, hz1, hz2⟩ := info_parts info_str
      have hD := wkD_is hce
      have hd50 := wkD_le50 hce h5
      obtain ⟨d, hd⟩ : ∃ d, d = wkD p.1 p.2 := ⟨_, rfl⟩
      rw [← hd] at hD hd50 ⊢
      have HD : Hid (Fst d p.1 p.2) := Lib.hid hD
      have hgt : ¬ (5 : Int) < (p.1.carets : Int) := by omega
      obtain ⟨k, hk⟩ : ∃ k, k = p.1.carets := ⟨_, rfl⟩
      rw [← hk] at hC hgt h5
      have hWk : ∀ i t, Wk i p.1 t → t.carets = k := fun i t ht => by rw [ht.carets, hk]
      have HK := Lib.hid hWk
      clear h hd hD hk hWk hce
      go_enter Try.func21, Try.ntmps21
      go_wp2_with fail
      refine (hB _).mono ?_; rintro e w1 ⟨rfl, hb1⟩
      go_wp2_with fail
      refine (hC _).mono ?_; rintro e w2 ⟨rfl, rfl⟩
      go_wp2_with fail
      have hbw4 := nxAlloc (nxAlloc hb1 (.cells #[.string p.1.str] 9 (0, 0))) (.cells #[.string p.1.str] 9 (0, 0))
      have es1 : (w1.alloc (.cells #[.string p.1.str] 9 (0, 0))).heap.size = w1.heap.size + 1 := by simp
      have own6 : OwnS w.heap.size ((w1.alloc (.cells #[.string p.1.str] 9 (0, 0))).alloc (.cells #[.string p.1.str] 9 (0, 0))) (.slice (some ⟨w1.heap.size, 0, none⟩) 1 1) [p.1.str] := (OwnS.keep (OwnS.one w1 p.1.str) (nxAlloc (Below.refl _ _) _)).mono hb1.size
      have own7 : OwnS w.heap.size ((w1.alloc (.cells #[.string p.1.str] 9 (0, 0))).alloc (.cells #[.string p.1.str] 9 (0, 0))) (.slice (some ⟨w1.heap.size + 1, 0, none⟩) 1 1) [p.1.str] := by
        have h9 := OwnS.one (w1.alloc (.cells #[.string p.1.str] 9 (0, 0))) p.1.str
        rw [es1] at h9
        exact h9.mono (by have := hb1.size; omega)
      have hap : ApartV (.slice (some ⟨w1.heap.size, 0, none⟩) 1 1) (.slice (some ⟨w1.heap.size + 1, 0, none⟩) 1 1) := by
        intro k hk
        intro e
        simp [Value.ownBlock] at hk e
        omega
      generalize (w1.alloc (.cells #[.string p.1.str] 9 (0, 0))).alloc (.cells #[.string p.1.str] 9 (0, 0)) = w4 at *
      generalize (Value.slice (some ⟨w1.heap.size, 0, none⟩) 1 1) = v6 at *
      generalize (Value.slice (some ⟨w1.heap.size + 1, 0, none⟩) 1 1) = v7 at *
      clear es1 hb1 hB hC
      have hS0 : StD p.1 0 [p.1] [p.1] := StD.start p.1
      go_loopw [6, 7, 8] (fun u l c wr => ∃ (i : Nat) (R L : List Tr), i ≤ d ∧ c = .int .i64 i ∧ OwnS w.heap.size wr u (R.map Tr.str) ∧ OwnS w.heap.size wr l (L.map Tr.str) ∧ ApartV u l ∧ Hid (StD p.1 i R L) ∧ Below w.heap.size w wr) (fun _ _ c _ => d - (intOf c).toNat)
      case atStart => exact ⟨0, [p.1], [p.1], Nat.zero_le _, rfl, own6, own7, hap, hS0, hbw4⟩
      case round =>
        clear own6 own7 hap hS0 hbw4
        obtain ⟨i, R, L, hid, rfl, hu, hl, hap, hS, hbw⟩ := hrel
        have hLr := hl.readT
        have hHas := brHas_any L p.2 _ _ hLr
        obtain ⟨oa, cap, rfl, hl63, hlc⟩ := hLr
        have hpos : 0 < L.length := by
          obtain ⟨c, hc⟩ := fst_some HD.out hid
          have := (hS.out.ld c).2 hc
          exact List.length_pos_of_mem this
        have hpos' : (0 : Int) < (L.length : Int) := by omega
        have hiff : p.2 ∈ L ↔ i = d := by
          rw [hS.out.ld]
          constructor
          · intro h9
            rcases Nat.lt_trichotomy i d with h1 | h1 | h1
            · exact absurd h9.1 (HD.out.2 i h1)
            · exact h1
            · omega
          · rintro rfl; exact HD.out
        have HC := Lib.hid hlc
        have HI := Lib.hid hiff
        clear hlc hiff
        go_wp2_with fail
        refine hHas.mono ?_; rintro e w5 ⟨c, rfl, hc, rfl⟩
        by_cases hlt : i < d
        rotate_left
        · obtain rfl : i = d := by omega
          have hct : c = true := hc.2 (HI.out.2 rfl)
          subst hct
          clear hc hHas
          go_wp2_with fail
          go_ret2
          exact ⟨rfl, hbw⟩
        · have hcf : c = false := by
            cases c with
            | false => rfl
            | true => have := HI.out.1 (hc.1 rfl); omega
          subst hcf
          have hLc : ∀ t ∈ L, t.carets = k := fun t ht => HK.out i t ((hS.out.ld t).1 ht).1
          have hRc : ∀ t ∈ R, t.carets = k := fun t ht => by obtain ⟨m, _, h9⟩ := (hS.out.rd t).1 ht; exact HK.out m t h9
          have HLc := Lib.hid hLc
          have HRc := Lib.hid hRc
          obtain ⟨g7, rfl, hg7, _⟩ := HC.out 0 hpos
          have hfu : FarO wr wr (some ⟨g7, 0, none⟩) u6 := FarO.start (fun g hg => by cases hg; exact ⟨hg7, fun e => hap g7 e rfl⟩)
          have hfn : FarO wr wr (some ⟨g7, 0, none⟩) (.slice none 0 0) := FarO.start (fun g hg => by cases hg; exact ⟨hg7, by simp [Value.ownBlock]⟩)
          have hN0 : StN R L 0 [] := StN.start hS.out.nd
          have hu0 : OwnS w.heap.size wr u6 ((R ++ []).map Tr.str) := by rw [List.append_nil]; exact hu
          have hap0 : ApartV u6 (.slice none 0 0) := fun k hk e => by simp [Value.ownBlock] at e
          have hDN := Lib.hid (fun (N : List Tr) (h : StN R L L.length N) => hS.out.next h)
          obtain ⟨n, hn⟩ : ∃ n, n = L.length := ⟨_, rfl⟩
          have HN := Lib.hid hn
          rw [← hn] at hl63 hpos hpos' ⊢
          clear hc hHas hLc hRc hu hl hap hn
          go_wp2_with fail
          obtain ⟨wq, rfl⟩ : ∃ wq, wq = wr := ⟨wr, rfl⟩
          go_loopw [6, 9, 38] (fun u nx c wr => ∃ (j : Nat) (N : List Tr), j ≤ n ∧ c = .int .i64 j ∧ OwnS w.heap.size wr u ((R ++ N).map Tr.str) ∧ OwnS w.heap.size wr nx (N.map Tr.str) ∧ ApartV u nx ∧ FarO wq wr (some ⟨g7, 0, none⟩) u ∧ FarO wq wr (some ⟨g7, 0, none⟩) nx ∧ Hid (StN R L j N) ∧ Below w.heap.size w wr) (fun _ _ c _ => n - (intOf c).toNat)
          case atStart => exact ⟨0, [], Nat.zero_le _, rfl, hu0, OwnS.nil _ _, hap0, hfu, hfn, hN0, hbw⟩
          case round =>
            clear hu0 hap0 hfu hfn hN0 hbw
            obtain ⟨j, N, hj, rfl, hu, hv, hap, hfu, hfn, hSN, hbw⟩ := hrel
            by_cases hjn : j < n
            · have hjn' : (j : Int) < (n : Int) := by omega
              have hjL : j < L.length := by rw [← HN.out]; exact hjn
              obtain ⟨_, e7, _, c1⟩ := HC.out j hjL
              cases e7
              replace c1 := hfu.cell c1
              have htm : L.getD j .lf ∈ L := by rw [List.getD_eq_getElem?_getD, List.getElem?_eq_getElem hjL]; exact List.getElem_mem hjL
              have htc := HLc.out _ htm
              have hNr := fun w => brNear_any (L.getD j .lf) w (by omega)
              have hnl : (nearL (L.getD j .lf)).map Tr.str = nearT (L.getD j .lf) := nearL_str (by omega)
              have hnc : ∀ u, u ∈ nearL (L.getD j .lf) ↔ Turn (L.getD j .lf) u := fun u => nearL_mem (by omega)
              rw [← hnl] at hNr
              obtain ⟨us, hus⟩ : ∃ us, us = nearL (L.getD j .lf) := ⟨_, rfl⟩
              rw [← hus] at hNr hnc
              have HNC := Lib.hid hnc
              obtain ⟨t, ht⟩ : ∃ t, t = L.getD j .lf := ⟨_, rfl⟩
              rw [← ht] at c1 hNr htc
              clear hnl hnc htm hus ht hjL
              go_wp2_with fail
              refine (hNr _).mono ?_; rintro e w6 ⟨v8, own8, hb6, rfl⟩
              have hu8 := lt_own hu
              have hv8 := lt_own hv
              replace hu := OwnS.keep hu hb6
              replace hv := OwnS.keep hv hb6
              replace hfu := hfu.keep hb6
              replace hfn := hfn.keep hb6
              have hbw6 := nx hbw hb6
              have h8lt := lt_own own8
              have h8ge : ∀ k, v8.ownBlock = some k → wr.heap.size ≤ k := fun k hk => (World.ownsRow.lt (show w6.ownsRow _ _ _ _ _ _ from own8) k hk).1
              obtain ⟨oa8, cap8, rfl, h863, h8c⟩ := own8.readT
              have hf8u : FarO w6 w6 oa8 u6 := FarO.start (fun g hg => by subst hg; exact ⟨h8lt g rfl, fun e => by have := h8ge g rfl; have := hu8 g e; omega⟩)
              have hf8n : FarO w6 w6 oa8 u9 := FarO.start (fun g hg => by subst hg; exact ⟨h8lt g rfl, fun e => by have := h8ge g rfl; have := hv8 g e; omega⟩)
              have hM0 : StM R L j us 0 N := ⟨hSN.out, by simp⟩
              obtain ⟨n8, hn8⟩ : ∃ n8, n8 = us.length := ⟨_, rfl⟩
              have HN8 := Lib.hid hn8
              have H8C := Lib.hid h8c
              rw [← hn8] at h863 ⊢
              clear h8lt h8ge hu8 hv8 h8c own8 hb6 hbw hNr hn8 c1 hSN
              go_wp2_with fail
              go_loopw [6, 9, 45] (fun u nx c wr => ∃ (m : Nat) (N : List Tr), m ≤ n8 ∧ c = .int .i64 m ∧ OwnS w.heap.size wr u ((R ++ N).map Tr.str) ∧ OwnS w.heap.size wr nx (N.map Tr.str) ∧ ApartV u nx ∧ FarO wq wr (some ⟨g7, 0, none⟩) u ∧ FarO wq wr (some ⟨g7, 0, none⟩) nx ∧ FarO w6 wr oa8 u ∧ FarO w6 wr oa8 nx ∧ Hid (StM R L j us m N) ∧ Below w.heap.size w wr) (fun _ _ c _ => n8 - (intOf c).toNat)
              case atStart => exact ⟨0, N, Nat.zero_le _, rfl, hu, hv, hap, hfu, hfn, hf8u, hf8n, hM0, hbw6⟩
              case round =>
                clear hu hv hap hfu hfn hf8u hf8n hM0 hbw6
                obtain ⟨m, N2, hm, rfl, hu, hv, hap, hfu, hfn, hf8u, hf8n, hSM, hbw⟩ := hrel
                by_cases hm8 : m < n8
                · have hm8' : (m : Int) < (n8 : Int) := by omega
                  have hmU : m < us.length := by rw [← HN8.out]; exact hm8
                  obtain ⟨g8, rfl, _, c2⟩ := H8C.out m hmU
                  replace c2 := hf8u.cell c2
                  have hjL : j < L.length := by rw [← HN.out]; exact hjn
                  have hold := fun hi => hSM.out.old hmU hi
                  have hnew := fun hi => hSM.out.new hjL HNC.out hmU hi
                  have hcar := hSM.out.st.carets HRc.out HLc.out
                  have hlen := nd_small h5 hSM.out.st.nd hcar
                  have hHas := brHas_any (R ++ N2) (us.getD m .lf) _ _ hu.readT
                  obtain ⟨x, hx⟩ : ∃ x, x = us.getD m .lf := ⟨_, rfl⟩
                  rw [← hx] at c2 hold hnew hHas
                  have HOL := Lib.hid hold
                  have HNW := Lib.hid hnew
                  have hlA : ((R ++ N2).map Tr.str).length ≤ 42 := by rw [List.length_map]; exact hlen
                  have hlB : (N2.map Tr.str).length ≤ 42 := by rw [List.length_map]; rw [List.length_append] at hlen; omega
                  clear hx hold hnew hmU hjL hcar hlen
                  go_wp2_with fail
                  refine hHas.mono ?_; rintro e w5 ⟨c, rfl, hc, rfl⟩
                  cases c with
                  | true =>
                    have hm1 := HOL.out (hc.1 rfl)
                    have HM1 := Lib.hid hm1
                    clear hHas hc hm1 c2
                    go_wp2_with fail
                    go_roundw
                    case rel => exact ⟨m + 1, N2, by omega, by go_num, hu, hv, hap, hfu, hfn, hf8u, hf8n, HM1, hbw⟩
                    case measure => simp [intOf]; omega
                  | false =>
                    have hm1 := HNW.out (fun h => by have := hc.2 h; cases this)
                    have HM1 := Lib.hid hm1
                    have hA : (R ++ (N2 ++ [x])).map Tr.str = (R ++ N2).map Tr.str ++ [x.str] := by simp
                    have hB : (N2 ++ [x]).map Tr.str = N2.map Tr.str ++ [x.str] := by simp
                    obtain ⟨A, hA2⟩ : ∃ A, A = (R ++ N2).map Tr.str := ⟨_, rfl⟩
                    obtain ⟨B, hB2⟩ : ∃ B, B = N2.map Tr.str := ⟨_, rfl⟩
                    rw [← hA2] at hu hlA hA
                    rw [← hB2] at hv hlB hB
                    have HA := Lib.hid hA
                    have HB := Lib.hid hB
                    clear hHas hc hm1 hA hB hA2 hB2
                    unfold OwnS at hu
                    go_wp2_with (at_builtin; first
                | (refine wpList_append_own_at _ rfl _ _ 49 rfl w.heap.size 9 i0 (.string ⟨#[]⟩) 1 16 Try.underlying49 hi hz0 hz1 hz2 rfl (by decide) _ _ _ rfl (hu.alloc _) ⟨wr.heap.size, 0, none⟩ 1 1 [.string x.str] rfl rfl (new1 _ _ _) (oneS [x.str]) (by unfold maxLen; omega) (by omega) (size_al hbw _) ?_
                   intro v1 w9 hu9 hg9 hn9 ho9
                   have hbw9 := below_app hbw hu (Nat.le_refl _) hg9
                   have hv9 := own_kept (OwnS.keep (show OwnS w.heap.size wr u9 B from hv) (nxAlloc (Below.refl wr.heap.size wr) (.cells #[.string x.str] 9 (0, 0)))) hg9 hap
                   unfold OwnS at hv9)
                | (refine wpList_append_own_at _ rfl _ _ 49 rfl w.heap.size 9 i0 (.string ⟨#[]⟩) 1 16 Try.underlying49 hi hz0 hz1 hz2 rfl (by decide) _ _ _ rfl (hv9.alloc _) ⟨w9.heap.size, 0, none⟩ 1 1 [.string x.str] rfl rfl (new1 _ _ _) (oneS [x.str]) (by unfold maxLen; omega) (by omega) (size_al hbw9 _) ?_
                   intro v2 w8 hv8 hg8 hn8 ho8))
                    have hbw8 := below_app hbw9 hv9 (Nat.le_refl _) hg8
                    have e1 : (wr.alloc (.cells #[.string x.str] 9 (0, 0))).heap.size = wr.heap.size + 1 := by simp
                    have e2 : (w9.alloc (.cells #[.string x.str] 9 (0, 0))).heap.size = w9.heap.size + 1 := by simp
                    have hap1 : ApartV v1 u9 := hap.left ho9 (fun k hk => by have := lt_own hv k hk; omega)
                    have hap2 : ApartV v1 v2 := (hap1.symm.left ho8 (fun k hk => by have := (World.ownsRow.lt hu9 k hk).2; omega)).symm
                    have hu8 : OwnS w.heap.size w8 v1 (A ++ [x.str]) := own_kept (OwnS.keep (own_snoc hu9) (nxAlloc (Below.refl w9.heap.size w9) (.cells #[.string x.str] 9 (0, 0)))) hg8 hap1.symm
                    have hv8' : OwnS w.heap.size w8 v2 (B ++ [x.str]) := own_snoc hv8
                    obtain ⟨f1, f2⟩ := two_far hfu hfn (.cells #[.string x.str] 9 (0, 0)) (.cells #[.string x.str] 9 (0, 0)) hg9 ho9 hg8 ho8
                    obtain ⟨f3, f4⟩ := two_far hf8u hf8n (.cells #[.string x.str] 9 (0, 0)) (.cells #[.string x.str] 9 (0, 0)) hg9 ho9 hg8 ho8
                    go_roundw
                    case rel => exact ⟨m + 1, N2 ++ [x], by omega, by go_num, by rw [HA.out]; exact hu8, by rw [HB.out]; exact hv8', hap2, f1, f2, f3, f4, HM1, hbw8⟩
                    case measure => simp [intOf]; omega
                · obtain rfl : m = n8 := by omega
                  have hjL : j < L.length := by rw [← HN.out]; exact hjn
                  have hSN : StN R L (j + 1) N2 := by have := hSM.out; rw [HN8.out] at this; exact this.done hjL HNC.out
                  have HSN := Lib.hid hSN
                  clear hSN hjL hSM
                  go_wp2_with fail
                  go_roundw
                  case rel => exact ⟨j + 1, N2, by omega, by go_num, hu, hv, hap, hfu, hfn, HSN, hbw⟩
                  case measure => simp [intOf]; omega
            · obtain rfl : j = n := by omega
              have hfin := hDN.out N (by have := hSN.out; rwa [HN.out] at this)
              have HF := Lib.hid hfin
              clear hfin hSN
              go_wp2_with fail
              go_roundw
              case rel => exact ⟨i + 1, R ++ N, N, by omega, by go_num, hu, hv, hap, HF, hbw⟩
              case measure => simp [intOf]; omega
end Go.Proofs.Ytllnfbenaeeloaa

/-! WRotationDistance -/
namespace Go.Proofs.Ytllnfbenaeeloaa
open Go.RowKit

theorem fnExactRotationDistance_walk (a : ByteArray) (ha : a.size ≤ maxLen) (b : ByteArray) (hb : b.size ≤ maxLen) (w : World) :
    Calls Try.prog 7 #[.string a, .string b] w fun e w' => e = .returned (.bool true) ∧ Below w.heap.size w w' := by
  unfold maxLen at ha hb
  by_cases hbiga : (1048576 : Int) < a.size
  · go_enter Try.func7, Try.ntmps7
    go_wp2_with fail
    go_ret
    exact ⟨rfl, Below.refl _ _⟩
  by_cases hbigb : (1048576 : Int) < b.size
  · go_enter Try.func7, Try.ntmps7
    go_wp2_with fail
    go_ret
    exact ⟨rfl, Below.refl _ _⟩
  go_enter Try.func7, Try.ntmps7
  go_wp2_with fail
  refine (specRotationDistance_any a b _ (by omega) (by omega)).mono ?_; rintro e w1 ⟨rfl, hb1⟩
  unfold ansN
  go_wp2_with fail
  refine (implRotationDistance_any a b _ (by omega) (by omega)).mono ?_; rintro e w2 ⟨rfl, hb2⟩
  unfold ansN
  go_wp2_with fail
  go_ret
  exact ⟨rfl, nx hb1 hb2⟩
end Go.Proofs.Ytllnfbenaeeloaa

/-! LFnExactRotationDistance -/
namespace Go.Proofs.Ytllnfbenaeeloaa.fnExactRotationDistance
open Go.ChangeShapes Go.WideShapes Go.ChangeAt Go.RowKit
open Go.ChangeMaps (open_string shut_string)
set_option linter.unusedVariables false

theorem own : ownKnob Try.prog.godebug = none := by kernel_rfl
theorem laidOut : laidOutB Try.prog = true := by kernel_rfl

set_option maxRecDepth 100000 in
theorem lifted (os : Os) (started : os.Started) (H : Type) (enc : TypeId × Value → H) :
    ReturnsInHanded {} Try.checked os 7 .any (Rows.fnExactRotationDistanceSpec.pre6 enc Try.prog Try.f7 Rows.fnExactRotationDistanceRow.domain false) (Rows.fnExactRotationDistanceSpec.post enc Try.prog Try.f7 false true false false) := by
  refine returnsInHanded_of_change (C := Try.checked) own started (by kernel_rfl) Try.func7
    (ChangeSpec.witness6 (enc := enc) (C := Try.checked) false ⟨#[], #[.string ByteArray.empty, .string ByteArray.empty], []⟩ 8 (by kernel_rfl) (by kernel_rfl) (by kernel_rfl) (by kernel_rfl)) ?_
  intro W base args ds gs before hval0 hW hcnd _
  have hval : ∀ (j : Nat) t v, Try.f7.params[j]? = some t → args[j]? = some v → Value.okWide Try.prog W .any base t v := hval0
  have hW' := hW
  obtain ⟨p, q, hA0, hV, rfl, hfz, hnd⟩ := hW
  have hA : DataW.TrodAll enc Try.prog W 0 (fun _ => true) true Try.f7.params.toList args.toList ds p := hA0
  rw [Try.params7] at hA hval
  obtain ⟨v0, vs0, d0, ds0, p0, q0, hargs, rfl, rfl, h0, r0⟩ := trodAll_cons hA
  obtain ⟨v1, vs1, d1, ds1, p1, q1, rfl, rfl, rfl, h1, r1⟩ := trodAll_cons r0
  obtain ⟨rfl, rfl, rfl⟩ := trodAll_nil r1
  obtain rfl : args = #[v0, v1] := by cases args; simp_all
  obtain ⟨rfl, rfl⟩ := trodVars_none hV
  obtain ⟨a0, rfl, rfl, rfl, w0⟩ := open_string Try.underlying9 (hval 0 9 v0 rfl rfl) h0
  obtain ⟨a1, rfl, rfl, rfl, w1⟩ := open_string Try.underlying9 (hval 1 9 v1 rfl rfl) h1
  clear hA0 hval0
  simp only [List.append_nil] at hW'
  refine (fnExactRotationDistance_walk a0 w0 a1 w1 W).mono fun e W' ⟨he, bel⟩ => ?_
  subst he
  exact ⟨_, rfl, _, _, _, [], _, [], hW', trodAll_mk1 (shut_bool Try.underlying4 _), (trodAll_cons_mk (shut_string Try.underlying9 w0) (trodAll_cons_mk (shut_string Try.underlying9 w1) trodAll_mk0)), rfl, bel.frame _, fun h => by cases h⟩

theorem over : Rows.fnExactRotationDistanceRow.holds Try.pinned (OpenSpec.ofChange Rows.fnExactRotationDistanceSpec) :=
  OpenClaim.holds_of_wide 7 Try.f7 rfl rfl rfl rfl rfl rfl rfl ⟨rfl, rfl, rfl, rfl, rfl⟩ rfl rfl rfl rfl rfl (by kernel_rfl) Try.func7 (by kernel_rfl)
    (of_decide_eq_true (by kernel_rfl)) (by unfold Func.isWrapper; first | (rw [if_pos (by decide +kernel)]; kernel_rfl) | (rw [if_neg (by decide +kernel)]; exact ⟨rfl, rfl⟩))
    (fun os started H enc _ => lifted os started H enc)

theorem proved : Rows.FnExactRotationDistanceSaid := over
#print axioms proved
end Go.Proofs.Ytllnfbenaeeloaa.fnExactRotationDistance
