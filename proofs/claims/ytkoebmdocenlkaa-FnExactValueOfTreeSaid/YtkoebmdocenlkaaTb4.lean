/- Walks: ValueOfTree of both sides. -/
import Derived.Test.YtkoebmdocenlkaaTb3
import Derived.Test.YtkoebmdocenlkaaCount
namespace Go.Proofs.Ytkoebmdocenlkaa
open Go.RowKit

def ansZ (o : Option Int) : Value := .tuple #[.int .i64 (o.getD 0), .bool o.isSome]
def valO (a : ByteArray) (T : List (List Int)) (vs : List Int) : Option Int :=
  match treeOf a with
  | some t => if tabB T = true then (if vs.length = t.carets + 1 then (if vs.all (inB T.length) = true then some (valT T t vs) else none) else none) else none
  | none => none

set_option maxRecDepth 100000 in
set_option maxHeartbeats 2000000 in
theorem specValueOfTree_any (a : ByteArray) (gT nT : Nat) (gs : List Nat) (T : List (List Int)) (g n : Nat) (vs : List Int) (w : World) (ha : a.size ≤ 9223372036854775806) (hnT : T.length = nT) (hnT9 : nT ≤ 1048576) (hT9 : ∀ x ∈ T, x.length ≤ 1048576) (hTa : TabAt w gT gs T) (hn : vs.length = n) (hn9 : n ≤ 1048576) (hr : ReadI w g 0 vs) :
    Calls Try.prog 35 #[.string a, .slice (some ⟨gT, 0, none⟩) nT nT, .slice (some ⟨g, 0, none⟩) n n] w (Gives (ansZ (valO a T vs)) w) := by
  cases h : treeOf a with
  | none =>
    rw [show valO a T vs = none by simp [valO, h]]
    have H := Lib.hid h
    clear h hTa hr hT9 hnT hn
    go_enter Try.func35, Try.ntmps35
    go_wp2_with fail
    refine (trIs_no a _ ha H.out).mono ?_; rintro e w1 ⟨rfl, rfl⟩
    go_wp2_with fail
    go_ret2
    exact ⟨rfl, Below.refl _ _⟩
  | some t =>
    obtain ⟨rfl, hc⟩ := treeOf_some h
    have hV : valO t.str T vs = if tabB T = true then (if vs.length = t.carets + 1 then (if vs.all (inB T.length) = true then some (valT T t vs) else none) else none) else none := by unfold valO; rw [h]
    clear h
    rw [hV]
    have hIT := brTable_any gT nT nT gs T w hnT hnT9 hT9 hTa
    have hHA := l1AllT_any (some ⟨g, 0, none⟩) nT n n ((nT : Int) - 1) rfl vs w hn (by omega) (.inr ⟨g, 0, rfl, hr⟩)
    have hTR := Lib.hid (fun w => trIs_yes t w hc)
    have hC := fun w => carets_str t w (by omega)
    rw [hnT]
    cases htb : tabB T with
    | false =>
      rw [if_neg (by simp)]
      rw [htb] at hIT
      clear hTa hr hT9 hnT hn hV htb hHA hC
      go_enter Try.func35, Try.ntmps35
      go_wp2_with fail
      refine (hTR.out _).mono ?_; rintro e w1 ⟨rfl, rfl⟩
      go_wp2_with fail
      refine hIT.mono ?_; rintro e w2 ⟨rfl, rfl⟩
      go_wp2_with fail
      go_ret2
      exact ⟨rfl, Below.refl _ _⟩
    | true =>
      rw [if_pos rfl]
      rw [htb] at hIT
      have hT4 := tabB_len htb
      rw [hnT] at hT4
      by_cases hlen : vs.length = t.carets + 1
      · rw [if_pos hlen]
        have hln : n = t.carets + 1 := by omega
        have hne : (((n : Nat) : Int) != (t.carets : Int) + 1) = false := by simp; omega
        cases hal : vs.all (inB nT) with
        | false =>
          rw [if_neg (by simp)]
          rw [hal] at hHA
          clear hTa hr hT9 hnT hn hV htb hal hlen hln
          generalize t.carets = tc at *
          go_enter Try.func35, Try.ntmps35
          go_wp2_with fail
          refine (hTR.out _).mono ?_; rintro e w1 ⟨rfl, rfl⟩
          go_wp2_with fail
          refine hIT.mono ?_; rintro e w2 ⟨rfl, rfl⟩
          go_wp2_with fail
          refine (hC _).mono ?_; rintro e w3 ⟨rfl, rfl⟩
          go_wp2_with fail
          refine hHA.mono ?_; rintro e w4 ⟨rfl, rfl⟩
          go_wp2_with fail
          go_ret2
          exact ⟨rfl, Below.refl _ _⟩
        | true =>
          rw [if_pos rfl]
          rw [hal] at hHA
          have hin : ∀ x ∈ vs, 0 ≤ x ∧ x < T.length := fun x hx => by
            have := inB_iff.1 (List.all_eq_true.1 hal x hx)
            omega
          have hVal := brValue_any gT nT gs T htb nT hnT.symm t g 0 n n vs w (by omega) hTa hr hn (Nat.le_refl _) (by omega) (by omega) (by omega) hin
          clear hTa hr hT9 hnT hn hV htb hal hlen hin hln
          generalize valT T t vs = x at *
          generalize t.carets = tc at *
          go_enter Try.func35, Try.ntmps35
          go_wp2_with fail
          refine (hTR.out _).mono ?_; rintro e w1 ⟨rfl, rfl⟩
          go_wp2_with fail
          refine hIT.mono ?_; rintro e w2 ⟨rfl, rfl⟩
          go_wp2_with fail
          refine (hC _).mono ?_; rintro e w3 ⟨rfl, rfl⟩
          go_wp2_with fail
          refine hHA.mono ?_; rintro e w4 ⟨rfl, rfl⟩
          go_wp2_with fail
          refine hVal.mono ?_; rintro e w5 ⟨rfl, hb5⟩
          go_wp2_with fail
          go_ret2
          exact ⟨rfl, hb5⟩
      · rw [if_neg hlen]
        have hne : (((n : Nat) : Int) != (t.carets : Int) + 1) = true := by simp; omega
        clear hTa hr hT9 hnT hn hV htb hlen hHA
        generalize t.carets = tc at *
        go_enter Try.func35, Try.ntmps35
        go_wp2_with fail
        refine (hTR.out _).mono ?_; rintro e w1 ⟨rfl, rfl⟩
        go_wp2_with fail
        refine hIT.mono ?_; rintro e w2 ⟨rfl, rfl⟩
        go_wp2_with fail
        refine (hC _).mono ?_; rintro e w3 ⟨rfl, rfl⟩
        go_wp2_with fail
        go_ret2
        exact ⟨rfl, Below.refl _ _⟩

set_option maxRecDepth 100000 in
set_option maxHeartbeats 2000000 in
theorem implValueOfTree_any (a : ByteArray) (gT nT : Nat) (gs : List Nat) (T : List (List Int)) (g n : Nat) (vs : List Int) (w : World) (ha : a.size ≤ 9223372036854775806) (hnT : T.length = nT) (hnT9 : nT ≤ 1048576) (hT9 : ∀ x ∈ T, x.length ≤ 1048576) (hTa : TabAt w gT gs T) (hn : vs.length = n) (hn9 : n ≤ 1048576) (hr : ReadI w g 0 vs) :
    Calls Try.prog 38 #[.string a, .slice (some ⟨gT, 0, none⟩) nT nT, .slice (some ⟨g, 0, none⟩) n n] w (Gives (ansZ (valO a T vs)) w) := by
  cases h : treeOf a with
  | none =>
    rw [show valO a T vs = none by simp [valO, h]]
    have H := Lib.hid h
    clear h hTa hr hT9 hnT hn
    go_enter Try.func38, Try.ntmps38
    go_wp2_with fail
    refine (read_no a _ ha H.out).mono ?_; rintro e w1 ⟨hb1, rfl⟩
    go_wp2_with fail
    go_ret2
    exact ⟨rfl, hb1⟩
  | some t =>
    obtain ⟨rfl, hc⟩ := treeOf_some h
    have hV : valO t.str T vs = if tabB T = true then (if vs.length = t.carets + 1 then (if vs.all (inB T.length) = true then some (valT T t vs) else none) else none) else none := by unfold valO; rw [h]
    clear h
    rw [hV]
    have hIT := Lib.hid (fun w' (hb : Below w.heap.size w w') => isTable_any gT nT nT gs T w' hnT hnT9 hT9 (hTa.keep hb))
    have hHA := Lib.hid (fun w' (hb : Below w.heap.size w w') => hasAll_any (some ⟨gT, 0, none⟩) nT nT (some ⟨g, 0, none⟩) n n vs w' hn (by omega) (.inr ⟨g, 0, rfl, hr.keep hb⟩))
    have hTR := Lib.hid (fun w => read_yes t w hc)
    have hC := fun w => countCarets_any t w (by omega)
    rw [hnT]
    cases htb : tabB T with
    | false =>
      rw [if_neg (by simp)]
      rw [htb] at hIT
      clear hTa hr hT9 hnT hn hV htb hHA hC
      go_enter Try.func38, Try.ntmps38
      go_wp2_with fail
      refine (hTR.out _).mono ?_; rintro e w1 ⟨b1, hn1, hb1, rfl⟩
      have HN1 := Lib.hid hn1
      clear hn1
      go_wp2_with fail
      refine (hIT.out _ hb1).mono ?_; rintro e w2 ⟨rfl, rfl⟩
      go_wp2_with fail
      go_ret2
      exact ⟨rfl, hb1⟩
    | true =>
      rw [if_pos rfl]
      rw [htb] at hIT
      have hT4 := tabB_len htb
      rw [hnT] at hT4
      by_cases hlen : vs.length = t.carets + 1
      · rw [if_pos hlen]
        have hln : n = t.carets + 1 := by omega
        have hne : (((n : Nat) : Int) != (t.carets : Int) + 1) = false := by simp; omega
        cases hal : vs.all (inB nT) with
        | false =>
          rw [if_neg (by simp)]
          rw [hal] at hHA
          clear hTa hr hT9 hnT hn hV htb hal hlen hln
          generalize t.carets = tc at *
          go_enter Try.func38, Try.ntmps38
          go_wp2_with fail
          refine (hTR.out _).mono ?_; rintro e w1 ⟨b1, hn1, hb1, rfl⟩
          have HN1 := Lib.hid hn1
          clear hn1
          go_wp2_with fail
          refine (hIT.out _ hb1).mono ?_; rintro e w2 ⟨rfl, rfl⟩
          go_wp2_with fail
          refine (hC _).mono ?_; rintro e w3 ⟨rfl, hb3⟩
          go_wp2_with fail
          refine (hHA.out _ (nx hb1 hb3)).mono ?_; rintro e w4 ⟨rfl, rfl⟩
          go_wp2_with fail
          go_ret2
          exact ⟨rfl, nx hb1 hb3⟩
        | true =>
          rw [if_pos rfl]
          rw [hal] at hHA
          have hin : ∀ x ∈ vs, 0 ≤ x ∧ x < T.length := fun x hx => by
            have := inB_iff.1 (List.all_eq_true.1 hal x hx)
            omega
          have hVal := Lib.hid (fun b w' (hb : Below w.heap.size w w') hx => valueOf_any gT nT gs T htb nT hnT.symm t b g 0 n n vs w' hx (hTa.keep hb) (hr.keep hb) hn (Nat.le_refl _) (by omega) (by omega) (by omega) hin)
          clear hTa hr hT9 hnT hn hV htb hal hlen hin hln
          generalize valT T t vs = x at *
          generalize t.carets = tc at *
          go_enter Try.func38, Try.ntmps38
          go_wp2_with fail
          refine (hTR.out _).mono ?_; rintro e w1 ⟨b1, hn1, hb1, rfl⟩
          have HN1 := Lib.hid hn1
          clear hn1
          go_wp2_with fail
          refine (hIT.out _ hb1).mono ?_; rintro e w2 ⟨rfl, rfl⟩
          go_wp2_with fail
          refine (hC _).mono ?_; rintro e w3 ⟨rfl, hb3⟩
          go_wp2_with fail
          refine (hHA.out _ (nx hb1 hb3)).mono ?_; rintro e w4 ⟨rfl, rfl⟩
          go_wp2_with fail
          refine (hVal.out b1 _ (nx hb1 hb3) (HN1.out.keep hb3)).mono ?_; rintro e w5 ⟨a5, rfl, _, hb5⟩
          go_wp2_with fail
          go_ret2
          exact ⟨rfl, nx (nx hb1 hb3) hb5⟩
      · rw [if_neg hlen]
        have hne : (((n : Nat) : Int) != (t.carets : Int) + 1) = true := by simp; omega
        clear hTa hr hT9 hnT hn hV htb hlen hHA
        generalize t.carets = tc at *
        go_enter Try.func38, Try.ntmps38
        go_wp2_with fail
        refine (hTR.out _).mono ?_; rintro e w1 ⟨b1, hn1, hb1, rfl⟩
        have HN1 := Lib.hid hn1
        clear hn1
        go_wp2_with fail
        refine (hIT.out _ hb1).mono ?_; rintro e w2 ⟨rfl, rfl⟩
        go_wp2_with fail
        refine (hC _).mono ?_; rintro e w3 ⟨rfl, hb3⟩
        go_wp2_with fail
        go_ret2
        exact ⟨rfl, nx hb1 hb3⟩
end Go.Proofs.Ytkoebmdocenlkaa
