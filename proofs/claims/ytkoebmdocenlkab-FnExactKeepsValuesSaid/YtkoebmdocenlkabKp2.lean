/- Walks: KeepsValues of both sides. -/
import Derived.Test.YtkoebmdocenlkabKp1
import Derived.Test.YtkoebmdocenlkabIsPair
namespace Go.Proofs.Ytkoebmdocenlkab
open Go.RowKit

def ansKp (o : Option Bool) : Value := .tuple #[.bool (o.getD false), .bool o.isSome]
def keepO (a b : ByteArray) (T : List (List Int)) : Option Bool :=
  match pairOf a b with
  | some p => if tabB T = true then (if p.1.carets ≤ 4 then some (firstC T p.1 p.2).isNone else none) else none
  | none => none
theorem Brk.b {T : List (List Int)} {t u : Tr} {w : World} {e : Ending} {w' : World} (h : Brk T t u w e w') : ∃ v : Value, Below w.heap.size w w' ∧ e = .returned (.tuple #[v, .bool (!(firstC T t u).isNone)]) := by
  unfold Brk at h
  cases k : firstC T t u with
  | none => rw [k] at h; exact ⟨_, h.2, h.1⟩
  | some c => rw [k] at h; obtain ⟨g, _, hb, he⟩ := h; exact ⟨_, hb, he⟩

set_option maxRecDepth 100000 in
set_option maxHeartbeats 4000000 in
theorem specKeepsValues_any (a b : ByteArray) (gT : Nat) (gs : List Nat) (T : List (List Int)) (n : Nat) (w : World) (ha : a.size ≤ 9223372036854775806) (hb : b.size ≤ 9223372036854775806) (hn : T.length = n) (hn9 : n ≤ 1048576) (hT9 : ∀ x ∈ T, x.length ≤ 1048576) (hTa : TabAt w gT gs T) :
    Calls Try.prog 14 #[.agg #[.string a, .string b], .slice (some ⟨gT, 0, none⟩) n n] w (Gives (ansKp (keepO a b T)) w) := by
  have hg := fun w => prGood_any a b w ha hb
  have hIT := Lib.hid (fun w' (h : Below w.heap.size w w') => brTable_any gT n n gs T w' hn hn9 hT9 (hTa.keep h))
  cases h : pairOf a b with
  | none =>
    rw [h] at hg
    have hk : keepO a b T = none := by unfold keepO; rw [h]
    rw [hk]
    clear h hk hTa hT9 hn
    go_enter Try.func14, Try.ntmps14
    go_wp2_with fail
    have hb0 : Below w.heap.size w (w.alloc (.cells #[.string a, .string b] 32 (0, 0))) := nxAlloc (Below.refl _ _) _
    have hx0 := heap_alloc_at w (.cells #[.string a, .string b] 32 (0, 0))
    generalize (w.alloc (.cells #[.string a, .string b] 32 (0, 0))) = w0 at *
    obtain ⟨q1, q2, l1⟩ := two_facts hx0
    refine (hg _).mono ?_; rintro e w1 ⟨rfl, hb1⟩
    have hb1' := nx hb0 hb1
    replace hx0 := heap_keep hb1 hx0
    clear q1 q2 l1 hb0 hb1
    obtain ⟨q1, q2, l1⟩ := two_facts hx0
    go_wp2_with fail
    go_ret2
    exact ⟨rfl, hb1'⟩
  | some p =>
    rw [h] at hg
    have hk : keepO a b T = if tabB T = true then (if p.1.carets ≤ 4 then some (firstC T p.1 p.2).isNone else none) else none := by unfold keepO; rw [h]
    rw [hk]
    obtain ⟨rfl, rfl, hok, hc1, hc2⟩ := pairOf_some h
    have hok' : p.2.carets = p.1.carets := Eq.symm hok
    have hC := fun w => carets_str p.1 w (by omega)
    clear h hk ha hb hok
    cases htb : tabB T with
    | false =>
      rw [if_neg (by simp)]
      rw [htb] at hIT
      clear hTa hT9 hn htb
      by_cases h4 : p.1.carets ≤ 4
      · have h4' : ¬ (4 : Int) < (p.1.carets : Int) := by omega
        generalize p.1.carets = tc at *
        go_enter Try.func14, Try.ntmps14
        go_wp2_with fail
        have hb0 : Below w.heap.size w (w.alloc (.cells #[.string p.1.str, .string p.2.str] 32 (0, 0))) := nxAlloc (Below.refl _ _) _
        have hx0 := heap_alloc_at w (.cells #[.string p.1.str, .string p.2.str] 32 (0, 0))
        generalize (w.alloc (.cells #[.string p.1.str, .string p.2.str] 32 (0, 0))) = w0 at *
        obtain ⟨q1, q2, l1⟩ := two_facts hx0
        refine (hg _).mono ?_; rintro e w1 ⟨rfl, hb1⟩
        have hb1' := nx hb0 hb1
        replace hx0 := heap_keep hb1 hx0
        clear q1 q2 l1 hb0 hb1
        obtain ⟨q1, q2, l1⟩ := two_facts hx0
        go_wp2_with fail
        refine (hC _).mono ?_; rintro e w2 ⟨rfl, rfl⟩
        go_wp2_with fail
        refine (hIT.out _ hb1').mono ?_; rintro e w3 ⟨rfl, rfl⟩
        go_wp2_with fail
        go_ret2
        exact ⟨rfl, hb1'⟩
      · have h4' : (4 : Int) < (p.1.carets : Int) := by omega
        generalize p.1.carets = tc at *
        go_enter Try.func14, Try.ntmps14
        go_wp2_with fail
        have hb0 : Below w.heap.size w (w.alloc (.cells #[.string p.1.str, .string p.2.str] 32 (0, 0))) := nxAlloc (Below.refl _ _) _
        have hx0 := heap_alloc_at w (.cells #[.string p.1.str, .string p.2.str] 32 (0, 0))
        generalize (w.alloc (.cells #[.string p.1.str, .string p.2.str] 32 (0, 0))) = w0 at *
        obtain ⟨q1, q2, l1⟩ := two_facts hx0
        refine (hg _).mono ?_; rintro e w1 ⟨rfl, hb1⟩
        have hb1' := nx hb0 hb1
        replace hx0 := heap_keep hb1 hx0
        clear q1 q2 l1 hb0 hb1
        obtain ⟨q1, q2, l1⟩ := two_facts hx0
        go_wp2_with fail
        refine (hC _).mono ?_; rintro e w2 ⟨rfl, rfl⟩
        go_wp2_with fail
        go_ret2
        exact ⟨rfl, hb1'⟩
    | true =>
      rw [if_pos rfl]
      have hn0 := tabB_len htb
      have hB := Lib.hid (fun w' (h : Below w.heap.size w w') => brKeeps_any gT n gs T htb n hn.symm p.1 p.2 hok' (by omega) (p.1.carets + 1) [] (.slice none 0 0) w' (by simp) (hTa.keep h) (.inl ⟨rfl, rfl⟩) (by simp))
      rw [keeps_eq (by omega) p.1 p.2] at hB
      rw [htb] at hIT
      generalize (firstC T p.1 p.2).isNone = kb at *
      clear hTa hT9 hn htb hn0
      by_cases h4 : p.1.carets ≤ 4
      · rw [if_pos h4]
        have h4' : ¬ (4 : Int) < (p.1.carets : Int) := by omega
        generalize p.1.carets = tc at *
        go_enter Try.func14, Try.ntmps14
        go_wp2_with fail
        have hb0 : Below w.heap.size w (w.alloc (.cells #[.string p.1.str, .string p.2.str] 32 (0, 0))) := nxAlloc (Below.refl _ _) _
        have hx0 := heap_alloc_at w (.cells #[.string p.1.str, .string p.2.str] 32 (0, 0))
        generalize (w.alloc (.cells #[.string p.1.str, .string p.2.str] 32 (0, 0))) = w0 at *
        obtain ⟨q1, q2, l1⟩ := two_facts hx0
        refine (hg _).mono ?_; rintro e w1 ⟨rfl, hb1⟩
        have hb1' := nx hb0 hb1
        replace hx0 := heap_keep hb1 hx0
        clear q1 q2 l1 hb0 hb1
        obtain ⟨q1, q2, l1⟩ := two_facts hx0
        go_wp2_with fail
        refine (hC _).mono ?_; rintro e w2 ⟨rfl, rfl⟩
        go_wp2_with fail
        refine (hIT.out _ hb1').mono ?_; rintro e w3 ⟨rfl, rfl⟩
        go_wp2_with fail
        refine (hB.out _ hb1').mono ?_; rintro e w9 ⟨rfl, hb9⟩
        go_wp2_with fail
        go_ret2
        exact ⟨rfl, nx hb1' hb9⟩
      · rw [if_neg h4]
        have h4' : (4 : Int) < (p.1.carets : Int) := by omega
        generalize p.1.carets = tc at *
        go_enter Try.func14, Try.ntmps14
        go_wp2_with fail
        have hb0 : Below w.heap.size w (w.alloc (.cells #[.string p.1.str, .string p.2.str] 32 (0, 0))) := nxAlloc (Below.refl _ _) _
        have hx0 := heap_alloc_at w (.cells #[.string p.1.str, .string p.2.str] 32 (0, 0))
        generalize (w.alloc (.cells #[.string p.1.str, .string p.2.str] 32 (0, 0))) = w0 at *
        obtain ⟨q1, q2, l1⟩ := two_facts hx0
        refine (hg _).mono ?_; rintro e w1 ⟨rfl, hb1⟩
        have hb1' := nx hb0 hb1
        replace hx0 := heap_keep hb1 hx0
        clear q1 q2 l1 hb0 hb1
        obtain ⟨q1, q2, l1⟩ := two_facts hx0
        go_wp2_with fail
        refine (hC _).mono ?_; rintro e w2 ⟨rfl, rfl⟩
        go_wp2_with fail
        go_ret2
        exact ⟨rfl, hb1'⟩

set_option maxRecDepth 100000 in
set_option maxHeartbeats 4000000 in
theorem implKeepsValues_any (a b : ByteArray) (gT : Nat) (gs : List Nat) (T : List (List Int)) (n : Nat) (w : World) (ha : a.size ≤ 9223372036854775806) (hb : b.size ≤ 9223372036854775806) (hn : T.length = n) (hn9 : n ≤ 1048576) (hT9 : ∀ x ∈ T, x.length ≤ 1048576) (hTa : TabAt w gT gs T) :
    Calls Try.prog 17 #[.agg #[.string a, .string b], .slice (some ⟨gT, 0, none⟩) n n] w (Gives (ansKp (keepO a b T)) w) := by
  have hg := fun w => isPair_any a b w ha hb
  have hIT := Lib.hid (fun w' (h : Below w.heap.size w w') => isTable_any gT n n gs T w' hn hn9 hT9 (hTa.keep h))
  cases h : pairOf a b with
  | none =>
    rw [h] at hg
    have hk : keepO a b T = none := by unfold keepO; rw [h]
    rw [hk]
    clear h hk hTa hT9 hn
    go_enter Try.func17, Try.ntmps17
    go_wp2_with fail
    have hb0 : Below w.heap.size w (w.alloc (.cells #[.string a, .string b] 32 (0, 0))) := nxAlloc (Below.refl _ _) _
    have hx0 := heap_alloc_at w (.cells #[.string a, .string b] 32 (0, 0))
    generalize (w.alloc (.cells #[.string a, .string b] 32 (0, 0))) = w0 at *
    obtain ⟨q1, q2, l1⟩ := two_facts hx0
    refine (hg _).mono ?_; rintro e w1 ⟨rfl, hb1⟩
    have hb1' := nx hb0 hb1
    replace hx0 := heap_keep hb1 hx0
    clear q1 q2 l1 hb0 hb1
    obtain ⟨q1, q2, l1⟩ := two_facts hx0
    go_wp2_with fail
    go_ret2
    exact ⟨rfl, hb1'⟩
  | some p =>
    rw [h] at hg
    have hk : keepO a b T = if tabB T = true then (if p.1.carets ≤ 4 then some (firstC T p.1 p.2).isNone else none) else none := by unfold keepO; rw [h]
    rw [hk]
    obtain ⟨rfl, rfl, hok, hc1, hc2⟩ := pairOf_some h
    have hok' : p.2.carets = p.1.carets := Eq.symm hok
    have hC := fun w => countCarets_any p.1 w (by omega)
    clear h hk ha hb hok
    cases htb : tabB T with
    | false =>
      rw [if_neg (by simp)]
      rw [htb] at hIT
      clear hTa hT9 hn htb
      by_cases h4 : p.1.carets ≤ 4
      · have h4' : ¬ (4 : Int) < (p.1.carets : Int) := by omega
        generalize p.1.carets = tc at *
        go_enter Try.func17, Try.ntmps17
        go_wp2_with fail
        have hb0 : Below w.heap.size w (w.alloc (.cells #[.string p.1.str, .string p.2.str] 32 (0, 0))) := nxAlloc (Below.refl _ _) _
        have hx0 := heap_alloc_at w (.cells #[.string p.1.str, .string p.2.str] 32 (0, 0))
        generalize (w.alloc (.cells #[.string p.1.str, .string p.2.str] 32 (0, 0))) = w0 at *
        obtain ⟨q1, q2, l1⟩ := two_facts hx0
        refine (hg _).mono ?_; rintro e w1 ⟨rfl, hb1⟩
        have hb1' := nx hb0 hb1
        replace hx0 := heap_keep hb1 hx0
        clear q1 q2 l1 hb0 hb1
        obtain ⟨q1, q2, l1⟩ := two_facts hx0
        go_wp2_with fail
        refine (hIT.out _ hb1').mono ?_; rintro e w3 ⟨rfl, rfl⟩
        go_wp2_with fail
        go_ret2
        exact ⟨rfl, hb1'⟩
      · have h4' : (4 : Int) < (p.1.carets : Int) := by omega
        generalize p.1.carets = tc at *
        go_enter Try.func17, Try.ntmps17
        go_wp2_with fail
        have hb0 : Below w.heap.size w (w.alloc (.cells #[.string p.1.str, .string p.2.str] 32 (0, 0))) := nxAlloc (Below.refl _ _) _
        have hx0 := heap_alloc_at w (.cells #[.string p.1.str, .string p.2.str] 32 (0, 0))
        generalize (w.alloc (.cells #[.string p.1.str, .string p.2.str] 32 (0, 0))) = w0 at *
        obtain ⟨q1, q2, l1⟩ := two_facts hx0
        refine (hg _).mono ?_; rintro e w1 ⟨rfl, hb1⟩
        have hb1' := nx hb0 hb1
        replace hx0 := heap_keep hb1 hx0
        clear q1 q2 l1 hb0 hb1
        obtain ⟨q1, q2, l1⟩ := two_facts hx0
        go_wp2_with fail
        refine (hIT.out _ hb1').mono ?_; rintro e w3 ⟨rfl, rfl⟩
        go_wp2_with fail
        go_ret2
        exact ⟨rfl, hb1'⟩
    | true =>
      rw [if_pos rfl]
      have hn0 := tabB_len htb
      have hB := Lib.hid (fun w' (h : Below w.heap.size w w') => (firstChanged_any gT n gs T htb n hn.symm p.1 p.2 hok' (by omega) w' (hTa.keep h)).mono fun e w'' h => h.b)
      rw [htb] at hIT
      generalize (firstC T p.1 p.2).isNone = kb at *
      clear hTa hT9 hn htb hn0
      by_cases h4 : p.1.carets ≤ 4
      · rw [if_pos h4]
        have h4' : ¬ (4 : Int) < (p.1.carets : Int) := by omega
        generalize p.1.carets = tc at *
        go_enter Try.func17, Try.ntmps17
        go_wp2_with fail
        have hb0 : Below w.heap.size w (w.alloc (.cells #[.string p.1.str, .string p.2.str] 32 (0, 0))) := nxAlloc (Below.refl _ _) _
        have hx0 := heap_alloc_at w (.cells #[.string p.1.str, .string p.2.str] 32 (0, 0))
        generalize (w.alloc (.cells #[.string p.1.str, .string p.2.str] 32 (0, 0))) = w0 at *
        obtain ⟨q1, q2, l1⟩ := two_facts hx0
        refine (hg _).mono ?_; rintro e w1 ⟨rfl, hb1⟩
        have hb1' := nx hb0 hb1
        replace hx0 := heap_keep hb1 hx0
        clear q1 q2 l1 hb0 hb1
        obtain ⟨q1, q2, l1⟩ := two_facts hx0
        go_wp2_with fail
        refine (hIT.out _ hb1').mono ?_; rintro e w3 ⟨rfl, rfl⟩
        go_wp2_with fail
        refine (hC _).mono ?_; rintro e w2 ⟨rfl, hb2⟩
        replace hb1' := nx hb1' hb2
        replace hx0 := heap_keep hb2 hx0
        clear q1 q2 l1 hb2
        obtain ⟨q1, q2, l1⟩ := two_facts hx0
        go_wp2_with fail
        refine (hB.out _ hb1').mono ?_; rintro e w9 ⟨v9, hb9, rfl⟩
        go_wp2_with fail
        go_ret2
        exact ⟨by cases kb <;> rfl, nx hb1' hb9⟩
      · rw [if_neg h4]
        have h4' : (4 : Int) < (p.1.carets : Int) := by omega
        generalize p.1.carets = tc at *
        go_enter Try.func17, Try.ntmps17
        go_wp2_with fail
        have hb0 : Below w.heap.size w (w.alloc (.cells #[.string p.1.str, .string p.2.str] 32 (0, 0))) := nxAlloc (Below.refl _ _) _
        have hx0 := heap_alloc_at w (.cells #[.string p.1.str, .string p.2.str] 32 (0, 0))
        generalize (w.alloc (.cells #[.string p.1.str, .string p.2.str] 32 (0, 0))) = w0 at *
        obtain ⟨q1, q2, l1⟩ := two_facts hx0
        refine (hg _).mono ?_; rintro e w1 ⟨rfl, hb1⟩
        have hb1' := nx hb0 hb1
        replace hx0 := heap_keep hb1 hx0
        clear q1 q2 l1 hb0 hb1
        obtain ⟨q1, q2, l1⟩ := two_facts hx0
        go_wp2_with fail
        refine (hIT.out _ hb1').mono ?_; rintro e w3 ⟨rfl, rfl⟩
        go_wp2_with fail
        refine (hC _).mono ?_; rintro e w2 ⟨rfl, hb2⟩
        replace hb1' := nx hb1' hb2
        replace hx0 := heap_keep hb2 hx0
        clear q1 q2 l1 hb2
        obtain ⟨q1, q2, l1⟩ := two_facts hx0
        go_wp2_with fail
        go_ret2
        exact ⟨rfl, hb1'⟩
end Go.Proofs.Ytkoebmdocenlkab
