/- Walks: generators. -/
import Derived.Test.YtllnfbenaeeloacIsPair
import Derived.Test.YtllnfbenaeeloacPrT
import Derived.Test.YtllnfbenaeeloacGraft
import Derived.Test.YtllnfbenaeeloacComb
namespace Go.Proofs.Ytllnfbenaeeloac
open Go.RowKit

/-- x(i) -/
def genP (i : Nat) : Pr := ((rcomb i).graft i (lcomb 2), rcomb (i + 2))
def genO (n : Int) : Option Pr := if 0 ≤ n ∧ n ≤ 6 then some (genP n.toNat) else none
theorem lcomb2_str : (lcomb 2).str = ⟨#[40, 40, 46, 46, 41, 46, 41]⟩ := by apply ba_ext; rfl

theorem trGraft_tr (t u : Tr) (n : Int) (w : World) (h : 0 ≤ n) (k : n ≤ t.carets) (ht : t.carets ≤ 100) (hu : u.carets ≤ 100) :
    Calls Try.prog 9 #[.string t.str, .int .i64 n, .string u.str] w (Gives (.string (t.graft n u).str) w) := by
  have hz := t.str_size
  have hy := u.str_size
  have hp := pos_str t n
  have := trGraft_any t.str u.str n w (by omega) (by omega) h (by omega) (by omega)
  rw [graft_str t u n h (by unfold Tr.leaves; omega)] at this
  exact this
theorem graftO_tr (t u : Tr) (n : Int) (ht : t.carets ≤ 8) (hu : u.carets ≤ 8) : graftO t.str n u.str = if 0 ≤ n ∧ n ≤ t.carets ∧ t.carets + u.carets ≤ 8 then some (t.graft n u).str else none := by
  unfold graftO
  rw [treeOf_str t ht, treeOf_str u hu]
  by_cases h : 0 ≤ n ∧ n ≤ t.carets ∧ t.carets + u.carets ≤ 8
  · have := graft_str t u n h.1 (by unfold Tr.leaves; omega)
    simp [h, this]
  · simp [h]

set_option maxHeartbeats 1000000 in
theorem prGenerator_any (i : Nat) (w : World) (hi : i ≤ 20) :
    Calls Try.prog 7 #[.int .i64 i] w (Gives (.agg #[.string (genP i).1.str, .string (genP i).2.str]) w) := by
  have R1 := fun w => trRight_any i w (by omega)
  have R2 := fun w => trRight_any (i + 2) w (by omega)
  have c1 := rcomb_carets i
  have T := fun w => trGraft_tr (rcomb i) (lcomb 2) i w (by omega) (by omega) (by omega) (by decide)
  rw [lcomb2_str] at T
  have e2 : ((i + 2 : Nat) : Int) = (i : Int) + 2 := by omega
  rw [e2] at R2
  unfold genP
  generalize rcomb i = X at *
  generalize rcomb (i + 2) = Y at *
  generalize X.graft i (lcomb 2) = U at *
  clear e2 c1
  go_enter Try.func7, Try.ntmps7
  go_wp2_with fail
  have hb0 : Below w.heap.size w (w.alloc (.cells #[.string ⟨#[]⟩, .string ⟨#[]⟩] 23 (0, 0))) := nxAlloc (Below.refl _ _) _
  have hx := heap_alloc_at w (.cells #[.string ⟨#[]⟩, .string ⟨#[]⟩] 23 (0, 0))
  generalize w.alloc (.cells #[.string ⟨#[]⟩, .string ⟨#[]⟩] 23 (0, 0)) = w0 at *
  refine (R1 _).mono ?_; rintro e wc ⟨rfl, rfl⟩
  go_wp2_with fail
  refine (T _).mono ?_; rintro e w1 ⟨rfl, hb1⟩
  have hbw1 := nx hb0 hb1
  replace hx := heap_keep hb1 hx
  clear hb1 hb0
  obtain ⟨n1, n2⟩ := two_cells hx
  obtain ⟨f1, f2⟩ := two_frozen hx
  go_wp2_with fail
  refine (R2 _).mono ?_; rintro e wc ⟨rfl, rfl⟩
  go_wp2_with fail
  obtain ⟨q1, q2⟩ := two_cells (set_two (.string U.str) (.string Y.str) hx)
  refine bodyPost_ret (v := .agg #[.string U.str, .string Y.str]) (by simp [q1, q2, results, Try.results7, go_sem]) rfl ⟨rfl, ?_⟩
  exact (hbw1.setCell (Nat.le_refl _) _).setCell (Nat.le_refl _) _

set_option maxRecDepth 100000 in
set_option maxHeartbeats 2000000 in
theorem implGeneratorPair_any (n : Int) (w : World) (lo : -9223372036854775808 ≤ n) (hi : n ≤ 9223372036854775807) :
    Calls Try.prog 8 #[.int .i64 n] w (Gives (ansPr (genO n)) w) := by
  unfold genO
  by_cases h : 0 ≤ n ∧ n ≤ 6
  rotate_left
  · rw [if_neg h]
    by_cases h1 : n < 0
    · skip
      clear h
      go_enter Try.func8, Try.ntmps8
      go_wp2_with fail
      refine bodyPost_ret (v := .tuple #[.agg #[.string ⟨#[]⟩, .string ⟨#[]⟩], .bool false]) (by simp [results, Try.results8, go_sem]) rfl ⟨rfl, ?_⟩
      exact nxAlloc (Below.refl _ _) _
    · have h2 : 6 < n := by omega
      clear h
      go_enter Try.func8, Try.ntmps8
      go_wp2_with fail
      refine bodyPost_ret (v := .tuple #[.agg #[.string ⟨#[]⟩, .string ⟨#[]⟩], .bool false]) (by simp [results, Try.results8, go_sem]) rfl ⟨rfl, ?_⟩
      exact nxAlloc (Below.refl _ _) _
  rw [if_pos h]
  obtain ⟨i, rfl⟩ : ∃ i : Nat, n = i := ⟨n.toNat, by omega⟩
  have hi6 : i ≤ 6 := by omega
  have ei : ((i : Int)).toNat = i := by omega
  rw [ei]
  have R1 : ∀ w, Calls Try.prog 11 #[.int .i64 i] w (Gives (ansV (combO rcomb i)) w) := fun w => implRightComb_any i w (by omega) (by omega)
  have R2 : ∀ w, Calls Try.prog 12 #[.int .i64 2] w (Gives (ansV (combO lcomb 2)) w) := fun w => implLeftComb_any 2 w (by omega) (by omega)
  have R3 : ∀ w, Calls Try.prog 11 #[.int .i64 ((i : Int) + 2)] w (Gives (ansV (combO rcomb ((i : Int) + 2))) w) := fun w => implRightComb_any ((i : Int) + 2) w (by omega) (by omega)
  have c1 := rcomb_carets i
  have c2 : (lcomb 2).carets = 2 := rfl
  have s1 := (rcomb i).str_size
  have s2 : (lcomb 2).str.size = 7 := rfl
  have T := fun w => implGraftAt_any (rcomb i).str i (lcomb 2).str w (by omega) (by omega) (by omega) (by omega)
  rw [graftO_tr (rcomb i) (lcomb 2) i (by omega) (by omega), if_pos (by omega)] at T
  unfold combO at R1 R2 R3
  rw [if_pos (by omega)] at R1 R3
  rw [if_pos (by decide)] at R2
  have e3 : ((i : Int) + 2).toNat = i + 2 := by omega
  have e4 : ((2 : Int)).toNat = 2 := rfl
  rw [e3] at R3
  rw [e4] at R2
  rw [ei] at R1
  unfold genP
  generalize rcomb i = X at *
  generalize rcomb (i + 2) = Y at *
  generalize lcomb 2 = V at *
  generalize X.graft i V = U at *
  unfold ansV at R1 R2 R3
  unfold ans2 at T
  simp only [trS, trB, Option.getD_some, Option.isSome_some] at R1 R2 R3 T
  clear h ei e3 e4 c1 c2 s1 s2
  go_enter Try.func8, Try.ntmps8
  go_wp2_with fail
  have hb0 : Below w.heap.size w (w.alloc (.cells #[.string ⟨#[]⟩, .string ⟨#[]⟩] 23 (0, 0))) := nxAlloc (Below.refl _ _) _
  have hx := heap_alloc_at w (.cells #[.string ⟨#[]⟩, .string ⟨#[]⟩] 23 (0, 0))
  generalize w.alloc (.cells #[.string ⟨#[]⟩, .string ⟨#[]⟩] 23 (0, 0)) = w0 at *
  refine (R1 _).mono ?_; rintro e w1 ⟨rfl, hb1⟩
  have hbw1 := nx hb0 hb1
  replace hx := heap_keep hb1 hx
  clear hb1 hb0
  go_wp2_with fail
  refine (R2 _).mono ?_; rintro e w2 ⟨rfl, hb2⟩
  have hbw2 := nx hbw1 hb2
  replace hx := heap_keep hb2 hx
  clear hb2 hbw1
  go_wp2_with fail
  refine (T _).mono ?_; rintro e w3 ⟨rfl, hb3⟩
  have hbw3 := nx hbw2 hb3
  replace hx := heap_keep hb3 hx
  clear hb3 hbw2
  go_wp2_with fail
  refine (R3 _).mono ?_; rintro e w4 ⟨rfl, hb4⟩
  have hbw4 := nx hbw3 hb4
  replace hx := heap_keep hb4 hx
  clear hb4 hbw3
  obtain ⟨n1, n2⟩ := two_cells hx
  obtain ⟨f1, f2⟩ := two_frozen hx
  go_wp2_with fail
  obtain ⟨q1, q2⟩ := two_cells (set_two (.string U.str) (.string Y.str) hx)
  refine bodyPost_ret (v := .tuple #[.agg #[.string U.str, .string Y.str], .bool true]) (by simp [q1, q2, results, Try.results8, go_sem]) rfl ⟨rfl, ?_⟩
  exact (hbw4.setCell (Nat.le_refl _) _).setCell (Nat.le_refl _) _
end Go.Proofs.Ytllnfbenaeeloac
