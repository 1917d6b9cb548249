/- Walks: FirstBroken, IsAssociative of both sides. -/
import Derived.Test.YtkoebmdocenlkaaTc3
namespace Go.Proofs.Ytkoebmdocenlkaa
open Go.RowKit

/-- The first numbers whose product is broken. -/
def brkO (T : List (List Int)) : Option (List Int) := if tabB T = true then (firstC T (lcomb 2) (rcomb 2)).map (digN T.length 3) else none
def asO (T : List (List Int)) : Option Bool := if tabB T = true then some (brkO T).isNone else none
def BrkF (o : Option (List Int)) (w : World) (e : Ending) (w' : World) : Prop :=
  match o with
  | none => e = .returned (.tuple #[.slice none 0 0, .bool false]) ∧ Below w.heap.size w w'
  | some xs => ∃ g : Nat, OwnI w.heap.size w' (.slice (some ⟨g, 0, none⟩) 3 3) xs ∧ Below w.heap.size w w' ∧ e = .returned (.tuple #[.slice (some ⟨g, 0, none⟩) 3 3, .bool true])
theorem Brk.f {T : List (List Int)} {w : World} {e : Ending} {w' : World} (hT : tabB T = true) (h : Brk T (lcomb 2) (rcomb 2) w e w') : BrkF (brkO T) w e w' := by
  unfold brkO BrkF
  rw [if_pos hT]
  unfold Brk at h
  cases k : firstC T (lcomb 2) (rcomb 2) with
  | none => rw [k] at h; exact h
  | some c => rw [k] at h; exact h
theorem brkO_no {T : List (List Int)} (h : tabB T = false) : brkO T = none ∧ asO T = none := by unfold asO brkO; rw [h]; exact ⟨rfl, rfl⟩
theorem asO_yes {T : List (List Int)} (h : tabB T = true) : asO T = some (brkO T).isNone := by unfold asO; rw [h]; rfl
def ansBo (o : Option Bool) : Value := .tuple #[.bool (o.getD false), .bool o.isSome]
theorem gen0 : genO 0 = some (lcomb 2, rcomb 2) := rfl

set_option maxRecDepth 100000 in
set_option maxHeartbeats 2000000 in
theorem specFirstBroken_any (gT : Nat) (gs : List Nat) (T : List (List Int)) (n : Nat) (w : World) (hn : T.length = n) (hn9 : n ≤ 1048576) (hT9 : ∀ x ∈ T, x.length ≤ 1048576) (hTa : TabAt w gT gs T) :
    Calls Try.prog 41 #[.slice (some ⟨gT, 0, none⟩) n n] w (BrkF (brkO T) w) := by
  have hIT := brTable_any gT n n gs T w hn hn9 hT9 hTa
  cases htb : tabB T with
  | false =>
    rw [(brkO_no htb).1]
    rw [htb] at hIT
    clear hTa hT9 hn htb
    go_enter Try.func41, Try.ntmps41
    go_wp2_with fail
    refine hIT.mono ?_; rintro e w1 ⟨rfl, rfl⟩
    go_wp2_with fail
    go_ret2
    exact ⟨rfl, Below.refl _ _⟩
  | true =>
    have hB := (brBroken_any gT n gs T htb n hn w hTa).mono fun e w' h => h.f htb
    rw [htb] at hIT
    generalize brkO T = o at *
    clear hTa hT9 hn htb
    go_enter Try.func41, Try.ntmps41
    go_wp2_with fail
    refine hIT.mono ?_; rintro e w1 ⟨rfl, rfl⟩
    go_wp2_with fail
    cases o with
    | none =>
      refine hB.mono ?_; rintro e w2 ⟨rfl, hb⟩
      go_wp2_with fail
      go_ret2
      exact ⟨rfl, hb⟩
    | some xs =>
      refine hB.mono ?_; rintro e w2 ⟨g, own, hb, rfl⟩
      have OWN := Lib.hid own
      clear own
      go_wp2_with fail
      go_ret2
      exact ⟨g, OWN.out, hb, rfl⟩

set_option maxRecDepth 100000 in
set_option maxHeartbeats 2000000 in
theorem specIsAssociative_any (gT : Nat) (gs : List Nat) (T : List (List Int)) (n : Nat) (w : World) (hn : T.length = n) (hn9 : n ≤ 1048576) (hT9 : ∀ x ∈ T, x.length ≤ 1048576) (hTa : TabAt w gT gs T) :
    Calls Try.prog 46 #[.slice (some ⟨gT, 0, none⟩) n n] w (Gives (ansBo (asO T)) w) := by
  have hIT := brTable_any gT n n gs T w hn hn9 hT9 hTa
  cases htb : tabB T with
  | false =>
    rw [(brkO_no htb).2]
    rw [htb] at hIT
    clear hTa hT9 hn htb
    go_enter Try.func46, Try.ntmps46
    go_wp2_with fail
    refine hIT.mono ?_; rintro e w1 ⟨rfl, rfl⟩
    go_wp2_with fail
    go_ret2
    exact ⟨rfl, Below.refl _ _⟩
  | true =>
    have hB := (brBroken_any gT n gs T htb n hn w hTa).mono fun e w' h => h.f htb
    rw [asO_yes htb]
    rw [htb] at hIT
    generalize brkO T = o at *
    clear hTa hT9 hn htb
    go_enter Try.func46, Try.ntmps46
    go_wp2_with fail
    refine hIT.mono ?_; rintro e w1 ⟨rfl, rfl⟩
    go_wp2_with fail
    cases o with
    | none =>
      refine hB.mono ?_; rintro e w2 ⟨rfl, hb⟩
      go_wp2_with fail
      go_ret2
      exact ⟨rfl, hb⟩
    | some xs =>
      refine hB.mono ?_; rintro e w2 ⟨g, own, hb, rfl⟩
      clear own
      go_wp2_with fail
      go_ret2
      exact ⟨rfl, hb⟩

set_option maxRecDepth 100000 in
set_option maxHeartbeats 2000000 in
theorem implFirstBroken_any (gT : Nat) (gs : List Nat) (T : List (List Int)) (n : Nat) (w : World) (hn : T.length = n) (hn9 : n ≤ 1048576) (hT9 : ∀ x ∈ T, x.length ≤ 1048576) (hTa : TabAt w gT gs T) :
    Calls Try.prog 42 #[.slice (some ⟨gT, 0, none⟩) n n] w (BrkF (brkO T) w) := by
  have hIT := isTable_any gT n n gs T w hn hn9 hT9 hTa
  cases htb : tabB T with
  | false =>
    rw [(brkO_no htb).1]
    rw [htb] at hIT
    clear hTa hT9 hn htb
    go_enter Try.func42, Try.ntmps42
    go_wp2_with fail
    refine hIT.mono ?_; rintro e w1 ⟨rfl, rfl⟩
    go_wp2_with fail
    go_ret2
    exact ⟨rfl, Below.refl _ _⟩
  | true =>
    have hB := fun w' (h : Below w.heap.size w w') => (firstChanged_any gT n gs T htb n hn.symm (lcomb 2) (rcomb 2) rfl (by decide) w' (hTa.keep h)).mono fun e w'' h => h.f htb
    have hG : ∀ w, Calls Try.prog 79 #[.int .i64 0] w (Gives (.tuple #[.agg #[.string (lcomb 2).str, .string (rcomb 2).str], .bool true]) w) := by
      intro w
      have h1 := implGeneratorPair_any 0 w (by omega) (by omega)
      rw [gen0] at h1
      exact h1
    rw [htb] at hIT
    generalize brkO T = o at *
    generalize (lcomb 2).str = A at *
    generalize (rcomb 2).str = B at *
    clear hTa hT9 hn htb
    go_enter Try.func42, Try.ntmps42
    go_wp2_with fail
    refine hIT.mono ?_; rintro e w1 ⟨rfl, rfl⟩
    go_wp2_with fail
    refine (hG _).mono ?_; rintro e w2 ⟨rfl, hb2⟩
    have hb3 : Below w.heap.size w (w2.alloc (.cells #[.string A, .string B] 34)) := nxAlloc hb2 _
    have hB3 := hB _ hb3
    have hs3 := hb3
    clear hG hB hb2
    go_wp2_with fail
    cases o with
    | none =>
      refine hB3.mono ?_; rintro e w4 ⟨rfl, hb4⟩
      go_wp2_with fail
      go_ret2
      exact ⟨rfl, nx hs3 hb4⟩
    | some xs =>
      refine hB3.mono ?_; rintro e w4 ⟨g, own, hb4, rfl⟩
      have OWN := Lib.hid own
      clear own
      go_wp2_with fail
      go_ret2
      exact ⟨g, OWN.out.mono hs3.size, nx hs3 hb4, rfl⟩

set_option maxRecDepth 100000 in
set_option maxHeartbeats 2000000 in
theorem implIsAssociative_any (gT : Nat) (gs : List Nat) (T : List (List Int)) (n : Nat) (w : World) (hn : T.length = n) (hn9 : n ≤ 1048576) (hT9 : ∀ x ∈ T, x.length ≤ 1048576) (hTa : TabAt w gT gs T) :
    Calls Try.prog 47 #[.slice (some ⟨gT, 0, none⟩) n n] w (Gives (ansBo (asO T)) w) := by
  have hIT := isTable_any gT n n gs T w hn hn9 hT9 hTa
  have hB := implFirstBroken_any gT gs T n w hn hn9 hT9 hTa
  cases htb : tabB T with
  | false =>
    rw [(brkO_no htb).2]
    rw [htb] at hIT
    clear hTa hT9 hn htb hB
    go_enter Try.func47, Try.ntmps47
    go_wp2_with fail
    refine hIT.mono ?_; rintro e w1 ⟨rfl, rfl⟩
    go_wp2_with fail
    go_ret2
    exact ⟨rfl, Below.refl _ _⟩
  | true =>
    rw [asO_yes htb]
    rw [htb] at hIT
    generalize brkO T = o at *
    clear hTa hT9 hn htb
    go_enter Try.func47, Try.ntmps47
    go_wp2_with fail
    refine hIT.mono ?_; rintro e w1 ⟨rfl, rfl⟩
    go_wp2_with fail
    cases o with
    | none =>
      refine hB.mono ?_; rintro e w2 ⟨rfl, hb⟩
      go_wp2_with fail
      go_ret2
      exact ⟨rfl, hb⟩
    | some xs =>
      refine hB.mono ?_; rintro e w2 ⟨g, own, hb, rfl⟩
      clear own
      go_wp2_with fail
      go_ret2
      exact ⟨rfl, hb⟩
end Go.Proofs.Ytkoebmdocenlkaa
