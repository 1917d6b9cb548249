/- The walk of laws.FnExactPairText. -/
import Derived.Test.YtkoebmdocenlkabIsPair
namespace Go.Proofs.Ytkoebmdocenlkab
open Go.RowKit

def prS (p : Pr) : ByteArray := p.1.str ++ ⟨#[62]⟩ ++ p.2.str
def prT (o : Option Pr) : ByteArray := match o with
  | some p => prS p
  | none => ⟨#[]⟩
def ansT (o : Option Pr) : Value := .tuple #[.string (prT o), .bool o.isSome]
theorem prText_any (p : Pr) (w : World) (h1 : p.1.carets ≤ 1000) (h2 : p.2.carets ≤ 1000) :
    Calls Try.prog 50 #[.agg #[.string p.1.str, .string p.2.str]] w (Gives (.string (prS p)) w) := by
  have s1 := p.1.str_size
  have s2 := p.2.str_size
  go_enter Try.func50, Try.ntmps50
  go_wp2_with fail
  go_ret
  exact ⟨rfl, nxAlloc (Below.refl _ _) _⟩

theorem pairText_any (p : Pr) (w : World) (h1 : p.1.carets ≤ 1000) (h2 : p.2.carets ≤ 1000) :
    Calls Try.prog 51 #[.agg #[.string p.1.str, .string p.2.str]] w (Gives (.string (prS p)) w) := by
  have s1 := p.1.str_size
  have s2 := p.2.str_size
  go_enter Try.func51, Try.ntmps51
  go_wp2_with fail
  go_ret
  exact ⟨rfl, nxAlloc (Below.refl _ _) _⟩

set_option maxHeartbeats 1000000 in
theorem specPairText_any (a b : ByteArray) (w : World) (ha : a.size ≤ 9223372036854775806) (hb : b.size ≤ 9223372036854775806) :
    Calls Try.prog 19 #[.agg #[.string a, .string b]] w (Gives (ansT (pairOf a b)) w) := by
  have hg := fun w => prGood_any a b w ha hb
  cases h : pairOf a b with
  | none =>
    rw [h] at hg
    clear h
    go_enter Try.func19, Try.ntmps19
    go_wp2_with fail
    have hb0 : Below w.heap.size w (w.alloc (.cells #[.string a, .string b] 32 (0, 0))) := nxAlloc (Below.refl _ _) _
    have hx0 := heap_alloc_at w (.cells #[.string a, .string b] 32 (0, 0))
    generalize (w.alloc (.cells #[.string a, .string b] 32 (0, 0))) = w0 at *
    obtain ⟨hx0a, hx0b, hx0c⟩ := two_facts hx0
    obtain ⟨hx0f, hx0g⟩ := two_frozen hx0
    refine (hg _).mono ?_; rintro e w1 ⟨rfl, hb1⟩
    have hbw1 := nx hb0 hb1
    replace hx0 := heap_keep hb1 hx0
    clear hx0a hx0b hx0c hx0f hx0g
    obtain ⟨hx0a, hx0b, hx0c⟩ := two_facts hx0
    obtain ⟨hx0f, hx0g⟩ := two_frozen hx0
    clear hb1 hb0
    go_wp2_with fail
    go_ret2
    exact ⟨rfl, hbw1⟩
  | some p =>
    rw [h] at hg
    obtain ⟨rfl, rfl, hok, hc1, hc2⟩ := pairOf_some h
    have s1 := p.1.str_size
    have s2 := p.2.str_size
    have s1' : p.1.str.size ≤ 100 := by omega
    have s2' : p.2.str.size ≤ 100 := by omega
    clear h s1 s2
    go_enter Try.func19, Try.ntmps19
    go_wp2_with fail
    have hb0 : Below w.heap.size w (w.alloc (.cells #[.string p.1.str, .string p.2.str] 32 (0, 0))) := nxAlloc (Below.refl _ _) _
    have hx0 := heap_alloc_at w (.cells #[.string p.1.str, .string p.2.str] 32 (0, 0))
    generalize (w.alloc (.cells #[.string p.1.str, .string p.2.str] 32 (0, 0))) = w0 at *
    obtain ⟨hx0a, hx0b, hx0c⟩ := two_facts hx0
    obtain ⟨hx0f, hx0g⟩ := two_frozen hx0
    refine (hg _).mono ?_; rintro e w1 ⟨rfl, hb1⟩
    have hbw1 := nx hb0 hb1
    replace hx0 := heap_keep hb1 hx0
    clear hx0a hx0b hx0c hx0f hx0g
    obtain ⟨hx0a, hx0b, hx0c⟩ := two_facts hx0
    obtain ⟨hx0f, hx0g⟩ := two_frozen hx0
    clear hb1 hb0
    go_wp2_with fail
    refine (prText_any p _ (by omega) (by omega)).mono ?_; rintro e w2 ⟨rfl, hb2⟩
    have hbw2 := nx hbw1 hb2
    replace hx0 := heap_keep hb2 hx0
    clear hx0a hx0b hx0c hx0f hx0g
    obtain ⟨hx0a, hx0b, hx0c⟩ := two_facts hx0
    obtain ⟨hx0f, hx0g⟩ := two_frozen hx0
    clear hb2 hbw1
    go_wp2_with fail
    go_ret2
    exact ⟨rfl, hbw2⟩

set_option maxHeartbeats 1000000 in
theorem implPairText_any (a b : ByteArray) (w : World) (ha : a.size ≤ 9223372036854775806) (hb : b.size ≤ 9223372036854775806) :
    Calls Try.prog 20 #[.agg #[.string a, .string b]] w (Gives (ansT (pairOf a b)) w) := by
  have hg := fun w => isPair_any a b w ha hb
  cases h : pairOf a b with
  | none =>
    rw [h] at hg
    clear h
    go_enter Try.func20, Try.ntmps20
    go_wp2_with fail
    have hb0 : Below w.heap.size w (w.alloc (.cells #[.string a, .string b] 32 (0, 0))) := nxAlloc (Below.refl _ _) _
    have hx0 := heap_alloc_at w (.cells #[.string a, .string b] 32 (0, 0))
    generalize (w.alloc (.cells #[.string a, .string b] 32 (0, 0))) = w0 at *
    obtain ⟨hx0a, hx0b, hx0c⟩ := two_facts hx0
    obtain ⟨hx0f, hx0g⟩ := two_frozen hx0
    refine (hg _).mono ?_; rintro e w1 ⟨rfl, hb1⟩
    have hbw1 := nx hb0 hb1
    replace hx0 := heap_keep hb1 hx0
    clear hx0a hx0b hx0c hx0f hx0g
    obtain ⟨hx0a, hx0b, hx0c⟩ := two_facts hx0
    obtain ⟨hx0f, hx0g⟩ := two_frozen hx0
    clear hb1 hb0
    go_wp2_with fail
    go_ret2
    exact ⟨rfl, hbw1⟩
  | some p =>
    rw [h] at hg
    obtain ⟨rfl, rfl, hok, hc1, hc2⟩ := pairOf_some h
    have s1 := p.1.str_size
    have s2 := p.2.str_size
    have s1' : p.1.str.size ≤ 100 := by omega
    have s2' : p.2.str.size ≤ 100 := by omega
    clear h s1 s2
    go_enter Try.func20, Try.ntmps20
    go_wp2_with fail
    have hb0 : Below w.heap.size w (w.alloc (.cells #[.string p.1.str, .string p.2.str] 32 (0, 0))) := nxAlloc (Below.refl _ _) _
    have hx0 := heap_alloc_at w (.cells #[.string p.1.str, .string p.2.str] 32 (0, 0))
    generalize (w.alloc (.cells #[.string p.1.str, .string p.2.str] 32 (0, 0))) = w0 at *
    obtain ⟨hx0a, hx0b, hx0c⟩ := two_facts hx0
    obtain ⟨hx0f, hx0g⟩ := two_frozen hx0
    refine (hg _).mono ?_; rintro e w1 ⟨rfl, hb1⟩
    have hbw1 := nx hb0 hb1
    replace hx0 := heap_keep hb1 hx0
    clear hx0a hx0b hx0c hx0f hx0g
    obtain ⟨hx0a, hx0b, hx0c⟩ := two_facts hx0
    obtain ⟨hx0f, hx0g⟩ := two_frozen hx0
    clear hb1 hb0
    go_wp2_with fail
    refine (pairText_any p _ (by omega) (by omega)).mono ?_; rintro e w2 ⟨rfl, hb2⟩
    have hbw2 := nx hbw1 hb2
    clear hx0 hx0a hx0b hx0c hx0f hx0g hb2 hbw1
    go_wp2_with fail
    go_ret2
    exact ⟨rfl, hbw2⟩

set_option maxRecDepth 100000 in
set_option maxHeartbeats 1000000 in
theorem fnExactPairText_walk (a0 : ByteArray) (ha0 : a0.size ≤ maxLen) (b0 : ByteArray) (hb0 : b0.size ≤ maxLen) (w : World) :
    Calls Try.prog 5 #[.agg #[.string a0, .string b0]] w fun e w' => e = .returned (.bool true) ∧ Below w.heap.size w w' := by
  unfold maxLen at ha0 hb0
  have hsz0 := fun w => szPair_any a0 b0 w (by omega) (by omega) 1048576 (by omega) (by omega)
  by_cases hz0 : (a0.size : Int) + b0.size ≤ 1048576
  rotate_left
  · simp only [if_neg hz0] at hsz0
    go_enter Try.func5, Try.ntmps5
    go_wp2_with fail
    have hb0 : Below w.heap.size w (w.alloc (.cells #[.string a0, .string b0] 26 (0, 0))) := nxAlloc (Below.refl _ _) _
    have hx0 := heap_alloc_at w (.cells #[.string a0, .string b0] 26 (0, 0))
    generalize (w.alloc (.cells #[.string a0, .string b0] 26 (0, 0))) = w0 at *
    obtain ⟨ka0, kb0, kc0⟩ := two_facts hx0
    refine (hsz0 _).mono ?_; rintro e w1 ⟨rfl, hb1⟩
    have hbw1 := nx hb0 hb1
    replace hx0 := heap_keep hb1 hx0
    clear ka0 kb0 kc0
    obtain ⟨ka0, kb0, kc0⟩ := two_facts hx0
    clear hb1 hb0
    go_wp2_with fail
    go_ret
    exact ⟨rfl, hbw1⟩
  simp only [if_pos hz0] at hsz0
  have hS := fun w => specPairText_any a0 b0 w (by omega) (by omega)
  have hI := fun w => implPairText_any a0 b0 w (by omega) (by omega)
  have hS' : ∀ w, Calls Try.prog 19 #[.agg #[.string a0, .string b0]] w (Gives (ansT (pairOf a0 b0)) w) := hS
  have hI' : ∀ w, Calls Try.prog 20 #[.agg #[.string a0, .string b0]] w (Gives (ansT (pairOf a0 b0)) w) := hI
  clear hS hI
  generalize (pairOf a0 b0) = o at hS' hI'
  unfold ansT at hS' hI'
  go_enter Try.func5, Try.ntmps5
  go_wp2_with fail
  have hb0 : Below w.heap.size w (w.alloc (.cells #[.string a0, .string b0] 26 (0, 0))) := nxAlloc (Below.refl _ _) _
  have hx0 := heap_alloc_at w (.cells #[.string a0, .string b0] 26 (0, 0))
  generalize (w.alloc (.cells #[.string a0, .string b0] 26 (0, 0))) = w0 at *
  obtain ⟨ka0, kb0, kc0⟩ := two_facts hx0
  refine (hsz0 _).mono ?_; rintro e w1 ⟨rfl, hb1⟩
  have hbw1 := nx hb0 hb1
  replace hx0 := heap_keep hb1 hx0
  clear ka0 kb0 kc0
  obtain ⟨ka0, kb0, kc0⟩ := two_facts hx0
  clear hb1 hb0
  go_wp2_with fail
  refine (toPair_any a0 b0 _).mono ?_; rintro e w2 ⟨rfl, hb2⟩
  have hbw2 := nx hbw1 hb2
  replace hx0 := heap_keep hb2 hx0
  clear ka0 kb0 kc0
  obtain ⟨ka0, kb0, kc0⟩ := two_facts hx0
  clear hb2 hbw1
  go_wp2_with fail
  refine (hS' _).mono ?_; rintro e w3 ⟨rfl, hb3⟩
  have hbw3 := nx hbw2 hb3
  replace hx0 := heap_keep hb3 hx0
  clear ka0 kb0 kc0
  obtain ⟨ka0, kb0, kc0⟩ := two_facts hx0
  clear hb3 hbw2
  go_wp2_with fail
  refine (toPair_any a0 b0 _).mono ?_; rintro e w4 ⟨rfl, hb4⟩
  have hbw4 := nx hbw3 hb4
  replace hx0 := heap_keep hb4 hx0
  clear ka0 kb0 kc0
  obtain ⟨ka0, kb0, kc0⟩ := two_facts hx0
  clear hb4 hbw3
  go_wp2_with fail
  refine (hI' _).mono ?_; rintro e w5 ⟨rfl, hb5⟩
  have hbw5 := nx hbw4 hb5
  replace hx0 := heap_keep hb5 hx0
  clear ka0 kb0 kc0
  obtain ⟨ka0, kb0, kc0⟩ := two_facts hx0
  clear hb5 hbw4
  go_wp2_with fail
  go_ret
  exact ⟨rfl, hbw5⟩
end Go.Proofs.Ytkoebmdocenlkab
