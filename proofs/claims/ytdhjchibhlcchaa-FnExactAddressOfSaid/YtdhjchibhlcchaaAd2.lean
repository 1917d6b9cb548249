/- Walks: impl.AddressOf. -/
import Derived.Test.YtdhjchibhlcchaaAd1
import Derived.Test.YtdhjchibhlcchaaFr4
import Derived.Test.YtdhjchibhlcchaaFr3
namespace Go.Proofs.Ytdhjchibhlcchaa
open Go.RowKit

set_option maxRecDepth 100000 in
set_option maxHeartbeats 4000000 in
theorem implAddressOf_any (n d len : Int) (w : World) (_l1 : -9223372036854775808 ≤ n) (_u1 : n ≤ 9223372036854775807) (_l2 : -9223372036854775808 ≤ d) (_u2 : d ≤ 9223372036854775807) (_l3 : -9223372036854775808 ≤ len) (_u3 : len ≤ 9223372036854775807) :
    Calls Try.prog 13 #[.agg #[.int .i64 n, .int .i64 d], .int .i64 len] w (Gives (ans2 (adO n d len)) w) := by
  have hk := fun w => isFraction_any n d w
  cases k : isFr n d with
  | false =>
    rw [k] at hk
    rw [show adO n d len = none by unfold adO; rw [if_neg (by simp [k])]]
    clear k
    go_enter Try.func13, Try.ntmps13
    go_wp2_with fail
    have hb0 : Below w.heap.size w (w.alloc (.cells #[.int .i64 n, .int .i64 d] 26 (0, 0))) := nxAlloc (Below.refl _ _) _
    have hx0 := heap_alloc_at w (.cells #[.int .i64 n, .int .i64 d] 26 (0, 0))
    generalize (w.alloc (.cells #[.int .i64 n, .int .i64 d] 26 (0, 0))) = w0 at *
    obtain ⟨hx0a, hx0b, hx0c⟩ := two_facts hx0
    obtain ⟨hx0f, hx0g⟩ := two_frozen hx0
    refine (hk _).mono ?_; rintro e w1 ⟨rfl, hb1⟩
    have hbw1 := nx hb0 hb1
    replace hx0 := heap_keep hb1 hx0
    clear hx0a hx0b hx0c hx0f hx0g
    obtain ⟨hx0a, hx0b, hx0c⟩ := two_facts hx0
    obtain ⟨hx0f, hx0g⟩ := two_frozen hx0
    clear hb1 hb0
    go_wp2_with fail
    go_ret2
    exact ⟨rfl, hbw1⟩
  | true =>
    rw [k] at hk
    by_cases h1 : len < 0
    · rw [show adO n d len = none by unfold adO; rw [if_neg (by omega)]]
      clear k
      go_enter Try.func13, Try.ntmps13
      go_wp2_with fail
      have hb0 : Below w.heap.size w (w.alloc (.cells #[.int .i64 n, .int .i64 d] 26 (0, 0))) := nxAlloc (Below.refl _ _) _
      have hx0 := heap_alloc_at w (.cells #[.int .i64 n, .int .i64 d] 26 (0, 0))
      generalize (w.alloc (.cells #[.int .i64 n, .int .i64 d] 26 (0, 0))) = w0 at *
      obtain ⟨hx0a, hx0b, hx0c⟩ := two_facts hx0
      obtain ⟨hx0f, hx0g⟩ := two_frozen hx0
      refine (hk _).mono ?_; rintro e w1 ⟨rfl, hb1⟩
      have hbw1 := nx hb0 hb1
      replace hx0 := heap_keep hb1 hx0
      clear hx0a hx0b hx0c hx0f hx0g
      obtain ⟨hx0a, hx0b, hx0c⟩ := two_facts hx0
      obtain ⟨hx0f, hx0g⟩ := two_frozen hx0
      clear hb1 hb0
      go_wp2_with fail
      go_ret2
      exact ⟨rfl, hbw1⟩
    by_cases h2 : len > 10
    · rw [show adO n d len = none by unfold adO; rw [if_neg (by omega)]]
      clear k
      go_enter Try.func13, Try.ntmps13
      go_wp2_with fail
      have hb0 : Below w.heap.size w (w.alloc (.cells #[.int .i64 n, .int .i64 d] 26 (0, 0))) := nxAlloc (Below.refl _ _) _
      have hx0 := heap_alloc_at w (.cells #[.int .i64 n, .int .i64 d] 26 (0, 0))
      generalize (w.alloc (.cells #[.int .i64 n, .int .i64 d] 26 (0, 0))) = w0 at *
      obtain ⟨hx0a, hx0b, hx0c⟩ := two_facts hx0
      obtain ⟨hx0f, hx0g⟩ := two_frozen hx0
      refine (hk _).mono ?_; rintro e w1 ⟨rfl, hb1⟩
      have hbw1 := nx hb0 hb1
      replace hx0 := heap_keep hb1 hx0
      clear hx0a hx0b hx0c hx0f hx0g
      obtain ⟨hx0a, hx0b, hx0c⟩ := two_facts hx0
      obtain ⟨hx0f, hx0g⟩ := two_frozen hx0
      clear hb1 hb0
      go_wp2_with fail
      go_ret2
      exact ⟨rfl, hbw1⟩
    obtain ⟨n, d, rfl, rfl, n1, d1, d2⟩ := isFr_nats k
    obtain ⟨len, rfl⟩ : ∃ l : Nat, len = (l : Int) := ⟨len.toNat, by omega⟩
    have hl : len ≤ 10 := by omega
    have hs := fun w => steps_any n d w k
    have hA := fun w => addressAt_any (stepsOf n d) len w (steps_le k).1 hl
    rw [atO_adO k hl] at hA
    clear _l1 _u1 _l2 _u2 _l3 _u3 k n1 d1 d2
    generalize stepsOf n d = s at *
    generalize adO n d len = A at *
    unfold ans2 at hA ⊢
    go_enter Try.func13, Try.ntmps13
    go_wp2_with fail
    have hb0 : Below w.heap.size w (w.alloc (.cells #[.int .i64 n, .int .i64 d] 26 (0, 0))) := nxAlloc (Below.refl _ _) _
    have hx0 := heap_alloc_at w (.cells #[.int .i64 n, .int .i64 d] 26 (0, 0))
    generalize (w.alloc (.cells #[.int .i64 n, .int .i64 d] 26 (0, 0))) = w0 at *
    obtain ⟨hx0a, hx0b, hx0c⟩ := two_facts hx0
    obtain ⟨hx0f, hx0g⟩ := two_frozen hx0
    refine (hk _).mono ?_; rintro e w1 ⟨rfl, hb1⟩
    have hbw1 := nx hb0 hb1
    replace hx0 := heap_keep hb1 hx0
    clear hx0a hx0b hx0c hx0f hx0g
    obtain ⟨hx0a, hx0b, hx0c⟩ := two_facts hx0
    obtain ⟨hx0f, hx0g⟩ := two_frozen hx0
    clear hb1 hb0
    go_wp2_with fail
    refine (hs _).mono ?_; rintro e w2 ⟨rfl, hb2⟩
    have hbw2 := nx hbw1 hb2
    replace hx0 := heap_keep hb2 hx0
    clear hx0a hx0b hx0c hx0f hx0g
    obtain ⟨hx0a, hx0b, hx0c⟩ := two_facts hx0
    obtain ⟨hx0f, hx0g⟩ := two_frozen hx0
    clear hb2 hbw1
    go_wp2_with fail
    refine (hA _).mono ?_; rintro e w3 ⟨rfl, hb3⟩
    have hbw3 := nx hbw2 hb3
    replace hx0 := heap_keep hb3 hx0
    clear hx0a hx0b hx0c hx0f hx0g
    obtain ⟨hx0a, hx0b, hx0c⟩ := two_facts hx0
    obtain ⟨hx0f, hx0g⟩ := two_frozen hx0
    clear hb3 hbw2
    go_wp2_with fail
    go_ret2
    exact ⟨rfl, hbw3⟩
end Go.Proofs.Ytdhjchibhlcchaa
