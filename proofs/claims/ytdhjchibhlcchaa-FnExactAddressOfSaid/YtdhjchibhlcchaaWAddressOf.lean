/- The walk of laws.FnExactAddressOf. -/
import Derived.Test.YtdhjchibhlcchaaAd2
import Derived.Test.YtdhjchibhlcchaaFr1
import Derived.Test.YtdhjchibhlcchaaComb
import Derived.Test.YtdhjchibhlcchaaRegT
namespace Go.Proofs.Ytdhjchibhlcchaa
open Go.RowKit

set_option maxRecDepth 100000 in
set_option maxHeartbeats 4000000 in
theorem specAddressOf_any (n d len : Int) (w : World) (_l1 : -9223372036854775808 ≤ n) (_u1 : n ≤ 9223372036854775807) (_l2 : -9223372036854775808 ≤ d) (_u2 : d ≤ 9223372036854775807) (_l3 : -9223372036854775808 ≤ len) (_u3 : len ≤ 9223372036854775807) :
    Calls Try.prog 11 #[.agg #[.int .i64 n, .int .i64 d], .int .i64 len] w (Gives (ans2 (adO n d len)) w) := by
  have hk := fun w => mpGood_any n d w
  cases k : isFr n d with
  | false =>
    rw [k] at hk
    rw [show adO n d len = none by unfold adO; rw [if_neg (by simp [k])]]
    clear k
    go_enter Try.func11, Try.ntmps11
    go_wp2_with fail
    have hb0 : Below w.heap.size w (w.alloc (.cells #[.int .i64 n, .int .i64 d] 26 (0, 0))) := nxAlloc (Below.refl _ _) _
    have hx0 := heap_alloc_at w (.cells #[.int .i64 n, .int .i64 d] 26 (0, 0))
    generalize (w.alloc (.cells #[.int .i64 n, .int .i64 d] 26 (0, 0))) = w0 at *
    obtain ⟨hx0a, hx0b, hx0c⟩ := two_facts hx0
    obtain ⟨hx0f, hx0g⟩ := two_frozen hx0
    refine wp_region_cls (by kernel_rfl) (by kernel_rfl) ?_
    repeat (
      refine wpQuiet_step (fun K hK => ?_)
      go_simp
      first
        | (refine hK _ ?_; clear hK K)
        | (refine ⟨_, fun _ _ => rfl, hK _ ?_⟩; clear hK K)
        | (apply Exists.intro
           refine ⟨fun w' hw' => ?_, hK _ ?_⟩
           · first
               | (rw [hw'.cell hx0c hx0a]; exact ⟨rfl, rfl⟩)
               | (rw [hw'.cell hx0c hx0b]; exact ⟨rfl, rfl⟩)
               | (go_at_call 38; exact hw'.call (hk _))
               | (rw [hw'.cell hx0c hx0a]; dsimp only [Result.andThen]; rw [hw'.cell hx0c hx0b]; exact ⟨rfl, rfl⟩)
           clear hK K))
    refine wpQuiet_nil ?_
    intro w' hw'
    have hbwr := nx hb0 hw'
    replace hx0 := heap_keep hw' hx0
    clear hw' hb0 hx0a hx0b hx0c hx0f hx0g
    generalize w' = wr at *
    obtain ⟨hx0a, hx0b, hx0c⟩ := two_facts hx0
    go_wp2_with fail
    go_ret2
    exact ⟨rfl, hbwr⟩
  | true =>
    rw [k] at hk
    obtain ⟨n, d, rfl, rfl, n1, d1, d2⟩ := isFr_nats k
    by_cases h0 : n = d
    · rw [show adO n d len = none by unfold adO; rw [if_neg (by simp [h0])]]
      subst h0
      clear k
      go_enter Try.func11, Try.ntmps11
      go_wp2_with fail
      have hb0 : Below w.heap.size w (w.alloc (.cells #[.int .i64 n, .int .i64 n] 26 (0, 0))) := nxAlloc (Below.refl _ _) _
      have hx0 := heap_alloc_at w (.cells #[.int .i64 n, .int .i64 n] 26 (0, 0))
      generalize (w.alloc (.cells #[.int .i64 n, .int .i64 n] 26 (0, 0))) = w0 at *
      obtain ⟨hx0a, hx0b, hx0c⟩ := two_facts hx0
      obtain ⟨hx0f, hx0g⟩ := two_frozen hx0
      refine wp_region_cls (by kernel_rfl) (by kernel_rfl) ?_
      repeat (
        refine wpQuiet_step (fun K hK => ?_)
        go_simp
        first
          | (refine hK _ ?_; clear hK K)
          | (refine ⟨_, fun _ _ => rfl, hK _ ?_⟩; clear hK K)
          | (apply Exists.intro
             refine ⟨fun w' hw' => ?_, hK _ ?_⟩
             · first
                 | (rw [hw'.cell hx0c hx0a]; exact ⟨rfl, rfl⟩)
                 | (rw [hw'.cell hx0c hx0b]; exact ⟨rfl, rfl⟩)
                 | (go_at_call 38; exact hw'.call (hk _))
                 | (rw [hw'.cell hx0c hx0a]; dsimp only [Result.andThen]; rw [hw'.cell hx0c hx0b]; exact ⟨rfl, rfl⟩)
             clear hK K))
      refine wpQuiet_nil ?_
      intro w' hw'
      have hbwr := nx hb0 hw'
      replace hx0 := heap_keep hw' hx0
      clear hw' hb0 hx0a hx0b hx0c hx0f hx0g
      generalize w' = wr at *
      obtain ⟨hx0a, hx0b, hx0c⟩ := two_facts hx0
      go_wp2_with fail
      go_ret2
      exact ⟨rfl, hbwr⟩
    have hnd : ((n : Int) == (d : Int)) = false := by rw [beq_eq_false_iff_ne]; omega
    by_cases h1 : 0 ≤ len ∧ len ≤ 10
    rotate_left
    · rw [show adO n d len = none by unfold adO; rw [if_neg (by omega)]]
      have hi : ∀ w, Calls Try.prog 39 #[.int .i64 len, .int .i64 0, .int .i64 10] w (Gives (.bool false) w) := fun w => (l1In_no len 0 10 w (by omega)).mono fun e w' h => ⟨h.1, by rw [h.2]; exact Below.refl _ _⟩
      clear k
      go_enter Try.func11, Try.ntmps11
      go_wp2_with fail
      have hb0 : Below w.heap.size w (w.alloc (.cells #[.int .i64 n, .int .i64 d] 26 (0, 0))) := nxAlloc (Below.refl _ _) _
      have hx0 := heap_alloc_at w (.cells #[.int .i64 n, .int .i64 d] 26 (0, 0))
      generalize (w.alloc (.cells #[.int .i64 n, .int .i64 d] 26 (0, 0))) = w0 at *
      obtain ⟨hx0a, hx0b, hx0c⟩ := two_facts hx0
      obtain ⟨hx0f, hx0g⟩ := two_frozen hx0
      refine wp_region_cls (by kernel_rfl) (by kernel_rfl) ?_
      repeat (
        refine wpQuiet_step (fun K hK => ?_)
        go_simp
        first
          | (refine hK _ ?_; clear hK K)
          | (refine ⟨_, fun _ _ => rfl, hK _ ?_⟩; clear hK K)
          | (apply Exists.intro
             refine ⟨fun w' hw' => ?_, hK _ ?_⟩
             · first
                 | (rw [hw'.cell hx0c hx0a]; exact ⟨rfl, rfl⟩)
                 | (rw [hw'.cell hx0c hx0b]; exact ⟨rfl, rfl⟩)
                 | (go_at_call 38; exact hw'.call (hk _))
                 | (go_at_call 39; exact hw'.call (hi _))
                 | (rw [hw'.cell hx0c hx0a]; dsimp only [Result.andThen]; rw [hw'.cell hx0c hx0b]; exact ⟨rfl, rfl⟩)
             clear hK K))
      refine wpQuiet_nil ?_
      intro w' hw'
      have hbwr := nx hb0 hw'
      replace hx0 := heap_keep hw' hx0
      clear hw' hb0 hx0a hx0b hx0c hx0f hx0g
      generalize w' = wr at *
      obtain ⟨hx0a, hx0b, hx0c⟩ := two_facts hx0
      go_wp2_with fail
      go_ret2
      exact ⟨rfl, hbwr⟩
    obtain ⟨len, rfl⟩ : ∃ l : Nat, len = (l : Int) := ⟨len.toNat, by omega⟩
    have hl : len ≤ 10 := by omega
    have hi : ∀ w, Calls Try.prog 39 #[.int .i64 len, .int .i64 0, .int .i64 10] w (Gives (.bool true) w) := fun w => (l1In_yes len 0 10 w h1.1 h1.2).mono fun e w' h => ⟨h.1, by rw [h.2]; exact Below.refl _ _⟩
    have hsh : wrap64 ((2 : Int) ^ len) = ((2 ^ len : Nat) : Int) := by
      rcases small_cases hl with e | e | e | e | e | e | e | e | e | e | e <;> (rw [e]; decide +kernel)
    have hsw : IntKind.i64.wrap ((2 : Int) ^ len) = ((2 ^ len : Nat) : Int) := by
      rcases small_cases hl with e | e | e | e | e | e | e | e | e | e | e <;> (rw [e]; decide +kernel)
    have hp9 : 2 ^ len ≤ 2 ^ 10 := Nat.pow_le_pow_right (by omega) hl
    have hp0 : 0 < 2 ^ len := Nat.pow_pos (by omega)
    by_cases h2 : d ≤ 2 ^ len
    rotate_left
    · rw [show adO n d len = none by unfold adO; rw [if_neg (by rw [Int.toNat_natCast]; omega)]]
      have hlt : IntKind.i64.wrap ((2 : Int) ^ len) < (d : Int) := by rw [hsw]; omega
      clear k
      generalize 2 ^ len = P at *
      go_enter Try.func11, Try.ntmps11
      go_wp2_with fail
      have hb0 : Below w.heap.size w (w.alloc (.cells #[.int .i64 n, .int .i64 d] 26 (0, 0))) := nxAlloc (Below.refl _ _) _
      have hx0 := heap_alloc_at w (.cells #[.int .i64 n, .int .i64 d] 26 (0, 0))
      generalize (w.alloc (.cells #[.int .i64 n, .int .i64 d] 26 (0, 0))) = w0 at *
      obtain ⟨hx0a, hx0b, hx0c⟩ := two_facts hx0
      obtain ⟨hx0f, hx0g⟩ := two_frozen hx0
      refine wp_region_cls (by kernel_rfl) (by kernel_rfl) ?_
      repeat (
        refine wpQuiet_step (fun K hK => ?_)
        go_simp
        first
          | (refine hK _ ?_; clear hK K)
          | (refine ⟨_, fun _ _ => rfl, hK _ ?_⟩; clear hK K)
          | (apply Exists.intro
             refine ⟨fun w' hw' => ?_, hK _ ?_⟩
             · first
                 | (rw [hw'.cell hx0c hx0a]; exact ⟨rfl, rfl⟩)
                 | (rw [hw'.cell hx0c hx0b]; exact ⟨rfl, rfl⟩)
                 | (go_at_call 38; exact hw'.call (hk _))
                 | (go_at_call 39; exact hw'.call (hi _))
                 | (rw [hw'.cell hx0c hx0a]; dsimp only [Result.andThen]; rw [hw'.cell hx0c hx0b]; exact ⟨rfl, rfl⟩)
             clear hK K))
      refine wpQuiet_nil ?_
      intro w' hw'
      have hbwr := nx hb0 hw'
      replace hx0 := heap_keep hw' hx0
      clear hw' hb0 hx0a hx0b hx0c hx0f hx0g
      generalize w' = wr at *
      obtain ⟨hx0a, hx0b, hx0c⟩ := two_facts hx0
      go_wp2_with fail
      go_ret2
      exact ⟨rfl, hbwr⟩
    rw [show adO n d len = some ⟨(bitsL (adM n d len) len).toArray⟩ by unfold adO; rw [if_pos ⟨k, by omega, by omega, by omega, by rw [Int.toNat_natCast]; omega⟩]; simp]
    have hm9 := adM_lt k hl
    have hmv : (n : Int) * (((2 ^ len : Nat) : Int) / (d : Int)) = (adM n d len : Int) := by unfold adM; simp
    have hq : 2 ^ len / d ≤ 2 ^ len := Nat.div_le_self _ _
    have hqv : 0 ≤ ((2 ^ len : Nat) : Int) / (d : Int) ∧ ((2 ^ len : Nat) : Int) / (d : Int) ≤ 1024 := by rw [← Int.natCast_ediv]; exact ⟨Int.natCast_nonneg _, by omega⟩
    obtain ⟨hqa, hqb⟩ := hqv
    have hma : 0 ≤ (n : Int) * (((2 ^ len : Nat) : Int) / (d : Int)) ∧ (n : Int) * (((2 ^ len : Nat) : Int) / (d : Int)) ≤ 1024 := by rw [hmv]; omega
    obtain ⟨hmA, hmB⟩ := hma
    have HMV := Lib.hid hmv
    clear hmv hsh hq
    have hlt : ¬ IntKind.i64.wrap ((2 : Int) ^ len) < (d : Int) := by rw [hsw]; omega
    have hd0 : (d : Int) ≠ 0 := by omega
    clear k
    generalize 2 ^ len = P at *
    go_enter Try.func11, Try.ntmps11
    go_wp2_with fail
    have hb0 : Below w.heap.size w (w.alloc (.cells #[.int .i64 n, .int .i64 d] 26 (0, 0))) := nxAlloc (Below.refl _ _) _
    have hx0 := heap_alloc_at w (.cells #[.int .i64 n, .int .i64 d] 26 (0, 0))
    generalize (w.alloc (.cells #[.int .i64 n, .int .i64 d] 26 (0, 0))) = w0 at *
    obtain ⟨hx0a, hx0b, hx0c⟩ := two_facts hx0
    obtain ⟨hx0f, hx0g⟩ := two_frozen hx0
    refine wp_region_cls (by kernel_rfl) (by kernel_rfl) ?_
    repeat (
      refine wpQuiet_step (fun K hK => ?_)
      go_simp
      first
        | (refine hK _ ?_; clear hK K)
        | (refine ⟨_, fun _ _ => rfl, hK _ ?_⟩; clear hK K)
        | (apply Exists.intro
           refine ⟨fun w' hw' => ?_, hK _ ?_⟩
           · first
               | (rw [hw'.cell hx0c hx0a]; exact ⟨rfl, rfl⟩)
               | (rw [hw'.cell hx0c hx0b]; exact ⟨rfl, rfl⟩)
               | (go_at_call 38; exact hw'.call (hk _))
               | (go_at_call 39; exact hw'.call (hi _))
               | (rw [hw'.cell hx0c hx0a]; dsimp only [Result.andThen]; rw [hw'.cell hx0c hx0b]; exact ⟨rfl, rfl⟩)
           clear hK K))
    refine wpQuiet_nil ?_
    intro w' hw'
    have hbwr := nx hb0 hw'
    replace hx0 := heap_keep hw' hx0
    clear hw' hb0 hx0a hx0b hx0c hx0f hx0g
    generalize w' = wr at *
    obtain ⟨hx0a, hx0b, hx0c⟩ := two_facts hx0
    go_wp2_with fail
    go_quiet (fail)
    go_wp2_with fail
    obtain ⟨M, hM⟩ : ∃ M, M = adM n d len := ⟨_, rfl⟩
    rw [HMV.out, ← hM]
    rw [← hM] at hm9
    have HM := Lib.hid hM
    clear hM
    have hbq : Below w.heap.size w (wr.drewN nq) := drewB hbwr nq
    generalize wr.drewN nq = wq at *
    clear hx0 hx0a hx0b hx0c hbwr hk hi hnd hsw hp9 hp0 h2 hqa hqb hmA hmB hlt hd0 HMV n1 d1 d2 h0
    go_loopw [7, 8] (fun v i wx => ∃ j : Nat, j ≤ len ∧ i = .int .i64 ((len : Int) - 1 - j) ∧ v = .string ⟨((bitsL M len).take j).toArray⟩ ∧ Below w.heap.size w wx) (fun _ i _ => ((intOf i) + 1).toNat)
    case atStart => exact ⟨0, Nat.zero_le _, by simp, by simp, hbq⟩
    case round =>
      obtain ⟨j, hj, rfl, rfl, hbw⟩ := hrel
      by_cases hlt : j < len
      · have htk := bitsL_take (m := M) hlt
        obtain ⟨k, hk⟩ : ∃ k, len - 1 - j = k := ⟨_, rfl⟩
        have hki : (len : Int) - 1 - (j : Int) = (k : Int) := by omega
        rw [hki]
        rw [hk] at htk
        have hb2 : (UInt8.ofNat (48 + M / 2 ^ k % 2)).toNat = 48 + M / 2 ^ k % 2 := by rcases Nat.mod_two_eq_zero_or_one (M / 2 ^ k) with e | e <;> (rw [e]; rfl)
        have hval : wrap64 (48 + ((M : Int) / 2 ^ k).tmod 2) % 256 = ((UInt8.ofNat (48 + M / 2 ^ k % 2)).toNat : Int) := by
          rw [hb2, show ((M : Int) / 2 ^ k) = ((M / 2 ^ k : Nat) : Int) by simp, Int.tmod_eq_emod_of_nonneg (Int.natCast_nonneg _), show ((M / 2 ^ k : Nat) : Int) % 2 = ((M / 2 ^ k % 2 : Nat) : Int) by simp]
          rcases Nat.mod_two_eq_zero_or_one (M / 2 ^ k) with e | e <;> (rw [e]; decide +kernel)
        generalize UInt8.ofNat (48 + M / 2 ^ k % 2) = b at *
        have hconv : (convert 55 9 (.slice (some ⟨wr.heap.size, 0, none⟩) 1 1)).run Try.prog (wr.alloc (.cells #[.int .u8 (wrap64 (48 + ((M : Int) / 2 ^ k).tmod 2) % 256)] 5 (0, 0))) = .ok (.string ⟨[b].toArray⟩) (wr.alloc (.cells #[.int .u8 (wrap64 (48 + ((M : Int) / 2 ^ k).tmod 2) % 256)] 5 (0, 0))) := by
          rw [hval]
          exact run_convert_bytes_back (P := Try.prog) (wr.alloc (.cells #[.int .u8 (b.toNat : Int)] 5 (0, 0))) 55 9 5 ⟨wr.heap.size, 0, none⟩ 1 [b] Try.underlying55 Try.underlying5 Try.underlying9 (fun jj hjj => by
            obtain rfl : jj = 0 := by simpa using hjj
            exact new1 wr (.int .u8 (b.toNat : Int)) 5 0 _ rfl)
        have hnext : (⟨((bitsL M len).take j).toArray⟩ : ByteArray) ++ ⟨[b].toArray⟩ = ⟨((bitsL M len).take (j + 1)).toArray⟩ := by
          rw [htk]
          exact ba_ext (by simp)
        have HN := Lib.hid hnext
        have HT := Lib.hid hki
        clear hnext htk hval hb2 hki
        go_wp2_with fail
        go_roundw
        case rel => exact ⟨j + 1, by omega, (by have := HT.out; first | (congr 1; done) | (congr 1; omega)), by rw [← HN.out], nxAlloc hbw _⟩
        case measure => have := HT.out; first | (simp [intOf]; done) | (simp [intOf]; omega)
      · obtain rfl : j = len := by omega
        rw [List.take_of_length_le (by rw [bitsL_length]; omega)]
        go_wp2_with fail
        go_ret2
        have e := HM.out
        subst e
        exact ⟨rfl, hbw⟩

set_option maxRecDepth 100000 in
set_option maxHeartbeats 1000000 in
theorem fnExactAddressOf_walk (n0 : Int) (hn0 : (Lit.int .i64 n0).wf = true) (d0 : Int) (hd0 : (Lit.int .i64 d0).wf = true) (n1 : Int) (hn1 : (Lit.int .i64 n1).wf = true) (w : World) :
    Calls Try.prog 3 #[.agg #[.int .i64 n0, .int .i64 d0], .int .i64 n1] w fun e w' => e = .returned (.bool true) ∧ Below w.heap.size w w' := by
  obtain ⟨lon0, hin0⟩ := i64_bounds hn0
  obtain ⟨lod0, hid0⟩ := i64_bounds hd0
  obtain ⟨lo1, hi1⟩ := i64_bounds hn1
  have hS := fun w => specAddressOf_any n0 d0 n1 w lon0 hin0 lod0 hid0 lo1 hi1
  have hI := fun w => implAddressOf_any n0 d0 n1 w lon0 hin0 lod0 hid0 lo1 hi1
  have hS' : ∀ w, Calls Try.prog 11 #[.agg #[.int .i64 n0, .int .i64 d0], .int .i64 n1] w (Gives (ans2 (adO n0 d0 n1)) w) := hS
  have hI' : ∀ w, Calls Try.prog 13 #[.agg #[.int .i64 n0, .int .i64 d0], .int .i64 n1] w (Gives (ans2 (adO n0 d0 n1)) w) := hI
  clear hS hI
  generalize (adO n0 d0 n1) = o at hS' hI'
  unfold ans2 at hS' hI'
  go_enter Try.func3, Try.ntmps3
  go_wp2_with fail
  have hb0 : Below w.heap.size w (w.alloc (.cells #[.int .i64 n0, .int .i64 d0] 23 (0, 0))) := nxAlloc (Below.refl _ _) _
  have hx0 := heap_alloc_at w (.cells #[.int .i64 n0, .int .i64 d0] 23 (0, 0))
  generalize (w.alloc (.cells #[.int .i64 n0, .int .i64 d0] 23 (0, 0))) = w0 at *
  obtain ⟨ka0, kb0, kc0⟩ := two_facts hx0
  refine (toFraction_any n0 d0 _).mono ?_; rintro e w1 ⟨rfl, hb1⟩
  have hbw1 := nx hb0 hb1
  replace hx0 := heap_keep hb1 hx0
  clear ka0 kb0 kc0
  obtain ⟨ka0, kb0, kc0⟩ := two_facts hx0
  clear hb1 hb0
  go_wp2_with fail
  refine (hS' _).mono ?_; rintro e w2 ⟨rfl, hb2⟩
  have hbw2 := nx hbw1 hb2
  replace hx0 := heap_keep hb2 hx0
  clear ka0 kb0 kc0
  obtain ⟨ka0, kb0, kc0⟩ := two_facts hx0
  clear hb2 hbw1
  go_wp2_with fail
  refine (toFraction_any n0 d0 _).mono ?_; rintro e w3 ⟨rfl, hb3⟩
  have hbw3 := nx hbw2 hb3
  replace hx0 := heap_keep hb3 hx0
  clear ka0 kb0 kc0
  obtain ⟨ka0, kb0, kc0⟩ := two_facts hx0
  clear hb3 hbw2
  go_wp2_with fail
  refine (hI' _).mono ?_; rintro e w4 ⟨rfl, hb4⟩
  have hbw4 := nx hbw3 hb4
  replace hx0 := heap_keep hb4 hx0
  clear ka0 kb0 kc0
  obtain ⟨ka0, kb0, kc0⟩ := two_facts hx0
  clear hb4 hbw3
  go_wp2_with fail
  go_ret
  exact ⟨rfl, hbw4⟩
end Go.Proofs.Ytdhjchibhlcchaa
