/- Walks: spec.l1Num. -/
import Derived.Test.YtlcepokenaiggabDoorRegF
import Derived.Test.YtlcepokenaiggabDoorRow
import Derived.Test.YtlcepokenaiggabDoorHeldW
import Derived.Test.YtlcepokenaiggabDoorTreeO
import Derived.Laws.IdiomStrings
import Derived.Lib.ItoaNum
namespace Go.Proofs.YtlcepokenaiggabDoor
open Go.RowKit

/-- The digits of a number. -/
def numT (n : Nat) : ByteArray := ⟨(Lib.decDigits n).toArray⟩
theorem numT_small {n : Nat} (h : n < 10) : numT n = ⟨#[UInt8.ofNat (48 + n)]⟩ := by
  unfold numT
  rw [Lib.decDigits, dif_pos h]
theorem numT_big {n : Nat} (h : ¬ n < 10) : numT n = numT (n / 10) ++ ⟨#[UInt8.ofNat (48 + n % 10)]⟩ := by
  unfold numT
  rw [Lib.decDigits, dif_neg h]
  exact ba_ext (by simp)
theorem numT_size (n : Nat) (h : n ≤ 9999) : (numT n).size ≤ 4 := by
  have b1 : ∀ d : UInt8, (⟨#[d]⟩ : ByteArray).size = 1 := fun _ => rfl
  by_cases h1 : n < 10
  · rw [numT_small h1, b1]; omega
  · rw [numT_big h1, ByteArray.size_append, b1]
    by_cases h2 : n / 10 < 10
    · rw [numT_small h2, b1]; omega
    · rw [numT_big h2, ByteArray.size_append, b1]
      by_cases h3 : n / 10 / 10 < 10
      · rw [numT_small h3, b1]; omega
      · rw [numT_big h3, ByteArray.size_append, b1, numT_small (by omega), b1]; omega
theorem digit_nat {n : Nat} (h : n < 10) : (UInt8.ofNat (48 + n)).toNat = 48 + n := by
  have : n = 0 ∨ n = 1 ∨ n = 2 ∨ n = 3 ∨ n = 4 ∨ n = 5 ∨ n = 6 ∨ n = 7 ∨ n = 8 ∨ n = 9 := by omega
  rcases this with e | e | e | e | e | e | e | e | e | e <;> (subst e; rfl)
theorem one_text (d : UInt8) (g : Nat) (w : World) (h : w.cell? ⟨g, 0, none⟩ = some (.int .u8 (d.toNat : Int))) :
    (convert 65 9 (.slice (some ⟨g, 0, none⟩) 1 1)).run Tryd.prog w = .ok (.string ⟨#[d]⟩) w :=
  run_convert_bytes_back (P := Tryd.prog) w 65 9 5 ⟨g, 0, none⟩ 1 [d] Tryd.underlying65 Tryd.underlying5 Tryd.underlying9 (fun jj hjj => by
    obtain rfl : jj = 0 := by simpa using hjj
    simpa [Addr.add] using h)
set_option maxRecDepth 100000 in
set_option maxHeartbeats 2000000 in
theorem l1Num_small (n : Nat) (w : World) (h : n < 10) : Calls Tryd.prog 46 #[.int .i64 n] w (Gives (.string (numT n)) w) := by
  rw [numT_small h]
  have hd := digit_nat h
  have hval : 48 + (n : Int) = ((UInt8.ofNat (48 + n)).toNat : Int) := by rw [hd]; omega
  have h' : (n : Int) < 10 := by omega
  generalize UInt8.ofNat (48 + n) = d at *
  have hconv := one_text d w.heap.size (w.alloc (.cells #[.int .u8 (d.toNat : Int)] 5 (0, 0))) (new1 w (.int .u8 (d.toNat : Int)) 5 0 _ rfl)
  rw [← hval] at hconv
  clear hd h hval
  go_enter Tryd.func46, Tryd.ntmps46
  go_wp2_with fail
  go_ret
  exact ⟨rfl, nxAlloc (Below.refl _ _) _⟩
set_option maxRecDepth 100000 in
set_option maxHeartbeats 4000000 in
theorem l1Num_any : ∀ (k n : Nat) (w : World), n ≤ k → n ≤ 9999 → Calls Tryd.prog 46 #[.int .i64 n] w (Gives (.string (numT n)) w) := by
  intro k
  induction k with
  | zero => intro n w h _; exact l1Num_small n w (by omega)
  | succ k ih =>
    intro n w hk h9
    by_cases h : n < 10
    · exact l1Num_small n w h
    · have hI := fun w => ih (n / 10) w (by omega) (by omega)
      rw [numT_big h]
      have hsz := numT_size (n / 10) (by omega)
      have hd := digit_nat (n := n % 10) (by omega)
      have hq : ((n / 10 : Nat) : Int) = IntKind.i64.wrap ((n : Int).tdiv 10) := by rw [Int.tdiv_eq_ediv_of_nonneg (by omega), IntKind.wrap_i64] <;> omega
      have hval : 48 + (n : Int) % 10 = ((UInt8.ofNat (48 + n % 10)).toNat : Int) := by rw [hd]; omega
      have hraw : IntKind.u8.wrap (IntKind.i64.wrap (48 + (n : Int).tmod 10)) = ((UInt8.ofNat (48 + n % 10)).toNat : Int) := by
        rw [← hval, Int.tmod_eq_emod_of_nonneg (by omega)]
        have e : IntKind.i64.wrap (48 + (n : Int) % 10) = 48 + (n : Int) % 10 := by rw [IntKind.wrap_i64] <;> omega
        rw [e, IntKind.wrap_u8]; omega
      rw [hq] at hI
      have h' : ¬ (n : Int) < 10 := by omega
      generalize numT (n / 10) = T at *
      generalize UInt8.ofNat (48 + n % 10) = d at *
      have hcv : ∀ (g : Nat) (w' : World), w'.cell? ⟨g, 0, none⟩ = some (.int .u8 (IntKind.u8.wrap (IntKind.i64.wrap (48 + (n : Int).tmod 10)))) → (convert 65 9 (.slice (some ⟨g, 0, none⟩) 1 1)).run Tryd.prog w' = .ok (.string ⟨#[d]⟩) w' := fun g w' h => one_text d g w' (by rw [← hraw]; exact h)
      have hadd : ¬ (9223372036854775807 < T.size + (⟨#[d]⟩ : ByteArray).size) := by rw [show (⟨#[d]⟩ : ByteArray).size = 1 from rfl]; omega
      have hadd2 : ¬ (9223372036854775807 < T.size + 1) := by omega
      clear hd h hk ih hq hval hraw
      go_enter Tryd.func46, Tryd.ntmps46
      go_wp2_with fail
      refine wp_region_held_drew (S := fun (_ : World) => True) (by kernel_rfl) trivial (fun hH0 => ?_)
      refine wpAnyH_take (i := 0) (oi := ?oi1) (v := ?vv1) ?hi1 ?hn1 ?hf1 ?hr1 ?hq1 (Or.inl ⟨?hg1, ?hy1⟩) hH0 ?rest1
      case hi1 => (simp only [List.getElem?_toArray, List.getElem?_cons_zero]; rfl)
      case hn1 => kernel_rfl
      case hf1 => kernel_rfl
      case hr1 => kernel_rfl
      case hg1 => rfl
      case hy1 => (intro w hSw; (try dsimp only at hSw); go_simp; first | done | with_reducible rfl)
      case hq1 => exact fun _ _ _ h => h
      try dsimp only [Act.put]
      refine wpAnyH_take (i := 1) (oi := ?oi2) (v := ?vv2) ?hi2 ?hn2 ?hf2 ?hr2 ?hq2 (Or.inl ⟨?hg2, ?hy2⟩) hH0 ?rest2
      case hi2 => (simp only [List.getElem?_toArray, List.getElem?_cons_succ, List.getElem?_cons_zero]; rfl)
      case hn2 => kernel_rfl
      case hf2 => kernel_rfl
      case hr2 => kernel_rfl
      case hg2 => rfl
      case hy2 => (intro w hSw; (try dsimp only at hSw); go_simp; first | done | with_reducible rfl)
      case hq2 => exact fun _ _ _ h => h
      try dsimp only [Act.put]
      refine wpAnyH_take (i := 3) (oi := ?oi3) (v := ?vv3) ?hi3 ?hn3 ?hf3 ?hr3 ?hq3 (Or.inl ⟨?hg3, ?hy3⟩) hH0 ?rest3
      case hi3 => (simp only [List.getElem?_toArray, List.getElem?_cons_succ, List.getElem?_cons_zero]; rfl)
      case hn3 => kernel_rfl
      case hf3 => kernel_rfl
      case hr3 => kernel_rfl
      case hg3 => rfl
      case hy3 => (intro w hSw; (try dsimp only at hSw); go_simp; first | done | with_reducible rfl)
      case hq3 => exact fun _ _ _ h => h
      try dsimp only [Act.put]
      refine wpAnyH_take (i := 4) (oi := ?oi4) (v := ?vv4) ?hi4 ?hn4 ?hf4 ?hr4 ?hq4 (Or.inl ⟨?hg4, ?hy4⟩) hH0 ?rest4
      case hi4 => (simp only [List.getElem?_toArray, List.getElem?_cons_succ, List.getElem?_cons_zero]; rfl)
      case hn4 => kernel_rfl
      case hf4 => kernel_rfl
      case hr4 => kernel_rfl
      case hg4 => rfl
      case hy4 => (intro w hSw; (try dsimp only at hSw); go_simp; first | done | with_reducible rfl)
      case hq4 => exact fun _ _ _ h => h
      try dsimp only [Act.put]
      refine wpAnyH_take (i := 5) (oi := ?oi5) (v := ?vv5) ?hi5 ?hn5 ?hf5 ?hr5 ?hq5 (Or.inl ⟨?hg5, ?hy5⟩) hH0 ?rest5
      case hi5 => (simp only [List.getElem?_toArray, List.getElem?_cons_succ, List.getElem?_cons_zero]; rfl)
      case hn5 => kernel_rfl
      case hf5 => kernel_rfl
      case hr5 => kernel_rfl
      case hg5 => rfl
      case hy5 => (intro w hSw; (try dsimp only at hSw); go_simp; first | done | with_reducible rfl)
      case hq5 => exact fun _ _ _ h => h
      try dsimp only [Act.put]
      refine wpAnyH_take (i := 6) (oi := ?oi6) (v := ?vv6) ?hi6 ?hn6 ?hf6 ?hr6 ?hq6 (Or.inl ⟨?hg6, ?hy6⟩) hH0 ?rest6
      case hi6 => (simp only [List.getElem?_toArray, List.getElem?_cons_succ, List.getElem?_cons_zero]; rfl)
      case hn6 => kernel_rfl
      case hf6 => kernel_rfl
      case hr6 => kernel_rfl
      case hg6 => rfl
      case hy6 => (intro w hSw; (try dsimp only at hSw); go_simp; first | done | with_reducible rfl)
      case hq6 => exact fun _ _ _ h => h
      try dsimp only [Act.put]
      refine held_two 2 7 rfl rfl (by kernel_rfl) (fun K hK => ?_) (fun K hK => ?_)
      · go_simp
        refine (hI _).mono ?_; rintro e w3 ⟨rfl, hb3⟩
        go_wp2_with fail
        have hb3' := nx (Below.refl w.heap.size w).drew hb3
        refine hK.out (fun (_ : World) => True) _ _ (fun _ h => h) trivial ?_
        clear hK K
        try dsimp only [Act.put]
        refine held_one 7 rfl (by kernel_rfl) (fun K hK => ?_)
        go_simp
        have hH1 : (w3.alloc (.cells #[(.int .u8 (IntKind.u8.wrap (IntKind.i64.wrap (48 + (n : Int).tmod 10))))] 5 (0, 0))).cell? ⟨w3.heap.size, 0, none⟩ = some (.int .u8 (IntKind.u8.wrap (IntKind.i64.wrap (48 + (n : Int).tmod 10)))) := new1 w3 (.int .u8 (IntKind.u8.wrap (IntKind.i64.wrap (48 + (n : Int).tmod 10)))) 5 0 _ rfl
        refine hK.out (fun (w' : World) => w'.cell? ⟨w3.heap.size, 0, none⟩ = some (.int .u8 (IntKind.u8.wrap (IntKind.i64.wrap (48 + (n : Int).tmod 10))))) _ _ (fun _ _ => trivial) hH1 ?_
        clear hK K
        try dsimp only [Act.put]
        refine wpAnyH_take (i := 8) (oi := ?oi20) (v := ?vv20) ?hi20 ?hn20 ?hf20 ?hr20 ?hq20 (Or.inl ⟨?hg20, ?hy20⟩) hH1 ?rest20
        case hi20 => (simp only [List.getElem?_toArray, List.getElem?_cons_succ, List.getElem?_cons_zero]; rfl)
        case hn20 => kernel_rfl
        case hf20 => kernel_rfl
        case hr20 => kernel_rfl
        case hg20 => rfl
        case hy20 => (intro w hSw; (try dsimp only at hSw); have hcw := hcv _ _ hSw; go_simp; first | done | with_reducible rfl)
        case hq20 => exact fun _ _ _ h => h
        try dsimp only [Act.put]
        refine wpAnyH_take (i := 9) (oi := ?oi21) (v := ?vv21) ?hi21 ?hn21 ?hf21 ?hr21 ?hq21 (Or.inl ⟨?hg21, ?hy21⟩) hH1 ?rest21
        case hi21 => (simp only [List.getElem?_toArray, List.getElem?_cons_succ, List.getElem?_cons_zero]; rfl)
        case hn21 => kernel_rfl
        case hf21 => kernel_rfl
        case hr21 => kernel_rfl
        case hg21 => rfl
        case hy21 => (intro w hSw; (try dsimp only at hSw); go_simp; first | done | with_reducible rfl)
        case hq21 => exact fun _ _ _ h => h
        try dsimp only [Act.put]
        refine wpAnyH_take (i := 10) (oi := ?oi22) (v := ?vv22) ?hi22 ?hn22 ?hf22 ?hr22 ?hq22 (Or.inl ⟨?hg22, ?hy22⟩) hH1 ?rest22
        case hi22 => (simp only [List.getElem?_toArray, List.getElem?_cons_succ, List.getElem?_cons_zero]; rfl)
        case hn22 => kernel_rfl
        case hf22 => kernel_rfl
        case hr22 => kernel_rfl
        case hg22 => rfl
        case hy22 => (intro w hSw; (try dsimp only at hSw); go_simp; first | done | with_reducible rfl)
        case hq22 => exact fun _ _ _ h => h
        try dsimp only [Act.put]
        refine wpAnyH_done (by kernel_rfl) ?_ _
        simp only [List.setIfInBounds_toArray, List.set_cons_zero, List.set_cons_succ]
        go_wp2_with fail
        go_ret
        exact ⟨rfl, nxAlloc hb3' _⟩
      · go_simp
        have hH1 : (w.alloc (.cells #[(.int .u8 (IntKind.u8.wrap (IntKind.i64.wrap (48 + (n : Int).tmod 10))))] 5 (0, 0))).drew.cell? ⟨w.heap.size, 0, none⟩ = some (.int .u8 (IntKind.u8.wrap (IntKind.i64.wrap (48 + (n : Int).tmod 10)))) := new1 w (.int .u8 (IntKind.u8.wrap (IntKind.i64.wrap (48 + (n : Int).tmod 10)))) 5 0 _ rfl
        refine hK.out (fun (w' : World) => w'.cell? ⟨w.heap.size, 0, none⟩ = some (.int .u8 (IntKind.u8.wrap (IntKind.i64.wrap (48 + (n : Int).tmod 10))))) _ _ (fun _ _ => trivial) hH1 ?_
        clear hK K
        try dsimp only [Act.put]
        refine wpAnyH_take (i := 8) (oi := ?oi30) (v := ?vv30) ?hi30 ?hn30 ?hf30 ?hr30 ?hq30 (Or.inl ⟨?hg30, ?hy30⟩) hH1 ?rest30
        case hi30 => (simp only [List.getElem?_toArray, List.getElem?_cons_succ, List.getElem?_cons_zero]; rfl)
        case hn30 => kernel_rfl
        case hf30 => kernel_rfl
        case hr30 => kernel_rfl
        case hg30 => rfl
        case hy30 => (intro w hSw; (try dsimp only at hSw); have hcw := hcv _ _ hSw; go_simp; first | done | with_reducible rfl)
        case hq30 => exact fun _ _ _ h => h
        try dsimp only [Act.put]
        refine held_one 2 rfl (by kernel_rfl) (fun K hK => ?_)
        go_simp
        refine (hI _).mono ?_; rintro e w3 ⟨rfl, hb3⟩
        go_wp2_with fail
        have hH2 := keep_cell hb3 hH1
        refine hK.out (fun (w' : World) => w'.cell? ⟨w.heap.size, 0, none⟩ = some (.int .u8 (IntKind.u8.wrap (IntKind.i64.wrap (48 + (n : Int).tmod 10))))) _ _ (fun _ h => h) hH2 ?_
        clear hK K
        try dsimp only [Act.put]
        refine wpAnyH_take (i := 9) (oi := ?oi31) (v := ?vv31) ?hi31 ?hn31 ?hf31 ?hr31 ?hq31 (Or.inl ⟨?hg31, ?hy31⟩) hH2 ?rest31
        case hi31 => (simp only [List.getElem?_toArray, List.getElem?_cons_succ, List.getElem?_cons_zero]; rfl)
        case hn31 => kernel_rfl
        case hf31 => kernel_rfl
        case hr31 => kernel_rfl
        case hg31 => rfl
        case hy31 => (intro w hSw; (try dsimp only at hSw); go_simp; first | done | with_reducible rfl)
        case hq31 => exact fun _ _ _ h => h
        try dsimp only [Act.put]
        refine wpAnyH_take (i := 10) (oi := ?oi32) (v := ?vv32) ?hi32 ?hn32 ?hf32 ?hr32 ?hq32 (Or.inl ⟨?hg32, ?hy32⟩) hH2 ?rest32
        case hi32 => (simp only [List.getElem?_toArray, List.getElem?_cons_succ, List.getElem?_cons_zero]; rfl)
        case hn32 => kernel_rfl
        case hf32 => kernel_rfl
        case hr32 => kernel_rfl
        case hg32 => rfl
        case hy32 => (intro w hSw; (try dsimp only at hSw); go_simp; first | done | with_reducible rfl)
        case hq32 => exact fun _ _ _ h => h
        try dsimp only [Act.put]
        refine wpAnyH_done (by kernel_rfl) ?_ _
        simp only [List.setIfInBounds_toArray, List.set_cons_zero, List.set_cons_succ]
        go_wp2_with fail
        go_ret
        exact ⟨rfl, nx (nxAlloc (Below.refl w.heap.size w) _).drew hb3⟩
end Go.Proofs.YtlcepokenaiggabDoor
