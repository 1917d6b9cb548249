/- Walks: spec.mpOf. -/
import Derived.Test.YtdhjchibhlcchaaDoorFs1
namespace Go.Proofs.YtdhjchibhlcchaaDoor
open Go.RowKit

theorem num_steps {a : ByteArray} (h : a.size ≤ 10) (hb : a.data.toList.all isBit = true) :
    ∃ N : Nat → Nat, N 0 = 0 ∧ N a.size = numA a.data.toList ∧ (∀ k, k ≤ a.size → N k ≤ 1024) ∧ ∀ k (hk : k < a.size), ((a[k]'hk).toNat = 48 ∧ N (k + 1) = 2 * N k) ∨ ((a[k]'hk).toNat = 49 ∧ N (k + 1) = 2 * N k + 1) := by
  refine ⟨fun k => numA (a.data.toList.take k), by simp [numA], ?_, ?_, ?_⟩
  · show numA (a.data.toList.take a.data.toList.length) = _
    rw [List.take_length]
  · intro k hk
    have hk' : k ≤ a.data.toList.length := hk
    have h1 := numA_lt k (a.data.toList.take k) (by rw [List.length_take]; omega) (by rw [List.all_eq_true] at hb ⊢; exact fun x hx => hb x (List.mem_of_mem_take hx))
    have h2 : (2 : Nat) ^ k ≤ 2 ^ 10 := Nat.pow_le_pow_right (by omega) (by omega)
    show numA (a.data.toList.take k) ≤ 1024
    omega
  · intro k hk
    have hk' : k < a.data.toList.length := hk
    have e : (a[k]'hk) = a.data.toList[k]'hk' := by cases a; simp; rfl
    have hbk := isBit_nat ((List.all_eq_true.1 hb) _ (List.getElem_mem hk'))
    have eg : (a.data.toList.getD k 0) = a.data.toList[k]'hk' := getD_at hk'
    have hn := numA_take hk'
    rw [eg] at hn
    rw [e]
    show (_ ∧ numA (a.data.toList.take (k + 1)) = 2 * numA (a.data.toList.take k)) ∨ (_ ∧ numA (a.data.toList.take (k + 1)) = 2 * numA (a.data.toList.take k) + 1)
    omega

set_option maxHeartbeats 2000000 in
set_option maxRecDepth 100000 in
theorem mpOf_any (a : ByteArray) (w : World) (h : a.size ≤ 10) (hb : a.data.toList.all isBit = true) :
    Calls Tryd.prog 16 #[.string a] w (Gives (.agg #[.int .i64 (frOf (stA a)).1, .int .i64 (frOf (stA a)).2]) w) := by
  obtain ⟨N, h0, h1, h2, h3⟩ := num_steps h hb
  have hsh : wrap64 ((2 : Int) ^ a.size) = ((2 ^ a.size : Nat) : Int) := by
    rcases small_cases h with e | e | e | e | e | e | e | e | e | e | e <;> (rw [e]; decide +kernel)
  have hp : 2 ^ a.size ≤ 2 ^ 10 := Nat.pow_le_pow_right (by omega) h
  have hM := fun w => mpShort_any (N a.size) (2 ^ a.size) w (Nat.pow_pos (by omega)) (by have := h2 a.size (Nat.le_refl _); omega) (by omega)
  rw [← hsh] at hM
  clear hsh
  rw [stA_frOf (by omega), ← h1]
  generalize (shortN (N a.size) (2 ^ a.size)).1 = x1 at *
  generalize (shortN (N a.size) (2 ^ a.size)).2 = x2 at *
  have H3 := Lib.hid h3
  have H2 := Lib.hid h2
  have H0 := Lib.hid h0
  clear h0 h1 h2 h3 hb hp
  go_enter Tryd.func16, Tryd.ntmps16
  go_wp2_with fail
  have hb0 : Below w.heap.size w (w.alloc (.cells #[.int .i64 0, .int .i64 0] 23 (0, 0))) := nxAlloc (Below.refl _ _) _
  have hx0 := heap_alloc_at w (.cells #[.int .i64 0, .int .i64 0] 23 (0, 0))
  generalize (w.alloc (.cells #[.int .i64 0, .int .i64 0] 23 (0, 0))) = w0 at *
  obtain ⟨hx0a, hx0b, hx0c⟩ := two_facts hx0
  obtain ⟨hx0f, hx0g⟩ := two_frozen hx0
  go_loop [3, 4] (fun s i => ∃ k : Nat, k ≤ a.size ∧ i = .int .i64 k ∧ s = .int .i64 (N k)) (fun _ i => a.size - (intOf i).toNat)
  case atStart => exact ⟨0, Nat.zero_le _, rfl, by rw [H0.out]; rfl⟩
  case round =>
    obtain ⟨k, hk, rfl, rfl⟩ := hrel
    by_cases hlt : k < a.size
    · have hp := H2.out (k + 1) (by omega)
      have hq := H2.out k hk
      have h4 := H3.out k hlt
      rcases h4 with ⟨hx, hp'⟩ | ⟨hx, hp'⟩
      · have hv : (((a[k]'hlt).toNat : Nat) : Int) = 48 := by omega
        have HP := Lib.hid hp'
        clear hx hp'
        go_wp2_with fail
        go_round
        case rel => exact ⟨k + 1, by omega, by go_num, (by first | (rw [HP.out]; done) | (rw [HP.out]; go_num))⟩
        case measure => simp [intOf]; omega
      · have hv : (((a[k]'hlt).toNat : Nat) : Int) = 49 := by omega
        have HP := Lib.hid hp'
        clear hx hp'
        go_wp2_with fail
        go_round
        case rel => exact ⟨k + 1, by omega, by go_num, (by first | (rw [HP.out]; done) | (rw [HP.out]; go_num))⟩
        case measure => simp [intOf]; omega
    · obtain rfl : k = a.size := by omega
      go_wp2_with fail
      refine (hM _).mono ?_; rintro e w1 ⟨rfl, hb1⟩
      have hbw1 := nx hb0 hb1
      replace hx0 := heap_keep hb1 hx0
      clear hx0a hx0b hx0c hx0f hx0g
      obtain ⟨hx0a, hx0b, hx0c⟩ := two_facts hx0
      obtain ⟨hx0f, hx0g⟩ := two_frozen hx0
      clear hb1 hb0
      go_wp2_with fail
      obtain ⟨q1, q2⟩ := two_cells (set_two (.int .i64 x1) (.int .i64 x2) hx0)
      refine bodyPost_ret (v := .agg #[.int .i64 x1, .int .i64 x2]) (by simp [q1, q2, results, Tryd.results16, go_sem]) rfl ⟨rfl, ?_⟩
      exact (hbw1.setCell (by show w.heap.size ≤ w.heap.size; omega) _).setCell (by show w.heap.size ≤ w.heap.size; omega) _
end Go.Proofs.YtdhjchibhlcchaaDoor
