/- Texts that the claim needs, part 2. -/
import Derived.Test.YtgjdppegkoepfaaMgSlopesBeside0
import Derived.Deep.RegionHeld3
import Derived.Deep.AppendLies
import Derived.Lib.Bytealg
/-! Addr -/
namespace Go.Proofs.Ytgjdppegkoepfaa
open Go.RowKit

set_option maxRecDepth 100000 in
set_option maxHeartbeats 2000000 in
theorem trAddresses_any (t : Tr) : ∀ (here : ByteArray) (w : World), t.carets ≤ 60 → here.size + t.carets ≤ 1000 →
    Calls Try.prog 58 #[.string t.str, .string here] w (GivesTexts (t.addrs here) w) := by
  obtain ⟨i0, hi, hz0, hz1, hz2⟩ := info_parts info_str
  induction t with
  | lf =>
    intro here w ht hh
    go_enter Try.func58, Try.ntmps58
    go_wp2_with fail
    refine (trLeaf_any .lf _).mono ?_; rintro e w1 ⟨rfl, rfl⟩
    simp only [Tr.isLf]
    go_wp2_with fail
    go_ret
    exact ⟨_, 1, OwnS.one _ _, nxAlloc (Below.refl _ _) _, rfl⟩
  | nd l r ihl ihr =>
    intro here w ht hh
    have ht' : l.carets + r.carets + 1 ≤ 60 := ht
    have hh' : here.size + (l.carets + r.carets + 1) ≤ 1000 := hh
    have ll := addrs_length l (here ++ ⟨#[48]⟩)
    have lr := addrs_length r (here ++ ⟨#[49]⟩)
    obtain ⟨A, hA⟩ : ∃ A, A = l.addrs (here ++ ⟨#[48]⟩) := ⟨_, rfl⟩
    obtain ⟨B, hB⟩ : ∃ B, B = r.addrs (here ++ ⟨#[49]⟩) := ⟨_, rfl⟩
    have hC : (Tr.nd l r).addrs here = A ++ B := by rw [hA, hB]; rfl
    have s0 : (here ++ (⟨#[48]⟩ : ByteArray)).size = here.size + 1 := ByteArray.size_append
    have s1 : (here ++ (⟨#[49]⟩ : ByteArray)).size = here.size + 1 := ByteArray.size_append
    have jl := fun w => ihl (here ++ ⟨#[48]⟩) w (by omega) (by omega)
    have jr := fun w => ihr (here ++ ⟨#[49]⟩) w (by omega) (by omega)
    rw [← hA] at ll jl
    rw [← hB] at lr jr
    rw [hC]
    have hAn : A.length ≤ 61 := by omega
    have hBn : B.length ≤ 61 := by omega
    have hBp : 0 < B.length := by omega
    have hAp : 0 < A.length := by omega
    clear ihl ihr hA hB hC s0 s1 ll lr
    go_enter Try.func58, Try.ntmps58
    go_wp2_with fail
    refine (trLeaf_any (.nd l r) _).mono ?_; rintro e w1 ⟨rfl, rfl⟩
    simp only [Tr.isLf]
    go_wp2_with fail
    refine (trSides_any l r _ (by omega)).mono ?_; rintro e w1 ⟨rfl, hb1⟩
    go_wp2_with fail
    refine (jl _).mono ?_; rintro e w2 ⟨g1, cap1, own1, hb2, rfl⟩
    go_wp2_with fail
    refine (jr _).mono ?_; rintro e w3 ⟨g2, cap2, own2, hb3, rfl⟩
    have hown := (own1.keep hb3).mono hb1.size
    have hbw : Below w.heap.size w w3 := nx (nx hb1 hb2) hb3
    go_wp2_with (at_builtin; refine wpList_append_own _ rfl _ _ 72 rfl w.heap.size 9 i0 (.string ⟨#[]⟩) 1 16 Try.underlying72 hi hz0 hz1 hz2 rfl (by decide) _ _ _ rfl hown ⟨g2, 0, none⟩ B.length cap2 (B.map Value.string) rfl (by simp) (own2.news rfl) (oneS _) (by unfold maxLen; omega) (by omega) hbw.size ?_; intro v' w4 hown' hgrow hnn)
    have hbw' := below_app0 hbw hown (Nat.le_refl _) hgrow
    have hown1 := OwnS.app hown'
    obtain ⟨g, cap, hv⟩ := hown1.shape (by simp; omega)
    have HV := Lib.hid hv
    clear hown hown' hgrow hv hnn
    go_wp2_with fail
    go_ret
    exact ⟨g, cap, by rw [← HV.out]; exact hown1, hbw', by rw [← HV.out]; rfl⟩

set_option maxRecDepth 100000 in
set_option maxHeartbeats 4000000 in
theorem addressesFrom_any (t : Tr) : ∀ (b : Nat) (here : ByteArray) (w : World), NodeAt w t b → t.carets ≤ 60 → here.size + t.carets ≤ 1000 →
    Calls Try.prog 96 #[.pointer (some ⟨b, 0, none⟩), .string here] w (GivesTexts (t.addrs here) w) := by
  obtain ⟨i0, hi, hz0, hz1, hz2⟩ := info_parts info_str
  induction t with
  | lf =>
    intro b here w h ht hh
    have H := Lib.hid h
    clear h
    go_enter Try.func96, Try.ntmps96
    go_wp2_with fail
    refine (isLeaf_any .lf b _ H.out).mono ?_; rintro e w1 ⟨rfl, rfl⟩
    simp only [Tr.isLf]
    go_wp2_with fail
    go_ret
    exact ⟨_, 1, OwnS.one _ _, nxAlloc (Below.refl _ _) _, rfl⟩
  | nd l r ihl ihr =>
    intro b here w h ht hh
    have ht' : l.carets + r.carets + 1 ≤ 60 := ht
    have hh' : here.size + (l.carets + r.carets + 1) ≤ 1000 := hh
    have ll := addrs_length l (here ++ ⟨#[48]⟩)
    have lr := addrs_length r (here ++ ⟨#[49]⟩)
    obtain ⟨A, hA⟩ : ∃ A, A = l.addrs (here ++ ⟨#[48]⟩) := ⟨_, rfl⟩
    obtain ⟨B, hB⟩ : ∃ B, B = r.addrs (here ++ ⟨#[49]⟩) := ⟨_, rfl⟩
    have hC : (Tr.nd l r).addrs here = A ++ B := by rw [hA, hB]; rfl
    have s0 : (here ++ (⟨#[48]⟩ : ByteArray)).size = here.size + 1 := ByteArray.size_append
    have s1 : (here ++ (⟨#[49]⟩ : ByteArray)).size = here.size + 1 := ByteArray.size_append
    have jl := fun b w h => ihl b (here ++ ⟨#[48]⟩) w h (by omega) (by omega)
    have jr := fun b w h => ihr b (here ++ ⟨#[49]⟩) w h (by omega) (by omega)
    rw [← hA] at ll jl
    rw [← hB] at lr jr
    rw [hC]
    have hAn : A.length ≤ 61 := by omega
    have hBn : B.length ≤ 61 := by omega
    have hBp : 0 < B.length := by omega
    have hAp : 0 < A.length := by omega
    have H := Lib.hid h
    obtain ⟨bl, br, h, hl, hr⟩ := h
    have h1 := two_left h
    have h2 := two_right h
    have hb0 := Below.refl w.heap.size w
    have hz3 : (9223372036854775807 < here.size + 1) = False := eq_false (by omega)
    clear h ihl ihr hA hB hC s0 s1 ll lr
    go_enter Try.func96, Try.ntmps96
    go_wp2_with fail
    refine (isLeaf_any (.nd l r) b _ H.out).mono ?_; rintro e w1 ⟨rfl, rfl⟩
    simp only [Tr.isLf]
    go_wp2_with fail
    go_region_held3 (fun w' => w'.cell? ⟨b, 0, none⟩ = some (.pointer (some ⟨bl, 0, none⟩)) ∧ w'.cell? ⟨b, 1, none⟩ = some (.pointer (some ⟨br, 0, none⟩)))
      (first
        | exact ⟨h1, h2⟩
        | exact ⟨q1, q2⟩
        | exact ⟨s1, s2⟩
        | exact ⟨r1, r2⟩)
      (first
        | (go_at_call_of 96 (some (⟨bl, 0, none⟩ : Addr)); refine (jl bl _ ?_).mono ?_; exact hl.keep hb0.drew; rintro e w1 ⟨g1, cap1, own1, hb1, rfl⟩; have hb1' := nx hb0.drew hb1; obtain ⟨q1, q2⟩ := below_two hb1' h1 h2)
        | (go_at_call_of 96 (some (⟨br, 0, none⟩ : Addr)); refine (jr br _ ?_).mono ?_; exact hr.keep hb1'; rintro e w2 ⟨g2, cap2, own2, hb2, rfl⟩; have hb2' := nx hb1' hb2; obtain ⟨s1, s2⟩ := below_two hb2' h1 h2; have hown := (own1.keep hb2).mono hb0.drew.size)
        | (refine step_append_lies _ (by rfl) _ _ _ (by rfl) w.heap.size 9 i0 _ 1 16 Try.underlying72 hi hz0 hz1 hz2 rfl (by omega) (.slice (some ⟨g1, 0, none⟩) A.length cap1) A.length (A.map Value.string) (by rfl) hown ⟨g2, 0, none⟩ B.length cap2 (B.map Value.string) (by rfl) (by simp) (own2.news rfl) (oneS _) hBp (by unfold maxLen; omega) (by omega) hb2'.size w2.heap.size (by rfl) ?_; intro gg cap w3 hown1 hgrow hat hlt; have hb3 := below_app0 hb2' hown (Nat.le_refl _) hgrow; obtain ⟨r1, r2⟩ := below_two hb3 h1 h2))
    go_wp2_with fail
    go_ret
    exact ⟨gg, cap, by rw [List.length_append]; exact OwnS.app hown1, hb3, by rw [List.length_append]; rfl⟩
end Go.Proofs.Ytgjdppegkoepfaa

/-! Fs2 -/
namespace Go.Proofs.Ytgjdppegkoepfaa
open Go.RowKit

theorem num_steps {a : ByteArray} (h : a.size ≤ 10) (hb : a.data.toList.all isBit = true) :
    ∃ N : Nat → Nat, N 0 = 0 ∧ N a.size = numA a.data.toList ∧ (∀ k, k ≤ a.size → N k ≤ 1024) ∧ ∀ k (hk : k < a.size), ((a[k]'hk).toNat = 48 ∧ N (k + 1) = 2 * N k) ∨ ((a[k]'hk).toNat = 49 ∧ N (k + 1) = 2 * N k + 1) := by
  refine ⟨fun k => numA (a.data.toList.take k), by simp [numA], ?_, ?_, ?_⟩
  · show numA (a.data.toList.take a.data.toList.length) = _
    rw [List.take_length]
  · intro k hk
    have hk' : k ≤ a.data.toList.length := hk
    have h1 := numA_lt k (a.data.toList.take k) (by rw [List.length_take]; omega) (by rw [List.all_eq_true] at hb ⊢; exact fun x hx => hb x (List.mem_of_mem_take hx))
    have h2 : (2 : Nat) ^ k ≤ 2 ^ 10 := Nat.pow_le_pow_right (by omega) (by omega)
    show numA (a.data.toList.take k) ≤ 1024
    omega
  · intro k hk
    have hk' : k < a.data.toList.length := hk
    have e : (a[k]'hk) = a.data.toList[k]'hk' := by cases a; simp; rfl
    have hbk := isBit_nat ((List.all_eq_true.1 hb) _ (List.getElem_mem hk'))
    have eg : (a.data.toList.getD k 0) = a.data.toList[k]'hk' := getD_at hk'
    have hn := numA_take hk'
    rw [eg] at hn
    rw [e]
    show (_ ∧ numA (a.data.toList.take (k + 1)) = 2 * numA (a.data.toList.take k)) ∨ (_ ∧ numA (a.data.toList.take (k + 1)) = 2 * numA (a.data.toList.take k) + 1)
    omega

set_option maxHeartbeats 2000000 in
set_option maxRecDepth 100000 in
theorem mpOf_any (a : ByteArray) (w : World) (h : a.size ≤ 10) (hb : a.data.toList.all isBit = true) :
    Calls Try.prog 59 #[.string a] w (Gives (.agg #[.int .i64 (frOf (stA a)).1, .int .i64 (frOf (stA a)).2]) w) := by
  obtain ⟨N, h0, h1, h2, h3⟩ := num_steps h hb
  have hsh : wrap64 ((2 : Int) ^ a.size) = ((2 ^ a.size : Nat) : Int) := by
    rcases small_cases h with e | e | e | e | e | e | e | e | e | e | e <;> (rw [e]; decide +kernel)
  have hp : 2 ^ a.size ≤ 2 ^ 10 := Nat.pow_le_pow_right (by omega) h
  have hM := fun w => mpShort_any (N a.size) (2 ^ a.size) w (Nat.pow_pos (by omega)) (by have := h2 a.size (Nat.le_refl _); omega) (by omega)
  rw [← hsh] at hM
  clear hsh
  rw [stA_frOf (by omega), ← h1]
  generalize (shortN (N a.size) (2 ^ a.size)).1 = x1 at *
  generalize (shortN (N a.size) (2 ^ a.size)).2 = x2 at *
  have H3 := Lib.hid h3
  have H2 := Lib.hid h2
  have H0 := Lib.hid h0
  clear h0 h1 h2 h3 hb hp
  go_enter Try.func59, Try.ntmps59
  go_wp2_with fail
  have hb0 : Below w.heap.size w (w.alloc (.cells #[.int .i64 0, .int .i64 0] 45 (0, 0))) := nxAlloc (Below.refl _ _) _
  have hx0 := heap_alloc_at w (.cells #[.int .i64 0, .int .i64 0] 45 (0, 0))
  generalize (w.alloc (.cells #[.int .i64 0, .int .i64 0] 45 (0, 0))) = w0 at *
  obtain ⟨hx0a, hx0b, hx0c⟩ := two_facts hx0
  obtain ⟨hx0f, hx0g⟩ := two_frozen hx0
  go_loop [3, 4] (fun s i => ∃ k : Nat, k ≤ a.size ∧ i = .int .i64 k ∧ s = .int .i64 (N k)) (fun _ i => a.size - (intOf i).toNat)
  case atStart => exact ⟨0, Nat.zero_le _, rfl, by rw [H0.out]; rfl⟩
  case round =>
    obtain ⟨k, hk, rfl, rfl⟩ := hrel
    by_cases hlt : k < a.size
    · have hp := H2.out (k + 1) (by omega)
      have hq := H2.out k hk
      have h4 := H3.out k hlt
      rcases h4 with ⟨hx, hp'⟩ | ⟨hx, hp'⟩
      · have hv : (((a[k]'hlt).toNat : Nat) : Int) = 48 := by omega
        have HP := Lib.hid hp'
        clear hx hp'
        go_wp2_with fail
        go_round
        case rel => exact ⟨k + 1, by omega, by go_num, (by first | (rw [HP.out]; done) | (rw [HP.out]; go_num))⟩
        case measure => simp [intOf]; omega
      · have hv : (((a[k]'hlt).toNat : Nat) : Int) = 49 := by omega
        have HP := Lib.hid hp'
        clear hx hp'
        go_wp2_with fail
        go_round
        case rel => exact ⟨k + 1, by omega, by go_num, (by first | (rw [HP.out]; done) | (rw [HP.out]; go_num))⟩
        case measure => simp [intOf]; omega
    · obtain rfl : k = a.size := by omega
      go_wp2_with fail
      refine (hM _).mono ?_; rintro e w1 ⟨rfl, hb1⟩
      have hbw1 := nx hb0 hb1
      replace hx0 := heap_keep hb1 hx0
      clear hx0a hx0b hx0c hx0f hx0g
      obtain ⟨hx0a, hx0b, hx0c⟩ := two_facts hx0
      obtain ⟨hx0f, hx0g⟩ := two_frozen hx0
      clear hb1 hb0
      go_wp2_with fail
      obtain ⟨q1, q2⟩ := two_cells (set_two (.int .i64 x1) (.int .i64 x2) hx0)
      refine bodyPost_ret (v := .agg #[.int .i64 x1, .int .i64 x2]) (by simp [q1, q2, results, Try.results59, go_sem]) rfl ⟨rfl, ?_⟩
      exact (hbw1.setCell (by show w.heap.size ≤ w.heap.size; omega) _).setCell (by show w.heap.size ≤ w.heap.size; omega) _
end Go.Proofs.Ytgjdppegkoepfaa

/-! Fr3 -/
namespace Go.Proofs.Ytgjdppegkoepfaa
open Go.RowKit

def pop1 (d : Int) : Int := IntKind.u64.wrap (bits BinOp.and IntKind.u64 (d / 2) 6148914691236517205 + bits BinOp.and IntKind.u64 d 6148914691236517205)
def pop2 (x : Int) : Int := IntKind.u64.wrap (bits BinOp.and IntKind.u64 (x / 4) 3689348814741910323 + bits BinOp.and IntKind.u64 x 3689348814741910323)
def pop3 (x : Int) : Int := bits BinOp.and IntKind.u64 (IntKind.u64.wrap (x / 16 + x)) 1085102592571150095
def pop4 (x : Int) : Int := IntKind.u64.wrap (x + x / 256)
def pop5 (x : Int) : Int := IntKind.u64.wrap (x + x / 65536)
def pop6 (x : Int) : Int := IntKind.u64.wrap (x + x / 4294967296)
/-- How many ones, as math/bits counts them. -/
def pop (d : Int) : Int := bits BinOp.and IntKind.i64 (wrap64 (pop6 (pop5 (pop4 (pop3 (pop2 (pop1 d))))))) 127
set_option maxRecDepth 100000 in
theorem pop_isP2 : ∀ d : Fin 1025, 0 < d.val → ((pop (d.val : Int) == 1) = isP2 (d.val : Int)) := by decide +kernel
theorem pop_ne {d : Int} (h0 : 1 ≤ d) (h1 : d ≤ 1024) : (pop d != 1) = !isP2 d := by
  have := pop_isP2 ⟨d.toNat, by omega⟩ (by show 0 < d.toNat; omega)
  have e : ((d.toNat : Nat) : Int) = d := by omega
  simp only [e] at this
  rw [bne, this]

set_option maxHeartbeats 2000000 in
theorem onesCount64_any (d : Int) (w : World) (_h0 : 1 ≤ d) (_h : d ≤ 1024) :
    Calls Try.prog 128 #[.int .u64 d] w (Gives (.int .i64 (pop d)) w) := by
  go_enter Try.func128, Try.ntmps128
  go_wp2_with fail
  go_ret
  refine ⟨ret_int ?_, Below.refl _ _⟩
  rfl
set_option maxHeartbeats 2000000 in
theorem onesCount_any (d : Int) (w : World) (h0 : 1 ≤ d) (h : d ≤ 1024) :
    Calls Try.prog 100 #[.int .u64 d] w (Gives (.int .i64 (pop d)) w) := by
  have ho := fun w => onesCount64_any d w h0 h
  generalize pop d = r at *
  go_enter Try.func100, Try.ntmps100
  go_wp2_with fail
  refine (ho _).mono ?_; rintro e w1 ⟨rfl, hb1⟩
  go_wp2_with fail
  go_ret
  exact ⟨rfl, hb1⟩

set_option maxHeartbeats 2000000 in
theorem isFraction_any (n d : Int) (w : World) :
    Calls Try.prog 73 #[.agg #[.int .i64 n, .int .i64 d]] w (Gives (.bool (isFr n d)) w) := by
  by_cases h1 : d < 1
  · have e : isFr n d = false := by rw [Bool.eq_false_iff, Ne, isFr_iff]; intro h; have := isP2_bounds h.1; omega
    rw [e]
    clear e
    go_enter Try.func73, Try.ntmps73
    go_wp2_with fail
    have hb0 : Below w.heap.size w (w.alloc (.cells #[.int .i64 n, .int .i64 d] 45 (0, 0))) := nxAlloc (Below.refl _ _) _
    have hx0 := heap_alloc_at w (.cells #[.int .i64 n, .int .i64 d] 45 (0, 0))
    generalize (w.alloc (.cells #[.int .i64 n, .int .i64 d] 45 (0, 0))) = w0 at *
    obtain ⟨hx0a, hx0b, hx0c⟩ := two_facts hx0
    obtain ⟨hx0f, hx0g⟩ := two_frozen hx0
    go_ret
    exact ⟨rfl, hb0⟩
  · by_cases h2 : 1024 < d
    · have e : isFr n d = false := by rw [Bool.eq_false_iff, Ne, isFr_iff]; intro h; have := isP2_bounds h.1; omega
      rw [e]
      clear e
      go_enter Try.func73, Try.ntmps73
      go_wp2_with fail
      have hb0 : Below w.heap.size w (w.alloc (.cells #[.int .i64 n, .int .i64 d] 45 (0, 0))) := nxAlloc (Below.refl _ _) _
      have hx0 := heap_alloc_at w (.cells #[.int .i64 n, .int .i64 d] 45 (0, 0))
      generalize (w.alloc (.cells #[.int .i64 n, .int .i64 d] 45 (0, 0))) = w0 at *
      obtain ⟨hx0a, hx0b, hx0c⟩ := two_facts hx0
      obtain ⟨hx0f, hx0g⟩ := two_frozen hx0
      go_ret
      exact ⟨rfl, hb0⟩
    · have hp := pop_ne (d := d) (by omega) (by omega)
      have ho := fun w => onesCount_any d w (by omega) (by omega)
      cases hq : isP2 d with
      | false =>
        rw [hq] at hp
        have hp' : (pop d != 1) = true := hp
        have e : isFr n d = false := by unfold isFr; rw [hq]; rfl
        rw [e]
        clear e hp hq
        generalize pop d = r at *
        go_enter Try.func73, Try.ntmps73
        go_wp2_with fail
        have hb0 : Below w.heap.size w (w.alloc (.cells #[.int .i64 n, .int .i64 d] 45 (0, 0))) := nxAlloc (Below.refl _ _) _
        have hx0 := heap_alloc_at w (.cells #[.int .i64 n, .int .i64 d] 45 (0, 0))
        generalize (w.alloc (.cells #[.int .i64 n, .int .i64 d] 45 (0, 0))) = w0 at *
        obtain ⟨hx0a, hx0b, hx0c⟩ := two_facts hx0
        obtain ⟨hx0f, hx0g⟩ := two_frozen hx0
        refine (ho _).mono ?_; rintro e w1 ⟨rfl, hb1⟩
        have hbw1 := nx hb0 hb1
        replace hx0 := heap_keep hb1 hx0
        clear hx0a hx0b hx0c hx0f hx0g
        obtain ⟨hx0a, hx0b, hx0c⟩ := two_facts hx0
        obtain ⟨hx0f, hx0g⟩ := two_frozen hx0
        clear hb1 hb0
        go_wp2_with fail
        go_ret
        exact ⟨rfl, hbw1⟩
      | true =>
        rw [hq] at hp
        have hp' : (pop d != 1) = false := hp
        obtain ⟨R, hR⟩ : ∃ R, R = isFr n d := ⟨_, rfl⟩
        rw [← hR]
        have e : isFr n d = (decide (0 ≤ n) && (decide (n ≤ d) && (decide (d = 1) || decide (n % 2 = 1)))) := by unfold isFr; rw [hq, Bool.true_and]
        rw [e] at hR
        clear e hp hq
        generalize pop d = r at *
        by_cases h3 : 0 ≤ n
        · by_cases h4 : n ≤ d
          · rw [decide_eq_true h3, decide_eq_true h4, Bool.true_and, Bool.true_and] at hR
            by_cases hd : d = 1
            · have hd0 : (d == 1) = true := by rw [beq_iff_eq]; exact hd
              rw [decide_eq_true hd, Bool.true_or] at hR
              have HR := Lib.hid hR
              clear hd hR
              go_enter Try.func73, Try.ntmps73
              go_wp2_with fail
              have hb0 : Below w.heap.size w (w.alloc (.cells #[.int .i64 n, .int .i64 d] 45 (0, 0))) := nxAlloc (Below.refl _ _) _
              have hx0 := heap_alloc_at w (.cells #[.int .i64 n, .int .i64 d] 45 (0, 0))
              generalize (w.alloc (.cells #[.int .i64 n, .int .i64 d] 45 (0, 0))) = w0 at *
              obtain ⟨hx0a, hx0b, hx0c⟩ := two_facts hx0
              obtain ⟨hx0f, hx0g⟩ := two_frozen hx0
              refine (ho _).mono ?_; rintro e w1 ⟨rfl, hb1⟩
              have hbw1 := nx hb0 hb1
              replace hx0 := heap_keep hb1 hx0
              clear hx0a hx0b hx0c hx0f hx0g
              obtain ⟨hx0a, hx0b, hx0c⟩ := two_facts hx0
              obtain ⟨hx0f, hx0g⟩ := two_frozen hx0
              clear hb1 hb0
              go_wp2_with fail
              go_ret
              refine ⟨ret_bool ?_, hbw1⟩
              first | (rw [HR.out]; done) | (rw [HR.out]; rfl)
            · have hd0 : (d == 1) = false := by rw [beq_eq_false_iff_ne]; exact hd
              rw [decide_eq_false hd, Bool.false_or] at hR
              have HR := Lib.hid hR
              clear hd hR
              go_enter Try.func73, Try.ntmps73
              go_wp2_with fail
              have hb0 : Below w.heap.size w (w.alloc (.cells #[.int .i64 n, .int .i64 d] 45 (0, 0))) := nxAlloc (Below.refl _ _) _
              have hx0 := heap_alloc_at w (.cells #[.int .i64 n, .int .i64 d] 45 (0, 0))
              generalize (w.alloc (.cells #[.int .i64 n, .int .i64 d] 45 (0, 0))) = w0 at *
              obtain ⟨hx0a, hx0b, hx0c⟩ := two_facts hx0
              obtain ⟨hx0f, hx0g⟩ := two_frozen hx0
              refine (ho _).mono ?_; rintro e w1 ⟨rfl, hb1⟩
              have hbw1 := nx hb0 hb1
              replace hx0 := heap_keep hb1 hx0
              clear hx0a hx0b hx0c hx0f hx0g
              obtain ⟨hx0a, hx0b, hx0c⟩ := two_facts hx0
              obtain ⟨hx0f, hx0g⟩ := two_frozen hx0
              clear hb1 hb0
              go_wp2_with fail
              go_ret
              refine ⟨ret_bool ?_, hbw1⟩
              first | (rw [HR.out]; done) | (rw [HR.out]; rfl)
          · rw [decide_eq_false h4, Bool.false_and, Bool.and_false] at hR
            have HR := Lib.hid hR
            clear hR
            go_enter Try.func73, Try.ntmps73
            go_wp2_with fail
            have hb0 : Below w.heap.size w (w.alloc (.cells #[.int .i64 n, .int .i64 d] 45 (0, 0))) := nxAlloc (Below.refl _ _) _
            have hx0 := heap_alloc_at w (.cells #[.int .i64 n, .int .i64 d] 45 (0, 0))
            generalize (w.alloc (.cells #[.int .i64 n, .int .i64 d] 45 (0, 0))) = w0 at *
            obtain ⟨hx0a, hx0b, hx0c⟩ := two_facts hx0
            obtain ⟨hx0f, hx0g⟩ := two_frozen hx0
            refine (ho _).mono ?_; rintro e w1 ⟨rfl, hb1⟩
            have hbw1 := nx hb0 hb1
            replace hx0 := heap_keep hb1 hx0
            clear hx0a hx0b hx0c hx0f hx0g
            obtain ⟨hx0a, hx0b, hx0c⟩ := two_facts hx0
            obtain ⟨hx0f, hx0g⟩ := two_frozen hx0
            clear hb1 hb0
            go_wp2_with fail
            go_ret
            refine ⟨ret_bool ?_, hbw1⟩
            first | (rw [HR.out]; done) | (rw [HR.out]; rfl)
        · rw [decide_eq_false h3, Bool.false_and] at hR
          have HR := Lib.hid hR
          clear hR
          go_enter Try.func73, Try.ntmps73
          go_wp2_with fail
          have hb0 : Below w.heap.size w (w.alloc (.cells #[.int .i64 n, .int .i64 d] 45 (0, 0))) := nxAlloc (Below.refl _ _) _
          have hx0 := heap_alloc_at w (.cells #[.int .i64 n, .int .i64 d] 45 (0, 0))
          generalize (w.alloc (.cells #[.int .i64 n, .int .i64 d] 45 (0, 0))) = w0 at *
          obtain ⟨hx0a, hx0b, hx0c⟩ := two_facts hx0
          obtain ⟨hx0f, hx0g⟩ := two_frozen hx0
          refine (ho _).mono ?_; rintro e w1 ⟨rfl, hb1⟩
          have hbw1 := nx hb0 hb1
          replace hx0 := heap_keep hb1 hx0
          clear hx0a hx0b hx0c hx0f hx0g
          obtain ⟨hx0a, hx0b, hx0c⟩ := two_facts hx0
          obtain ⟨hx0f, hx0g⟩ := two_frozen hx0
          clear hb1 hb0
          go_wp2_with fail
          go_ret
          refine ⟨ret_bool ?_, hbw1⟩
          first | (rw [HR.out]; done) | (rw [HR.out]; rfl)
end Go.Proofs.Ytgjdppegkoepfaa

/-! Fr4 -/
namespace Go.Proofs.Ytgjdppegkoepfaa
open Go.RowKit

theorem pow_even {j : Nat} (h : 1 < 2 ^ j) : ∃ i, 2 ^ j = 2 * 2 ^ i ∧ i < j := by
  cases j with
  | zero => simp at h
  | succ i => exact ⟨i, by rw [Nat.pow_succ]; omega, by omega⟩
theorem half_step {W n s p : Nat} (h : n * W = s * (2 * p)) (hev : n % 2 = 0) : n / 2 * W = s * p := by
  obtain ⟨m, rfl⟩ : ∃ m, n = 2 * m := ⟨n / 2, by omega⟩
  have e : 2 * m / 2 = m := by omega
  rw [e]
  refine Nat.eq_of_mul_eq_mul_left (show 0 < 2 by omega) ?_
  rw [← Nat.mul_assoc, h]
  ac_rfl
theorem frA_end {s n d j : Nat} (h : n * 1048576 = s * d) (hd : d = 2 ^ j) (ho : ¬ 1 < d ∨ n % 2 = 1) : frA s = if isFr n d = true then some (n, d) else none := by
  have hp : 0 < d := by rw [hd]; exact Nat.pow_pos (by omega)
  have e : frOf s = (n, d) := by
    rw [frOf_even h hp]
    apply short_self
    rcases ho with ho | ho
    · obtain rfl : d = 1 := by omega
      exact Nat.gcd_one_right _
    · rw [hd]; exact gcd_odd_pow ho j
  unfold frA
  rw [e]
set_option maxHeartbeats 2000000 in
theorem steps_any (n d : Nat) (w : World) (h : isFr n d = true) :
    Calls Try.prog 70 #[.agg #[.int .i64 n, .int .i64 d]] w (Gives (.int .i64 (stepsOf n d)) w) := by
  obtain ⟨h1, h2, h3, h4⟩ := isFr_iff.1 h
  obtain ⟨k1, k2, k3⟩ := steps_le h
  generalize stepsOf n d = s at *
  have HK := Lib.hid k3
  clear h4 k1 k2 k3 h
  rcases isP2_mem.1 h1 with e | e | e | e | e | e | e | e | e | e | e <;>
    (have e' := congrArg Int.toNat e
     simp at e'
     subst e'
     clear e h1
     go_enter Try.func70, Try.ntmps70
     go_wp2_with fail
     go_quiet (fail)
     go_wp2_with fail
     go_ret
     have := HK.out
     simp at this
     exact ⟨ret_int (by omega), drewB (nxAlloc (Below.refl _ _) _) _⟩)

set_option maxHeartbeats 2000000 in
theorem fractionAt_any (s : Nat) (w : World) (hs : (s : Int) ≤ 4611686018427387904) :
    Calls Try.prog 101 #[.int .i64 s] w (Gives (ansF (frA s)) w) := by
  go_enter Try.func101, Try.ntmps101
  go_wp2_with fail
  have hb0 : Below w.heap.size w ((w.alloc (.cells #[.int .i64 0, .int .i64 0] 45 (0, 0))).alloc (.cells #[.int .i64 s, .int .i64 1048576] 45 (0, 0))) := nxAlloc (nxAlloc (Below.refl _ _) _) _
  have hx0 := heap_keep (nxAlloc (Below.refl _ _) (.cells #[.int .i64 s, .int .i64 1048576] 45 (0, 0))) (heap_alloc_at w (.cells #[.int .i64 0, .int .i64 0] 45 (0, 0)))
  have hx1 := heap_alloc_at (w.alloc (.cells #[.int .i64 0, .int .i64 0] 45 (0, 0))) (.cells #[.int .i64 s, .int .i64 1048576] 45 (0, 0))
  generalize ((w.alloc (.cells #[.int .i64 0, .int .i64 0] 45 (0, 0))).alloc (.cells #[.int .i64 s, .int .i64 1048576] 45 (0, 0))) = w0 at *
  have e1 : (w.alloc (.cells #[.int .i64 0, .int .i64 0] 45 (0, 0))).heap.size = w.heap.size + 1 := by simp
  rw [e1] at hx1
  clear e1
  obtain ⟨hx0a, hx0b, hx0c⟩ := two_facts hx0
  obtain ⟨hx0f, hx0g⟩ := two_frozen hx0
  obtain ⟨hx1a, hx1b, hx1c⟩ := two_facts hx1
  obtain ⟨hx1f, hx1g⟩ := two_frozen hx1
  clear hx0a hx0b hx0c hx0f hx0g hx1a hx1b hx1c hx1f hx1g
  go_loopw [] (fun wr => ∃ n d j : Nat, wr.heap[w.heap.size + 1]? = some (.cells #[.int .i64 n, .int .i64 d] 45 (0, 0)) ∧ wr.heap[w.heap.size]? = some (.cells #[.int .i64 0, .int .i64 0] 45 (0, 0)) ∧ Below w.heap.size w wr ∧ (n : Int) ≤ 4611686018427387904 ∧ d = 2 ^ j ∧ j ≤ 20 ∧ Hid (n * 1048576 = s * d)) (fun wr => (intOf ((wr.cell? ⟨w.heap.size + 1, 1, none⟩).getD undef)).toNat)
  case atStart => exact ⟨s, 1048576, 20, hx1, hx0, hb0, hs, rfl, by omega, rfl⟩
  case round =>
    obtain ⟨n, d, j, hx1, hx0, hbw, hn, hd, hj, he⟩ := hrel
    obtain ⟨ka, kb, kc⟩ := two_facts hx1
    obtain ⟨kf, kg⟩ := two_frozen hx1
    have hdl : d ≤ 2 ^ 20 := by rw [hd]; exact Nat.pow_le_pow_right (by omega) hj
    have HJ := Lib.hid hd
    clear hd
    by_cases hlt : 1 < d
    · obtain ⟨i, hi1, hi2⟩ := pow_even (j := j) (by have := HJ.out; omega)
      have hd2 : d = 2 * 2 ^ i := by rw [HJ.out, hi1]
      have hdh : d / 2 = 2 ^ i := by omega
      have HD2 := Lib.hid hd2
      have HDH := Lib.hid hdh
      clear hi1 hd2 hdh
      by_cases hev : n % 2 = 0
      · go_wp2_with fail
        go_roundw
        case rel =>
          refine ⟨n / 2, d / 2, i, set_two _ _ hx1, (Below.heap_setCell _ _ _ _ (by show w.heap.size ≠ w.heap.size + 1; omega)).trans ((Below.heap_setCell _ _ _ _ (by show w.heap.size ≠ w.heap.size + 1; omega)).trans hx0), (hbw.setCell (by show w.heap.size ≤ w.heap.size + 1; omega) _).setCell (by show w.heap.size ≤ w.heap.size + 1; omega) _, by omega, HDH.out, by omega, ?_⟩
          have h1 := he.out
          rw [HD2.out] at h1
          have h2 := half_step h1 hev
          rw [← HDH.out] at h2
          exact h2
        case measure =>
          have c1 := (two_cells (set_two (.int .i64 ((n : Int) / 2)) (.int .i64 ((d : Int) / 2)) hx1)).2
          rw [c1, kb]
          simp [intOf]
          omega
      · have hA := frA_end he.out HJ.out (.inr (by omega))
        have hg := fun w => isFraction_any n d w
        cases hf : isFr n d with
        | false =>
          rw [hf] at hg hA
          rw [if_neg (by simp)] at hA
          have HA := Lib.hid hA
          clear hA hf he
          go_wp2_with fail
          refine (hg _).mono ?_; rintro e w1 ⟨rfl, hb1⟩
          have hx0' := heap_keep hb1 hx0
          have hbw1 := nx hbw hb1
          obtain ⟨q3, q4⟩ := two_frozen hx0'
          obtain ⟨q5, q6, q7⟩ := two_facts hx0'
          go_wp2_with fail
          rw [HA.out]
          obtain ⟨q1, q2⟩ := two_cells (set_two (.int .i64 0) (.int .i64 0) hx0')
          refine bodyPost_ret (v := .tuple #[.agg #[.int .i64 0, .int .i64 0], .bool false]) (by simp [q1, q2, results, Try.results101, go_sem]) rfl ⟨rfl, ?_⟩
          exact (hbw1.setCell (by show w.heap.size ≤ w.heap.size; omega) _).setCell (by show w.heap.size ≤ w.heap.size; omega) _
        | true =>
          rw [hf] at hg hA
          rw [if_pos rfl] at hA
          have HA := Lib.hid hA
          clear hA hf he
          go_wp2_with fail
          refine (hg _).mono ?_; rintro e w1 ⟨rfl, hb1⟩
          have hx0' := heap_keep hb1 hx0
          have hx1' := heap_keep hb1 hx1
          have hbw1 := nx hbw hb1
          obtain ⟨q3, q4⟩ := two_frozen hx0'
          obtain ⟨q5, q6, q7⟩ := two_facts hx0'
          obtain ⟨r5, r6, r7⟩ := two_facts hx1'
          go_wp2_with fail
          rw [HA.out]
          obtain ⟨q1, q2⟩ := two_cells (set_two (.int .i64 n) (.int .i64 d) hx0')
          refine bodyPost_ret (v := .tuple #[.agg #[.int .i64 n, .int .i64 d], .bool true]) (by simp [q1, q2, results, Try.results101, go_sem]) rfl ⟨rfl, ?_⟩
          exact (hbw1.setCell (by show w.heap.size ≤ w.heap.size; omega) _).setCell (by show w.heap.size ≤ w.heap.size; omega) _
    · have hA := frA_end he.out HJ.out (.inl hlt)
      have hg := fun w => isFraction_any n d w
      cases hf : isFr n d with
      | false =>
        rw [hf] at hg hA
        rw [if_neg (by simp)] at hA
        have HA := Lib.hid hA
        clear hA hf he
        go_wp2_with fail
        refine (hg _).mono ?_; rintro e w1 ⟨rfl, hb1⟩
        have hx0' := heap_keep hb1 hx0
        have hbw1 := nx hbw hb1
        obtain ⟨q3, q4⟩ := two_frozen hx0'
        obtain ⟨q5, q6, q7⟩ := two_facts hx0'
        go_wp2_with fail
        rw [HA.out]
        obtain ⟨q1, q2⟩ := two_cells (set_two (.int .i64 0) (.int .i64 0) hx0')
        refine bodyPost_ret (v := .tuple #[.agg #[.int .i64 0, .int .i64 0], .bool false]) (by simp [q1, q2, results, Try.results101, go_sem]) rfl ⟨rfl, ?_⟩
        exact (hbw1.setCell (by show w.heap.size ≤ w.heap.size; omega) _).setCell (by show w.heap.size ≤ w.heap.size; omega) _
      | true =>
        rw [hf] at hg hA
        rw [if_pos rfl] at hA
        have HA := Lib.hid hA
        clear hA hf he
        go_wp2_with fail
        refine (hg _).mono ?_; rintro e w1 ⟨rfl, hb1⟩
        have hx0' := heap_keep hb1 hx0
        have hx1' := heap_keep hb1 hx1
        have hbw1 := nx hbw hb1
        obtain ⟨q3, q4⟩ := two_frozen hx0'
        obtain ⟨q5, q6, q7⟩ := two_facts hx0'
        obtain ⟨r5, r6, r7⟩ := two_facts hx1'
        go_wp2_with fail
        rw [HA.out]
        obtain ⟨q1, q2⟩ := two_cells (set_two (.int .i64 n) (.int .i64 d) hx0')
        refine bodyPost_ret (v := .tuple #[.agg #[.int .i64 n, .int .i64 d], .bool true]) (by simp [q1, q2, results, Try.results101, go_sem]) rfl ⟨rfl, ?_⟩
        exact (hbw1.setCell (by show w.heap.size ≤ w.heap.size; omega) _).setCell (by show w.heap.size ≤ w.heap.size; omega) _
end Go.Proofs.Ytgjdppegkoepfaa

/-! Ft2 -/
namespace Go.Proofs.Ytgjdppegkoepfaa
open Go.RowKit

theorem two1 (a b : Int) : ∀ u ∈ [Value.int .i64 a, Value.int .i64 b], u.oneCell' = true := by
  intro u hu
  simp at hu
  rcases hu with rfl | rfl <;> rfl
/-- The fractions at which addresses begin. -/
def frs (ss : List ByteArray) : List (Nat × Nat) := ss.map fun a => frOf (stA a)
theorem frs_snoc {ss : List ByteArray} {k : Nat} (h : k < ss.length) : frs (ss.take (k + 1)) = frs (ss.take k) ++ [((frOf (stA (ss.getD k ⟨#[]⟩))).1, (frOf (stA (ss.getD k ⟨#[]⟩))).2)] := by
  unfold frs
  rw [List.take_succ_eq_append_getElem h, List.map_append]
  simp [h]
def okAd (a : ByteArray) : Prop := a.size ≤ 10 ∧ a.data.toList.all isBit = true
theorem addrs_ok (t : Tr) (h : t.carets ≤ 8) : ∀ a ∈ t.addrs ⟨#[]⟩, okAd a := by
  intro a ha
  refine ⟨?_, addrs_bits t ⟨#[]⟩ rfl a ha⟩
  have := addrs_size t ⟨#[]⟩ a ha
  have e : (⟨#[]⟩ : ByteArray).size = 0 := rfl
  omega

set_option maxRecDepth 100000 in
set_option maxHeartbeats 2000000 in
theorem mpStarts_any (t : Tr) (w : World) (h : t.carets ≤ 8) :
    Calls Try.prog 68 #[.string t.str] w (GivesF (frs (t.addrs ⟨#[]⟩)) w) := by
  obtain ⟨i0, hi, hz0, hz1, hz2⟩ := info_parts info_frac
  have hl := addrs_length t ⟨#[]⟩
  have hA := fun w => trAddresses_any t ⟨#[]⟩ w (by omega) (by show 0 + t.carets ≤ 1000; omega)
  have hok := addrs_ok t h
  obtain ⟨ss, hss⟩ : ∃ ss, ss = t.addrs ⟨#[]⟩ := ⟨_, rfl⟩
  rw [← hss] at hl hA hok ⊢
  have hln : ss.length ≤ 9 := by omega
  have hlp : 0 < ss.length := by omega
  have HZ := Lib.hid hok
  clear hss hl hok
  go_enter Try.func68, Try.ntmps68
  go_wp2_with fail
  refine (hA _).mono ?_; rintro e w2 ⟨g, cap, own, hb2, rfl⟩
  go_wp2_with fail
  rcases own.cells with ⟨_, h0⟩ | ⟨g', cap', hv, hg0, hg, hc1, hc2, hcell, _⟩
  · rw [h0] at hlp; simp at hlp
  · obtain ⟨rfl, rfl⟩ : g' = g ∧ cap' = cap := by simpa using hv.symm
    have HC := Lib.hid hcell
    clear hv hcell own
    go_loopw [3, 9] (fun v i wr => ∃ k : Nat, k ≤ ss.length ∧ i = .int .i64 k ∧ OwnF w2.heap.size wr v (frs (ss.take k)) ∧ Below w2.heap.size w2 wr) (fun _ i _ => ss.length - (intOf i).toNat)
    case atStart => exact ⟨0, Nat.zero_le _, rfl, OwnW.nil _ _ _ _, Below.refl _ _⟩
    case round =>
      obtain ⟨k, hk, rfl, hown, hbw2⟩ := hrel
      by_cases hlt : k < ss.length
      · have hlt' : (k : Int) < (ss.length : Int) := by omega
        have hlen : (frs (ss.take k)).length = k := by simp [frs]; omega
        have c1 := (hbw2.cell (p := ⟨g', k, none⟩) hg).trans (HC.out k hlt)
        have hz := HZ.out (ss.getD k ⟨#[]⟩) (by rw [List.getD_eq_getElem?_getD, List.getElem?_eq_getElem hlt]; exact List.getElem_mem hlt)
        have hnext := frs_snoc hlt
        obtain ⟨xs, hxs⟩ : ∃ xs, xs = frs (ss.take k) := ⟨_, rfl⟩
        rw [← hxs] at hown hlen hnext
        obtain ⟨s, hs⟩ : ∃ s, s = ss.getD k ⟨#[]⟩ := ⟨_, rfl⟩
        rw [← hs] at c1 hz hnext
        have hM := fun w => mpOf_any s w hz.1 hz.2
        generalize (frOf (stA s)).1 = x at *
        generalize (frOf (stA s)).2 = y at *
        have HN := Lib.hid hnext
        have hxl : xs.length ≤ 9 := by omega
        clear hs hnext hxs hlen hz
        go_wp2_with fail
        refine (hM _).mono ?_; rintro e w3 ⟨rfl, hb3⟩
        have hown3 := hown.keep hb3
        have hbw3 := nx hbw2 hb3
        have hs3 := hbw3.size
        clear hown hbw2 hb3
        go_wp2_with (at_builtin; refine wpList_append_own _ rfl _ _ 48 rfl w2.heap.size 45 i0 (.agg #[.int .i64 0, .int .i64 0]) 2 16 Try.underlying48 hi hz0 hz1 hz2 rfl (by decide) _ _ _ rfl (hown3.alloc _) ⟨w3.heap.size, 0, none⟩ 1 1 [.int .i64 x, .int .i64 y] rfl rfl (newsK _ #[.int .i64 x, .int .i64 y] _) (two1 _ _) (by unfold maxLen; omega) (by omega) (by simp; omega) ?_; intro v' w9 hown' hgrow hnn)
        have hbw9 := (nxAlloc hbw3 _).grown hgrow (by simp; omega) (fun k hk => ownsRow_ge hown3 k hk)
        have hown1 := OwnF.snoc hown'
        clear hown3 hown' hgrow hbw3 hnn
        go_wp2_with fail
        go_roundw
        case rel => exact ⟨k + 1, by omega, by go_num, by rw [HN.out]; exact hown1, hbw9⟩
        case measure => simp [intOf]; omega
      · obtain rfl : k = ss.length := by omega
        rw [List.take_of_length_le (Nat.le_refl _)] at hown
        go_wp2_with fail
        go_ret
        exact ⟨_, hown.mono hb2.size, nx hb2 hbw2, rfl⟩

end Go.Proofs.Ytgjdppegkoepfaa

/-! Place -/
namespace Go.Proofs.Ytgjdppegkoepfaa
open Go.RowKit

theorem head_of {l : List UInt8} {c : UInt8} (h : (l.head? == some c) = true) : ∃ r, l = c :: r := by
  cases l with
  | nil => simp at h
  | cons a r => simp at h; exact ⟨r, by rw [h]⟩

set_option maxHeartbeats 1000000 in
theorem place_any (k : Nat) : ∀ (s : ByteArray) (w : World), s.size < k → s.size ≤ 9223372036854775806 →
    Calls Try.prog 122 #[.string s] w (PlacePost (parseN k s.data.toList) s w) := by
  induction k with
  | zero => intro s w h; omega
  | succ k ih =>
    intro s w hk hs
    have ih_no : ∀ (s : ByteArray) (w : World), s.size < k → s.size ≤ 9223372036854775806 → parseN k s.data.toList = none → Calls Try.prog 122 #[.string s] w (PlaceNo w) := by
      intro s w h1 h2 h3
      have := ih s w h1 h2
      rw [h3] at this
      exact this
    have ih_yes : ∀ (s : ByteArray) (w : World) (t : Tr) (r : List UInt8), s.size < k → s.size ≤ 9223372036854775806 → parseN k s.data.toList = some (t, r) → Calls Try.prog 122 #[.string s] w (PlaceOk t r s w) := by
      intro s w t r h1 h2 h3
      have := ih s w h1 h2
      rw [h3] at this
      exact this
    clear ih
    cases h46 : (s.data.toList.head? == some 46) with
    | true =>
      obtain ⟨r, hr⟩ := head_of h46
      have HP : parseN (k + 1) s.data.toList = some (.lf, r) := by rw [hr, parseN, if_pos rfl]
      rw [HP]
      show Calls _ _ _ _ (PlaceOk .lf r s w)
      have HR := Lib.hid hr
      clear hr HP h46
      go_enter Try.func122, Try.ntmps122
      go_wp2_with (go_at_call 149; refine (cut_yes s _ r _ hs HR.out).mono ?_; rintro e w' ⟨s', h1, h2, rfl, rfl⟩; have H1 := Lib.hid h1; clear h1)
      go_ret2
      exact ⟨_, _, H1.out, h2, heap_alloc_at _ _, (Below.refl _ _).alloc (Nat.le_refl _) _, rfl⟩
    | false =>
      cases h40 : (s.data.toList.head? == some 40) with
      | false =>
        have HP : parseN (k + 1) s.data.toList = none := by
          cases hl : s.data.toList with
          | nil => rfl
          | cons c r =>
            rw [hl] at h46 h40
            have h1 : ¬ c = 46 := by simpa using h46
            have h2 : ¬ c = 40 := by simpa using h40
            rw [parseN, if_neg h1, if_neg h2]
        rw [HP]
        show Calls _ _ _ _ (PlaceNo w)
        go_enter Try.func122, Try.ntmps122
        go_wp2_with fail
        refine (cut_no s 46 _ hs h46).mono ?_; rintro e w' ⟨rfl, rfl⟩
        go_wp2_with fail
        refine (cut_no s 40 _ hs h40).mono ?_; rintro e w' ⟨rfl, rfl⟩
        go_wp2_with fail
        go_ret2
        exact ⟨Below.refl _ _, rfl⟩
      | true =>
        obtain ⟨r, hr⟩ := head_of h40
        have HR := Lib.hid hr
        have hz : s.size = r.length + 1 := by rw [Lib.size_eq, hr]; rfl
        have HZ := Lib.hid hz
        clear h40 hz
        cases hp1 : parseN k r with
        | none =>
          have HP : parseN (k + 1) s.data.toList = none := by rw [hr, parseN, if_neg (by decide), if_pos rfl, hp1]
          rw [HP]
          show Calls _ _ _ _ (PlaceNo w)
          have H1 := Lib.hid hp1
          clear HP hr hp1
          go_enter Try.func122, Try.ntmps122
          go_wp2_with fail
          refine (cut_no s 46 _ hs h46).mono ?_; rintro e w' ⟨rfl, rfl⟩
          go_wp2_with fail
          refine (cut_yes s 40 r _ hs HR.out).mono ?_; rintro e w' ⟨s1, hs1, hz1, rfl, rfl⟩; have HS1 := Lib.hid hs1; clear hs1
          go_wp2_with fail
          refine (ih_no s1 _ (by omega) (by omega) (by rw [HS1.out]; exact H1.out)).mono ?_; rintro e w1 ⟨hb1, rfl⟩
          go_wp2_with fail
          go_ret2
          exact ⟨hb1, rfl⟩
        | some p1 =>
          obtain ⟨t1, r1⟩ := p1
          have hl1 := parseN_len hp1
          cases hp2 : parseN k r1 with
          | none =>
            have HP : parseN (k + 1) s.data.toList = none := by rw [hr, parseN, if_neg (by decide), if_pos rfl, hp1]; show (match parseN k r1 with | none => none | some (t2, r2) => _) = _; rw [hp2]
            rw [HP]
            show Calls _ _ _ _ (PlaceNo w)
            have H1 := Lib.hid hp1
            have H2 := Lib.hid hp2
            clear HP hr hp1 hp2
            go_enter Try.func122, Try.ntmps122
            go_wp2_with fail
            refine (cut_no s 46 _ hs h46).mono ?_; rintro e w' ⟨rfl, rfl⟩
            go_wp2_with fail
            refine (cut_yes s 40 r _ hs HR.out).mono ?_; rintro e w' ⟨s1, hs1, hz1, rfl, rfl⟩; have HS1 := Lib.hid hs1; clear hs1
            go_wp2_with fail
            refine (ih_yes s1 _ _ _ (by omega) (by omega) (by rw [HS1.out]; exact H1.out)).mono ?_; rintro e w1 ⟨b1, s2, hs2, hz2, hn1, hb1, rfl⟩; have HS2 := Lib.hid hs2; clear hs2
            go_wp2_with fail
            refine (ih_no s2 _ (by omega) (by omega) (by rw [HS2.out]; exact H2.out)).mono ?_; rintro e w2 ⟨hb2, rfl⟩
            go_wp2_with fail
            go_ret2
            exact ⟨hb1.trans (hb2.mono hb1.size), rfl⟩
          | some p2 =>
            obtain ⟨t2, r2⟩ := p2
            have hl2 := parseN_len hp2
            cases h41 : (r2.head? == some 41) with
            | false =>
              have HP : parseN (k + 1) s.data.toList = none := by
                rw [hr, parseN, if_neg (by decide), if_pos rfl, hp1]
                show (match parseN k r1 with | none => none | some (t2, r2) => _) = _
                rw [hp2]
                cases r2 with
                | nil => rfl
                | cons c r3 =>
                  have h1 : ¬ c = 41 := by simpa using h41
                  simp [h1]
              rw [HP]
              show Calls _ _ _ _ (PlaceNo w)
              have H1 := Lib.hid hp1
              have H2 := Lib.hid hp2
              have H3 := Lib.hid h41
              clear HP hr hp1 hp2 h41
              go_enter Try.func122, Try.ntmps122
              go_wp2_with fail
              refine (cut_no s 46 _ hs h46).mono ?_; rintro e w' ⟨rfl, rfl⟩
              go_wp2_with fail
              refine (cut_yes s 40 r _ hs HR.out).mono ?_; rintro e w' ⟨s1, hs1, hz1, rfl, rfl⟩; have HS1 := Lib.hid hs1; clear hs1
              go_wp2_with fail
              refine (ih_yes s1 _ _ _ (by omega) (by omega) (by rw [HS1.out]; exact H1.out)).mono ?_; rintro e w1 ⟨b1, s2, hs2, hz2, hn1, hb1, rfl⟩; have HS2 := Lib.hid hs2; clear hs2
              go_wp2_with fail
              refine (ih_yes s2 _ _ _ (by omega) (by omega) (by rw [HS2.out]; exact H2.out)).mono ?_; rintro e w2 ⟨b2, s3, hs3, hz3, hn2, hb2, rfl⟩; have HS3 := Lib.hid hs3; clear hs3
              go_wp2_with fail
              refine (cut_no s3 41 _ (by omega) (by rw [HS3.out]; exact H3.out)).mono ?_; rintro e w' ⟨rfl, rfl⟩
              go_wp2_with fail
              go_ret2
              exact ⟨hb1.trans (hb2.mono hb1.size), rfl⟩
            | true =>
              obtain ⟨r3, hr3⟩ := head_of h41
              have HP : parseN (k + 1) s.data.toList = some (.nd t1 t2, r3) := by
                rw [hr, parseN, if_neg (by decide), if_pos rfl, hp1]
                show (match parseN k r1 with | none => none | some (t2, r2) => _) = _
                rw [hp2, hr3]
                simp
              rw [HP]
              show Calls _ _ _ _ (PlaceOk (.nd t1 t2) r3 s w)
              have H1 := Lib.hid hp1
              have H2 := Lib.hid hp2
              have H3 := Lib.hid hr3
              clear HP hr hp1 hp2 h41 hr3
              go_enter Try.func122, Try.ntmps122
              go_wp2_with fail
              refine (cut_no s 46 _ hs h46).mono ?_; rintro e w' ⟨rfl, rfl⟩
              go_wp2_with fail
              refine (cut_yes s 40 r _ hs HR.out).mono ?_; rintro e w' ⟨s1, hs1, hz1, rfl, rfl⟩; have HS1 := Lib.hid hs1; clear hs1
              go_wp2_with fail
              refine (ih_yes s1 _ _ _ (by omega) (by omega) (by rw [HS1.out]; exact H1.out)).mono ?_; rintro e w1 ⟨b1, s2, hs2, hz2, hn1, hb1, rfl⟩; have HS2 := Lib.hid hs2; clear hs2
              go_wp2_with fail
              refine (ih_yes s2 _ _ _ (by omega) (by omega) (by rw [HS2.out]; exact H2.out)).mono ?_; rintro e w2 ⟨b2, s3, hs3, hz3, hn2, hb2, rfl⟩; have HS3 := Lib.hid hs3; clear hs3
              go_wp2_with fail
              refine (cut_yes s3 41 r3 _ (by omega) (by rw [HS3.out]; exact H3.out)).mono ?_; rintro e w' ⟨s4, hs4, hz4, rfl, rfl⟩; have HS4 := Lib.hid hs4; clear hs4
              go_wp2_with fail
              go_ret2
              have hb3 : Below w2.heap.size w2 (w2.alloc (.cells #[.pointer (some ⟨b1, 0, none⟩), .pointer (some ⟨b2, 0, none⟩)] 140 (0, 0))) := (Below.refl _ _).alloc (Nat.le_refl _) _
              exact ⟨_, _, HS4.out, by omega, ⟨b1, b2, heap_alloc_at _ _, (hn1.keep hb2).keep hb3, hn2.keep hb3⟩, (hb1.trans (hb2.mono hb1.size)).trans (hb3.mono (Nat.le_trans hb1.size hb2.size)), rfl⟩
end Go.Proofs.Ytgjdppegkoepfaa

/-! Read -/
namespace Go.Proofs.Ytgjdppegkoepfaa
open Go.RowKit

def ReadOk (t : Tr) (w : World) (e : Ending) (w' : World) : Prop :=
  ∃ b : Nat, NodeAt w' t b ∧ Below w.heap.size w w' ∧ e = .returned (.tuple #[.pointer (some ⟨b, 0, none⟩), .bool true])
def ReadNo (w : World) (e : Ending) (w' : World) : Prop :=
  Below w.heap.size w w' ∧ e = .returned (.tuple #[.pointer none, .bool false])

theorem treeOf_of_parse {s : ByteArray} {t : Tr} (h : parseN (s.size + 1) s.data.toList = some (t, [])) (hz : s.size ≤ 25) : treeOf s = some t := by
  have e := str_of_list (show s.data.toList = t.text by simpa using parseN_sound _ _ _ _ h)
  subst e
  exact treeOf_str t (by rw [Tr.str_size] at hz; omega)

theorem read_yes (t : Tr) (w : World) (h : t.carets ≤ 8) :
    Calls Try.prog 117 #[.string t.str] w (ReadOk t w) := by
  have hz := t.str_size
  have hp := place_any (t.str.size + 1) t.str
  rw [parse_str t _ (by have := t.text_len; omega)] at hp
  have hp' : ∀ w, Calls Try.prog 122 #[.string t.str] w (PlaceOk t [] t.str w) := fun w => hp w (by omega) (by omega)
  have hz' : t.str.size ≤ 25 := by omega
  clear hz hp
  go_enter Try.func117, Try.ntmps117
  go_wp2_with fail
  refine (hp' _).mono ?_; rintro e w1 ⟨b1, s1, hs1, hz1, hn1, hb1, rfl⟩; have e1 : s1.toList.isEmpty = true := by rw [Lib.toList_data, hs1]; rfl
  have e2 : s1.toList = [] := by rw [Lib.toList_data, hs1]
  clear hs1
  go_wp2_with fail
  go_ret2
  exact ⟨b1, hn1, hb1, rfl⟩

theorem read_no (s : ByteArray) (w : World) (hs : s.size ≤ 9223372036854775806) (h : treeOf s = none) :
    Calls Try.prog 117 #[.string s] w (ReadNo w) := by
  by_cases hz : (s.size : Int) ≤ 25
  · have hp := place_any (s.size + 1) s
    cases hq : parseN (s.size + 1) s.data.toList with
    | none =>
      rw [hq] at hp
      have hp' : ∀ w, Calls Try.prog 122 #[.string s] w (PlaceNo w) := fun w => hp w (by omega) hs
      clear hp h hq
      go_enter Try.func117, Try.ntmps117
      go_wp2_with fail
      refine (hp' _).mono ?_; rintro e w1 ⟨hb1, rfl⟩
      go_wp2_with fail
      go_ret2
      exact ⟨hb1, rfl⟩
    | some p =>
      obtain ⟨t, r⟩ := p
      rw [hq] at hp
      have hp' : ∀ w, Calls Try.prog 122 #[.string s] w (PlaceOk t r s w) := fun w => hp w (by omega) hs
      cases r with
      | nil => rw [treeOf_of_parse hq (by omega)] at h; simp at h
      | cons c r =>
        clear hp h hq
        go_enter Try.func117, Try.ntmps117
        go_wp2_with fail
        refine (hp' _).mono ?_; rintro e w1 ⟨b1, s1, hs1, hz1, hn1, hb1, rfl⟩; have e1 : s1.toList.isEmpty = false := by rw [Lib.toList_data, hs1]; rfl
        clear hs1
        go_wp2_with fail
        go_ret2
        exact ⟨hb1, rfl⟩
  · clear h
    go_enter Try.func117, Try.ntmps117
    go_wp2_with fail
    go_ret2
    exact ⟨Below.refl _ _, rfl⟩

theorem implIsTree_yes (t : Tr) (w : World) (h : t.carets ≤ 8) :
    Calls Try.prog 86 #[.string t.str] w fun e w' => Below w.heap.size w w' ∧ e = .returned (.bool true) := by
  go_enter Try.func86, Try.ntmps86
  go_wp2_with fail
  refine (read_yes t _ h).mono ?_; rintro e w1 ⟨b1, hn1, hb1, rfl⟩
  go_wp2_with fail
  go_ret
  exact ⟨hb1, rfl⟩

theorem implIsTree_no (s : ByteArray) (w : World) (hs : s.size ≤ 9223372036854775806) (h : treeOf s = none) :
    Calls Try.prog 86 #[.string s] w fun e w' => Below w.heap.size w w' ∧ e = .returned (.bool false) := by
  have H := Lib.hid h
  clear h
  go_enter Try.func86, Try.ntmps86
  go_wp2_with fail
  refine (read_no s _ hs H.out).mono ?_; rintro e w1 ⟨hb1, rfl⟩
  go_wp2_with fail
  go_ret
  exact ⟨hb1, rfl⟩

end Go.Proofs.Ytgjdppegkoepfaa

/-! TreeO -/
namespace Go.Proofs.Ytgjdppegkoepfaa
open Go.RowKit

theorem keep_cell {w w' : World} {b o : Nat} {v : Value} (hb : Below w.heap.size w w') (h : w.cell? ⟨b, o, none⟩ = some v) : w'.cell? ⟨b, o, none⟩ = some v :=
  (hb.cell (p := ⟨b, o, none⟩) (World.block_lt_of_cell? _ _ h)).trans h

theorem treeOf_any (t : Tr) (w : World) (h : t.carets ≤ 1000) : Calls Try.prog 95 #[.string t.str] w (GivesNode t w) := by
  have hz := t.str_size
  have hp := place_any (t.str.size + 1) t.str
  rw [parse_str t _ (by have := t.text_len; omega)] at hp
  have hp' : ∀ w, Calls Try.prog 122 #[.string t.str] w (PlaceOk t [] t.str w) := fun w => hp w (by omega) (by omega)
  clear hz hp
  go_enter Try.func95, Try.ntmps95
  go_wp2_with fail
  refine (hp' _).mono ?_; rintro e w1 ⟨b1, s1, hs1, hz1, hn1, hb1, rfl⟩
  clear hs1 hz1
  go_wp2_with fail
  go_ret
  exact ⟨b1, hn1, hb1, rfl⟩

end Go.Proofs.Ytgjdppegkoepfaa

/-! Fp1 -/
namespace Go.Proofs.Ytgjdppegkoepfaa
open Go.RowKit

theorem info_piece : (Try.prog.info? 107).map (fun i => (i.zero, i.size, i.bytes)) = some (some (.agg #[.int .i64 0, .int .i64 0, .int .i64 0]), 3, 24) := by kernel_rfl
theorem three1 (a b c : Int) : ∀ u ∈ [Value.int .i64 a, Value.int .i64 b, Value.int .i64 c], u.oneCell' = true := by
  intro u hu
  simp at hu
  rcases hu with rfl | rfl | rfl <;> rfl
/-- Where the pieces of a pair begin, to what this is carried, and the slope. -/
def pcsL : List ByteArray → List ByteArray → List (Nat × Nat × Int)
  | a :: l, b :: m => (stA a, stA b, (a.size : Int) - b.size) :: pcsL l m
  | _, _ => []
def flatP : List (Nat × Nat × Int) → List Int
  | [] => []
  | x :: l => (x.1 : Int) :: (x.2.1 : Int) :: x.2.2 :: flatP l
theorem flatP_length (l : List (Nat × Nat × Int)) : (flatP l).length = l.length * 3 := by
  induction l with
  | nil => rfl
  | cons x l ih => simp [flatP, ih]; omega
theorem flatP_append (l m : List (Nat × Nat × Int)) : flatP (l ++ m) = flatP l ++ flatP m := by
  induction l with
  | nil => rfl
  | cons x l ih => simp [flatP, ih]
theorem flatP_get (l : List (Nat × Nat × Int)) : ∀ k, k < l.length → (flatP l).getD (k * 3) 0 = ((l.getD k (0, 0, 0)).1 : Int) ∧ (flatP l).getD (k * 3 + 1) 0 = ((l.getD k (0, 0, 0)).2.1 : Int) ∧ (flatP l).getD (k * 3 + 2) 0 = (l.getD k (0, 0, 0)).2.2 := by
  induction l with
  | nil => intro k hk; simp at hk
  | cons x l ih =>
    intro k hk
    match k with
    | 0 => exact ⟨rfl, rfl, rfl⟩
    | k + 1 =>
      have := ih k (by simpa using hk)
      rw [show (k + 1) * 3 = k * 3 + 3 by omega]
      exact this
theorem pcsL_length : ∀ (l m : List ByteArray), l.length = m.length → (pcsL l m).length = l.length := by
  intro l
  induction l with
  | nil => intro m h; cases m <;> rfl
  | cons a l ih => intro m h; match m, h with
    | b :: m, h => simp [pcsL, ih m (by simpa using h)]
theorem pcsL_get : ∀ (l m : List ByteArray), l.length = m.length → ∀ k, k < l.length → (pcsL l m).getD k (0, 0, 0) = (stA (l.getD k ⟨#[]⟩), stA (m.getD k ⟨#[]⟩), ((l.getD k ⟨#[]⟩).size : Int) - (m.getD k ⟨#[]⟩).size) := by
  intro l
  induction l with
  | nil => intro m h k hk; simp at hk
  | cons a l ih => intro m h k hk; match m, h with
    | b :: m, h =>
      match k with
      | 0 => rfl
      | k + 1 => exact ih m (by simpa using h) k (by simpa using hk)
def pcs (p : Pr) : List (Nat × Nat × Int) := pcsL (p.1.addrs ⟨#[]⟩) (p.2.addrs ⟨#[]⟩)
/-- v is a slice of pieces that the call has made. -/
def OwnP (base : Nat) (w : World) (v : Value) (xs : List (Nat × Nat × Int)) : Prop := OwnW 107 3 base w v xs.length (flatP xs)
theorem OwnP.keep {base : Nat} {w w' : World} {v : Value} {xs : List (Nat × Nat × Int)} (h : OwnP base w v xs) (hb : Below w.heap.size w w') : OwnP base w' v xs := OwnW.keep h hb
theorem OwnP.mono {base base' : Nat} {w : World} {v : Value} {xs : List (Nat × Nat × Int)} (h : OwnP base w v xs) (hb : base' ≤ base) : OwnP base' w v xs := OwnW.mono h hb
theorem OwnP.cells {base : Nat} {w : World} {v : Value} {xs : List (Nat × Nat × Int)} (h : OwnP base w v xs) : CellsW 3 base w v xs.length (flatP xs) := OwnW.cells h
theorem OwnP.snoc {base : Nat} {w : World} {v : Value} {xs : List (Nat × Nat × Int)} {a b : Nat} {c : Int} (h : w.ownsRow base 107 3 v (xs.length + 1) ((flatP xs).map (Value.int .i64) ++ [Value.int .i64 a, Value.int .i64 b, Value.int .i64 c])) : OwnP base w v (xs ++ [(a, b, c)]) := by
  unfold OwnP OwnW
  rw [List.length_append, flatP_append, List.map_append]
  exact h
def GivesP (xs : List (Nat × Nat × Int)) (w : World) (e : Ending) (w' : World) : Prop :=
  ∃ v, OwnP w.heap.size w' v xs ∧ Below w.heap.size w w' ∧ e = .returned v

theorem size_of_alloc (w : World) (o : Obj) : (w.alloc o).heap.size = w.heap.size + 1 := by simp
set_option maxRecDepth 100000 in
set_option maxHeartbeats 4000000 in
theorem leafPieces_any (p : Pr) (w : World) (h1 : p.1.carets ≤ 8) (h2 : p.2.carets ≤ 8) (he : p.1.carets = p.2.carets) :
    Calls Try.prog 62 #[.agg #[.string p.1.str, .string p.2.str]] w (GivesP (pcs p) w) := by
  obtain ⟨i0, hi, hz0, hz1, hz2⟩ := info_parts info_piece
  have T1 := fun w => treeOf_any p.1 w (by omega)
  have T2 := fun w => treeOf_any p.2 w (by omega)
  have A1 := fun b w h => addressesFrom_any p.1 b ⟨#[]⟩ w h (by omega) (by show 0 + p.1.carets ≤ 1000; omega)
  have A2 := fun b w h => addressesFrom_any p.2 b ⟨#[]⟩ w h (by omega) (by show 0 + p.2.carets ≤ 1000; omega)
  have l1 := addrs_length p.1 ⟨#[]⟩
  have l2 := addrs_length p.2 ⟨#[]⟩
  have o1 := addrs_ok p.1 h1
  have o2 := addrs_ok p.2 h2
  unfold pcs
  generalize p.1.addrs ⟨#[]⟩ = xs at *
  generalize p.2.addrs ⟨#[]⟩ = ys at *
  obtain ⟨n, hn⟩ : ∃ n, n = xs.length := ⟨_, rfl⟩
  have hny : ys.length = n := by omega
  have hn9 : n ≤ 9 := by omega
  have hn0 : 0 < n := by omega
  have hxy : xs.length = ys.length := by omega
  have pl := pcsL_length xs ys hxy
  have pg := pcsL_get xs ys hxy
  have hO : Hid (∀ k, k < n → okAd (xs.getD k ⟨#[]⟩) ∧ okAd (ys.getD k ⟨#[]⟩)) := by
    intro k hk
    have hk1 : k < xs.length := by omega
    have hk2 : k < ys.length := by omega
    exact ⟨o1 _ (by simp [hk1]), o2 _ (by simp [hk2])⟩
  have A1' : ∀ b w, NodeAt w p.1 b → Calls Try.prog 96 #[.pointer (some ⟨b, 0, none⟩), .string ⟨#[]⟩] w fun e w' => ∃ g cap : Nat, OwnS w.heap.size w' (.slice (some ⟨g, 0, none⟩) n cap) xs ∧ Below w.heap.size w w' ∧ e = .returned (.slice (some ⟨g, 0, none⟩) n cap) := by
    intro b w h
    have := A1 b w h
    unfold GivesTexts at this
    rw [← hn] at this
    exact this
  have A2' : ∀ b w, NodeAt w p.2 b → Calls Try.prog 96 #[.pointer (some ⟨b, 0, none⟩), .string ⟨#[]⟩] w fun e w' => ∃ g cap : Nat, OwnS w.heap.size w' (.slice (some ⟨g, 0, none⟩) n cap) ys ∧ Below w.heap.size w w' ∧ e = .returned (.slice (some ⟨g, 0, none⟩) n cap) := by
    intro b w h
    have := A2 b w h
    unfold GivesTexts at this
    rw [hny] at this
    exact this
  clear A1 A2
  rw [← hn] at pl pg
  have hX := hn.symm
  clear hn
  generalize pcsL xs ys = ps at *
  have PG := Lib.hid pg
  have PL := Lib.hid pl
  have HX := Lib.hid hX
  have HY := Lib.hid hny
  clear pg pl o1 o2 hxy l1 l2 hX hny
  go_enter Try.func62, Try.ntmps62
  go_wp2_with fail
  have hb0 : Below w.heap.size w (w.alloc (.cells #[.string p.1.str, .string p.2.str] 27 (0, 0))) := nxAlloc (Below.refl _ _) _
  have hx0 := heap_alloc_at w (.cells #[.string p.1.str, .string p.2.str] 27 (0, 0))
  generalize (w.alloc (.cells #[.string p.1.str, .string p.2.str] 27 (0, 0))) = w0 at *
  obtain ⟨hx0a, hx0b, hx0c⟩ := two_facts hx0
  obtain ⟨hx0f, hx0g⟩ := two_frozen hx0
  have hz0' := Below.refl w0.heap.size w0
  go_region_held3 (fun w' => w'.cell? ⟨w.heap.size, 0, none⟩ = some (.string p.1.str) ∧ w'.cell? ⟨w.heap.size, 1, none⟩ = some (.string p.2.str))
    (first
      | exact ⟨hx0a, hx0b⟩
      | exact ⟨B1, B2⟩
      | exact ⟨C1, C2⟩
      | exact ⟨D1, D2⟩
      | exact ⟨E1, E2⟩)
    (first
      | (go_at_call 95; (with_reducible refine (T1 _).mono ?_); rintro e w1 ⟨b1, hn1, hb1, rfl⟩; have hb1' := nx hz0'.drew hb1; have B1 := keep_cell hb1' hx0a; have B2 := keep_cell hb1' hx0b)
      | (go_at_call_of 96 (some (⟨b1, 0, none⟩ : Addr)); refine (A1' b1 _ ?_).mono ?_; exact hn1; rintro e w2 ⟨g1, cap1, own1, hb2, rfl⟩; have hb2' := nx hb1' hb2; have C1 := keep_cell hb2' hx0a; have C2 := keep_cell hb2' hx0b)
      | (go_at_call 95; (with_reducible refine (T2 _).mono ?_); rintro e w3 ⟨b2, hn2, hb3, rfl⟩; have hb3' := nx hb2' hb3; have D1 := keep_cell hb3' hx0a; have D2 := keep_cell hb3' hx0b)
      | (go_at_call_of 96 (some (⟨b2, 0, none⟩ : Addr)); refine (A2' b2 _ ?_).mono ?_; exact hn2; rintro e w4 ⟨g2, cap2, own2, hb4, rfl⟩; have hb4' := nx hb3' hb4; have E1 := keep_cell hb4' hx0a; have E2 := keep_cell hb4' hx0b))
  have hbw4 := nx hb0 hb4'
  have own1' := own1.keep (nx hb3 hb4)
  clear hx0 hx0a hx0b hx0c hx0f hx0g B1 B2 C1 C2 D1 D2 E1 E2 hb0 hb1 hb2 hb3 hb4 hb1' hb2' hb3' hb4' hn1 hn2 own1 T1 T2 A1' A2' hz0'
  rcases own1'.cells with ⟨h0, _⟩ | ⟨g1', cap1', hv1, _, hg1, hc1, hc2, hcell1, _⟩
  · simp at h0
  rcases own2.cells with ⟨h0, _⟩ | ⟨g2', cap2', hv2, _, hg2, hc3, hc4, hcell2, _⟩
  · simp at h0
  simp only [Value.slice.injEq, Option.some.injEq, Addr.mk.injEq, and_true] at hv1 hv2
  obtain ⟨rfl, e1, rfl⟩ := hv1
  obtain ⟨rfl, e2, rfl⟩ := hv2
  clear e1 e2
  have HC1 := Lib.hid hcell1
  have HC2 := Lib.hid hcell2
  unfold maxLen at hc2 hc4
  clear hcell1 hcell2 own1' own2
  go_wp2_with fail
  go_loopw [5, 17] (fun v i wr => ∃ (k : Nat) (v0 : Value), v0 = v ∧ k ≤ n ∧ i = .int .i64 k ∧ OwnP w4.heap.size wr v0 (ps.take k) ∧ Below w4.heap.size w4 wr ∧ Below w.heap.size w wr) (fun _ i _ => n - (intOf i).toNat)
  case atStart => exact ⟨0, _, rfl, Nat.zero_le _, rfl, OwnW.nil _ _ _ _, Below.refl _ _, hbw4⟩
  case round =>
    obtain ⟨k, v, rfl, hk, rfl, hown, hbw, hbww⟩ := hrel
    by_cases hlt : k < n
    · have hlt' : (k : Int) < (n : Int) := by omega
      have hX := HX.out
      have hY := HY.out
      have d1 := HC1.out k (by omega)
      have d2 := HC2.out k (by omega)
      obtain ⟨ok1, ok2⟩ := hO.out k hlt
      have hpl := PL.out
      have hnext : ps.take (k + 1) = ps.take k ++ [ps.getD k (0, 0, 0)] := by
        have : k < ps.length := by omega
        rw [List.take_succ_eq_append_getElem this]; simp [this]
      have hlen : (ps.take k).length = k := by simp; omega
      rw [PG.out k (by omega)] at hnext
      generalize ps.take k = qs at hown hlen hnext
      generalize xs.getD k ⟨#[]⟩ = a at *
      generalize ys.getD k ⟨#[]⟩ = b at *
      have hS1 := fun w => startOf_any a w ok1.1 ok1.2
      have hS2 := fun w => startOf_any b w ok2.1 ok2.2
      have sa := ok1.1
      have sb := ok2.1
      have hi3 : IntKind.i64.wrap ((a.size : Int) - (b.size : Int)) = (a.size : Int) - (b.size : Int) := by rw [IntKind.wrap_i64] <;> omega
      generalize hx : stA a = x at *
      generalize hy : stA b = y at *
      have HN := Lib.hid hnext
      have hq9 : qs.length ≤ 9 := by omega
      clear hnext hX hY ok1 ok2 hpl hx hy hlen
      have c1 := (hbw.cell (p := ⟨g1, k, none⟩) hg1).trans d1
      have c2 := (hbw.cell (p := ⟨g2, k, none⟩) hg2).trans d2
      have hz := Below.refl wr.heap.size wr
      have hsw := hbw4.size
      have hm9 : qs.length + 1 ≤ maxLen := by unfold maxLen; omega
      have hb9 : (qs.length + 1) * 24 ≤ 140737488355328 := by omega
      go_wp2_with fail
      go_region_held3 (fun w' => w'.cell? ⟨g1, k, none⟩ = some (.string a) ∧ w'.cell? ⟨g2, k, none⟩ = some (.string b))
        (first
          | exact ⟨c1, c2⟩
          | exact ⟨B1, B2⟩
          | exact ⟨C1, C2⟩
          | exact ⟨D1 _, D2 _⟩
          | exact ⟨E1, E2⟩)
        (first
          | (go_at_call 97; (with_reducible refine (hS1 _).mono ?_); rintro e w5 ⟨rfl, hb5⟩; have hb5' := nx hz.drew hb5; have B1 := keep_cell hb5' c1; have B2 := keep_cell hb5' c2)
          | (go_at_call 97; (with_reducible refine (hS2 _).mono ?_); rintro e w6 ⟨rfl, hb6⟩; have hb6' := nx hb5' hb6; have C1 := keep_cell hb6' c1; have C2 := keep_cell hb6' c2; have D1 := fun o => keep_cell (nxAlloc hb6' o) c1; have D2 := fun o => keep_cell (nxAlloc hb6' o) c2; have hown6 := hown.keep hb6'; have hb46 := nx hbw hb6'; have hbw6 := nx hbww hb6'; have hnews := newsK w6 #[.int .i64 x, .int .i64 y, .int .i64 ((a.size : Int) - (b.size : Int))] 107; have hown7 := World.ownsRow.alloc hown6 (.cells #[.int .i64 x, .int .i64 y, .int .i64 ((a.size : Int) - (b.size : Int))] 107 (0, 0)); have hs46 := hb46.size; have hbs := Nat.le_trans hs46 (Nat.le_trans (Nat.le_succ _) (Nat.le_of_eq (size_of_alloc w6 (.cells #[.int .i64 x, .int .i64 y, .int .i64 ((a.size : Int) - (b.size : Int))] 107 (0, 0))).symm)); have hsz7 := size_of_alloc w6 (.cells #[.int .i64 x, .int .i64 y, .int .i64 ((a.size : Int) - (b.size : Int))] 107 (0, 0)))
          | (refine step_append_lies _ (by rfl) _ _ _ (by rfl) w4.heap.size 107 i0 _ 3 24 Try.underlying78 hi hz0 hz1 hz2 rfl (by omega) v qs.length ((flatP qs).map (Value.int .i64)) (by rfl) hown7 ⟨w6.heap.size, 0, none⟩ 1 1 [.int .i64 x, .int .i64 y, .int .i64 ((a.size : Int) - (b.size : Int))] (by rfl) (by rfl) hnews (three1 _ _ _) (by omega) hm9 hb9 hbs (w6.heap.size + 1) hsz7 ?_; intro gg cap9 w9 hown' hgrow hat hlt9; have hbw9 := (nxAlloc hb46 _).grown hgrow hbs (fun k hk => ownsRow_ge hown7 k hk); have E1 := (hbw9.cell (p := ⟨g1, k, none⟩) hg1).trans d1; have E2 := (hbw9.cell (p := ⟨g2, k, none⟩) hg2).trans d2))
      have hbw9w := (nxAlloc hbw6 _).grown hgrow (Nat.le_trans hsw hbs) (fun k hk => Nat.le_trans hsw (ownsRow_ge hown7 k hk))
      have hown1 := OwnP.snoc hown'
      go_wp2_with fail
      go_roundw
      case rel =>
        rw [← HN.out] at hown1
        first
          | exact ⟨k + 1, _, rfl, by omega, by go_num, hown1, hbw9, hbw9w⟩
          | ((repeat apply Exists.intro); exact ⟨⟨k + 1, _, rfl, by omega, by go_num, hown1, hbw9, hbw9w⟩, rfl⟩)
      case measure => simp [intOf]; omega
    · obtain rfl : k = n := by omega
      have hpl := PL.out
      rw [List.take_of_length_le (by omega)] at hown
      go_wp2_with fail
      go_ret
      exact ⟨_, hown.mono hbw4.size, hbww, rfl⟩
end Go.Proofs.Ytgjdppegkoepfaa

/-! SpecMir -/
namespace Go.Proofs.Ytgjdppegkoepfaa
open Go.RowKit

set_option maxHeartbeats 400000 in
theorem trJoin_any (a : Tr) : ∀ (b : Tr) (w : World), a.carets ≤ 60 → b.carets ≤ 60 →
    Calls Try.prog 103 #[.string a.str, .string b.str] w (Gives (.string (a.join b).str) w) := by
  induction a with
  | lf =>
    intro b w ha hb
    go_enter Try.func103, Try.ntmps103
    go_wp2_with fail
    refine (trLeaf_any .lf _).mono ?_; rintro e w1 ⟨rfl, rfl⟩
    simp only [Tr.isLf]
    go_wp2_with fail
    go_ret
    exact ⟨rfl, Below.refl _ _⟩
  | nd l r ihl ihr =>
    intro b w ha hb
    have h' : l.carets + r.carets + 1 ≤ 60 := ha
    cases b with
    | lf =>
      go_enter Try.func103, Try.ntmps103
      go_wp2_with fail
      refine (trLeaf_any (.nd l r) _).mono ?_; rintro e w1 ⟨rfl, rfl⟩
      simp only [Tr.isLf]
      go_wp2_with fail
      refine (trLeaf_any .lf _).mono ?_; rintro e w1 ⟨rfl, rfl⟩
      simp only [Tr.isLf]
      go_wp2_with fail
      go_ret
      exact ⟨rfl, Below.refl _ _⟩
    | nd p q =>
      have h2 : p.carets + q.carets + 1 ≤ 60 := hb
      have ml := join_carets l p
      have mr := join_carets r q
      go_enter Try.func103, Try.ntmps103
      go_wp2_with fail
      refine (trLeaf_any (.nd l r) _).mono ?_; rintro e w1 ⟨rfl, rfl⟩
      simp only [Tr.isLf]
      go_wp2_with fail
      refine (trLeaf_any (.nd p q) _).mono ?_; rintro e w1 ⟨rfl, rfl⟩
      simp only [Tr.isLf]
      go_wp2_with fail
      refine (trSides_any l r _ (by omega)).mono ?_; rintro e w1 ⟨rfl, hb1⟩
      go_wp2_with fail
      refine (trSides_any p q _ (by omega)).mono ?_; rintro e w2 ⟨rfl, hb2⟩
      go_wp2_with fail
      refine (ihl p _ (by omega) (by omega)).mono ?_; rintro e w3 ⟨rfl, hb3⟩
      go_wp2_with fail
      refine (ihr q _ (by omega) (by omega)).mono ?_; rintro e w4 ⟨rfl, hb4⟩
      go_wp2_with fail
      refine (trOf_any (l.join p) (r.join q) _ (by omega)).mono ?_; rintro e w5 ⟨rfl, rfl⟩
      go_wp2_with fail
      go_ret
      exact ⟨rfl, nx (nx (nx hb1 hb2) hb3) hb4⟩

end Go.Proofs.Ytgjdppegkoepfaa

/-! Ans -/
namespace Go.Proofs.Ytgjdppegkoepfaa
open Go.RowKit

def trS : Option Tr → ByteArray
  | some t => t.str
  | none => ⟨#[]⟩
def trB : Option Tr → Bool
  | some _ => true
  | none => false
/-- An answer of a text and a bool. -/
def ansV (o : Option Tr) : Value := .tuple #[.string (trS o), .bool (trB o)]
/-- A tree, if it has no more carets than allowed. -/
def lim (t : Tr) : Option Tr := if t.carets ≤ 8 then some t else none

theorem trIs_yes (t : Tr) (w : World) (h : t.carets ≤ 8) : Calls Try.prog 84 #[.string t.str] w fun e w' => e = .returned (.bool true) ∧ w = w' := by
  have := trIs_any t.str w (by have := t.str_size; omega)
  rwa [isTreeB_str t h] at this
theorem trIs_no (s : ByteArray) (w : World) (hs : s.size ≤ 9223372036854775806) (h : treeOf s = none) : Calls Try.prog 84 #[.string s] w fun e w' => e = .returned (.bool false) ∧ w = w' := by
  have := trIs_any s w hs
  rwa [isTreeB_eq, h] at this
theorem carets_str (t : Tr) (w : World) (h : t.carets ≤ 1000) : Calls Try.prog 85 #[.string t.str] w fun e w' => e = .returned (.int .i64 t.carets) ∧ w = w' := by
  have := carets_any t.str w (by have := t.str_size; omega)
  rwa [cnt_str] at this

theorem limit_yes (t : Tr) (w : World) (h : t.carets ≤ 8) : Calls Try.prog 132 #[.string t.str] w fun e w' => e = .returned (.tuple #[.string t.str, .bool true]) ∧ w = w' := by
  have hz := t.str_size
  have hz' : t.str.size ≤ 25 := by omega
  clear hz
  go_enter Try.func132, Try.ntmps132
  go_wp2_with fail
  go_ret2
  exact ⟨rfl, rfl⟩
theorem limit_no (t : Tr) (w : World) (h : 8 < t.carets) : Calls Try.prog 132 #[.string t.str] w fun e w' => e = .returned (.tuple #[.string ⟨#[]⟩, .bool false]) ∧ w = w' := by
  have hz := t.str_size
  have hz' : 25 < t.str.size := by omega
  clear hz
  go_enter Try.func132, Try.ntmps132
  go_wp2_with fail
  go_ret2
  exact ⟨rfl, rfl⟩
theorem limit_any (t : Tr) (w : World) : Calls Try.prog 132 #[.string t.str] w fun e w' => e = .returned (ansV (lim t)) ∧ w = w' := by
  by_cases h : t.carets ≤ 8
  · have := limit_yes t w h
    rw [show ansV (lim t) = .tuple #[.string t.str, .bool true] by simp [lim, h, ansV, trS, trB]]
    exact this
  · have := limit_no t w (by omega)
    rw [show ansV (lim t) = .tuple #[.string ⟨#[]⟩, .bool false] by simp [lim, h, ansV, trS, trB]]
    exact this

def TreesOk (t u : Tr) (w : World) (e : Ending) (w' : World) : Prop :=
  ∃ b c : Nat, NodeAt w' t b ∧ NodeAt w' u c ∧ Below w.heap.size w w' ∧ e = .returned (.tuple #[.pointer (some ⟨b, 0, none⟩), .pointer (some ⟨c, 0, none⟩), .bool true])
def TreesNo (w : World) (e : Ending) (w' : World) : Prop :=
  Below w.heap.size w w' ∧ e = .returned (.tuple #[.pointer none, .pointer none, .bool false])

end Go.Proofs.Ytgjdppegkoepfaa

/-! Count -/
namespace Go.Proofs.Ytgjdppegkoepfaa
open Go.RowKit

set_option maxHeartbeats 1000000 in
set_option maxRecDepth 100000 in
theorem count_any (s : ByteArray) (w : World) :
    Calls Try.prog 118 #[.string s, .string ⟨#[40]⟩] w fun e w' => e = .returned (.int .i64 (Lib.countByte s.data.toList 40 : Nat)) ∧ w = w' := by
  go_enter Try.func118, Try.ntmps118
  go_wp2
  rw [run_callFunc_extern Try.func146 (by kernel_rfl) (by kernel_rfl) (by kernel_rfl) (e := Extern.BytealgCount.count) (by kernel_rfl), Lib.run_countString]
  simp only [Result.andThen]
  rw [Oper.upon_value]
  go_wp2
  go_ret
  exact ⟨rfl, rfl⟩

theorem countCarets_any (t : Tr) (w : World) (_h : t.carets ≤ 1000) :
    Calls Try.prog 87 #[.string t.str] w (Gives (.int .i64 t.carets) w) := by
  have e : Hid (Lib.countByte t.str.data.toList 40 = t.carets) := by rw [show Hid _ = _ from rfl, Tr.str_list, ← text_count]; rfl
  go_enter Try.func87, Try.ntmps87
  go_wp2_with fail
  refine (count_any t.str _).mono ?_; rintro _ w1 ⟨rfl, rfl⟩
  rw [e.out]
  go_wp2_with fail
  go_ret
  exact ⟨rfl, Below.refl _ _⟩
end Go.Proofs.Ytgjdppegkoepfaa

/-! Pair -/
namespace Go.Proofs.Ytgjdppegkoepfaa
open Go.RowKit

/-- A pair of texts as a value. -/
abbrev pv (a b : ByteArray) : Value := .agg #[.string a, .string b]

theorem toPair_any (a b : ByteArray) (w : World) :
    Calls Try.prog 15 #[.agg #[.string a, .string b]] w (Gives (.agg #[.string a, .string b]) w) := by
  go_enter Try.func15, Try.ntmps15
  go_wp2
  refine bodyPost_ret (v := .agg #[.string a, .string b]) (by simp [results, Try.results15, go_sem]) rfl ⟨rfl, ?_⟩
  exact nxAlloc (nxAlloc (nxAlloc (Below.refl _ _) _) _) _

theorem szPair_any (a b : ByteArray) (w : World) (ha : a.size ≤ 9223372036854775807) (hb : b.size ≤ 9223372036854775807) (n : Int) (h0 : 0 ≤ n) (h1 : n ≤ 1048576) :
    Calls Try.prog 13 #[.agg #[.string a, .string b], .int .i64 n] w (Gives (.int .i64 (if (a.size : Int) + b.size ≤ n then n - a.size - b.size else -1)) w) := by
  by_cases h2 : n - a.size < 0
  · rw [if_neg (by omega)]
    go_enter Try.func13, Try.ntmps13
    go_wp2
    go_ret
    exact ⟨rfl, (Below.refl _ _).alloc (Nat.le_refl _) _⟩
  · by_cases h3 : n - a.size - b.size < 0
    · rw [if_neg (by omega)]
      go_enter Try.func13, Try.ntmps13
      go_wp2
      go_ret
      exact ⟨rfl, (Below.refl _ _).alloc (Nat.le_refl _) _⟩
    · rw [if_pos (by omega)]
      go_enter Try.func13, Try.ntmps13
      go_wp2
      go_ret
      exact ⟨rfl, (Below.refl _ _).alloc (Nat.le_refl _) _⟩

theorem eqPair_same (a b : ByteArray) (w : World) :
    Calls Try.prog 43 #[.agg #[.string a, .string b], .agg #[.string a, .string b]] w (Gives (.bool true) w) := by
  go_enter Try.func43, Try.ntmps43
  go_wp2
  go_ret
  exact ⟨rfl, ((Below.refl _ _).alloc (Nat.le_refl _) _).alloc (by simp) _⟩

theorem pairOf_isSome (a b : ByteArray) (t u : Tr) (ha : treeOf a = some t) (hb : treeOf b = some u) : (pairOf a b).isSome = ((t.carets : Int) == (u.carets : Int)) := by
  unfold pairOf
  rw [ha, hb, Bool.eq_iff_iff, beq_iff_eq]
  by_cases h : t.carets = u.carets
  · simp [h]
  · simp only [h, if_false]; simp; omega

set_option maxRecDepth 100000 in
set_option maxHeartbeats 1000000 in
theorem prGood_any (a b : ByteArray) (w : World) (ha : a.size ≤ 9223372036854775806) (hb : b.size ≤ 9223372036854775806) :
    Calls Try.prog 46 #[.agg #[.string a, .string b]] w (Gives (.bool (pairOf a b).isSome) w) := by
  cases h : treeOf a with
  | none =>
    have e : (pairOf a b).isSome = false := by unfold pairOf; rw [h]; rfl
    rw [e]
    have T := fun w => trIs_no a w ha h
    clear h e
    go_enter Try.func46, Try.ntmps46
    go_wp2_with fail
    go_quiet ((go_at_call 84; with_reducible exact quiet_eq (T _)))
    go_wp2_with fail
    go_ret
    exact ⟨rfl, drewB (nxAlloc (Below.refl _ _) _) _⟩
  | some t =>
    cases k : treeOf b with
    | none =>
      have e : (pairOf a b).isSome = false := by unfold pairOf; rw [h, k]; rfl
      rw [e]
      obtain ⟨rfl, hc⟩ := treeOf_some h
      have T := fun w => trIs_yes t w hc
      have U := fun w => trIs_no b w hb k
      clear h k e
      go_enter Try.func46, Try.ntmps46
      go_wp2_with fail
      go_quiet ((go_at_call 84; first | (with_reducible exact quiet_eq (T _)) | (with_reducible exact quiet_eq (U _))))
      go_wp2_with fail
      go_ret
      exact ⟨rfl, drewB (nxAlloc (Below.refl _ _) _) _⟩
    | some u =>
      rw [pairOf_isSome a b t u h k]
      obtain ⟨rfl, hc⟩ := treeOf_some h
      obtain ⟨rfl, hd⟩ := treeOf_some k
      have T := fun w => trIs_yes t w hc
      have U := fun w => trIs_yes u w hd
      have C := fun w => carets_str t w (by omega)
      have D := fun w => carets_str u w (by omega)
      clear h k
      go_enter Try.func46, Try.ntmps46
      go_wp2_with fail
      go_quiet ((first | (go_at_call 84; first | (with_reducible exact quiet_eq (T _)) | (with_reducible exact quiet_eq (U _))) | (go_at_call 85; first | (with_reducible exact quiet_eq (C _)) | (with_reducible exact quiet_eq (D _)))))
      go_wp2_with fail
      go_ret
      exact ⟨rfl, drewB (nxAlloc (Below.refl _ _) _) _⟩
end Go.Proofs.Ytgjdppegkoepfaa

/-! IsPair -/
namespace Go.Proofs.Ytgjdppegkoepfaa
open Go.RowKit

theorem isTree_yes' (t : Tr) (w : World) (h : t.carets ≤ 8) : Calls Try.prog 86 #[.string t.str] w (Gives (.bool true) w) := (implIsTree_yes t w h).mono fun _ _ ⟨h1, h2⟩ => ⟨h2, h1⟩
theorem isTree_no' (s : ByteArray) (w : World) (hs : s.size ≤ 9223372036854775806) (h : treeOf s = none) : Calls Try.prog 86 #[.string s] w (Gives (.bool false) w) := (implIsTree_no s w hs h).mono fun _ _ ⟨h1, h2⟩ => ⟨h2, h1⟩

set_option maxRecDepth 100000 in
set_option maxHeartbeats 2000000 in
theorem isPair_any (a b : ByteArray) (w : World) (ha : a.size ≤ 9223372036854775806) (hb : b.size ≤ 9223372036854775806) :
    Calls Try.prog 50 #[.agg #[.string a, .string b]] w (Gives (.bool (pairOf a b).isSome) w) := by
  cases h : treeOf a with
  | none =>
    have e : (pairOf a b).isSome = false := by unfold pairOf; rw [h]; rfl
    rw [e]
    have T := fun w => isTree_no' a w ha h
    clear h e
    go_enter Try.func50, Try.ntmps50
    go_wp2_with fail
    have hb0 : Below w.heap.size w (w.alloc (.cells #[.string a, .string b] 27 (0, 0))) := nxAlloc (Below.refl _ _) _
    have hc := two_cells (heap_alloc_at w (.cells #[.string a, .string b] 27 (0, 0)))
    have hs : w.heap.size < (w.alloc (.cells #[.string a, .string b] 27 (0, 0))).heap.size := by simp
    generalize w.alloc (.cells #[.string a, .string b] 27 (0, 0)) = w0 at *
    refine wp_region_cls (by kernel_rfl) (by kernel_rfl) ?_
    repeat (
      refine wpQuiet_step (fun K hK => ?_)
      go_simp
      first
        | (refine hK _ ?_; clear hK K)
        | (refine ⟨_, fun _ _ => rfl, hK _ ?_⟩; clear hK K)
        | (apply Exists.intro
           refine ⟨fun w' hw' => ?_, hK _ ?_⟩
           · first
               | (rw [hw'.cell hs hc.1]; exact ⟨rfl, rfl⟩)
               | (rw [hw'.cell hs hc.2]; exact ⟨rfl, rfl⟩)
               | (go_at_call 86; exact hw'.call (T _))
           clear hK K))
    refine wpQuiet_nil ?_
    intro w' hw'
    go_wp2_with fail
    go_ret
    exact ⟨rfl, nx hb0 hw'⟩
  | some t =>
    cases k : treeOf b with
    | none =>
      have e : (pairOf a b).isSome = false := by unfold pairOf; rw [h, k]; rfl
      rw [e]
      obtain ⟨rfl, hc⟩ := treeOf_some h
      have T := fun w => isTree_yes' t w hc
      have U := fun w => isTree_no' b w hb k
      clear h k e hc
      go_enter Try.func50, Try.ntmps50
      go_wp2_with fail
      have hb0 : Below w.heap.size w (w.alloc (.cells #[.string t.str, .string b] 27 (0, 0))) := nxAlloc (Below.refl _ _) _
      have hc := two_cells (heap_alloc_at w (.cells #[.string t.str, .string b] 27 (0, 0)))
      have hs : w.heap.size < (w.alloc (.cells #[.string t.str, .string b] 27 (0, 0))).heap.size := by simp
      generalize w.alloc (.cells #[.string t.str, .string b] 27 (0, 0)) = w0 at *
      refine wp_region_cls (by kernel_rfl) (by kernel_rfl) ?_
      repeat (
        refine wpQuiet_step (fun K hK => ?_)
        go_simp
        first
          | (refine hK _ ?_; clear hK K)
          | (refine ⟨_, fun _ _ => rfl, hK _ ?_⟩; clear hK K)
          | (apply Exists.intro
             refine ⟨fun w' hw' => ?_, hK _ ?_⟩
             · first
                 | (rw [hw'.cell hs hc.1]; exact ⟨rfl, rfl⟩)
                 | (rw [hw'.cell hs hc.2]; exact ⟨rfl, rfl⟩)
                 | (go_at_call 86; first | (with_reducible exact hw'.call (T _)) | (with_reducible exact hw'.call (U _)))
             clear hK K))
      refine wpQuiet_nil ?_
      intro w' hw'
      go_wp2_with fail
      go_ret
      exact ⟨rfl, nx hb0 hw'⟩
    | some u =>
      rw [pairOf_isSome a b t u h k]
      obtain ⟨rfl, hc⟩ := treeOf_some h
      obtain ⟨rfl, hd⟩ := treeOf_some k
      have T := fun w => isTree_yes' t w hc
      have U := fun w => isTree_yes' u w hd
      have C := fun w => countCarets_any t w (by omega)
      have D := fun w => countCarets_any u w (by omega)
      clear h k hc hd
      go_enter Try.func50, Try.ntmps50
      go_wp2_with fail
      have hb0 : Below w.heap.size w (w.alloc (.cells #[.string t.str, .string u.str] 27 (0, 0))) := nxAlloc (Below.refl _ _) _
      have hc := two_cells (heap_alloc_at w (.cells #[.string t.str, .string u.str] 27 (0, 0)))
      have hs : w.heap.size < (w.alloc (.cells #[.string t.str, .string u.str] 27 (0, 0))).heap.size := by simp
      generalize w.alloc (.cells #[.string t.str, .string u.str] 27 (0, 0)) = w0 at *
      refine wp_region_cls (by kernel_rfl) (by kernel_rfl) ?_
      repeat (
        refine wpQuiet_step (fun K hK => ?_)
        go_simp
        first
          | (refine hK _ ?_; clear hK K)
          | (refine ⟨_, fun _ _ => rfl, hK _ ?_⟩; clear hK K)
          | (apply Exists.intro
             refine ⟨fun w' hw' => ?_, hK _ ?_⟩
             · first
                 | (rw [hw'.cell hs hc.1]; exact ⟨rfl, rfl⟩)
                 | (rw [hw'.cell hs hc.2]; exact ⟨rfl, rfl⟩)
                 | (go_at_call 86; first | (with_reducible exact hw'.call (T _)) | (with_reducible exact hw'.call (U _)))
                 | (go_at_call 87; first | (with_reducible exact hw'.call (C _)) | (with_reducible exact hw'.call (D _)))
             clear hK K))
      refine wpQuiet_nil ?_
      intro w' hw'
      go_wp2_with fail
      go_ret
      exact ⟨rfl, nx hb0 hw'⟩
end Go.Proofs.Ytgjdppegkoepfaa

/-! Ft4 -/
namespace Go.Proofs.Ytgjdppegkoepfaa
open Go.RowKit

theorem less_steps {n d m e : Nat} (h : isFr n d = true) (k : isFr m e = true) : n * e < m * d ↔ stepsOf n d < stepsOf m e := by
  have h1 := steps_cross h
  have k1 := steps_cross k
  have hd : 0 < d := by have := isP2_bounds (isFr_iff.1 h).1; omega
  have he : 0 < e := by have := isP2_bounds (isFr_iff.1 k).1; omega
  obtain ⟨W, hW⟩ : ∃ W, W = 1048576 := ⟨_, rfl⟩
  have hW0 : 0 < W := by omega
  rw [← hW] at h1 k1
  generalize stepsOf n d = s at *
  generalize stepsOf m e = t at *
  have a1 : n * e * W = s * (d * e) := by
    calc n * e * W = (n * W) * e := by ac_rfl
      _ = s * (d * e) := by rw [h1]; ac_rfl
  have a2 : m * d * W = t * (d * e) := by
    calc m * d * W = (m * W) * d := by ac_rfl
      _ = t * (d * e) := by rw [k1]; ac_rfl
  rw [← Nat.mul_lt_mul_right hW0, a1, a2]
  exact Nat.mul_lt_mul_right (Nat.mul_pos hd he)
theorem frOf_pos (s : Nat) : 0 < (frOf s).2 := short_pos (by omega)
theorem frOf_cross (s : Nat) : (frOf s).1 * 1048576 = s * (frOf s).2 := by
  obtain ⟨W, hW⟩ : ∃ W, W = 1048576 := ⟨_, rfl⟩
  have := short_steps (W := W) (n := s) (d := W) (by omega) ⟨1, by omega⟩
  rw [Nat.div_self (by omega), Nat.mul_one] at this
  unfold frOf
  rw [← hW]
  exact this
theorem steps_frOf {s : Nat} (h : s ≤ 1048576) (h2 : s % 1024 = 0) : stepsOf (frOf s).1 (frOf s).2 = s := by
  have h1 := steps_cross (frOf_thousand h h2)
  have h3 := frOf_cross s
  rw [h3] at h1
  exact (Nat.eq_of_mul_eq_mul_right (frOf_pos s) h1).symm

set_option maxHeartbeats 2000000 in
theorem mpLess_any (n d m e : Nat) (w : World) (h : isFr n d = true) (k : isFr m e = true) :
    Calls Try.prog 79 #[.agg #[.int .i64 n, .int .i64 d], .agg #[.int .i64 m, .int .i64 e]] w (Gives (.bool (decide (stepsOf n d < stepsOf m e))) w) := by
  have hl := less_steps h k
  obtain ⟨a1, a2, a3, a4⟩ := isFr_iff.1 h
  obtain ⟨b1, b2, b3, b4⟩ := isFr_iff.1 k
  have c1 := isP2_bounds a1
  have c2 := isP2_bounds b1
  have p1 : n * e ≤ 1024 * 1024 := mul_bound (by omega) (by omega)
  have p2 : m * d ≤ 1024 * 1024 := mul_bound (by omega) (by omega)
  have i1 : (n : Int) * (e : Int) = ((n * e : Nat) : Int) := by simp
  have i2 : (m : Int) * (d : Int) = ((m * d : Nat) : Int) := by simp
  have j1 : 0 ≤ (n : Int) * (e : Int) ∧ (n : Int) * (e : Int) ≤ 1048576 := by omega
  have j2 : 0 ≤ (m : Int) * (d : Int) ∧ (m : Int) * (d : Int) ≤ 1048576 := by omega
  have hl' : (decide (stepsOf n d < stepsOf m e)) = decide ((n : Int) * (e : Int) < (m : Int) * (d : Int)) := by
    rw [i1, i2]
    exact decide_eq_decide.2 (hl.symm.trans (by omega))
  rw [hl']
  clear hl' hl p1 p2 i1 i2 c1 c2 a1 a2 a3 a4 b1 b2 b3 b4 h k
  obtain ⟨j1a, j1b⟩ := j1
  obtain ⟨j2a, j2b⟩ := j2
  generalize hu : (n : Int) * (e : Int) = u at *
  generalize hv : (m : Int) * (d : Int) = v at *
  generalize hr : decide (u < v) = r
  have HR := Lib.hid hr
  clear hr
  go_enter Try.func79, Try.ntmps79
  go_wp2_with fail
  have hb0 : Below w.heap.size w ((w.alloc (.cells #[.int .i64 n, .int .i64 d] 45 (0, 0))).alloc (.cells #[.int .i64 m, .int .i64 e] 45 (0, 0))) := nxAlloc (nxAlloc (Below.refl _ _) _) _
  have hx0 := heap_keep (nxAlloc (Below.refl _ _) (.cells #[.int .i64 m, .int .i64 e] 45 (0, 0))) (heap_alloc_at w (.cells #[.int .i64 n, .int .i64 d] 45 (0, 0)))
  have hx1 := heap_alloc_at (w.alloc (.cells #[.int .i64 n, .int .i64 d] 45 (0, 0))) (.cells #[.int .i64 m, .int .i64 e] 45 (0, 0))
  generalize ((w.alloc (.cells #[.int .i64 n, .int .i64 d] 45 (0, 0))).alloc (.cells #[.int .i64 m, .int .i64 e] 45 (0, 0))) = w0 at *
  have e1 : (w.alloc (.cells #[.int .i64 n, .int .i64 d] 45 (0, 0))).heap.size = w.heap.size + 1 := by simp
  rw [e1] at hx1
  clear e1
  obtain ⟨hx0a, hx0b, hx0c⟩ := two_facts hx0
  obtain ⟨hx0f, hx0g⟩ := two_frozen hx0
  obtain ⟨hx1a, hx1b, hx1c⟩ := two_facts hx1
  obtain ⟨hx1f, hx1g⟩ := two_frozen hx1
  go_ret
  refine ⟨ret_bool ?_, hb0⟩
  rw [← HR.out]

set_option maxRecDepth 100000 in
set_option maxHeartbeats 2000000 in
theorem mpLeaf_any (t : Tr) (n d : Nat) (w : World) (h : t.carets ≤ 8) (hf : isFr n d = true) :
    Calls Try.prog 67 #[.string t.str, .agg #[.int .i64 n, .int .i64 d]] w (Gives (.int .i64 (lastTo t.starts (stepsOf n d))) w) := by
  have hM := fun w => mpStarts_any t w h
  have hok := addrs_ok t h
  have hl := addrs_length t ⟨#[]⟩
  unfold Tr.starts
  generalize t.addrs ⟨#[]⟩ = ss at *
  obtain ⟨S, hS⟩ : ∃ S : List Nat, S = ss.map stA := ⟨_, rfl⟩
  rw [← hS]
  have hSl : S.length = ss.length := by rw [hS]; simp
  have hstep : ∀ k, k < ss.length → ∃ x y : Nat, (flatF (frs ss)).getD (k * 2) 0 = (x : Int) ∧ (flatF (frs ss)).getD (k * 2 + 1) 0 = (y : Int) ∧ isFr x y = true ∧ stepsOf x y = S.getD k 0 := by
    intro k hk
    have hk2 : k < (frs ss).length := by simpa [frs] using hk
    have ha := hok (ss.getD k ⟨#[]⟩) (by simp [hk])
    have hlt := stA_lt (a := ss.getD k ⟨#[]⟩) (by have := ha.1; omega) ha.2
    have hth := stA_thousand ha.1
    have e : (frs ss).getD k (0, 0) = frOf (stA (ss.getD k ⟨#[]⟩)) := by simp [frs, hk]
    have e2 : S.getD k 0 = stA (ss.getD k ⟨#[]⟩) := by rw [hS]; simp [hk]
    have g := flatF_get (frs ss) k hk2
    rw [e] at g
    exact ⟨_, _, g.1, g.2, frOf_thousand (by omega) hth, by rw [e2]; exact steps_frOf (by omega) hth⟩
  have hfl : (frs ss).length = ss.length := by simp [frs]
  generalize frs ss = fs at *
  have HS := Lib.hid hstep
  have hL := fun x y w (k : isFr ((x : Nat) : Int) ((y : Nat) : Int) = true) => mpLess_any n d x y w hf k
  generalize stepsOf n d = s at *
  have HF := Lib.hid hf
  clear hstep hok hS hf
  go_enter Try.func67, Try.ntmps67
  go_wp2_with fail
  have hb0 : Below w.heap.size w (w.alloc (.cells #[.int .i64 n, .int .i64 d] 45 (0, 0))) := nxAlloc (Below.refl _ _) _
  have hx0 := heap_alloc_at w (.cells #[.int .i64 n, .int .i64 d] 45 (0, 0))
  generalize (w.alloc (.cells #[.int .i64 n, .int .i64 d] 45 (0, 0))) = w0 at *
  obtain ⟨hx0a, hx0b, hx0c⟩ := two_facts hx0
  obtain ⟨hx0f, hx0g⟩ := two_frozen hx0
  refine (hM _).mono ?_; rintro e w1 ⟨v, own, hb1, rfl⟩
  have hbw1 := nx hb0 hb1
  have hx1 := heap_keep hb1 hx0
  rcases own.cells with ⟨_, h0⟩ | ⟨g, cap, rfl, hg0, hg, hc1, hc2, hcell, _⟩
  · omega
  · have HC := Lib.hid hcell
    unfold maxLen at hc2
    clear hcell own hx0 hx0a hx0b hx0c hx0f hx0g hM
    rw [hfl] at *
    obtain ⟨hx0a, hx0b, hx0c⟩ := two_facts hx1
    go_wp2_with fail
    go_loopw [5, 11] (fun v i wr => ∃ k : Nat, k ≤ ss.length ∧ i = .int .i64 k ∧ v = .int .i64 (lastTo (S.take k) s) ∧ Below w1.heap.size w1 wr) (fun _ i _ => ss.length - (intOf i).toNat)
    case atStart => exact ⟨0, Nat.zero_le _, rfl, rfl, Below.refl _ _⟩
    case round =>
      obtain ⟨k, hk, rfl, rfl, hbw⟩ := hrel
      by_cases hlt : k < ss.length
      · have hlt' : (k : Int) < (ss.length : Int) := by omega
        obtain ⟨x, y, g1, g2, hf2, hst⟩ := HS.out k hlt
        have c1 := (hbw.cell (p := ⟨g, k * 2, none⟩) hg).trans (HC.out (k * 2) (by omega))
        have c2 := (hbw.cell (p := ⟨g, k * 2 + 1, none⟩) hg).trans (HC.out (k * 2 + 1) (by omega))
        rw [g1] at c1
        rw [g2] at c2
        obtain ⟨ka, kb, kc⟩ := two_facts (heap_keep hbw hx1)
        have hLs := fun w => hL x y w hf2
        rw [hst] at hLs
        have hnext := lastTo_take (l := S) (k := k) (s := s) (by omega)
        clear g1 g2 hf2 hst
        by_cases hc : s < S.getD k 0
        · rw [decide_eq_true hc] at hLs
          rw [if_neg (by omega)] at hnext
          have HN := Lib.hid hnext
          clear hnext hc
          go_wp2_with fail
          refine (hLs _).mono ?_; rintro e w3 ⟨rfl, hb3⟩
          have hbw3 := nx (nxAlloc hbw _) hb3
          go_wp2_with fail
          go_roundw
          case rel => exact ⟨k + 1, by omega, by go_num, by rw [HN.out], hbw3⟩
          case measure => simp [intOf]; omega
        · rw [decide_eq_false hc] at hLs
          rw [if_pos (by omega)] at hnext
          have HN := Lib.hid hnext
          clear hnext hc
          go_wp2_with fail
          refine (hLs _).mono ?_; rintro e w3 ⟨rfl, hb3⟩
          have hbw3 := nx (nxAlloc hbw _) hb3
          go_wp2_with fail
          go_roundw
          case rel => exact ⟨k + 1, by omega, by go_num, by rw [HN.out], hbw3⟩
          case measure => simp [intOf]; omega
      · obtain rfl : k = ss.length := by omega
        rw [List.take_of_length_le (by omega)]
        go_wp2_with fail
        go_ret
        exact ⟨rfl, nx hbw1 hbw⟩

end Go.Proofs.Ytgjdppegkoepfaa

/-! WSlopesOf -/
namespace Go.Proofs.Ytgjdppegkoepfaa
open Go.RowKit

theorem slopesL_pcs : ∀ (l m : List ByteArray), (pcsL l m).map (fun x => x.2.2) = slopesL l m := by
  intro l
  induction l with
  | nil => intro m; cases m <;> rfl
  | cons a l ih => intro m; cases m with
    | nil => rfl
    | cons b m => simp [pcsL, slopesL, ih m]
theorem slopes_pcs (p : Pr) : (pcs p).map (fun x => x.2.2) = slopes p := slopesL_pcs _ _
def SlopesOf_o (a b : ByteArray) : Option (List Int) := (pairOf a b).bind fun p => some (slopes p)
theorem SlopesOf_len (a b : ByteArray) : ((SlopesOf_o a b).getD []).length ≤ 1000000000 := by
  unfold SlopesOf_o
  cases h : pairOf a b with
  | none => simp
  | some p =>
    obtain ⟨_, _, hok, hc1, hc2⟩ := pairOf_some h
    have l1 := addrs_length p.1 ⟨#[]⟩
    have l2 := addrs_length p.2 ⟨#[]⟩
    have hok' : p.1.carets = p.2.carets := hok
    have := slopesL_length (p.1.addrs ⟨#[]⟩) (p.2.addrs ⟨#[]⟩) (by omega)
    show (slopesL (p.1.addrs ⟨#[]⟩) (p.2.addrs ⟨#[]⟩)).length ≤ 1000000000
    omega

set_option maxRecDepth 100000 in
set_option maxHeartbeats 2000000 in
theorem mpSlopes_any (p : Pr) (w : World) (h1 : p.1.carets ≤ 8) (h2 : p.2.carets ≤ 8) (he : p.1.carets = p.2.carets) :
    Calls Try.prog 47 #[.agg #[.string p.1.str, .string p.2.str]] w (GivesInts (slopes p) w) := by
  obtain ⟨i0, hi, hz0, hz1, hz2⟩ := info_parts info_int
  have A1 := fun w => trAddresses_any p.1 ⟨#[]⟩ w (by omega) (by show 0 + p.1.carets ≤ 1000; omega)
  have A2 := fun w => trAddresses_any p.2 ⟨#[]⟩ w (by omega) (by show 0 + p.2.carets ≤ 1000; omega)
  have l1 := addrs_length p.1 ⟨#[]⟩
  have l2 := addrs_length p.2 ⟨#[]⟩
  have o1 := addrs_ok p.1 h1
  have o2 := addrs_ok p.2 h2
  unfold slopes
  generalize p.1.addrs ⟨#[]⟩ = xs at *
  generalize p.2.addrs ⟨#[]⟩ = ys at *
  obtain ⟨n, hn⟩ : ∃ n, n = xs.length := ⟨_, rfl⟩
  have hny : ys.length = n := by omega
  have hn9 : n ≤ 9 := by omega
  have hxy : xs.length = ys.length := by omega
  have pl := slopesL_length xs ys hxy
  have pg := slopesL_get xs ys hxy
  have hO : Hid (∀ k, k < n → okAd (xs.getD k ⟨#[]⟩) ∧ okAd (ys.getD k ⟨#[]⟩)) := by
    intro k hk
    have hk1 : k < xs.length := by omega
    have hk2 : k < ys.length := by omega
    exact ⟨o1 _ (by simp [hk1]), o2 _ (by simp [hk2])⟩
  have A1' : ∀ w, Calls Try.prog 58 #[.string p.1.str, .string ⟨#[]⟩] w fun e w' => ∃ g cap : Nat, OwnS w.heap.size w' (.slice (some ⟨g, 0, none⟩) n cap) xs ∧ Below w.heap.size w w' ∧ e = .returned (.slice (some ⟨g, 0, none⟩) n cap) := by
    intro w
    have := A1 w
    unfold GivesTexts at this
    rw [← hn] at this
    exact this
  have A2' : ∀ w, Calls Try.prog 58 #[.string p.2.str, .string ⟨#[]⟩] w fun e w' => ∃ g cap : Nat, OwnS w.heap.size w' (.slice (some ⟨g, 0, none⟩) n cap) ys ∧ Below w.heap.size w w' ∧ e = .returned (.slice (some ⟨g, 0, none⟩) n cap) := by
    intro w
    have := A2 w
    unfold GivesTexts at this
    rw [hny] at this
    exact this
  clear A1 A2
  rw [← hn] at pl pg
  have hX := hn.symm
  clear hn
  generalize slopesL xs ys = ps at *
  have PG := Lib.hid pg
  have PL := Lib.hid pl
  have HX := Lib.hid hX
  have HY := Lib.hid hny
  clear pg pl o1 o2 hxy l1 l2 hX hny
  go_enter Try.func47, Try.ntmps47
  go_wp2_with fail
  have hb0 : Below w.heap.size w (w.alloc (.cells #[.string p.1.str, .string p.2.str] 27 (0, 0))) := nxAlloc (Below.refl _ _) _
  have hx0 := heap_alloc_at w (.cells #[.string p.1.str, .string p.2.str] 27 (0, 0))
  generalize (w.alloc (.cells #[.string p.1.str, .string p.2.str] 27 (0, 0))) = w0 at *
  obtain ⟨hx0a, hx0b, hx0c⟩ := two_facts hx0
  obtain ⟨hx0f, hx0g⟩ := two_frozen hx0
  refine (A2' _).mono ?_; rintro e w1 ⟨g2, cap2, own2, hb1, rfl⟩
  have hbw1 := nx hb0 hb1
  replace hx0 := heap_keep hb1 hx0
  clear hx0a hx0b hx0c hx0f hx0g
  obtain ⟨hx0a, hx0b, hx0c⟩ := two_facts hx0
  obtain ⟨hx0f, hx0g⟩ := two_frozen hx0
  clear hb1 hb0
  go_wp2_with fail
  refine (A1' _).mono ?_; rintro e w2 ⟨g1, cap1, own1, hb2, rfl⟩
  have hbw2 := nx hbw1 hb2
  replace own2 := own2.keep hb2
  clear hb2 hbw1 hx0 hx0a hx0b hx0c hx0f hx0g A1' A2'
  go_wp2_with fail
  rcases own1.cells with ⟨h0, _⟩ | ⟨g1', cap1', hv1, _, hg1, hc1, hc2, hcell1, _⟩
  · simp at h0
  rcases own2.cells with ⟨h0, _⟩ | ⟨g2', cap2', hv2, _, hg2, hc3, hc4, hcell2, _⟩
  · simp at h0
  simp only [Value.slice.injEq, Option.some.injEq, Addr.mk.injEq, and_true] at hv1 hv2
  obtain ⟨rfl, e1, rfl⟩ := hv1
  obtain ⟨rfl, e2, rfl⟩ := hv2
  clear e1 e2
  have HC1 := Lib.hid hcell1
  have HC2 := Lib.hid hcell2
  unfold maxLen at hc2 hc4
  clear hcell1 hcell2 own1 own2
  go_loopw [3, 14] (fun v i wr => ∃ k : Nat, k ≤ n ∧ i = .int .i64 k ∧ OwnI w2.heap.size wr v (ps.take k) ∧ Below w2.heap.size w2 wr) (fun _ i _ => n - (intOf i).toNat)
  case atStart => exact ⟨0, Nat.zero_le _, rfl, OwnI.nil _ _, Below.refl _ _⟩
  case round =>
    obtain ⟨k, hk, rfl, hown, hbw⟩ := hrel
    by_cases hlt : k < n
    · have hlt' : (k : Int) < (n : Int) := by omega
      have hX := HX.out
      have hY := HY.out
      have c1 := (hbw.cell (p := ⟨g1, k, none⟩) hg1).trans (HC1.out k (by omega))
      have c2 := (hbw.cell (p := ⟨g2, k, none⟩) hg2).trans (HC2.out k (by omega))
      obtain ⟨ok1, ok2⟩ := hO.out k hlt
      have hpl := PL.out
      have hnext : ps.take (k + 1) = ps.take k ++ [ps.getD k 0] := by
        have : k < ps.length := by omega
        rw [List.take_succ_eq_append_getElem this]; simp [this]
      have hlen : (ps.take k).length = k := by simp; omega
      rw [PG.out k (by omega)] at hnext
      generalize ps.take k = qs at hown hlen hnext
      generalize xs.getD k ⟨#[]⟩ = a at *
      generalize ys.getD k ⟨#[]⟩ = b at *
      have sa := ok1.1
      have sb := ok2.1
      have hi3 : IntKind.i64.wrap ((a.size : Int) - (b.size : Int)) = (a.size : Int) - (b.size : Int) := by rw [IntKind.wrap_i64] <;> omega
      have HN := Lib.hid hnext
      have hq9 : qs.length ≤ 9 := by omega
      clear hnext hX hY ok1 ok2 hpl hlen
      go_wp2_with (at_builtin; refine wpList_append_own _ rfl _ _ 37 rfl w2.heap.size 3 i0 (.int .i64 0) 1 8 Try.underlying37 hi hz0 hz1 hz2 rfl (by decide) _ _ _ rfl (hown.alloc _) ⟨wr.heap.size, 0, none⟩ 1 1 [.int .i64 ((a.size : Int) - (b.size : Int))] rfl rfl (new1 _ _ _) (one1 _) (by unfold maxLen; omega) (by omega) (size_al hbw _) ?_; intro v' w3 hown' hgrow hnn)
      have hbw' := below_app hbw hown (Nat.le_refl _) hgrow
      have hown1 := OwnI.snoc hown'
      clear hown hown' hgrow hbw hnn
      go_wp2_with fail
      go_roundw
      case rel => exact ⟨k + 1, by omega, by go_num, by rw [HN.out]; exact hown1, hbw'⟩
      case measure => simp [intOf]; omega
    · obtain rfl : k = n := by omega
      have hpl := PL.out
      rw [List.take_of_length_le (by omega)] at hown
      go_wp2_with fail
      go_ret
      exact ⟨_, hown.mono hbw2.size, nx hbw2 hbw, rfl⟩

theorem newsAt (w : World) (n : Nat) (v : Value) (e : TypeId) (h : n = w.heap.size) : ∀ (j : Nat) (u : Value), [v][j]? = some u → (w.alloc (.cells #[v] e)).cell? ((⟨n, 0, none⟩ : Addr).add j) = some u := by
  subst h; exact new1 w v e
end Go.Proofs.Ytgjdppegkoepfaa

/-! Sl2 -/
namespace Go.Proofs.Ytgjdppegkoepfaa
open Go.RowKit

theorem start_any (x y z : Int) (w : World) : Calls Try.prog 126 #[.agg #[.int .i64 x, .int .i64 y, .int .i64 z]] w (Gives (.int .i64 x) w) := by
  go_enter Try.func126, Try.ntmps126
  go_wp2_with fail
  go_ret
  exact ⟨rfl, nxAlloc (Below.refl _ _) _⟩
set_option maxRecDepth 100000 in
set_option maxHeartbeats 2000000 in
theorem lastUpToP_any (g cap : Nat) (ps : List (Nat × Nat × Int)) (n s : Nat) (w : World) (hn : ps.length = n) (hn9 : n ≤ 1000) (hg : g < w.heap.size) (hc1 : n ≤ cap) (_hc2 : cap ≤ maxLen)
    (hcell : ∀ i, i < n * 3 → w.cell? ⟨g, i, none⟩ = some (.int .i64 ((flatP ps).getD i 0))) :
    Calls Try.prog 125 #[.slice (some ⟨g, 0, none⟩) n cap, .int .i64 s, .func (Fn.func 126) #[] #[]] w (Gives (.int .i64 (lastTo (ps.map fun x => x.1) s)) w) := by
  have hcall : ∀ (args : Array Value) (w : World), (callFunc 126 args).run Try.prog w = .ok (.enter 126 args) w := fun _ _ => by kernel_rfl
  obtain ⟨S, hS⟩ : ∃ S : List Nat, S = ps.map fun x => x.1 := ⟨_, rfl⟩
  rw [← hS]
  have hSl : S.length = n := by rw [hS]; simp [hn]
  have hst : ∀ k, k < n → S.getD k 0 = (ps.getD k (0, 0, 0)).1 := by intro k hk; have : k < ps.length := by omega
                                                                     rw [hS]; simp [this]
  have HT := Lib.hid hst
  have HNN := Lib.hid hn
  have HC := Lib.hid hcell
  unfold maxLen at _hc2
  clear hst hS hn hcell
  go_enter Try.func125, Try.ntmps125
  go_wp2_with fail
  go_loopw [7, 11] (fun v i wr => ∃ k : Nat, k ≤ n ∧ i = .int .i64 k ∧ v = .int .i64 (lastTo (S.take k) s) ∧ Below w.heap.size w wr) (fun _ i _ => n - (intOf i).toNat)
  case atStart => exact ⟨0, Nat.zero_le _, rfl, rfl, Below.refl _ _⟩
  case round =>
    obtain ⟨k, hk, rfl, rfl, hbw⟩ := hrel
    by_cases hlt : k < n
    · have hlt' : (k : Int) < (n : Int) := by omega
      have hN := HNN.out
      have fg := flatP_get ps k (by omega)
      have c1 := (hbw.cell (p := ⟨g, k * 3, none⟩) hg).trans (HC.out (k * 3) (by omega))
      have c2 := (hbw.cell (p := ⟨g, k * 3 + 1, none⟩) hg).trans (HC.out (k * 3 + 1) (by omega))
      have c3 := (hbw.cell (p := ⟨g, k * 3 + 2, none⟩) hg).trans (HC.out (k * 3 + 2) (by omega))
      rw [fg.1] at c1
      rw [fg.2.1] at c2
      rw [fg.2.2] at c3
      have hnext := lastTo_take (l := S) (k := k) (s := s) (by omega)
      rw [HT.out k hlt] at hnext
      generalize (ps.getD k (0, 0, 0)).2.2 = z at *
      generalize (ps.getD k (0, 0, 0)).2.1 = y at *
      generalize (ps.getD k (0, 0, 0)).1 = x at *
      have hS := fun w => start_any (x : Int) (y : Int) z w
      clear fg hN
      by_cases hle : x ≤ s
      · rw [if_pos hle] at hnext
        have HN := Lib.hid hnext
        have hle' : (x : Int) ≤ (s : Int) := by omega
        clear hnext hle
        go_wp2_with fail
        refine (hS _).mono ?_; rintro e w3 ⟨rfl, hb3⟩
        have hbw3 := nx hbw hb3
        go_wp2_with fail
        go_roundw
        case rel => exact ⟨k + 1, by omega, by go_num, by rw [HN.out], hbw3⟩
        case measure => simp [intOf]; omega
      · rw [if_neg hle] at hnext
        have HN := Lib.hid hnext
        have hle' : ¬ (x : Int) ≤ (s : Int) := by omega
        clear hnext hle
        go_wp2_with fail
        refine (hS _).mono ?_; rintro e w3 ⟨rfl, hb3⟩
        have hbw3 := nx hbw hb3
        go_wp2_with fail
        go_roundw
        case rel => exact ⟨k + 1, by omega, by go_num, by rw [HN.out], hbw3⟩
        case measure => simp [intOf]; omega
    · obtain rfl : k = n := by omega
      rw [List.take_of_length_le (by omega)]
      go_wp2_with fail
      go_ret
      exact ⟨rfl, hbw⟩

theorem three_cells {w : World} {g : Nat} {a b c : Value} {t : TypeId} (h : w.heap[g]? = some (.cells #[a, b, c] t (0, 0))) : w.cell? ⟨g, 0, none⟩ = some a ∧ w.cell? ⟨g, 1, none⟩ = some b ∧ w.cell? ⟨g, 2, none⟩ = some c := by
  simp [World.cell?, h]
theorem three_frozen {w : World} {g : Nat} {a b c : Value} {t : TypeId} (h : w.heap[g]? = some (.cells #[a, b, c] t (0, 0))) : w.frozen? ⟨g, 0, none⟩ = false ∧ w.frozen? ⟨g, 1, none⟩ = false ∧ w.frozen? ⟨g, 2, none⟩ = false := by
  simp [World.frozen?, h]
theorem set_three {w : World} {g : Nat} {a b c : Value} (a' b' c' : Value) {t : TypeId} (h : w.heap[g]? = some (.cells #[a, b, c] t (0, 0))) : (((w.setCell ⟨g, 0, none⟩ a').setCell ⟨g, 1, none⟩ b').setCell ⟨g, 2, none⟩ c').heap[g]? = some (.cells #[a', b', c'] t (0, 0)) :=
  Joins.block_setCell (Joins.block_setCell (Joins.block_setCell h a') b') c'

set_option maxRecDepth 100000 in
set_option maxHeartbeats 2000000 in
theorem pieceAt_any (g cap : Nat) (ps : List (Nat × Nat × Int)) (n s : Nat) (w : World) (hn : ps.length = n) (hn0 : 0 < n) (hn9 : n ≤ 1000) (hg : g < w.heap.size) (hc1 : n ≤ cap) (hc2 : cap ≤ maxLen)
    (hcell : ∀ i, i < n * 3 → w.cell? ⟨g, i, none⟩ = some (.int .i64 ((flatP ps).getD i 0))) :
    Calls Try.prog 99 #[.slice (some ⟨g, 0, none⟩) n cap, .int .i64 s] w (Gives (.agg #[.int .i64 (ps.getD (lastTo (ps.map fun x => x.1) s) (0, 0, 0)).1, .int .i64 (ps.getD (lastTo (ps.map fun x => x.1) s) (0, 0, 0)).2.1, .int .i64 (ps.getD (lastTo (ps.map fun x => x.1) s) (0, 0, 0)).2.2]) w) := by
  obtain ⟨o, ho⟩ : ∃ o : Obj, o = .cells #[.int .i64 0, .int .i64 0, .int .i64 0] 107 (0, 0) := ⟨_, rfl⟩
  have hb0 : Below w.heap.size w (w.alloc o) := nxAlloc (Below.refl _ _) _
  have hcell' : ∀ i, i < n * 3 → (w.alloc o).cell? ⟨g, i, none⟩ = some (.int .i64 ((flatP ps).getD i 0)) := fun i hi => (hb0.cell (p := ⟨g, i, none⟩) hg).trans (hcell i hi)
  have hg' : g < (w.alloc o).heap.size := Nat.lt_of_lt_of_le hg hb0.size
  have hU := lastUpToP_any g cap ps n s (w.alloc o) hn hn9 hg' hc1 hc2 hcell'
  have hlt := lastTo_lt (ps.map fun x => x.1) s (by simp; omega)
  rw [List.length_map, hn] at hlt
  generalize lastTo (ps.map fun x => x.1) s = r at *
  have fg := flatP_get ps r (by omega)
  have d1 := hcell' (r * 3) (by omega)
  have d2 := hcell' (r * 3 + 1) (by omega)
  have d3 := hcell' (r * 3 + 2) (by omega)
  rw [fg.1] at d1
  rw [fg.2.1] at d2
  rw [fg.2.2] at d3
  generalize (ps.getD r (0, 0, 0)).2.2 = z at *
  generalize (ps.getD r (0, 0, 0)).2.1 = y at *
  generalize (ps.getD r (0, 0, 0)).1 = x at *
  have hx0 := heap_alloc_at w o
  rw [ho] at hU d1 d2 d3 hg' hx0 hb0
  have hlt' : (r : Int) < (n : Int) := by omega
  unfold maxLen at hc2
  clear hcell hcell' fg hn ho
  go_enter Try.func99, Try.ntmps99
  go_wp2_with fail
  refine hU.mono ?_; rintro e w1 ⟨rfl, hb1⟩
  have c1 := (hb1.cell (p := ⟨g, r * 3, none⟩) hg').trans d1
  have c2 := (hb1.cell (p := ⟨g, r * 3 + 1, none⟩) hg').trans d2
  have c3 := (hb1.cell (p := ⟨g, r * 3 + 2, none⟩) hg').trans d3
  have hx1 := heap_keep hb1 hx0
  have hbw1 := nx hb0 hb1
  obtain ⟨ka, kb, kc⟩ := three_cells hx1
  obtain ⟨kf, kg, kh⟩ := three_frozen hx1
  clear d1 d2 d3 hx0 hb0 hb1 hU
  go_wp2_with fail
  obtain ⟨q1, q2, q3⟩ := three_cells (set_three (.int .i64 x) (.int .i64 y) (.int .i64 z) hx1)
  refine bodyPost_ret (v := .agg #[.int .i64 x, .int .i64 y, .int .i64 z]) (by simp [q1, q2, q3, results, Try.results99, go_sem]) rfl ⟨rfl, ?_⟩
  exact ((hbw1.setCell (by show w.heap.size ≤ w.heap.size; omega) _).setCell (by show w.heap.size ≤ w.heap.size; omega) _).setCell (by show w.heap.size ≤ w.heap.size; omega) _
end Go.Proofs.Ytgjdppegkoepfaa

/-! RegF -/
namespace Go.Proofs.Ytgjdppegkoepfaa
open Go.RowKit

section
variable {P : Program} {ops : Array Oper} {md : Region.Mode} {w0 : World}

/-- In every world that leaves what was there, o yields v and leaves what is there. -/
def yR (P : Program) (ops : Array Oper) (w0 : World) (o : Oper) (v : Value) (a : Act) : Prop := ∀ w1, Cls w0 w1 → YieldsIn P ops (Cls w1) o v a

/-- The operations in the text's order. -/
def wpQuietR (P : Program) (ops : Array Oper) (w0 : World) (Q : Act → Prop) : List Oper → Act → Prop
  | [], a => Q a
  | o :: rest, a => ∃ v, yR P ops w0 o v a ∧ wpQuietR P ops w0 Q rest (a.put o.dst v)

theorem wpQuietR_nil {Q : Act → Prop} {a : Act} (h : Q a) : wpQuietR P ops w0 Q [] a := h
theorem wpQuietR_step {Q : Act → Prop} {a : Act} {o : Oper} {rest : List Oper}
    (h : ∀ K : Act → Prop, (∀ a, wpQuietR P ops w0 Q rest a → K a) → if Region.wanted o (yielded ops a.tmps) then ∃ v, (∀ w1, Cls w0 w1 → o.quietAt P a (Cls w1) w1 v) ∧ K (a.put o.dst v) else K (a.put o.dst undef)) : wpQuietR P ops w0 Q (o :: rest) a := by
  have := h _ (fun _ h => h)
  unfold wpQuietR
  by_cases hw : Region.wanted o (yielded ops a.tmps) = true
  · rw [if_pos hw] at this
    obtain ⟨v, h1, h2⟩ := this
    refine ⟨v, fun w1 hw1 => .inl ⟨hw, fun w2 hw2 => ?_⟩, h2⟩
    have h3 := h1 w2 (nx hw1 hw2)
    have h4 : ∀ w3, Cls w2 w3 → Cls w1 w3 := fun w3 hw3 => nx hw2 hw3
    unfold Oper.quietAt at *
    generalize (execOp a.eval o).run P w2 = r at *
    cases r with
    | ok n w' =>
      cases n <;> simp only [Oper.quietUpon] at h3 ⊢ <;> try exact h3
      exact ⟨h3.1, h3.2.mono fun _ _ ⟨e1, e2⟩ => ⟨e1, h4 _ e2⟩⟩
    | halt x w' => simp only [Oper.quietUpon] at h3
  · rw [if_neg hw] at this
    exact ⟨undef, fun w1 _ => .inr ⟨by simpa using hw, rfl⟩, this⟩

theorem quiet_wider {C C' : World → Prop} {o : Oper} {a : Act} {w : World} {v : Value} (h : ∀ w, C w → C' w) (hh : o.quietAt P a C w v) : o.quietAt P a C' w v := by
  unfold Oper.quietAt at *
  generalize (execOp a.eval o).run P w = r at *
  cases r with
  | ok n w' =>
    cases n <;> simp only [Oper.quietUpon] at hh ⊢ <;> try exact hh
    exact ⟨hh.1, hh.2.mono fun _ _ ⟨e1, e2⟩ => ⟨e1, h _ e2⟩⟩
  | halt x w' => simp only [Oper.quietUpon] at hh

/-- Operation i comes up. -/
def qR (P : Program) (ops : Array Oper) (w0 : World) (i : Nat) (K : Act → Prop) (a : Act) : Prop :=
  ∃ o v, ops[i]? = some o ∧ yR P ops w0 o v a ∧ K (a.put o.dst v)

/-- What has come up is closed. -/
structure ClInv (md : Region.Mode) (ops : Array Oper) (listed : Array Bool) : Prop where
  size : listed.size = ops.size
  closed : ∀ j oj, ops[j]? = some oj → listed.getD j false = true → ∀ e ∈ oj.after, Region.binds md e = true → listed.getD e.on false = true

theorem ClInv.set {i : Nat} {listed : Array Bool} (inv : ClInv md ops listed) (hi : i ∈ Region.ready md ops listed) : ClInv md ops (listed.setIfInBounds i true) := by
  obtain ⟨_, oi, hoi, hall⟩ := mem_ready.1 hi
  refine ⟨by simp [inv.size], fun j oj hj hl e he hb => ?_⟩
  by_cases hij : i = j
  · subst hij
    have : oj = oi := Option.some.inj (hj.symm.trans hoi)
    subst this
    exact getD_set_true (hall e he hb)
  · rw [getD_set_ne false hij] at hl
    exact getD_set_true (inv.closed j oj hj hl e he hb)

/-- Each of the first m waits for the next ones up to the last of them, and all behind them, number n aside, for that one. -/
def gateB (md : Region.Mode) (ops : Array Oper) (m n : Nat) : Bool :=
  ((List.range m).all fun i => decide (i + 1 = m) || (List.range m).any fun j => decide (i < j) && Region.waitsFor md ops j i) &&
  (List.range ops.size).all fun t => decide (t < m) || decide (t = n) || Region.waitsFor md ops t (m - 1)

theorem gate_waits {m n : Nat} {listed : Array Bool} (hg : gateB md ops m n = true) (inv : ClInv md ops listed) (_hm : m ≤ ops.size) :
    ∀ (d i : Nat), m - i = d → i < m → listed.getD i true = false → ∀ t, m ≤ t → t ≠ n → t ∉ Region.ready md ops listed := by
  simp only [gateB, Bool.and_eq_true] at hg
  obtain ⟨hs, hc⟩ := hg
  intro d
  induction d using Nat.strongRecOn with
  | _ d ih =>
    intro i hd hi hun t ht htn hr
    obtain ⟨_, ot, hot, hall⟩ := mem_ready.1 hr
    have htlt : t < ops.size := (Array.getElem?_eq_some_iff.1 hot).1
    by_cases him : i + 1 = m
    · have h1 := List.all_eq_true.1 hc t (List.mem_range.2 htlt)
      simp only [Bool.or_eq_true, decide_eq_true_eq] at h1
      rcases h1 with (h1 | h1) | h1
      · omega
      · exact htn h1
      · obtain ⟨o', ho', e, he, hb, hon⟩ := Region.waitsFor_spec h1
        obtain rfl : o' = ot := Option.some.inj (ho'.symm.trans hot)
        have h2 := hall e he hb
        rw [hon, show m - 1 = i by omega, getD_both hun] at h2
        cases h2
    · have h1 := List.all_eq_true.1 hs i (List.mem_range.2 hi)
      simp only [Bool.or_eq_true, decide_eq_true_eq, him, false_or] at h1
      obtain ⟨j, hj, hj2⟩ := List.any_eq_true.1 h1
      have hjm := List.mem_range.1 hj
      simp only [Bool.and_eq_true, decide_eq_true_eq] at hj2
      obtain ⟨oj, hoj, e, he, hb, hon⟩ := Region.waitsFor_spec hj2.2
      cases hl : listed.getD j false with
      | true =>
        have h2 := inv.closed j oj hoj hl e he hb
        rw [hon, getD_both hun] at h2
        cases h2
      | false =>
        exact ih (m - j) (by omega) j rfl (by omega) (getD_in (by rw [inv.size]; omega) hl) t ht htn hr

/-- Whatever order is drawn for the first m operations, number n aside. -/
def headF (P : Program) (md : Region.Mode) (ops : Array Oper) (w0 : World) (m n : Nat) (L : Array Bool → Act → Prop) : Nat → Array Bool → Act → Prop
  | 0, listed, a => L listed a
  | f + 1, listed, a => (∃ i ∈ Region.ready md ops listed, i ≠ n) ∧ ∀ i ∈ Region.ready md ops listed, i ≠ n → i < m ∧ qR P ops w0 i (headF P md ops w0 m n L f (listed.setIfInBounds i true)) a

theorem headF_first {m n i : Nat} {oi : Oper} {v : Value} {L : Array Bool → Act → Prop} (hi : ops[i]? = some oi) (hsel : ∀ (j : Nat) (o : Oper) cs b, ops[j]? = some o → o.op ≠ .select cs b)
    (hg : gateB md ops m n = true) (hm : m ≤ ops.size) (hmn : m ≤ n) (hin : i < m)
    (hdone : ∀ listed a, L listed a → ∀ j ∈ Region.ready md ops listed, m ≤ j) :
    ∀ (f : Nat) (listed : Array Bool) (a : Act), ClInv md ops listed →
      (∀ j oj, ops[j]? = some oj → j ≠ i → listed.getD j true = false → (∀ e ∈ oj.after, Region.binds md e = true → e.on ≠ i) → oi.apart ops oj = true) →
      i ∈ Region.ready md ops listed → yR P ops w0 oi v a →
      headF P md ops w0 m n L f (listed.setIfInBounds i true) (a.put oi.dst v) → headF P md ops w0 m n L (f + 1) listed a := by
  intro f
  induction f with
  | zero =>
    intro listed a inv _ hr hy H
    have hun := (mem_ready.1 hr).1
    refine ⟨⟨i, hr, by omega⟩, fun j hj hjn => ?_⟩
    have hjn' : j < m := Nat.lt_of_not_le fun h => gate_waits hg inv hm _ i rfl hin hun j h hjn hj
    refine ⟨hjn', ?_⟩
    by_cases hji : j = i
    · subst hji; exact ⟨oi, v, hi, hy, H⟩
    · have := hdone _ _ H j (ready_mono hj hji)
      omega
  | succ f ih =>
    intro listed a inv hfree hr hy H
    have hun := (mem_ready.1 hr).1
    refine ⟨⟨i, hr, by omega⟩, fun j hj hjn => ?_⟩
    have hjn' : j < m := Nat.lt_of_not_le fun h => gate_waits hg inv hm _ i rfl hin hun j h hjn hj
    refine ⟨hjn', ?_⟩
    by_cases hji : j = i
    · subst hji; exact ⟨oi, v, hi, hy, H⟩
    · obtain ⟨oj, u, hoj, hyj, k⟩ := (H.2 j (ready_mono hj hji) hjn).2
      obtain ⟨hjun, oj', hoj', hall⟩ := mem_ready.1 hj
      obtain rfl : oj' = oj := Option.some.inj (hoj'.symm.trans hoj)
      have hnot : ∀ e ∈ oj'.after, Region.binds md e = true → e.on ≠ i := by
        intro e he hb heq
        have k2 := hall e he hb
        rw [heq, getD_both hun] at k2
        cases k2
      have hap := hfree j oj' hoj hji hjun hnot
      obtain ⟨h1, h2, h3⟩ := Oper.apart_spec hap
      refine ⟨oj', u, hoj, fun w1 hw1 => (hyj w1 hw1).of_same (execOp_put oj' (fun cs b => hsel j oj' cs b hoj) a oi.dst v h1).symm (wanted_put oj' a oi.dst v h1).symm, ?_⟩
      refine ih (listed.setIfInBounds j true) (a.put oj'.dst u) (inv.set hj) ?_ (ready_mono hr (Ne.symm hji))
        (fun w1 hw1 => (hy w1 hw1).of_same (execOp_put oi (fun cs b => hsel i oi cs b hi) a oj'.dst u h3) (wanted_put oi a oj'.dst u h3)) ?_
      · intro k ok hk hki hunk hno
        refine hfree k ok hk hki ?_ hno
        by_cases hjk : j = k
        · subst hjk; exact hjun
        · rw [getD_set_ne true hjk] at hunk; exact hunk
      · rw [Array.setIfInBounds_comm _ _ hji, ← Act.put_comm a v u h2]
        exact k

/-- The first m, from number k on, in the text's order; then it is Z that has come up. -/
def lexF (md : Region.Mode) (ops : Array Oper) (m : Nat) (Z : Array Bool) : Nat → Nat → Array Bool → Bool
  | 0, _, listed => listed == Z && (Region.ready md ops Z).all fun j => decide (m ≤ j)
  | f + 1, k, listed => (Region.ready md ops listed).contains k && Region.free md ops listed k && lexF md ops m Z f (k + 1) (listed.setIfInBounds k true)

theorem lexF_done {m : Nat} {Z : Array Bool} : ∀ {f k : Nat} {listed : Array Bool}, lexF md ops m Z f k listed = true → ∀ j ∈ Region.ready md ops Z, m ≤ j
  | 0, _, _, h => by
    simp only [lexF, Bool.and_eq_true] at h
    exact fun j hj => by simpa using List.all_eq_true.1 h.2 j hj
  | f + 1, _, _, h => by
    simp only [lexF, Bool.and_eq_true] at h
    exact lexF_done h.2

theorem headF_lex {m n : Nat} {Z : Array Bool} {Lq : Act → Prop} (hsel : Region.noSelect ops = true) (hg : gateB md ops m n = true) (hm : m ≤ ops.size) (hmn : m ≤ n) :
    ∀ (l : List Oper) (k : Nat) (listed : Array Bool) (a : Act), (∀ j, j < l.length → l[j]? = ops[k + j]?) → k + l.length = m → ClInv md ops listed →
    lexF md ops m Z l.length k listed = true → wpQuietR P ops w0 Lq l a →
    headF P md ops w0 m n (fun listed' a' => listed' = Z ∧ Lq a') l.length listed a
  | [], k, listed, a, _, hk, _, hB, h => by
    simp only [List.length_nil, lexF, Bool.and_eq_true, beq_iff_eq] at hB
    exact ⟨hB.1, h⟩
  | o :: l, k, listed, a, hl, hk, inv, hB, h => by
    have h0 : ops[k]? = some o := by simpa using (hl 0 (by simp)).symm
    have hdone := lexF_done hB
    simp only [List.length_cons, lexF, Bool.and_eq_true] at hB
    obtain ⟨⟨hr, hf⟩, hB'⟩ := hB
    have hkn : k < m := by simp only [List.length_cons] at hk; omega
    have hr' : k ∈ Region.ready md ops listed := by simpa using hr
    obtain ⟨v, hy, hK⟩ := h
    refine headF_first h0 (Region.noSelect_spec hsel) hg hm hmn hkn (fun listed' a' hL => by rw [hL.1]; exact hdone) l.length listed a inv (Region.free_spec h0 hf) hr' hy ?_
    refine headF_lex hsel hg hm hmn l (k + 1) _ _ (fun j hj => ?_) (by simp only [List.length_cons] at hk; omega) (inv.set hr') hB' hK
    have := hl (j + 1) (by simp; omega)
    simpa [Nat.add_assoc, Nat.add_comm 1 j] using this

theorem wpOp_of_qR {i : Nat} {a : Act} {K : Act → Prop} {K' : Act → World → Prop} {Q' : Exit → Act → World → Prop} {w : World} (hC : Cls w0 w) (h : ∀ a w', Cls w w' → K a → K' a w') (hh : qR P ops w0 i K a) : wpOp P ops Q' i K' a w := by
  obtain ⟨o, v, ho, hy, hk⟩ := hh
  exact wpOp_of_qOp (C := Cls w) (Below.refl _ _) h ((hy w hC).qOp ho hk)

/-- No operation among the first m waits for number n or meets its slot; it waits for none. -/
def looseB (md : Region.Mode) (ops : Array Oper) (m n : Nat) : Bool :=
  (List.range m).all fun i => !Region.waitsFor md ops i n && match ops[n]?, ops[i]? with
    | some o, some oi => o.apart ops oi
    | _, _ => false

theorem looseB_spec {m n i : Nat} {o oi : Oper} (h : looseB md ops m n = true) (hi : i < m) (hn : ops[n]? = some o) (ho : ops[i]? = some oi) : o.apart ops oi = true ∧ ∀ e ∈ oi.after, Region.binds md e = true → e.on ≠ n := by
  have h1 := List.all_eq_true.1 h i (List.mem_range.2 hi)
  rw [hn, ho] at h1
  simp only [Bool.and_eq_true, Bool.not_eq_true'] at h1
  refine ⟨h1.2, fun e he hb heq => ?_⟩
  have h2 := h1.1
  unfold Region.waitsFor at h2
  rw [ho] at h2
  have h3 : (oi.after.any fun e => Region.binds md e && e.on == n) = true := Array.any_eq_true'.2 ⟨e, he, by simp [hb, heq]⟩
  dsimp only at h2
  rw [h3] at h2
  cases h2

def ptrV (g : Nat) : Value := .pointer (some ⟨g, 0, none⟩)

theorem heap_keepF {w w' : World} {g : Nat} {o : Obj} (hb : Cls w w') (h : w.heap[g]? = some o) : w'.heap[g]? = some o :=
  (Below.block hb g (by rcases Nat.lt_or_ge g w.heap.size with h' | h'; exact h'; rw [Array.getElem?_eq_none h'] at h; cases h)).trans h

/-- Once the cell is laid. -/
theorem any_post {m n g : Nat} {L : Array Bool → Act → Prop} {Q' : Exit → Act → World → Prop} {o : Oper} {X : Obj} (hsel : ∀ (j : Nat) (o : Oper) cs b, ops[j]? = some o → o.op ≠ .select cs b)
    (hgt : gateB md ops m n = true) (hm : m ≤ ops.size) (hn : n < ops.size) (hlo : looseB md ops m n = true) (ho : ops[n]? = some o)
    (hL : ∀ listed a w gp, L listed a → Cls w0 w → w.heap[gp]? = some X → w0.heap.size ≤ gp → wpAny P md ops Q' g (listed.setIfInBounds n true) (a.put o.dst (ptrV gp)) w) :
    ∀ (f : Nat) (listed : Array Bool) (a : Act) (w : World) (gp : Nat), listed.size = ops.size → ClInv md ops (listed.setIfInBounds n true) → Cls w0 w → w.heap[gp]? = some X → w0.heap.size ≤ gp →
      headF P md ops w0 m n L f listed a → wpAny P md ops Q' (f + g) (listed.setIfInBounds n true) (a.put o.dst (ptrV gp)) w := by
  intro f
  induction f with
  | zero => intro listed a w gp _ _ hw hx hg h; rw [Nat.zero_add]; exact hL _ _ _ _ h hw hx hg
  | succ f ih =>
    intro listed a w gp hsz inv hw hx hg h
    obtain ⟨⟨i0, hi0, hne⟩, hall⟩ := h
    have hi0n := (hall i0 hi0 hne).1
    have hr0 := ready_mono hi0 hne
    rw [Nat.add_right_comm]
    refine ⟨fun h0 => absurd h0 (List.ne_nil_of_mem hr0), fun i hi => ?_⟩
    obtain ⟨hun, oi, hoi, haft⟩ := mem_ready.1 hi
    have hin : i ≠ n := by
      rintro rfl
      have : (listed.setIfInBounds i true).getD i true = true := by
        rw [Array.getD_eq_getD_getElem?, Array.getElem?_setIfInBounds_self_of_lt (by omega)]; rfl
      rw [this] at hun; cases hun
    have hin' : i < m := Nat.lt_of_not_le fun h => gate_waits hgt inv hm _ i0 rfl hi0n (mem_ready.1 hr0).1 i h hin hi
    obtain ⟨hap, hno⟩ := looseB_spec hlo hin' ho hoi
    have hri : i ∈ Region.ready md ops listed := by
      refine mem_ready.2 ⟨by rw [getD_set_ne true (Ne.symm hin)] at hun; exact hun, oi, hoi, fun e he hb => ?_⟩
      have := haft e he hb
      rwa [getD_set_ne false (Ne.symm (hno e he hb))] at this
    obtain ⟨_, oi', v, hoi', hy, hk⟩ := hall i hri hin
    obtain rfl : oi' = oi := Option.some.inj (hoi'.symm.trans hoi)
    obtain ⟨h1, h2, h3⟩ := Oper.apart_spec hap
    refine wpOp_of_qR (K := fun a' => a' = (a.put o.dst (ptrV gp)).put oi'.dst v) hw (fun a' w' hw' he => ?_)
      ⟨oi', v, hoi, fun w1 hw1 => (hy w1 hw1).of_same (execOp_put oi' (fun cs b => hsel i oi' cs b hoi) a o.dst _ h1) (wanted_put oi' a o.dst _ h1), rfl⟩
    subst he
    rw [Act.put_comm a (ptrV gp) v h2, Array.setIfInBounds_comm _ _ (Ne.symm hin)]
    refine ih _ _ _ _ (by simp [hsz]) ?_ (nx hw hw') (heap_keepF hw' hx) hg hk
    rw [Array.setIfInBounds_comm _ _ hin]
    exact inv.set hi

/-- Before the cell is laid. -/
theorem any_pre {m n g : Nat} {L : Array Bool → Act → Prop} {Q' : Exit → Act → World → Prop} {o : Oper} {X : Obj} (hsel : ∀ (j : Nat) (o : Oper) cs b, ops[j]? = some o → o.op ≠ .select cs b)
    (hgt : gateB md ops m n = true) (hm : m ≤ ops.size) (hn : n < ops.size) (hlo : looseB md ops m n = true) (ho : ops[n]? = some o)
    (hW : ∀ t, Region.wanted o t = true) (hR : ∀ (a : Act) (w : World), (execOp a.eval o).run P w = .ok (.value (ptrV w.heap.size)) (w.alloc X))
    (hD : ∀ listed a w, L listed a → Cls w0 w → wpAny P md ops Q' (g + 1) listed a w)
    (hL : ∀ listed a w gp, L listed a → Cls w0 w → w.heap[gp]? = some X → w0.heap.size ≤ gp → wpAny P md ops Q' g (listed.setIfInBounds n true) (a.put o.dst (ptrV gp)) w) :
    ∀ (f : Nat) (listed : Array Bool) (a : Act) (w : World), ClInv md ops listed → Cls w0 w →
      headF P md ops w0 m n L f listed a → wpAny P md ops Q' (f + (g + 1)) listed a w := by
  intro f
  induction f with
  | zero =>
    intro listed a w inv hw h
    rw [Nat.zero_add]
    exact hD _ _ _ h hw
  | succ f ih =>
    intro listed a w inv hw h
    have h' := h
    obtain ⟨⟨i0, hi0, hne⟩, hall⟩ := h
    rw [Nat.add_right_comm]
    refine ⟨fun h0 => absurd h0 (List.ne_nil_of_mem hi0), fun i hi => ?_⟩
    by_cases hin : i = n
    · subst hin
      unfold wpOp
      simp only [ho, hW, if_true]
      left
      unfold Oper.wp
      rw [hR]
      simp only [Oper.upon]
      rw [show f + (g + 1) = (f + 1) + g by omega]
      exact any_post hsel hgt hm hn hlo ho hL (f + 1) listed a _ _ inv.size (inv.set hi) (nxAlloc hw _) (by show (w.heap.push X)[w.heap.size]? = _; simp) (Below.size hw) h'
    · obtain ⟨hlt, hq⟩ := hall i hi hin
      exact wpOp_of_qR hw (fun a' w' hw' hk => ih _ _ _ (inv.set hi) (nx hw hw') hk) hq

/-- The checks of a region whose first m operations are quiet, with a loose allocation at number n. -/
def floatB (md : Region.Mode) (ops : Array Oper) (m n : Nat) (Z : Array Bool) : Bool :=
  Region.noSelect ops && decide (m ≤ ops.size) && decide (m ≤ n) && decide (n < ops.size) && gateB md ops m n && looseB md ops m n && lexF md ops m Z m 0 (Array.replicate ops.size false)

theorem wpAny_mono {Q Q' : Exit → Act → World → Prop} (hQ : ∀ e a w, Q e a w → Q' e a w) : ∀ (f : Nat) (listed : Array Bool) (a : Act) (w : World), wpAny P md ops Q f listed a w → wpAny P md ops Q' f listed a w
  | 0, _, _, _, h => ⟨h.1, hQ _ _ _ h.2⟩
  | f + 1, listed, _, _, h => ⟨fun h0 => hQ _ _ _ (h.1 h0), fun i hi => by
      have h1 := wpOp_mono (fun a' w' h2 => wpAny_mono hQ f _ a' w' h2) (h.2 i hi)
      have hl : LetsOut Q → LetsOut Q' := fun ⟨a, w, h⟩ => ⟨a, w, hQ _ _ _ h⟩
      unfold wpOp at *
      split
      · rename_i ho; simpa only [ho] using h1
      · rename_i o ho
        simp only [ho] at h1
        split
        · rename_i hw
          simp only [hw, if_true] at h1
          refine h1.imp (fun h3 => ?_) (fun h3 => ⟨h3.1, hl h3.2⟩)
          unfold Oper.wp at *
          generalize (execOp _ o).run P _ = r at *
          cases r with
          | ok nx' w' =>
            cases nx' <;> simp only [Oper.upon] at h3 ⊢ <;> first
              | exact h3
              | exact Calls.mono h3 (fun e w'' he => by cases e <;> first | exact he | exact hQ _ _ _ he | exact hl he)
          | halt x w' =>
            cases x <;> simp only [Oper.upon] at h3 ⊢
            exact hQ _ _ _ h3
        · rename_i hw; simp only [hw] at h1; exact h1⟩

/-- Only the normal end. -/
def only (Q : Exit → Act → World → Prop) : Exit → Act → World → Prop := Exit.then (Q .normal) (fun _ _ _ => False)
theorem only_le {Q : Exit → Act → World → Prop} : ∀ e a w, only Q e a w → Q e a w := by
  intro e a w h
  cases e <;> first | exact h | exact False.elim h

/-- The first m operations are quiet; number n lays a cell, at any time; what else there is is shown in each order (the second time with the cell laid). -/
theorem wp_region_float {id : Nat} {Q : Exit → Act → World → Prop} {a : Act} {w : World} {l : List Oper} (m n : Nat) (Z : Array Bool) (o : Oper) (X : Obj) (hfm : P.follows .mixedOrders = true) (hB : floatB .any l.toArray m n Z = true)
    (ho' : l[n]? = some o) (hW : ∀ t, Region.wanted o t = true) (hR : ∀ (a : Act) (w : World), (execOp a.eval o).run P w = .ok (.value (ptrV w.heap.size)) (w.alloc X))
    (h : wpQuietR P l.toArray w (fun a' => (∀ w', Cls w w' → wpAny P .any l.toArray (only Q) (l.length - m) Z a' w') ∧
      ∀ gp w', Cls w w' → w'.heap[gp]? = some X → w.heap.size ≤ gp → wpAny P .any l.toArray (only Q) (l.length - m - 1) (Z.setIfInBounds n true) (a'.put o.dst (ptrV gp)) w') (l.take m) a) : (Code.region id l.toArray true).wp P Q a w := by
  simp only [floatB, Bool.and_eq_true, decide_eq_true_eq] at hB
  obtain ⟨⟨⟨⟨⟨⟨hsel, hm⟩, hmn⟩, hn⟩, hg⟩, hlo⟩, hlex⟩ := hB
  have ho : l.toArray[n]? = some o := by simpa using ho'
  have hm' : m ≤ l.length := by simpa using hm
  have hn' : n < l.length := by simpa using hn
  have htl : (l.take m).length = m := by simp; omega
  have inv0 : ClInv .any l.toArray (Array.replicate l.toArray.size false) := by
    refine ⟨by simp, fun j oj _ hl => ?_⟩
    rw [getD_replicate_false] at hl; cases hl
  have H := headF_lex (md := .any) (Z := Z) hsel hg hm hmn (l.take m) 0 _ a (fun j hj => by
    have hj' : j < m := by rw [htl] at hj; exact hj
    simp [hj']) (by simpa using htl) inv0 (by rw [htl]; exact hlex) h
  refine wp_region_any hfm (wpAny_mono only_le _ _ _ _ ?_)
  have := any_pre (Q' := only Q) (g := l.length - m - 1) (Region.noSelect_spec hsel) hg hm hn hlo ho hW hR
    (fun listed a' w' hL hw' => by
      have := hL.2.1 w' hw'
      rw [hL.1, show l.length - m - 1 + 1 = l.length - m by omega]
      exact this)
    (fun listed a' w' gp hL hw' hx hg => by rw [hL.1]; exact hL.2.2 gp w' hw' hx hg) _ _ _ _ inv0 ((Below.refl _ _).drew) H
  rw [htl, show m + (l.length - m - 1 + 1) = l.toArray.size by simp; omega] at this
  exact this
/-- Operations that yield one value in whatever world, in the text's order. -/
def wpPure (P : Program) (ops : Array Oper) (Q : Act → Prop) : List Oper → Act → Prop
  | [], a => Q a
  | o :: rest, a => ∃ v, Yields P ops o v a ∧ wpPure P ops Q rest (a.put o.dst v)
theorem wpPure_nil {Q : Act → Prop} {a : Act} (h : Q a) : wpPure P ops Q [] a := h
theorem wpPure_step {Q : Act → Prop} {a : Act} {o : Oper} {rest : List Oper}
    (h : ∀ K : Act → Prop, (∀ a, wpPure P ops Q rest a → K a) → if Region.wanted o (yielded ops a.tmps) then ∃ v, (∀ w, (execOp a.eval o).run P w = .ok (.value v) w) ∧ K (a.put o.dst v) else K (a.put o.dst undef)) : wpPure P ops Q (o :: rest) a := by
  have := h _ (fun _ h => h)
  unfold wpPure
  by_cases hw : Region.wanted o (yielded ops a.tmps) = true
  · rw [if_pos hw] at this
    obtain ⟨v, h1, h2⟩ := this
    exact ⟨v, .inl ⟨hw, h1⟩, h2⟩
  · rw [if_neg hw] at this
    exact ⟨undef, .inr ⟨by simpa using hw, rfl⟩, this⟩

/-- So many of them, from number k on, may be taken first; then all is forced from number e on. -/
def lexTo (md : Region.Mode) (ops : Array Oper) (g e : Nat) : Nat → Nat → Array Bool → Bool
  | 0, _, listed => Region.seqB md ops g e listed
  | f + 1, k, listed => (Region.ready md ops listed).contains k && Region.free md ops listed k && lexTo md ops g e f (k + 1) (listed.setIfInBounds k true)

theorem any_of_pure {g e : Nat} {Q' : Exit → Act → World → Prop} {C : World → Prop} {Lq : Act → Prop} (hsel : Region.noSelect ops = true) (hQ : ∀ c a w, ¬ Q' (.panic c) a w)
    (hL : ∀ listed a w, Region.seqB md ops g e listed = true → Lq a → C w → wpAny P md ops Q' g listed a w) :
    ∀ (l : List Oper) (k : Nat) (listed : Array Bool) (a : Act) (w : World), (∀ j, j < l.length → l[j]? = ops[k + j]?) → lexTo md ops g e l.length k listed = true → wpPure P ops Lq l a → C w → wpAny P md ops Q' (l.length + g) listed a w
  | [], _, listed, a, w, _, hB, h, hw => by
    rw [List.length_nil, Nat.zero_add]
    exact hL _ _ _ (by simpa [lexTo] using hB) h hw
  | o :: l, k, listed, a, w, hl, hB, h, hw => by
    have h0 : ops[k]? = some o := by simpa using (hl 0 (by simp)).symm
    simp only [List.length_cons, lexTo, Bool.and_eq_true] at hB
    obtain ⟨⟨hr, hf⟩, hB'⟩ := hB
    obtain ⟨v, hy, hK⟩ := h
    rw [List.length_cons, Nat.add_right_comm]
    refine wpAny_first h0 (Region.noSelect_spec hsel) (fun c a w h => absurd h (hQ _ _ _)) _ listed a w (Region.free_spec h0 hf) (by simpa using hr) hy ?_
    refine any_of_pure hsel hQ hL l (k + 1) _ _ w (fun j hj => ?_) hB' hK hw
    have := hl (j + 1) (by simp; omega)
    simpa [Nat.add_assoc, Nat.add_comm 1 j] using this

theorem wpPure_put {o : Oper} {x : Value} {Lq : Act → Prop} (hsel : ∀ (j : Nat) (o : Oper) cs b, ops[j]? = some o → o.op ≠ .select cs b) : ∀ (l : List Oper) (k : Nat) (a : Act), (∀ j, j < l.length → l[j]? = ops[k + j]?) → (∀ oi ∈ l, o.apart ops oi = true) →
    wpPure P ops (fun a => Lq (a.put o.dst x)) l a → wpPure P ops Lq l (a.put o.dst x)
  | [], _, _, _, _, h => h
  | oi :: l, k, a, hl, hap, h => by
    have h0 : ops[k]? = some oi := by simpa using (hl 0 (by simp)).symm
    obtain ⟨v, hy, hK⟩ := h
    obtain ⟨h1, h2, _⟩ := Oper.apart_spec (hap oi (by simp))
    refine ⟨v, hy.of_same (execOp_put oi (fun cs b => hsel k oi cs b h0) a o.dst x h1) (wanted_put oi a o.dst x h1), ?_⟩
    rw [Act.put_comm a x v h2]
    refine wpPure_put hsel l (k + 1) _ (fun j hj => ?_) (fun o' ho' => hap o' (by simp [ho'])) hK
    have := hl (j + 1) (by simp; omega)
    simpa [Nat.add_assoc, Nat.add_comm 1 j] using this

theorem wpQuietR_mono {Q Q' : Act → Prop} (h : ∀ a, Q a → Q' a) : ∀ (l : List Oper) (a : Act), wpQuietR P ops w0 Q l a → wpQuietR P ops w0 Q' l a
  | [], a, hh => h a hh
  | _ :: l, _, ⟨v, h1, h2⟩ => ⟨v, h1, wpQuietR_mono h l _ h2⟩
theorem wpPure_mono {Q Q' : Act → Prop} (h : ∀ a, Q a → Q' a) : ∀ (l : List Oper) (a : Act), wpPure P ops Q l a → wpPure P ops Q' l a
  | [], a, hh => h a hh
  | _ :: l, _, ⟨v, h1, h2⟩ => ⟨v, h1, wpPure_mono h l _ h2⟩

/-- The checks, with pure operations m .. n-1 between. -/
def floatPB (md : Region.Mode) (ops : Array Oper) (m n : Nat) (Z : Array Bool) : Bool :=
  floatB md ops m n Z && ((ops.toList.drop m).take (n - m)).all (fun oi => match ops[n]? with
    | some o => o.apart ops oi
    | none => false) &&
  lexTo md ops (ops.size - n) n (n - m) m Z && lexTo md ops (ops.size - n - 1) (n + 1) (n - m) m (Z.setIfInBounds n true)

/-- The first m operations are quiet, those from m up to n pure; number n lays a cell, at any time; the rest, in one forced order, is walked. -/
theorem wp_region_floatP {id : Nat} {Q : Exit → Act → World → Prop} {a : Act} {w : World} {l : List Oper} (m n : Nat) (Z : Array Bool) (o : Oper) (X : Obj) (hfm : P.follows .mixedOrders = true) (hB : floatPB .any l.toArray m n Z = true)
    (ho' : l[n]? = some o) (hW : ∀ t, Region.wanted o t = true) (hR : ∀ (a : Act) (w : World), (execOp a.eval o).run P w = .ok (.value (ptrV w.heap.size)) (w.alloc X))
    (h : wpQuietR P l.toArray w (wpPure P l.toArray (fun a' => ∀ gp w', Cls w w' → w'.heap[gp]? = some X → w.heap.size ≤ gp → wpList P l.toArray (only Q) (l.drop (n + 1)) (a'.put o.dst (ptrV gp)) w') ((l.drop m).take (n - m))) (l.take m) a) : (Code.region id l.toArray true).wp P Q a w := by
  simp only [floatPB, Bool.and_eq_true] at hB
  obtain ⟨⟨⟨hB, hap⟩, hp1⟩, hp2⟩ := hB
  have ho : l.toArray[n]? = some o := by simpa using ho'
  have hB' := hB
  simp only [floatB, Bool.and_eq_true, decide_eq_true_eq] at hB'
  obtain ⟨⟨⟨⟨⟨⟨hsel, hm⟩, hmn⟩, hn⟩, _⟩, _⟩, _⟩ := hB'
  have hn' : n < l.length := by simpa using hn
  have hsz : l.toArray.size = l.length := by simp
  have hln : ((l.drop m).take (n - m)).length = n - m := by simp; omega
  have hget : ∀ j, j < ((l.drop m).take (n - m)).length → ((l.drop m).take (n - m))[j]? = l.toArray[m + j]? := by
    intro j hj
    rw [hln] at hj
    simp [hj]
  have hap' : ∀ oi ∈ (l.drop m).take (n - m), o.apart l.toArray oi = true := by
    intro oi hoi
    have := List.all_eq_true.1 hap oi (by simpa using hoi)
    rw [ho] at this
    exact this
  refine wp_region_float m n Z o X hfm hB ho' hW hR (wpQuietR_mono (fun a' ha' => ⟨fun w' hw' => ?_, fun gp w' hw' hx hg => ?_⟩) _ _ h)
  · have := any_of_pure (md := .any) (g := l.toArray.size - n) (e := n) (Q' := only Q) (C := Cls w) hsel (fun _ _ _ h => h) (fun listed a w1 hq hL hw1 => by
      have eg : l.toArray.size - n = (l.length - n - 1) + 1 := by omega
      rw [eg] at hq ⊢
      simp only [Region.seqB, Bool.and_eq_true, decide_eq_true_eq] at hq
      refine ⟨fun h0 => (by rw [hq.1] at h0; cases h0), fun i hi => ?_⟩
      rw [hq.1] at hi
      obtain rfl : i = n := by simpa using hi
      unfold wpOp
      simp only [ho, hW, if_true]
      left
      unfold Oper.wp
      rw [hR]
      simp only [Oper.upon]
      have hdl : (l.drop (i + 1)).length = l.length - i - 1 := by simp; omega
      have := wpAny_of_seq (md := .any) (Q' := only Q) (l.drop (i + 1)) (i + 1) (listed.setIfInBounds i true) _ _ (fun j => by simp [List.getElem?_drop]) (by rw [hdl]; exact hq.2) (hL w1.heap.size _ (nxAlloc hw1 X) (by show (w1.heap.push X)[w1.heap.size]? = _; simp) (Below.size hw1))
      rwa [hdl] at this) _ m Z a' w' hget (by rw [hln]; exact hp1) ha' hw'
    rw [hln, show n - m + (l.toArray.size - n) = l.length - m by omega] at this
    exact this
  · have hdl : (l.drop (n + 1)).length = l.toArray.size - n - 1 := by simp; omega
    have hP := wpPure_put (o := o) (x := ptrV gp) (Lq := fun a => ∀ w', Cls w w' → w'.heap[gp]? = some X → wpList P l.toArray (only Q) (l.drop (n + 1)) a w') (Region.noSelect_spec hsel) _ m a' hget hap' (wpPure_mono (fun a h w' hw' hx => h gp w' hw' hx hg) _ _ ha')
    have := any_of_pure (md := .any) (g := l.toArray.size - n - 1) (e := n + 1) (Q' := only Q) (C := fun w' => Cls w w' ∧ w'.heap[gp]? = some X) hsel (fun _ _ _ h => h) (fun listed a w1 hq hL hw1 => by
      have := wpAny_of_seq (md := .any) (Q' := only Q) (l.drop (n + 1)) (n + 1) listed a w1 (fun j => by simp [List.getElem?_drop]) (by rw [hdl]; exact hq) (hL w1 hw1.1 hw1.2)
      rwa [hdl] at this) _ m _ _ w' hget (by rw [hln]; exact hp2) hP ⟨hw', hx⟩
    rw [hln, show n - m + (l.toArray.size - n - 1) = l.length - m - 1 by omega] at this
    exact this
end
/-- What follows behind a variable. -/
theorem only_hide {P : Program} {ops : Array Oper} {Q : Exit → Act → World → Prop} {l : List Oper} {a : Act} {w : World}
    (h : ∀ K : Act → World → Prop, (∀ a w, Q .normal a w → K a w) → wpList P ops (Exit.then K (fun _ _ _ => False)) l a w) : wpList P ops (only Q) l a w := h (Q .normal) (fun _ _ h => h)
theorem callR {P : Program} {f : FuncId} {args : Array Value} {w : World} {v : Value} (k : Calls P f args w (Gives v w)) : Calls P f args w fun e w'' => e = .returned v ∧ Cls w w'' := k
end Go.Proofs.Ytgjdppegkoepfaa

/-! WSlopeAt -/
namespace Go.Proofs.Ytgjdppegkoepfaa
open Go.RowKit

def ansZ (o : Option Int) : Value := .tuple #[.int .i64 (o.getD 0), .bool o.isSome]
/-- The slope at a fraction. -/
def slopeAtO (a b : ByteArray) (n d : Int) : Option Int := (pairOf a b).bind fun p => if isFr n d = true then some ((slopes p).getD (lastTo p.1.starts (stepsOf n d)) 0) else none
theorem pcs_starts (p : Pr) (he : p.1.carets = p.2.carets) : (pcs p).map (fun x => x.1) = p.1.starts := by
  have : ∀ (l m : List ByteArray), l.length = m.length → (pcsL l m).map (fun x => x.1) = l.map stA := by
    intro l
    induction l with
    | nil => intro m h; cases m <;> rfl
    | cons a l ih => intro m h; match m, h with
      | b :: m, h => simp [pcsL, ih m (by simpa using h)]
  have l1 := addrs_length p.1 ⟨#[]⟩
  have l2 := addrs_length p.2 ⟨#[]⟩
  exact this _ _ (by omega)
theorem pcs_len (p : Pr) (he : p.1.carets = p.2.carets) : (pcs p).length = p.1.carets + 1 := by
  have l1 := addrs_length p.1 ⟨#[]⟩
  have l2 := addrs_length p.2 ⟨#[]⟩
  have := pcsL_length (p.1.addrs ⟨#[]⟩) (p.2.addrs ⟨#[]⟩) (by omega)
  show (pcsL (p.1.addrs ⟨#[]⟩) (p.2.addrs ⟨#[]⟩)).length = _
  omega
theorem slopes_get (p : Pr) {k : Nat} (h : k < (pcs p).length) : (slopes p).getD k 0 = ((pcs p).getD k (0, 0, 0)).2.2 := by
  rw [← slopes_pcs]; simp [h]

end Go.Proofs.Ytgjdppegkoepfaa

/-! VlP -/
namespace Go.Proofs.Ytgjdppegkoepfaa

theorem frOf_bd {a : ByteArray} (h : a.size ≤ 8) (hb : a.data.toList.all isBit = true) :
    (frOf (stA a)).1 ≤ 256 ∧ 0 < (frOf (stA a)).2 ∧ (frOf (stA a)).2 ≤ 256 ∧ (frOf (stA a)).1 * 1048576 = stA a * (frOf (stA a)).2 := by
  rw [stA_frOf (by omega)]
  have h1 := numA_lt _ a.data.toList rfl hb
  have h2 : a.data.toList.length = a.size := rfl
  rw [h2] at h1
  have h3 : 2 ^ a.size ≤ 2 ^ 8 := Nat.pow_le_pow_right (by omega) h
  have c := stA_cross (a := a) (by omega)
  refine ⟨?_, short_pos (Nat.pow_pos (by omega)), ?_, c⟩
  · exact Nat.le_trans (Nat.div_le_self _ _) (by omega)
  · exact Nat.le_trans (Nat.div_le_self _ _) (by omega)
theorem vl_sub {n d s na da sa : Nat} (h : n * 1048576 = s * d) (ha : na * 1048576 = sa * da) (hs : sa ≤ s) : na * d ≤ n * da := by
  have e : na * d * 1048576 ≤ n * da * 1048576 := by
    calc na * d * 1048576 = (na * 1048576) * d := by ac_rfl
      _ = sa * (da * d) := by rw [ha]; ac_rfl
      _ ≤ s * (da * d) := Nat.mul_le_mul_right _ hs
      _ = (s * d) * da := by ac_rfl
      _ = n * da * 1048576 := by rw [← h]; ac_rfl
  omega
theorem vl_short {n d na da nb db la lb s sa sb : Nat} (h : n * 1048576 = s * d) (ha : na * 1048576 = sa * da) (hb : nb * 1048576 = sb * db)
    (hs : s % 1024 = 0) (hsa : sa % 1024 = 0) (hl : lb ≤ 10) (hd : 0 < d) (hda : 0 < da) (hdb : 0 < db) :
    0 < d * da * 2 ^ lb * db ∧ shortN ((n * da - na * d) * 2 ^ la * db + nb * (d * da * 2 ^ lb)) (d * da * 2 ^ lb * db) = frOf (valN sa la sb lb s) := by
  have hp : 0 < d * da * 2 ^ lb * db := Nat.mul_pos (Nat.mul_pos (Nat.mul_pos hd hda) (Nat.pow_pos (by omega))) hdb
  exact ⟨hp, short_cross hp (by omega) (value_cross (la := la) h ha hb (valN_exact hs hsa hl))⟩
theorem pow8 {l : Nat} (h : l ≤ 8) : 1 ≤ 2 ^ l ∧ 2 ^ l ≤ 256 := by
  have h3 : 2 ^ l ≤ 2 ^ 8 := Nat.pow_le_pow_right (by omega) h
  exact ⟨Nat.pow_pos (by omega), by omega⟩
theorem mul_bd {a b A B C : Nat} (ha : a ≤ A) (hb : b ≤ B) (h : A * B = C) : a * b ≤ C := by
  subst h
  exact Nat.mul_le_mul ha hb
theorem valN_bd {sa la sb lb s : Nat} (hs : s ≤ 1048576) (hb : sb ≤ 1048576) (hl : la ≤ 8) : valN sa la sb lb s ≤ 269484032 := by
  unfold valN
  have h1 : (s - sa) * 2 ^ la ≤ 268435456 := mul_bd (A := 1048576) (B := 256) (by omega) (pow8 hl).2 rfl
  have h2 : (s - sa) * 2 ^ la / 2 ^ lb ≤ (s - sa) * 2 ^ la := Nat.div_le_self _ _
  omega
end Go.Proofs.Ytgjdppegkoepfaa

/-! ObP -/
namespace Go.Proofs.Ytgjdppegkoepfaa

/-- Where the interval of an address ends. -/
def enA (a : ByteArray) : Nat := stA a + 2 ^ (20 - a.size)
/-- Intervals that lie one after the other from x to y. -/
def Ch : List ByteArray → Nat → Nat → Prop
  | [], x, y => x = y
  | a :: l, x, y => stA a = x ∧ Ch l (enA a) y
theorem ch_append : ∀ (l m : List ByteArray) (x z y : Nat), Ch l x z → Ch m z y → Ch (l ++ m) x y := by
  intro l
  induction l with
  | nil => intro m x z y h k; cases h; exact k
  | cons a l ih => intro m x z y h k; exact ⟨h.1, ih m _ z y h.2 k⟩
theorem stA_zero {a : ByteArray} (h : a.size < 20) : stA (a ++ ⟨#[48]⟩) = stA a ∧ enA (a ++ ⟨#[48]⟩) = stA a + 2 ^ (20 - a.size - 1) := by
  have e : stA (a ++ ⟨#[48]⟩) = stA a := by
    unfold stA
    rw [data_append, ByteArray.size_append]
    show numA (a.data.toList ++ [48]) * 2 ^ (20 - (a.size + 1)) = _
    rw [numA_snoc, show 20 - a.size = (20 - (a.size + 1)) + 1 by omega, Nat.pow_succ]
    show (2 * numA a.data.toList + 0) * _ = _
    rw [Nat.add_zero, Nat.mul_comm 2, Nat.mul_assoc, Nat.mul_comm 2]
  refine ⟨e, ?_⟩
  unfold enA
  rw [e, ByteArray.size_append]
  rfl
theorem stA_one {a : ByteArray} (h : a.size < 20) : stA (a ++ ⟨#[49]⟩) = stA a + 2 ^ (20 - a.size - 1) ∧ enA (a ++ ⟨#[49]⟩) = enA a := by
  have e : stA (a ++ ⟨#[49]⟩) = stA a + 2 ^ (20 - a.size - 1) := by
    unfold stA
    rw [data_append, ByteArray.size_append]
    show numA (a.data.toList ++ [49]) * 2 ^ (20 - (a.size + 1)) = _
    rw [numA_snoc, show 20 - a.size - 1 = 20 - (a.size + 1) by omega, show 20 - a.size = (20 - (a.size + 1)) + 1 by omega, Nat.pow_succ]
    show (2 * numA a.data.toList + 1) * _ = _
    rw [Nat.add_mul, Nat.one_mul, Nat.mul_comm 2, Nat.mul_assoc, Nat.mul_comm 2]
  refine ⟨e, ?_⟩
  unfold enA
  rw [e, ByteArray.size_append, show 20 - a.size - 1 = 20 - (a.size + 1) by omega, show 20 - a.size = (20 - (a.size + 1)) + 1 by omega, Nat.pow_succ]
  show stA a + _ + 2 ^ (20 - (a.size + 1)) = _
  omega
theorem addrs_ch (t : Tr) : ∀ here : ByteArray, here.size + t.carets ≤ 20 → Ch (t.addrs here) (stA here) (enA here) := by
  induction t with
  | lf => intro here _; exact ⟨rfl, rfl⟩
  | nd l r ihl ihr =>
    intro here h
    simp only [Tr.carets] at h
    have z := stA_zero (a := here) (by omega)
    have o := stA_one (a := here) (by omega)
    have h1 := ihl (here ++ ⟨#[48]⟩) (by rw [ByteArray.size_append]; show here.size + 1 + l.carets ≤ 20; omega)
    have h2 := ihr (here ++ ⟨#[49]⟩) (by rw [ByteArray.size_append]; show here.size + 1 + r.carets ≤ 20; omega)
    rw [z.1, z.2] at h1
    rw [o.1, o.2] at h2
    exact ch_append _ _ _ _ _ h1 h2
theorem ch_get : ∀ (l : List ByteArray) (x y : Nat), Ch l x y → ∀ k, k < l.length → enA (l.getD k ⟨#[]⟩) = if k + 1 < l.length then stA (l.getD (k + 1) ⟨#[]⟩) else y := by
  intro l
  induction l with
  | nil => intro x y h k hk; simp at hk
  | cons a l ih =>
    intro x y h k hk
    match k with
    | 0 =>
      match l, h with
      | [], h => simp; exact h.2
      | b :: l, h => simp; exact h.2.1.symm
    | k + 1 =>
      have := ih _ _ h.2 k (by simpa using hk)
      simpa using this
theorem addrs_end (t : Tr) (h : t.carets ≤ 20) {k : Nat} (hk : k < t.carets + 1) :
    enA ((t.addrs ⟨#[]⟩).getD k ⟨#[]⟩) = if k < t.carets then stA ((t.addrs ⟨#[]⟩).getD (k + 1) ⟨#[]⟩) else 1048576 := by
  have c := addrs_ch t ⟨#[]⟩ (by show 0 + t.carets ≤ 20; omega)
  have l := addrs_length t ⟨#[]⟩
  have := ch_get _ _ _ c k (by omega)
  rw [this]
  by_cases e : k < t.carets
  · rw [if_pos (by omega), if_pos e]
  · rw [if_neg (by omega), if_neg e]; rfl
/-- The end of a leaf, that of the next one's start. -/
theorem starts_next (t : Tr) (h : t.carets ≤ 20) {k : Nat} (hk : k < t.carets) :
    t.starts.getD (k + 1) 0 = t.starts.getD k 0 + 2 ^ (20 - ((t.addrs ⟨#[]⟩).getD k ⟨#[]⟩).size) := by
  have := addrs_end t h (k := k) (by omega)
  rw [if_pos hk] at this
  rw [starts_at t (k := k + 1) (by omega), starts_at t (k := k) (by omega), ← this]
  rfl
theorem starts_last (t : Tr) (h : t.carets ≤ 20) : t.starts.getD t.carets 0 + 2 ^ (20 - ((t.addrs ⟨#[]⟩).getD t.carets ⟨#[]⟩).size) = 1048576 := by
  have := addrs_end t h (k := t.carets) (by omega)
  rw [if_neg (by omega)] at this
  rw [starts_at t (k := t.carets) (by omega), ← this]
  rfl
theorem width_pos (t : Tr) (k : Nat) : 0 < 2 ^ (20 - ((t.addrs ⟨#[]⟩).getD k ⟨#[]⟩).size) := Nat.pow_pos (by omega)
theorem starts_mono (t : Tr) (h : t.carets ≤ 20) : ∀ {j k : Nat}, j < k → k < t.carets + 1 → t.starts.getD j 0 < t.starts.getD k 0 := by
  intro j k hjk
  induction k with
  | zero => omega
  | succ k ih =>
    intro hk
    have e := starts_next t h (k := k) (by omega)
    have w := width_pos t k
    by_cases hj : j = k
    · subst hj; omega
    · have := ih (by omega) (by omega); omega
/-- The last one of an increasing list that is not beyond a number. -/
theorem lastTo_eq {l : List Nat} {s r : Nat} (hr : r < l.length) (h1 : l.getD r 0 ≤ s) (h2 : ∀ j, r < j → j < l.length → s < l.getD j 0) : lastTo l s = r := by
  have : ∀ n, r < n → n ≤ l.length → lastTo (l.take n) s = r := by
    intro n
    induction n with
    | zero => omega
    | succ n ih =>
      intro hn hl
      rw [lastTo_take (by omega)]
      by_cases e : r = n
      · subst e; rw [if_pos h1]
      · have := h2 n (by omega) (by omega)
        rw [if_neg (by omega)]; exact ih (by omega) (by omega)
  have := this l.length hr (Nat.le_refl _)
  rwa [List.take_length] at this
theorem starts_pick (t : Tr) (h : t.carets ≤ 20) {s r : Nat} (hr : r < t.carets + 1) (h1 : t.starts.getD r 0 ≤ s) (h2 : r < t.carets → s < t.starts.getD (r + 1) 0) : lastTo t.starts s = r := by
  have l := starts_length t
  refine lastTo_eq (by omega) h1 ?_
  intro j hj hl
  by_cases e : j = r + 1
  · subst e; exact h2 (by omega)
  · have := starts_mono t h (j := r + 1) (k := j) (by omega) (by omega)
    have := h2 (by omega)
    omega
/-- Where a number lies. -/
theorem starts_place (t : Tr) (h : t.carets ≤ 20) (s : Nat) : lastTo t.starts s < t.carets + 1 ∧ t.starts.getD (lastTo t.starts s) 0 ≤ s ∧ (lastTo t.starts s < t.carets → s < t.starts.getD (lastTo t.starts s + 1) 0) := by
  have l := starts_length t
  have hlt := lastTo_lt t.starts s (by omega)
  have hle := lastTo_le t.starts s (starts_first t)
  refine ⟨by omega, hle, ?_⟩
  intro hc
  rcases Nat.lt_or_ge s (t.starts.getD (lastTo t.starts s + 1) 0) with hx | hx
  · exact hx
  · exfalso
    -- there is a later one that is not beyond s
    have key : ∀ n, lastTo t.starts s + 1 < n → n ≤ t.starts.length → lastTo t.starts s + 1 ≤ lastTo (t.starts.take n) s := by
      intro n
      generalize lastTo t.starts s = q at *
      induction n with
      | zero => omega
      | succ n ih =>
        intro hn hl
        rw [lastTo_take (by omega)]
        split
        · omega
        · by_cases e : n = q + 1
          · subst e; omega
          · exact ih (by omega) (by omega)
    have := key t.starts.length (by omega) (Nat.le_refl _)
    rw [List.take_length] at this
    omega
theorem pick_zero (t : Tr) (h : t.carets ≤ 20) : lastTo t.starts 0 = 0 := by
  refine starts_pick t h (by omega) (by rw [starts_first]; omega) ?_
  intro hc
  have := starts_mono t h (j := 0) (k := 0 + 1) (by omega) (by omega)
  omega
theorem pick_last (t : Tr) (h : t.carets ≤ 20) : lastTo t.starts 1048575 = t.carets := by
  have e := starts_last t h
  have w := width_pos t t.carets
  exact starts_pick t h (by omega) (by omega) (fun hc => absurd hc (by omega))
/-- In front of a number: the leaf before if it is the start of one, and the same one otherwise. -/
theorem pick_left (t : Tr) (h : t.carets ≤ 20) {s : Nat} (hs : 0 < s) :
    lastTo t.starts (s - 1) = if t.starts.getD (lastTo t.starts s) 0 = s then lastTo t.starts s - 1 else lastTo t.starts s := by
  obtain ⟨p1, p2, p3⟩ := starts_place t h s
  split
  · rename_i e
    have hq : 0 < lastTo t.starts s := by
      rcases Nat.eq_zero_or_pos (lastTo t.starts s) with z | z
      · rw [z, starts_first] at e; omega
      · exact z
    have m := starts_mono t h (j := lastTo t.starts s - 1) (k := lastTo t.starts s) (by omega) p1
    refine starts_pick t h (by omega) (by omega) ?_
    intro _
    rw [show lastTo t.starts s - 1 + 1 = lastTo t.starts s by omega]
    omega
  · refine starts_pick t h p1 (by omega) ?_
    intro hc
    have := p3 hc
    omega
theorem frOf_inj1 {a b : Nat} (h : frOf a = frOf b) : a = b := by
  have h1 := short_steps (W := 1048576) (n := a) (d := 1048576) (by omega) ⟨1, rfl⟩
  have h2 := short_steps (W := 1048576) (n := b) (d := 1048576) (by omega) ⟨1, rfl⟩
  rw [Nat.div_self (by omega), Nat.mul_one] at h1 h2
  have hp : 0 < (frOf a).2 := short_pos (by omega)
  have h1' : (frOf a).1 * 1048576 = a * (frOf a).2 := h1
  have h2' : (frOf b).1 * 1048576 = b * (frOf b).2 := h2
  rw [← h] at h2'
  exact Nat.eq_of_mul_eq_mul_right hp (h1'.symm.trans h2')
end Go.Proofs.Ytgjdppegkoepfaa
