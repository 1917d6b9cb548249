/- Texts that the claim needs, part 2. -/
import Derived.Test.YtdhjchibhlcchaaMgFixedFractions0
import Derived.Deep.RegionWith
import Derived.Deep.RegionHeld3
import Derived.Deep.AppendLies
import Derived.Lib.Bytealg
/-! Text -/
namespace Go.Proofs.Ytdhjchibhlcchaa
open Go.RowKit

theorem isLeaf_any (t : Tr) (b : Nat) (w : World) (h : NodeAt w t b) :
    Calls Try.prog 109 #[.pointer (some ⟨b, 0, none⟩)] w fun e w' => e = .returned (.bool t.isLf) ∧ w = w' := by
  cases t with
  | lf =>
    have h1 := two_left h
    have H := Lib.hid h
    clear h
    go_enter Try.func109, Try.ntmps109
    go_wp2_with fail
    go_ret
    exact ⟨rfl, rfl⟩
  | nd l r =>
    obtain ⟨bl, br, h, hl, hr⟩ := h
    have h1 := two_left h
    have H := Lib.hid h
    clear h
    go_enter Try.func109, Try.ntmps109
    go_wp2_with fail
    go_ret
    exact ⟨rfl, rfl⟩

theorem NodeAt.heap {w w' : World} (e : w'.heap = w.heap) : ∀ {t : Tr} {b : Nat}, NodeAt w t b → NodeAt w' t b := by
  intro t
  induction t with
  | lf => intro b h; unfold NodeAt at *; rw [e]; exact h
  | nd l r ihl ihr =>
    intro b h
    obtain ⟨bl, br, h, h1, h2⟩ := h
    exact ⟨bl, br, by rw [e]; exact h, ihl h1, ihr h2⟩
theorem NodeAt.drewN {w : World} (n : Nat) {t : Tr} {b : Nat} (h : NodeAt w t b) : NodeAt (w.drewN n) t b := NodeAt.heap (w := w) (w' := w.drewN n) rfl h

end Go.Proofs.Ytdhjchibhlcchaa

/-! Mir -/
namespace Go.Proofs.Ytdhjchibhlcchaa
open Go.RowKit

/-- A call that hands back a node of a tree. -/
def GivesNode (t : Tr) (w : World) (e : Ending) (w' : World) : Prop :=
  ∃ b : Nat, NodeAt w' t b ∧ Below w.heap.size w w' ∧ e = .returned (.pointer (some ⟨b, 0, none⟩))

theorem below_two {w w1 : World} {b : Nat} {u v : Value} (hb : Below w.heap.size w w1) (h1 : w.cell? ⟨b, 0, none⟩ = some u) (h2 : w.cell? ⟨b, 1, none⟩ = some v) :
    w1.cell? ⟨b, 0, none⟩ = some u ∧ w1.cell? ⟨b, 1, none⟩ = some v := by
  have hl := World.block_lt_of_cell? w _ h1
  exact ⟨(hb.cell (p := ⟨b, 0, none⟩) hl).trans h1, (hb.cell (p := ⟨b, 1, none⟩) hl).trans h2⟩

end Go.Proofs.Ytdhjchibhlcchaa

/-! Addr -/
namespace Go.Proofs.Ytdhjchibhlcchaa
open Go.RowKit

set_option maxRecDepth 100000 in
set_option maxHeartbeats 2000000 in
theorem trAddresses_any (t : Tr) : ∀ (here : ByteArray) (w : World), t.carets ≤ 60 → here.size + t.carets ≤ 1000 →
    Calls Try.prog 76 #[.string t.str, .string here] w (GivesTexts (t.addrs here) w) := by
  obtain ⟨i0, hi, hz0, hz1, hz2⟩ := info_parts info_str
  induction t with
  | lf =>
    intro here w ht hh
    go_enter Try.func76, Try.ntmps76
    go_wp2_with fail
    refine (trLeaf_any .lf _).mono ?_; rintro e w1 ⟨rfl, rfl⟩
    simp only [Tr.isLf]
    go_wp2_with fail
    go_ret
    exact ⟨_, 1, OwnS.one _ _, nxAlloc (Below.refl _ _) _, rfl⟩
  | nd l r ihl ihr =>
    intro here w ht hh
    have ht' : l.carets + r.carets + 1 ≤ 60 := ht
    have hh' : here.size + (l.carets + r.carets + 1) ≤ 1000 := hh
    have ll := addrs_length l (here ++ ⟨#[48]⟩)
    have lr := addrs_length r (here ++ ⟨#[49]⟩)
    obtain ⟨A, hA⟩ : ∃ A, A = l.addrs (here ++ ⟨#[48]⟩) := ⟨_, rfl⟩
    obtain ⟨B, hB⟩ : ∃ B, B = r.addrs (here ++ ⟨#[49]⟩) := ⟨_, rfl⟩
    have hC : (Tr.nd l r).addrs here = A ++ B := by rw [hA, hB]; rfl
    have s0 : (here ++ (⟨#[48]⟩ : ByteArray)).size = here.size + 1 := ByteArray.size_append
    have s1 : (here ++ (⟨#[49]⟩ : ByteArray)).size = here.size + 1 := ByteArray.size_append
    have jl := fun w => ihl (here ++ ⟨#[48]⟩) w (by omega) (by omega)
    have jr := fun w => ihr (here ++ ⟨#[49]⟩) w (by omega) (by omega)
    rw [← hA] at ll jl
    rw [← hB] at lr jr
    rw [hC]
    have hAn : A.length ≤ 61 := by omega
    have hBn : B.length ≤ 61 := by omega
    have hBp : 0 < B.length := by omega
    have hAp : 0 < A.length := by omega
    clear ihl ihr hA hB hC s0 s1 ll lr
    go_enter Try.func76, Try.ntmps76
    go_wp2_with fail
    refine (trLeaf_any (.nd l r) _).mono ?_; rintro e w1 ⟨rfl, rfl⟩
    simp only [Tr.isLf]
    go_wp2_with fail
    refine (trSides_any l r _ (by omega)).mono ?_; rintro e w1 ⟨rfl, hb1⟩
    go_wp2_with fail
    refine (jl _).mono ?_; rintro e w2 ⟨g1, cap1, own1, hb2, rfl⟩
    go_wp2_with fail
    refine (jr _).mono ?_; rintro e w3 ⟨g2, cap2, own2, hb3, rfl⟩
    have hown := (own1.keep hb3).mono hb1.size
    have hbw : Below w.heap.size w w3 := nx (nx hb1 hb2) hb3
    go_wp2_with (at_builtin; refine wpList_append_own _ rfl _ _ 83 rfl w.heap.size 9 i0 (.string ⟨#[]⟩) 1 16 Try.underlying83 hi hz0 hz1 hz2 rfl (by decide) _ _ _ rfl hown ⟨g2, 0, none⟩ B.length cap2 (B.map Value.string) rfl (by simp) (own2.news rfl) (oneS _) (by unfold maxLen; omega) (by omega) hbw.size ?_; intro v' w4 hown' hgrow hnn)
    have hbw' := below_app0 hbw hown (Nat.le_refl _) hgrow
    have hown1 := OwnS.app hown'
    obtain ⟨g, cap, hv⟩ := hown1.shape (by simp; omega)
    have HV := Lib.hid hv
    clear hown hown' hgrow hv hnn
    go_wp2_with fail
    go_ret
    exact ⟨g, cap, by rw [← HV.out]; exact hown1, hbw', by rw [← HV.out]; rfl⟩

set_option maxRecDepth 100000 in
set_option maxHeartbeats 4000000 in
theorem addressesFrom_any (t : Tr) : ∀ (b : Nat) (here : ByteArray) (w : World), NodeAt w t b → t.carets ≤ 60 → here.size + t.carets ≤ 1000 →
    Calls Try.prog 83 #[.pointer (some ⟨b, 0, none⟩), .string here] w (GivesTexts (t.addrs here) w) := by
  obtain ⟨i0, hi, hz0, hz1, hz2⟩ := info_parts info_str
  induction t with
  | lf =>
    intro b here w h ht hh
    have H := Lib.hid h
    clear h
    go_enter Try.func83, Try.ntmps83
    go_wp2_with fail
    refine (isLeaf_any .lf b _ H.out).mono ?_; rintro e w1 ⟨rfl, rfl⟩
    simp only [Tr.isLf]
    go_wp2_with fail
    go_ret
    exact ⟨_, 1, OwnS.one _ _, nxAlloc (Below.refl _ _) _, rfl⟩
  | nd l r ihl ihr =>
    intro b here w h ht hh
    have ht' : l.carets + r.carets + 1 ≤ 60 := ht
    have hh' : here.size + (l.carets + r.carets + 1) ≤ 1000 := hh
    have ll := addrs_length l (here ++ ⟨#[48]⟩)
    have lr := addrs_length r (here ++ ⟨#[49]⟩)
    obtain ⟨A, hA⟩ : ∃ A, A = l.addrs (here ++ ⟨#[48]⟩) := ⟨_, rfl⟩
    obtain ⟨B, hB⟩ : ∃ B, B = r.addrs (here ++ ⟨#[49]⟩) := ⟨_, rfl⟩
    have hC : (Tr.nd l r).addrs here = A ++ B := by rw [hA, hB]; rfl
    have s0 : (here ++ (⟨#[48]⟩ : ByteArray)).size = here.size + 1 := ByteArray.size_append
    have s1 : (here ++ (⟨#[49]⟩ : ByteArray)).size = here.size + 1 := ByteArray.size_append
    have jl := fun b w h => ihl b (here ++ ⟨#[48]⟩) w h (by omega) (by omega)
    have jr := fun b w h => ihr b (here ++ ⟨#[49]⟩) w h (by omega) (by omega)
    rw [← hA] at ll jl
    rw [← hB] at lr jr
    rw [hC]
    have hAn : A.length ≤ 61 := by omega
    have hBn : B.length ≤ 61 := by omega
    have hBp : 0 < B.length := by omega
    have hAp : 0 < A.length := by omega
    have H := Lib.hid h
    obtain ⟨bl, br, h, hl, hr⟩ := h
    have h1 := two_left h
    have h2 := two_right h
    have hb0 := Below.refl w.heap.size w
    have hz3 : (9223372036854775807 < here.size + 1) = False := eq_false (by omega)
    clear h ihl ihr hA hB hC s0 s1 ll lr
    go_enter Try.func83, Try.ntmps83
    go_wp2_with fail
    refine (isLeaf_any (.nd l r) b _ H.out).mono ?_; rintro e w1 ⟨rfl, rfl⟩
    simp only [Tr.isLf]
    go_wp2_with fail
    go_region_held3 (fun w' => w'.cell? ⟨b, 0, none⟩ = some (.pointer (some ⟨bl, 0, none⟩)) ∧ w'.cell? ⟨b, 1, none⟩ = some (.pointer (some ⟨br, 0, none⟩)))
      (first
        | exact ⟨h1, h2⟩
        | exact ⟨q1, q2⟩
        | exact ⟨s1, s2⟩
        | exact ⟨r1, r2⟩)
      (first
        | (go_at_call_of 83 (some (⟨bl, 0, none⟩ : Addr)); refine (jl bl _ ?_).mono ?_; exact hl.keep hb0.drew; rintro e w1 ⟨g1, cap1, own1, hb1, rfl⟩; have hb1' := nx hb0.drew hb1; obtain ⟨q1, q2⟩ := below_two hb1' h1 h2)
        | (go_at_call_of 83 (some (⟨br, 0, none⟩ : Addr)); refine (jr br _ ?_).mono ?_; exact hr.keep hb1'; rintro e w2 ⟨g2, cap2, own2, hb2, rfl⟩; have hb2' := nx hb1' hb2; obtain ⟨s1, s2⟩ := below_two hb2' h1 h2; have hown := (own1.keep hb2).mono hb0.drew.size)
        | (refine step_append_lies _ (by rfl) _ _ _ (by rfl) w.heap.size 9 i0 _ 1 16 Try.underlying83 hi hz0 hz1 hz2 rfl (by omega) (.slice (some ⟨g1, 0, none⟩) A.length cap1) A.length (A.map Value.string) (by rfl) hown ⟨g2, 0, none⟩ B.length cap2 (B.map Value.string) (by rfl) (by simp) (own2.news rfl) (oneS _) hBp (by unfold maxLen; omega) (by omega) hb2'.size w2.heap.size (by rfl) ?_; intro gg cap w3 hown1 hgrow hat hlt; have hb3 := below_app0 hb2' hown (Nat.le_refl _) hgrow; obtain ⟨r1, r2⟩ := below_two hb3 h1 h2))
    go_wp2_with fail
    go_ret
    exact ⟨gg, cap, by rw [List.length_append]; exact OwnS.app hown1, hb3, by rw [List.length_append]; rfl⟩
end Go.Proofs.Ytdhjchibhlcchaa

/-! Fs2 -/
namespace Go.Proofs.Ytdhjchibhlcchaa
open Go.RowKit

theorem num_steps {a : ByteArray} (h : a.size ≤ 10) (hb : a.data.toList.all isBit = true) :
    ∃ N : Nat → Nat, N 0 = 0 ∧ N a.size = numA a.data.toList ∧ (∀ k, k ≤ a.size → N k ≤ 1024) ∧ ∀ k (hk : k < a.size), ((a[k]'hk).toNat = 48 ∧ N (k + 1) = 2 * N k) ∨ ((a[k]'hk).toNat = 49 ∧ N (k + 1) = 2 * N k + 1) := by
  refine ⟨fun k => numA (a.data.toList.take k), by simp [numA], ?_, ?_, ?_⟩
  · show numA (a.data.toList.take a.data.toList.length) = _
    rw [List.take_length]
  · intro k hk
    have hk' : k ≤ a.data.toList.length := hk
    have h1 := numA_lt k (a.data.toList.take k) (by rw [List.length_take]; omega) (by rw [List.all_eq_true] at hb ⊢; exact fun x hx => hb x (List.mem_of_mem_take hx))
    have h2 : (2 : Nat) ^ k ≤ 2 ^ 10 := Nat.pow_le_pow_right (by omega) (by omega)
    show numA (a.data.toList.take k) ≤ 1024
    omega
  · intro k hk
    have hk' : k < a.data.toList.length := hk
    have e : (a[k]'hk) = a.data.toList[k]'hk' := by cases a; simp; rfl
    have hbk := isBit_nat ((List.all_eq_true.1 hb) _ (List.getElem_mem hk'))
    have eg : (a.data.toList.getD k 0) = a.data.toList[k]'hk' := getD_at hk'
    have hn := numA_take hk'
    rw [eg] at hn
    rw [e]
    show (_ ∧ numA (a.data.toList.take (k + 1)) = 2 * numA (a.data.toList.take k)) ∨ (_ ∧ numA (a.data.toList.take (k + 1)) = 2 * numA (a.data.toList.take k) + 1)
    omega

set_option maxHeartbeats 2000000 in
set_option maxRecDepth 100000 in
theorem mpOf_any (a : ByteArray) (w : World) (h : a.size ≤ 10) (hb : a.data.toList.all isBit = true) :
    Calls Try.prog 77 #[.string a] w (Gives (.agg #[.int .i64 (frOf (stA a)).1, .int .i64 (frOf (stA a)).2]) w) := by
  obtain ⟨N, h0, h1, h2, h3⟩ := num_steps h hb
  have hsh : wrap64 ((2 : Int) ^ a.size) = ((2 ^ a.size : Nat) : Int) := by
    rcases small_cases h with e | e | e | e | e | e | e | e | e | e | e <;> (rw [e]; decide +kernel)
  have hp : 2 ^ a.size ≤ 2 ^ 10 := Nat.pow_le_pow_right (by omega) h
  have hM := fun w => mpShort_any (N a.size) (2 ^ a.size) w (Nat.pow_pos (by omega)) (by have := h2 a.size (Nat.le_refl _); omega) (by omega)
  rw [← hsh] at hM
  clear hsh
  rw [stA_frOf (by omega), ← h1]
  generalize (shortN (N a.size) (2 ^ a.size)).1 = x1 at *
  generalize (shortN (N a.size) (2 ^ a.size)).2 = x2 at *
  have H3 := Lib.hid h3
  have H2 := Lib.hid h2
  have H0 := Lib.hid h0
  clear h0 h1 h2 h3 hb hp
  go_enter Try.func77, Try.ntmps77
  go_wp2_with fail
  have hb0 : Below w.heap.size w (w.alloc (.cells #[.int .i64 0, .int .i64 0] 26 (0, 0))) := nxAlloc (Below.refl _ _) _
  have hx0 := heap_alloc_at w (.cells #[.int .i64 0, .int .i64 0] 26 (0, 0))
  generalize (w.alloc (.cells #[.int .i64 0, .int .i64 0] 26 (0, 0))) = w0 at *
  obtain ⟨hx0a, hx0b, hx0c⟩ := two_facts hx0
  obtain ⟨hx0f, hx0g⟩ := two_frozen hx0
  go_loop [3, 4] (fun s i => ∃ k : Nat, k ≤ a.size ∧ i = .int .i64 k ∧ s = .int .i64 (N k)) (fun _ i => a.size - (intOf i).toNat)
  case atStart => exact ⟨0, Nat.zero_le _, rfl, by rw [H0.out]; rfl⟩
  case round =>
    obtain ⟨k, hk, rfl, rfl⟩ := hrel
    by_cases hlt : k < a.size
    · have hp := H2.out (k + 1) (by omega)
      have hq := H2.out k hk
      have h4 := H3.out k hlt
      rcases h4 with ⟨hx, hp'⟩ | ⟨hx, hp'⟩
      · have hv : (((a[k]'hlt).toNat : Nat) : Int) = 48 := by omega
        have HP := Lib.hid hp'
        clear hx hp'
        go_wp2_with fail
        go_round
        case rel => exact ⟨k + 1, by omega, by go_num, (by first | (rw [HP.out]; done) | (rw [HP.out]; go_num))⟩
        case measure => simp [intOf]; omega
      · have hv : (((a[k]'hlt).toNat : Nat) : Int) = 49 := by omega
        have HP := Lib.hid hp'
        clear hx hp'
        go_wp2_with fail
        go_round
        case rel => exact ⟨k + 1, by omega, by go_num, (by first | (rw [HP.out]; done) | (rw [HP.out]; go_num))⟩
        case measure => simp [intOf]; omega
    · obtain rfl : k = a.size := by omega
      go_wp2_with fail
      refine (hM _).mono ?_; rintro e w1 ⟨rfl, hb1⟩
      have hbw1 := nx hb0 hb1
      replace hx0 := heap_keep hb1 hx0
      clear hx0a hx0b hx0c hx0f hx0g
      obtain ⟨hx0a, hx0b, hx0c⟩ := two_facts hx0
      obtain ⟨hx0f, hx0g⟩ := two_frozen hx0
      clear hb1 hb0
      go_wp2_with fail
      obtain ⟨q1, q2⟩ := two_cells (set_two (.int .i64 x1) (.int .i64 x2) hx0)
      refine bodyPost_ret (v := .agg #[.int .i64 x1, .int .i64 x2]) (by simp [q1, q2, results, Try.results77, go_sem]) rfl ⟨rfl, ?_⟩
      exact (hbw1.setCell (by show w.heap.size ≤ w.heap.size; omega) _).setCell (by show w.heap.size ≤ w.heap.size; omega) _
end Go.Proofs.Ytdhjchibhlcchaa

/-! Fr3 -/
namespace Go.Proofs.Ytdhjchibhlcchaa
open Go.RowKit

def pop1 (d : Int) : Int := IntKind.u64.wrap (bits BinOp.and IntKind.u64 (d / 2) 6148914691236517205 + bits BinOp.and IntKind.u64 d 6148914691236517205)
def pop2 (x : Int) : Int := IntKind.u64.wrap (bits BinOp.and IntKind.u64 (x / 4) 3689348814741910323 + bits BinOp.and IntKind.u64 x 3689348814741910323)
def pop3 (x : Int) : Int := bits BinOp.and IntKind.u64 (IntKind.u64.wrap (x / 16 + x)) 1085102592571150095
def pop4 (x : Int) : Int := IntKind.u64.wrap (x + x / 256)
def pop5 (x : Int) : Int := IntKind.u64.wrap (x + x / 65536)
def pop6 (x : Int) : Int := IntKind.u64.wrap (x + x / 4294967296)
/-- How many ones, as math/bits counts them. -/
def pop (d : Int) : Int := bits BinOp.and IntKind.i64 (wrap64 (pop6 (pop5 (pop4 (pop3 (pop2 (pop1 d))))))) 127
set_option maxRecDepth 100000 in
theorem pop_isP2 : ∀ d : Fin 1025, 0 < d.val → ((pop (d.val : Int) == 1) = isP2 (d.val : Int)) := by decide +kernel
theorem pop_ne {d : Int} (h0 : 1 ≤ d) (h1 : d ≤ 1024) : (pop d != 1) = !isP2 d := by
  have := pop_isP2 ⟨d.toNat, by omega⟩ (by show 0 < d.toNat; omega)
  have e : ((d.toNat : Nat) : Int) = d := by omega
  simp only [e] at this
  rw [bne, this]

set_option maxHeartbeats 2000000 in
theorem onesCount64_any (d : Int) (w : World) (_h0 : 1 ≤ d) (_h : d ≤ 1024) :
    Calls Try.prog 100 #[.int .u64 d] w (Gives (.int .i64 (pop d)) w) := by
  go_enter Try.func100, Try.ntmps100
  go_wp2_with fail
  go_ret
  refine ⟨ret_int ?_, Below.refl _ _⟩
  rfl
set_option maxHeartbeats 2000000 in
theorem onesCount_any (d : Int) (w : World) (h0 : 1 ≤ d) (h : d ≤ 1024) :
    Calls Try.prog 71 #[.int .u64 d] w (Gives (.int .i64 (pop d)) w) := by
  have ho := fun w => onesCount64_any d w h0 h
  generalize pop d = r at *
  go_enter Try.func71, Try.ntmps71
  go_wp2_with fail
  refine (ho _).mono ?_; rintro e w1 ⟨rfl, hb1⟩
  go_wp2_with fail
  go_ret
  exact ⟨rfl, hb1⟩

set_option maxHeartbeats 2000000 in
theorem isFraction_any (n d : Int) (w : World) :
    Calls Try.prog 40 #[.agg #[.int .i64 n, .int .i64 d]] w (Gives (.bool (isFr n d)) w) := by
  by_cases h1 : d < 1
  · have e : isFr n d = false := by rw [Bool.eq_false_iff, Ne, isFr_iff]; intro h; have := isP2_bounds h.1; omega
    rw [e]
    clear e
    go_enter Try.func40, Try.ntmps40
    go_wp2_with fail
    have hb0 : Below w.heap.size w (w.alloc (.cells #[.int .i64 n, .int .i64 d] 26 (0, 0))) := nxAlloc (Below.refl _ _) _
    have hx0 := heap_alloc_at w (.cells #[.int .i64 n, .int .i64 d] 26 (0, 0))
    generalize (w.alloc (.cells #[.int .i64 n, .int .i64 d] 26 (0, 0))) = w0 at *
    obtain ⟨hx0a, hx0b, hx0c⟩ := two_facts hx0
    obtain ⟨hx0f, hx0g⟩ := two_frozen hx0
    go_ret
    exact ⟨rfl, hb0⟩
  · by_cases h2 : 1024 < d
    · have e : isFr n d = false := by rw [Bool.eq_false_iff, Ne, isFr_iff]; intro h; have := isP2_bounds h.1; omega
      rw [e]
      clear e
      go_enter Try.func40, Try.ntmps40
      go_wp2_with fail
      have hb0 : Below w.heap.size w (w.alloc (.cells #[.int .i64 n, .int .i64 d] 26 (0, 0))) := nxAlloc (Below.refl _ _) _
      have hx0 := heap_alloc_at w (.cells #[.int .i64 n, .int .i64 d] 26 (0, 0))
      generalize (w.alloc (.cells #[.int .i64 n, .int .i64 d] 26 (0, 0))) = w0 at *
      obtain ⟨hx0a, hx0b, hx0c⟩ := two_facts hx0
      obtain ⟨hx0f, hx0g⟩ := two_frozen hx0
      go_ret
      exact ⟨rfl, hb0⟩
    · have hp := pop_ne (d := d) (by omega) (by omega)
      have ho := fun w => onesCount_any d w (by omega) (by omega)
      cases hq : isP2 d with
      | false =>
        rw [hq] at hp
        have hp' : (pop d != 1) = true := hp
        have e : isFr n d = false := by unfold isFr; rw [hq]; rfl
        rw [e]
        clear e hp hq
        generalize pop d = r at *
        go_enter Try.func40, Try.ntmps40
        go_wp2_with fail
        have hb0 : Below w.heap.size w (w.alloc (.cells #[.int .i64 n, .int .i64 d] 26 (0, 0))) := nxAlloc (Below.refl _ _) _
        have hx0 := heap_alloc_at w (.cells #[.int .i64 n, .int .i64 d] 26 (0, 0))
        generalize (w.alloc (.cells #[.int .i64 n, .int .i64 d] 26 (0, 0))) = w0 at *
        obtain ⟨hx0a, hx0b, hx0c⟩ := two_facts hx0
        obtain ⟨hx0f, hx0g⟩ := two_frozen hx0
        refine (ho _).mono ?_; rintro e w1 ⟨rfl, hb1⟩
        have hbw1 := nx hb0 hb1
        replace hx0 := heap_keep hb1 hx0
        clear hx0a hx0b hx0c hx0f hx0g
        obtain ⟨hx0a, hx0b, hx0c⟩ := two_facts hx0
        obtain ⟨hx0f, hx0g⟩ := two_frozen hx0
        clear hb1 hb0
        go_wp2_with fail
        go_ret
        exact ⟨rfl, hbw1⟩
      | true =>
        rw [hq] at hp
        have hp' : (pop d != 1) = false := hp
        obtain ⟨R, hR⟩ : ∃ R, R = isFr n d := ⟨_, rfl⟩
        rw [← hR]
        have e : isFr n d = (decide (0 ≤ n) && (decide (n ≤ d) && (decide (d = 1) || decide (n % 2 = 1)))) := by unfold isFr; rw [hq, Bool.true_and]
        rw [e] at hR
        clear e hp hq
        generalize pop d = r at *
        by_cases h3 : 0 ≤ n
        · by_cases h4 : n ≤ d
          · rw [decide_eq_true h3, decide_eq_true h4, Bool.true_and, Bool.true_and] at hR
            by_cases hd : d = 1
            · have hd0 : (d == 1) = true := by rw [beq_iff_eq]; exact hd
              rw [decide_eq_true hd, Bool.true_or] at hR
              have HR := Lib.hid hR
              clear hd hR
              go_enter Try.func40, Try.ntmps40
              go_wp2_with fail
              have hb0 : Below w.heap.size w (w.alloc (.cells #[.int .i64 n, .int .i64 d] 26 (0, 0))) := nxAlloc (Below.refl _ _) _
              have hx0 := heap_alloc_at w (.cells #[.int .i64 n, .int .i64 d] 26 (0, 0))
              generalize (w.alloc (.cells #[.int .i64 n, .int .i64 d] 26 (0, 0))) = w0 at *
              obtain ⟨hx0a, hx0b, hx0c⟩ := two_facts hx0
              obtain ⟨hx0f, hx0g⟩ := two_frozen hx0
              refine (ho _).mono ?_; rintro e w1 ⟨rfl, hb1⟩
              have hbw1 := nx hb0 hb1
              replace hx0 := heap_keep hb1 hx0
              clear hx0a hx0b hx0c hx0f hx0g
              obtain ⟨hx0a, hx0b, hx0c⟩ := two_facts hx0
              obtain ⟨hx0f, hx0g⟩ := two_frozen hx0
              clear hb1 hb0
              go_wp2_with fail
              go_ret
              refine ⟨ret_bool ?_, hbw1⟩
              first | (rw [HR.out]; done) | (rw [HR.out]; rfl)
            · have hd0 : (d == 1) = false := by rw [beq_eq_false_iff_ne]; exact hd
              rw [decide_eq_false hd, Bool.false_or] at hR
              have HR := Lib.hid hR
              clear hd hR
              go_enter Try.func40, Try.ntmps40
              go_wp2_with fail
              have hb0 : Below w.heap.size w (w.alloc (.cells #[.int .i64 n, .int .i64 d] 26 (0, 0))) := nxAlloc (Below.refl _ _) _
              have hx0 := heap_alloc_at w (.cells #[.int .i64 n, .int .i64 d] 26 (0, 0))
              generalize (w.alloc (.cells #[.int .i64 n, .int .i64 d] 26 (0, 0))) = w0 at *
              obtain ⟨hx0a, hx0b, hx0c⟩ := two_facts hx0
              obtain ⟨hx0f, hx0g⟩ := two_frozen hx0
              refine (ho _).mono ?_; rintro e w1 ⟨rfl, hb1⟩
              have hbw1 := nx hb0 hb1
              replace hx0 := heap_keep hb1 hx0
              clear hx0a hx0b hx0c hx0f hx0g
              obtain ⟨hx0a, hx0b, hx0c⟩ := two_facts hx0
              obtain ⟨hx0f, hx0g⟩ := two_frozen hx0
              clear hb1 hb0
              go_wp2_with fail
              go_ret
              refine ⟨ret_bool ?_, hbw1⟩
              first | (rw [HR.out]; done) | (rw [HR.out]; rfl)
          · rw [decide_eq_false h4, Bool.false_and, Bool.and_false] at hR
            have HR := Lib.hid hR
            clear hR
            go_enter Try.func40, Try.ntmps40
            go_wp2_with fail
            have hb0 : Below w.heap.size w (w.alloc (.cells #[.int .i64 n, .int .i64 d] 26 (0, 0))) := nxAlloc (Below.refl _ _) _
            have hx0 := heap_alloc_at w (.cells #[.int .i64 n, .int .i64 d] 26 (0, 0))
            generalize (w.alloc (.cells #[.int .i64 n, .int .i64 d] 26 (0, 0))) = w0 at *
            obtain ⟨hx0a, hx0b, hx0c⟩ := two_facts hx0
            obtain ⟨hx0f, hx0g⟩ := two_frozen hx0
            refine (ho _).mono ?_; rintro e w1 ⟨rfl, hb1⟩
            have hbw1 := nx hb0 hb1
            replace hx0 := heap_keep hb1 hx0
            clear hx0a hx0b hx0c hx0f hx0g
            obtain ⟨hx0a, hx0b, hx0c⟩ := two_facts hx0
            obtain ⟨hx0f, hx0g⟩ := two_frozen hx0
            clear hb1 hb0
            go_wp2_with fail
            go_ret
            refine ⟨ret_bool ?_, hbw1⟩
            first | (rw [HR.out]; done) | (rw [HR.out]; rfl)
        · rw [decide_eq_false h3, Bool.false_and] at hR
          have HR := Lib.hid hR
          clear hR
          go_enter Try.func40, Try.ntmps40
          go_wp2_with fail
          have hb0 : Below w.heap.size w (w.alloc (.cells #[.int .i64 n, .int .i64 d] 26 (0, 0))) := nxAlloc (Below.refl _ _) _
          have hx0 := heap_alloc_at w (.cells #[.int .i64 n, .int .i64 d] 26 (0, 0))
          generalize (w.alloc (.cells #[.int .i64 n, .int .i64 d] 26 (0, 0))) = w0 at *
          obtain ⟨hx0a, hx0b, hx0c⟩ := two_facts hx0
          obtain ⟨hx0f, hx0g⟩ := two_frozen hx0
          refine (ho _).mono ?_; rintro e w1 ⟨rfl, hb1⟩
          have hbw1 := nx hb0 hb1
          replace hx0 := heap_keep hb1 hx0
          clear hx0a hx0b hx0c hx0f hx0g
          obtain ⟨hx0a, hx0b, hx0c⟩ := two_facts hx0
          obtain ⟨hx0f, hx0g⟩ := two_frozen hx0
          clear hb1 hb0
          go_wp2_with fail
          go_ret
          refine ⟨ret_bool ?_, hbw1⟩
          first | (rw [HR.out]; done) | (rw [HR.out]; rfl)
end Go.Proofs.Ytdhjchibhlcchaa

/-! Fr4 -/
namespace Go.Proofs.Ytdhjchibhlcchaa
open Go.RowKit

theorem pow_even {j : Nat} (h : 1 < 2 ^ j) : ∃ i, 2 ^ j = 2 * 2 ^ i ∧ i < j := by
  cases j with
  | zero => simp at h
  | succ i => exact ⟨i, by rw [Nat.pow_succ]; omega, by omega⟩
theorem half_step {W n s p : Nat} (h : n * W = s * (2 * p)) (hev : n % 2 = 0) : n / 2 * W = s * p := by
  obtain ⟨m, rfl⟩ : ∃ m, n = 2 * m := ⟨n / 2, by omega⟩
  have e : 2 * m / 2 = m := by omega
  rw [e]
  refine Nat.eq_of_mul_eq_mul_left (show 0 < 2 by omega) ?_
  rw [← Nat.mul_assoc, h]
  ac_rfl
theorem frA_end {s n d j : Nat} (h : n * 1048576 = s * d) (hd : d = 2 ^ j) (ho : ¬ 1 < d ∨ n % 2 = 1) : frA s = if isFr n d = true then some (n, d) else none := by
  have hp : 0 < d := by rw [hd]; exact Nat.pow_pos (by omega)
  have e : frOf s = (n, d) := by
    rw [frOf_even h hp]
    apply short_self
    rcases ho with ho | ho
    · obtain rfl : d = 1 := by omega
      exact Nat.gcd_one_right _
    · rw [hd]; exact gcd_odd_pow ho j
  unfold frA
  rw [e]
set_option maxHeartbeats 2000000 in
theorem steps_any (n d : Nat) (w : World) (h : isFr n d = true) :
    Calls Try.prog 42 #[.agg #[.int .i64 n, .int .i64 d]] w (Gives (.int .i64 (stepsOf n d)) w) := by
  obtain ⟨h1, h2, h3, h4⟩ := isFr_iff.1 h
  obtain ⟨k1, k2, k3⟩ := steps_le h
  generalize stepsOf n d = s at *
  have HK := Lib.hid k3
  clear h4 k1 k2 k3 h
  rcases isP2_mem.1 h1 with e | e | e | e | e | e | e | e | e | e | e <;>
    (have e' := congrArg Int.toNat e
     simp at e'
     subst e'
     clear e h1
     go_enter Try.func42, Try.ntmps42
     go_wp2_with fail
     go_quiet (fail)
     go_wp2_with fail
     go_ret
     have := HK.out
     simp at this
     exact ⟨ret_int (by omega), drewB (nxAlloc (Below.refl _ _) _) _⟩)

set_option maxHeartbeats 2000000 in
theorem fractionAt_any (s : Nat) (w : World) (hs : (s : Int) ≤ 4611686018427387904) :
    Calls Try.prog 47 #[.int .i64 s] w (Gives (ansF (frA s)) w) := by
  go_enter Try.func47, Try.ntmps47
  go_wp2_with fail
  have hb0 : Below w.heap.size w ((w.alloc (.cells #[.int .i64 0, .int .i64 0] 26 (0, 0))).alloc (.cells #[.int .i64 s, .int .i64 1048576] 26 (0, 0))) := nxAlloc (nxAlloc (Below.refl _ _) _) _
  have hx0 := heap_keep (nxAlloc (Below.refl _ _) (.cells #[.int .i64 s, .int .i64 1048576] 26 (0, 0))) (heap_alloc_at w (.cells #[.int .i64 0, .int .i64 0] 26 (0, 0)))
  have hx1 := heap_alloc_at (w.alloc (.cells #[.int .i64 0, .int .i64 0] 26 (0, 0))) (.cells #[.int .i64 s, .int .i64 1048576] 26 (0, 0))
  generalize ((w.alloc (.cells #[.int .i64 0, .int .i64 0] 26 (0, 0))).alloc (.cells #[.int .i64 s, .int .i64 1048576] 26 (0, 0))) = w0 at *
  have e1 : (w.alloc (.cells #[.int .i64 0, .int .i64 0] 26 (0, 0))).heap.size = w.heap.size + 1 := by simp
  rw [e1] at hx1
  clear e1
  obtain ⟨hx0a, hx0b, hx0c⟩ := two_facts hx0
  obtain ⟨hx0f, hx0g⟩ := two_frozen hx0
  obtain ⟨hx1a, hx1b, hx1c⟩ := two_facts hx1
  obtain ⟨hx1f, hx1g⟩ := two_frozen hx1
  clear hx0a hx0b hx0c hx0f hx0g hx1a hx1b hx1c hx1f hx1g
  go_loopw [] (fun wr => ∃ n d j : Nat, wr.heap[w.heap.size + 1]? = some (.cells #[.int .i64 n, .int .i64 d] 26 (0, 0)) ∧ wr.heap[w.heap.size]? = some (.cells #[.int .i64 0, .int .i64 0] 26 (0, 0)) ∧ Below w.heap.size w wr ∧ (n : Int) ≤ 4611686018427387904 ∧ d = 2 ^ j ∧ j ≤ 20 ∧ Hid (n * 1048576 = s * d)) (fun wr => (intOf ((wr.cell? ⟨w.heap.size + 1, 1, none⟩).getD undef)).toNat)
  case atStart => exact ⟨s, 1048576, 20, hx1, hx0, hb0, hs, rfl, by omega, rfl⟩
  case round =>
    obtain ⟨n, d, j, hx1, hx0, hbw, hn, hd, hj, he⟩ := hrel
    obtain ⟨ka, kb, kc⟩ := two_facts hx1
    obtain ⟨kf, kg⟩ := two_frozen hx1
    have hdl : d ≤ 2 ^ 20 := by rw [hd]; exact Nat.pow_le_pow_right (by omega) hj
    have HJ := Lib.hid hd
    clear hd
    by_cases hlt : 1 < d
    · obtain ⟨i, hi1, hi2⟩ := pow_even (j := j) (by have := HJ.out; omega)
      have hd2 : d = 2 * 2 ^ i := by rw [HJ.out, hi1]
      have hdh : d / 2 = 2 ^ i := by omega
      have HD2 := Lib.hid hd2
      have HDH := Lib.hid hdh
      clear hi1 hd2 hdh
      by_cases hev : n % 2 = 0
      · go_wp2_with fail
        go_roundw
        case rel =>
          refine ⟨n / 2, d / 2, i, set_two _ _ hx1, (Below.heap_setCell _ _ _ _ (by show w.heap.size ≠ w.heap.size + 1; omega)).trans ((Below.heap_setCell _ _ _ _ (by show w.heap.size ≠ w.heap.size + 1; omega)).trans hx0), (hbw.setCell (by show w.heap.size ≤ w.heap.size + 1; omega) _).setCell (by show w.heap.size ≤ w.heap.size + 1; omega) _, by omega, HDH.out, by omega, ?_⟩
          have h1 := he.out
          rw [HD2.out] at h1
          have h2 := half_step h1 hev
          rw [← HDH.out] at h2
          exact h2
        case measure =>
          have c1 := (two_cells (set_two (.int .i64 ((n : Int) / 2)) (.int .i64 ((d : Int) / 2)) hx1)).2
          rw [c1, kb]
          simp [intOf]
          omega
      · have hA := frA_end he.out HJ.out (.inr (by omega))
        have hg := fun w => isFraction_any n d w
        cases hf : isFr n d with
        | false =>
          rw [hf] at hg hA
          rw [if_neg (by simp)] at hA
          have HA := Lib.hid hA
          clear hA hf he
          go_wp2_with fail
          refine (hg _).mono ?_; rintro e w1 ⟨rfl, hb1⟩
          have hx0' := heap_keep hb1 hx0
          have hbw1 := nx hbw hb1
          obtain ⟨q3, q4⟩ := two_frozen hx0'
          obtain ⟨q5, q6, q7⟩ := two_facts hx0'
          go_wp2_with fail
          rw [HA.out]
          obtain ⟨q1, q2⟩ := two_cells (set_two (.int .i64 0) (.int .i64 0) hx0')
          refine bodyPost_ret (v := .tuple #[.agg #[.int .i64 0, .int .i64 0], .bool false]) (by simp [q1, q2, results, Try.results47, go_sem]) rfl ⟨rfl, ?_⟩
          exact (hbw1.setCell (by show w.heap.size ≤ w.heap.size; omega) _).setCell (by show w.heap.size ≤ w.heap.size; omega) _
        | true =>
          rw [hf] at hg hA
          rw [if_pos rfl] at hA
          have HA := Lib.hid hA
          clear hA hf he
          go_wp2_with fail
          refine (hg _).mono ?_; rintro e w1 ⟨rfl, hb1⟩
          have hx0' := heap_keep hb1 hx0
          have hx1' := heap_keep hb1 hx1
          have hbw1 := nx hbw hb1
          obtain ⟨q3, q4⟩ := two_frozen hx0'
          obtain ⟨q5, q6, q7⟩ := two_facts hx0'
          obtain ⟨r5, r6, r7⟩ := two_facts hx1'
          go_wp2_with fail
          rw [HA.out]
          obtain ⟨q1, q2⟩ := two_cells (set_two (.int .i64 n) (.int .i64 d) hx0')
          refine bodyPost_ret (v := .tuple #[.agg #[.int .i64 n, .int .i64 d], .bool true]) (by simp [q1, q2, results, Try.results47, go_sem]) rfl ⟨rfl, ?_⟩
          exact (hbw1.setCell (by show w.heap.size ≤ w.heap.size; omega) _).setCell (by show w.heap.size ≤ w.heap.size; omega) _
    · have hA := frA_end he.out HJ.out (.inl hlt)
      have hg := fun w => isFraction_any n d w
      cases hf : isFr n d with
      | false =>
        rw [hf] at hg hA
        rw [if_neg (by simp)] at hA
        have HA := Lib.hid hA
        clear hA hf he
        go_wp2_with fail
        refine (hg _).mono ?_; rintro e w1 ⟨rfl, hb1⟩
        have hx0' := heap_keep hb1 hx0
        have hbw1 := nx hbw hb1
        obtain ⟨q3, q4⟩ := two_frozen hx0'
        obtain ⟨q5, q6, q7⟩ := two_facts hx0'
        go_wp2_with fail
        rw [HA.out]
        obtain ⟨q1, q2⟩ := two_cells (set_two (.int .i64 0) (.int .i64 0) hx0')
        refine bodyPost_ret (v := .tuple #[.agg #[.int .i64 0, .int .i64 0], .bool false]) (by simp [q1, q2, results, Try.results47, go_sem]) rfl ⟨rfl, ?_⟩
        exact (hbw1.setCell (by show w.heap.size ≤ w.heap.size; omega) _).setCell (by show w.heap.size ≤ w.heap.size; omega) _
      | true =>
        rw [hf] at hg hA
        rw [if_pos rfl] at hA
        have HA := Lib.hid hA
        clear hA hf he
        go_wp2_with fail
        refine (hg _).mono ?_; rintro e w1 ⟨rfl, hb1⟩
        have hx0' := heap_keep hb1 hx0
        have hx1' := heap_keep hb1 hx1
        have hbw1 := nx hbw hb1
        obtain ⟨q3, q4⟩ := two_frozen hx0'
        obtain ⟨q5, q6, q7⟩ := two_facts hx0'
        obtain ⟨r5, r6, r7⟩ := two_facts hx1'
        go_wp2_with fail
        rw [HA.out]
        obtain ⟨q1, q2⟩ := two_cells (set_two (.int .i64 n) (.int .i64 d) hx0')
        refine bodyPost_ret (v := .tuple #[.agg #[.int .i64 n, .int .i64 d], .bool true]) (by simp [q1, q2, results, Try.results47, go_sem]) rfl ⟨rfl, ?_⟩
        exact (hbw1.setCell (by show w.heap.size ≤ w.heap.size; omega) _).setCell (by show w.heap.size ≤ w.heap.size; omega) _
end Go.Proofs.Ytdhjchibhlcchaa

/-! Ft2 -/
namespace Go.Proofs.Ytdhjchibhlcchaa
open Go.RowKit

theorem two1 (a b : Int) : ∀ u ∈ [Value.int .i64 a, Value.int .i64 b], u.oneCell' = true := by
  intro u hu
  simp at hu
  rcases hu with rfl | rfl <;> rfl
/-- The fractions at which addresses begin. -/
def frs (ss : List ByteArray) : List (Nat × Nat) := ss.map fun a => frOf (stA a)
theorem frs_snoc {ss : List ByteArray} {k : Nat} (h : k < ss.length) : frs (ss.take (k + 1)) = frs (ss.take k) ++ [((frOf (stA (ss.getD k ⟨#[]⟩))).1, (frOf (stA (ss.getD k ⟨#[]⟩))).2)] := by
  unfold frs
  rw [List.take_succ_eq_append_getElem h, List.map_append]
  simp [h]
def okAd (a : ByteArray) : Prop := a.size ≤ 10 ∧ a.data.toList.all isBit = true
theorem addrs_ok (t : Tr) (h : t.carets ≤ 8) : ∀ a ∈ t.addrs ⟨#[]⟩, okAd a := by
  intro a ha
  refine ⟨?_, addrs_bits t ⟨#[]⟩ rfl a ha⟩
  have := addrs_size t ⟨#[]⟩ a ha
  have e : (⟨#[]⟩ : ByteArray).size = 0 := rfl
  omega

set_option maxRecDepth 100000 in
set_option maxHeartbeats 2000000 in
theorem mpStarts_any (t : Tr) (w : World) (h : t.carets ≤ 8) :
    Calls Try.prog 85 #[.string t.str] w (GivesF (frs (t.addrs ⟨#[]⟩)) w) := by
  obtain ⟨i0, hi, hz0, hz1, hz2⟩ := info_parts info_frac
  have hl := addrs_length t ⟨#[]⟩
  have hA := fun w => trAddresses_any t ⟨#[]⟩ w (by omega) (by show 0 + t.carets ≤ 1000; omega)
  have hok := addrs_ok t h
  obtain ⟨ss, hss⟩ : ∃ ss, ss = t.addrs ⟨#[]⟩ := ⟨_, rfl⟩
  rw [← hss] at hl hA hok ⊢
  have hln : ss.length ≤ 9 := by omega
  have hlp : 0 < ss.length := by omega
  have HZ := Lib.hid hok
  clear hss hl hok
  go_enter Try.func85, Try.ntmps85
  go_wp2_with fail
  refine (hA _).mono ?_; rintro e w2 ⟨g, cap, own, hb2, rfl⟩
  go_wp2_with fail
  rcases own.cells with ⟨_, h0⟩ | ⟨g', cap', hv, hg0, hg, hc1, hc2, hcell, _⟩
  · rw [h0] at hlp; simp at hlp
  · obtain ⟨rfl, rfl⟩ : g' = g ∧ cap' = cap := by simpa using hv.symm
    have HC := Lib.hid hcell
    clear hv hcell own
    go_loopw [3, 9] (fun v i wr => ∃ k : Nat, k ≤ ss.length ∧ i = .int .i64 k ∧ OwnF w2.heap.size wr v (frs (ss.take k)) ∧ Below w2.heap.size w2 wr) (fun _ i _ => ss.length - (intOf i).toNat)
    case atStart => exact ⟨0, Nat.zero_le _, rfl, OwnW.nil _ _ _ _, Below.refl _ _⟩
    case round =>
      obtain ⟨k, hk, rfl, hown, hbw2⟩ := hrel
      by_cases hlt : k < ss.length
      · have hlt' : (k : Int) < (ss.length : Int) := by omega
        have hlen : (frs (ss.take k)).length = k := by simp [frs]; omega
        have c1 := (hbw2.cell (p := ⟨g', k, none⟩) hg).trans (HC.out k hlt)
        have hz := HZ.out (ss.getD k ⟨#[]⟩) (by rw [List.getD_eq_getElem?_getD, List.getElem?_eq_getElem hlt]; exact List.getElem_mem hlt)
        have hnext := frs_snoc hlt
        obtain ⟨xs, hxs⟩ : ∃ xs, xs = frs (ss.take k) := ⟨_, rfl⟩
        rw [← hxs] at hown hlen hnext
        obtain ⟨s, hs⟩ : ∃ s, s = ss.getD k ⟨#[]⟩ := ⟨_, rfl⟩
        rw [← hs] at c1 hz hnext
        have hM := fun w => mpOf_any s w hz.1 hz.2
        generalize (frOf (stA s)).1 = x at *
        generalize (frOf (stA s)).2 = y at *
        have HN := Lib.hid hnext
        have hxl : xs.length ≤ 9 := by omega
        clear hs hnext hxs hlen hz
        go_wp2_with fail
        refine (hM _).mono ?_; rintro e w3 ⟨rfl, hb3⟩
        have hown3 := hown.keep hb3
        have hbw3 := nx hbw2 hb3
        have hs3 := hbw3.size
        clear hown hbw2 hb3
        go_wp2_with (at_builtin; refine wpList_append_own _ rfl _ _ 38 rfl w2.heap.size 26 i0 (.agg #[.int .i64 0, .int .i64 0]) 2 16 Try.underlying38 hi hz0 hz1 hz2 rfl (by decide) _ _ _ rfl (hown3.alloc _) ⟨w3.heap.size, 0, none⟩ 1 1 [.int .i64 x, .int .i64 y] rfl rfl (newsK _ #[.int .i64 x, .int .i64 y] _) (two1 _ _) (by unfold maxLen; omega) (by omega) (by simp; omega) ?_; intro v' w9 hown' hgrow hnn)
        have hbw9 := (nxAlloc hbw3 _).grown hgrow (by simp; omega) (fun k hk => ownsRow_ge hown3 k hk)
        have hown1 := OwnF.snoc hown'
        clear hown3 hown' hgrow hbw3 hnn
        go_wp2_with fail
        go_roundw
        case rel => exact ⟨k + 1, by omega, by go_num, by rw [HN.out]; exact hown1, hbw9⟩
        case measure => simp [intOf]; omega
      · obtain rfl : k = ss.length := by omega
        rw [List.take_of_length_le (Nat.le_refl _)] at hown
        go_wp2_with fail
        go_ret
        exact ⟨_, hown.mono hb2.size, nx hb2 hbw2, rfl⟩

end Go.Proofs.Ytdhjchibhlcchaa

/-! Place -/
namespace Go.Proofs.Ytdhjchibhlcchaa
open Go.RowKit

theorem head_of {l : List UInt8} {c : UInt8} (h : (l.head? == some c) = true) : ∃ r, l = c :: r := by
  cases l with
  | nil => simp at h
  | cons a r => simp at h; exact ⟨r, by rw [h]⟩

set_option maxHeartbeats 1000000 in
theorem place_any (k : Nat) : ∀ (s : ByteArray) (w : World), s.size < k → s.size ≤ 9223372036854775806 →
    Calls Try.prog 108 #[.string s] w (PlacePost (parseN k s.data.toList) s w) := by
  induction k with
  | zero => intro s w h; omega
  | succ k ih =>
    intro s w hk hs
    have ih_no : ∀ (s : ByteArray) (w : World), s.size < k → s.size ≤ 9223372036854775806 → parseN k s.data.toList = none → Calls Try.prog 108 #[.string s] w (PlaceNo w) := by
      intro s w h1 h2 h3
      have := ih s w h1 h2
      rw [h3] at this
      exact this
    have ih_yes : ∀ (s : ByteArray) (w : World) (t : Tr) (r : List UInt8), s.size < k → s.size ≤ 9223372036854775806 → parseN k s.data.toList = some (t, r) → Calls Try.prog 108 #[.string s] w (PlaceOk t r s w) := by
      intro s w t r h1 h2 h3
      have := ih s w h1 h2
      rw [h3] at this
      exact this
    clear ih
    cases h46 : (s.data.toList.head? == some 46) with
    | true =>
      obtain ⟨r, hr⟩ := head_of h46
      have HP : parseN (k + 1) s.data.toList = some (.lf, r) := by rw [hr, parseN, if_pos rfl]
      rw [HP]
      show Calls _ _ _ _ (PlaceOk .lf r s w)
      have HR := Lib.hid hr
      clear hr HP h46
      go_enter Try.func108, Try.ntmps108
      go_wp2_with (go_at_call 115; refine (cut_yes s _ r _ hs HR.out).mono ?_; rintro e w' ⟨s', h1, h2, rfl, rfl⟩; have H1 := Lib.hid h1; clear h1)
      go_ret2
      exact ⟨_, _, H1.out, h2, heap_alloc_at _ _, (Below.refl _ _).alloc (Nat.le_refl _) _, rfl⟩
    | false =>
      cases h40 : (s.data.toList.head? == some 40) with
      | false =>
        have HP : parseN (k + 1) s.data.toList = none := by
          cases hl : s.data.toList with
          | nil => rfl
          | cons c r =>
            rw [hl] at h46 h40
            have h1 : ¬ c = 46 := by simpa using h46
            have h2 : ¬ c = 40 := by simpa using h40
            rw [parseN, if_neg h1, if_neg h2]
        rw [HP]
        show Calls _ _ _ _ (PlaceNo w)
        go_enter Try.func108, Try.ntmps108
        go_wp2_with fail
        refine (cut_no s 46 _ hs h46).mono ?_; rintro e w' ⟨rfl, rfl⟩
        go_wp2_with fail
        refine (cut_no s 40 _ hs h40).mono ?_; rintro e w' ⟨rfl, rfl⟩
        go_wp2_with fail
        go_ret2
        exact ⟨Below.refl _ _, rfl⟩
      | true =>
        obtain ⟨r, hr⟩ := head_of h40
        have HR := Lib.hid hr
        have hz : s.size = r.length + 1 := by rw [Lib.size_eq, hr]; rfl
        have HZ := Lib.hid hz
        clear h40 hz
        cases hp1 : parseN k r with
        | none =>
          have HP : parseN (k + 1) s.data.toList = none := by rw [hr, parseN, if_neg (by decide), if_pos rfl, hp1]
          rw [HP]
          show Calls _ _ _ _ (PlaceNo w)
          have H1 := Lib.hid hp1
          clear HP hr hp1
          go_enter Try.func108, Try.ntmps108
          go_wp2_with fail
          refine (cut_no s 46 _ hs h46).mono ?_; rintro e w' ⟨rfl, rfl⟩
          go_wp2_with fail
          refine (cut_yes s 40 r _ hs HR.out).mono ?_; rintro e w' ⟨s1, hs1, hz1, rfl, rfl⟩; have HS1 := Lib.hid hs1; clear hs1
          go_wp2_with fail
          refine (ih_no s1 _ (by omega) (by omega) (by rw [HS1.out]; exact H1.out)).mono ?_; rintro e w1 ⟨hb1, rfl⟩
          go_wp2_with fail
          go_ret2
          exact ⟨hb1, rfl⟩
        | some p1 =>
          obtain ⟨t1, r1⟩ := p1
          have hl1 := parseN_len hp1
          cases hp2 : parseN k r1 with
          | none =>
            have HP : parseN (k + 1) s.data.toList = none := by rw [hr, parseN, if_neg (by decide), if_pos rfl, hp1]; show (match parseN k r1 with | none => none | some (t2, r2) => _) = _; rw [hp2]
            rw [HP]
            show Calls _ _ _ _ (PlaceNo w)
            have H1 := Lib.hid hp1
            have H2 := Lib.hid hp2
            clear HP hr hp1 hp2
            go_enter Try.func108, Try.ntmps108
            go_wp2_with fail
            refine (cut_no s 46 _ hs h46).mono ?_; rintro e w' ⟨rfl, rfl⟩
            go_wp2_with fail
            refine (cut_yes s 40 r _ hs HR.out).mono ?_; rintro e w' ⟨s1, hs1, hz1, rfl, rfl⟩; have HS1 := Lib.hid hs1; clear hs1
            go_wp2_with fail
            refine (ih_yes s1 _ _ _ (by omega) (by omega) (by rw [HS1.out]; exact H1.out)).mono ?_; rintro e w1 ⟨b1, s2, hs2, hz2, hn1, hb1, rfl⟩; have HS2 := Lib.hid hs2; clear hs2
            go_wp2_with fail
            refine (ih_no s2 _ (by omega) (by omega) (by rw [HS2.out]; exact H2.out)).mono ?_; rintro e w2 ⟨hb2, rfl⟩
            go_wp2_with fail
            go_ret2
            exact ⟨hb1.trans (hb2.mono hb1.size), rfl⟩
          | some p2 =>
            obtain ⟨t2, r2⟩ := p2
            have hl2 := parseN_len hp2
            cases h41 : (r2.head? == some 41) with
            | false =>
              have HP : parseN (k + 1) s.data.toList = none := by
                rw [hr, parseN, if_neg (by decide), if_pos rfl, hp1]
                show (match parseN k r1 with | none => none | some (t2, r2) => _) = _
                rw [hp2]
                cases r2 with
                | nil => rfl
                | cons c r3 =>
                  have h1 : ¬ c = 41 := by simpa using h41
                  simp [h1]
              rw [HP]
              show Calls _ _ _ _ (PlaceNo w)
              have H1 := Lib.hid hp1
              have H2 := Lib.hid hp2
              have H3 := Lib.hid h41
              clear HP hr hp1 hp2 h41
              go_enter Try.func108, Try.ntmps108
              go_wp2_with fail
              refine (cut_no s 46 _ hs h46).mono ?_; rintro e w' ⟨rfl, rfl⟩
              go_wp2_with fail
              refine (cut_yes s 40 r _ hs HR.out).mono ?_; rintro e w' ⟨s1, hs1, hz1, rfl, rfl⟩; have HS1 := Lib.hid hs1; clear hs1
              go_wp2_with fail
              refine (ih_yes s1 _ _ _ (by omega) (by omega) (by rw [HS1.out]; exact H1.out)).mono ?_; rintro e w1 ⟨b1, s2, hs2, hz2, hn1, hb1, rfl⟩; have HS2 := Lib.hid hs2; clear hs2
              go_wp2_with fail
              refine (ih_yes s2 _ _ _ (by omega) (by omega) (by rw [HS2.out]; exact H2.out)).mono ?_; rintro e w2 ⟨b2, s3, hs3, hz3, hn2, hb2, rfl⟩; have HS3 := Lib.hid hs3; clear hs3
              go_wp2_with fail
              refine (cut_no s3 41 _ (by omega) (by rw [HS3.out]; exact H3.out)).mono ?_; rintro e w' ⟨rfl, rfl⟩
              go_wp2_with fail
              go_ret2
              exact ⟨hb1.trans (hb2.mono hb1.size), rfl⟩
            | true =>
              obtain ⟨r3, hr3⟩ := head_of h41
              have HP : parseN (k + 1) s.data.toList = some (.nd t1 t2, r3) := by
                rw [hr, parseN, if_neg (by decide), if_pos rfl, hp1]
                show (match parseN k r1 with | none => none | some (t2, r2) => _) = _
                rw [hp2, hr3]
                simp
              rw [HP]
              show Calls _ _ _ _ (PlaceOk (.nd t1 t2) r3 s w)
              have H1 := Lib.hid hp1
              have H2 := Lib.hid hp2
              have H3 := Lib.hid hr3
              clear HP hr hp1 hp2 h41 hr3
              go_enter Try.func108, Try.ntmps108
              go_wp2_with fail
              refine (cut_no s 46 _ hs h46).mono ?_; rintro e w' ⟨rfl, rfl⟩
              go_wp2_with fail
              refine (cut_yes s 40 r _ hs HR.out).mono ?_; rintro e w' ⟨s1, hs1, hz1, rfl, rfl⟩; have HS1 := Lib.hid hs1; clear hs1
              go_wp2_with fail
              refine (ih_yes s1 _ _ _ (by omega) (by omega) (by rw [HS1.out]; exact H1.out)).mono ?_; rintro e w1 ⟨b1, s2, hs2, hz2, hn1, hb1, rfl⟩; have HS2 := Lib.hid hs2; clear hs2
              go_wp2_with fail
              refine (ih_yes s2 _ _ _ (by omega) (by omega) (by rw [HS2.out]; exact H2.out)).mono ?_; rintro e w2 ⟨b2, s3, hs3, hz3, hn2, hb2, rfl⟩; have HS3 := Lib.hid hs3; clear hs3
              go_wp2_with fail
              refine (cut_yes s3 41 r3 _ (by omega) (by rw [HS3.out]; exact H3.out)).mono ?_; rintro e w' ⟨s4, hs4, hz4, rfl, rfl⟩; have HS4 := Lib.hid hs4; clear hs4
              go_wp2_with fail
              go_ret2
              have hb3 : Below w2.heap.size w2 (w2.alloc (.cells #[.pointer (some ⟨b1, 0, none⟩), .pointer (some ⟨b2, 0, none⟩)] 119 (0, 0))) := (Below.refl _ _).alloc (Nat.le_refl _) _
              exact ⟨_, _, HS4.out, by omega, ⟨b1, b2, heap_alloc_at _ _, (hn1.keep hb2).keep hb3, hn2.keep hb3⟩, (hb1.trans (hb2.mono hb1.size)).trans (hb3.mono (Nat.le_trans hb1.size hb2.size)), rfl⟩
end Go.Proofs.Ytdhjchibhlcchaa

/-! Read -/
namespace Go.Proofs.Ytdhjchibhlcchaa
open Go.RowKit

def ReadOk (t : Tr) (w : World) (e : Ending) (w' : World) : Prop :=
  ∃ b : Nat, NodeAt w' t b ∧ Below w.heap.size w w' ∧ e = .returned (.tuple #[.pointer (some ⟨b, 0, none⟩), .bool true])
def ReadNo (w : World) (e : Ending) (w' : World) : Prop :=
  Below w.heap.size w w' ∧ e = .returned (.tuple #[.pointer none, .bool false])

theorem treeOf_of_parse {s : ByteArray} {t : Tr} (h : parseN (s.size + 1) s.data.toList = some (t, [])) (hz : s.size ≤ 25) : treeOf s = some t := by
  have e := str_of_list (show s.data.toList = t.text by simpa using parseN_sound _ _ _ _ h)
  subst e
  exact treeOf_str t (by rw [Tr.str_size] at hz; omega)

theorem read_yes (t : Tr) (w : World) (h : t.carets ≤ 8) :
    Calls Try.prog 106 #[.string t.str] w (ReadOk t w) := by
  have hz := t.str_size
  have hp := place_any (t.str.size + 1) t.str
  rw [parse_str t _ (by have := t.text_len; omega)] at hp
  have hp' : ∀ w, Calls Try.prog 108 #[.string t.str] w (PlaceOk t [] t.str w) := fun w => hp w (by omega) (by omega)
  have hz' : t.str.size ≤ 25 := by omega
  clear hz hp
  go_enter Try.func106, Try.ntmps106
  go_wp2_with fail
  refine (hp' _).mono ?_; rintro e w1 ⟨b1, s1, hs1, hz1, hn1, hb1, rfl⟩; have e1 : s1.toList.isEmpty = true := by rw [Lib.toList_data, hs1]; rfl
  have e2 : s1.toList = [] := by rw [Lib.toList_data, hs1]
  clear hs1
  go_wp2_with fail
  go_ret2
  exact ⟨b1, hn1, hb1, rfl⟩

theorem read_no (s : ByteArray) (w : World) (hs : s.size ≤ 9223372036854775806) (h : treeOf s = none) :
    Calls Try.prog 106 #[.string s] w (ReadNo w) := by
  by_cases hz : (s.size : Int) ≤ 25
  · have hp := place_any (s.size + 1) s
    cases hq : parseN (s.size + 1) s.data.toList with
    | none =>
      rw [hq] at hp
      have hp' : ∀ w, Calls Try.prog 108 #[.string s] w (PlaceNo w) := fun w => hp w (by omega) hs
      clear hp h hq
      go_enter Try.func106, Try.ntmps106
      go_wp2_with fail
      refine (hp' _).mono ?_; rintro e w1 ⟨hb1, rfl⟩
      go_wp2_with fail
      go_ret2
      exact ⟨hb1, rfl⟩
    | some p =>
      obtain ⟨t, r⟩ := p
      rw [hq] at hp
      have hp' : ∀ w, Calls Try.prog 108 #[.string s] w (PlaceOk t r s w) := fun w => hp w (by omega) hs
      cases r with
      | nil => rw [treeOf_of_parse hq (by omega)] at h; simp at h
      | cons c r =>
        clear hp h hq
        go_enter Try.func106, Try.ntmps106
        go_wp2_with fail
        refine (hp' _).mono ?_; rintro e w1 ⟨b1, s1, hs1, hz1, hn1, hb1, rfl⟩; have e1 : s1.toList.isEmpty = false := by rw [Lib.toList_data, hs1]; rfl
        clear hs1
        go_wp2_with fail
        go_ret2
        exact ⟨hb1, rfl⟩
  · clear h
    go_enter Try.func106, Try.ntmps106
    go_wp2_with fail
    go_ret2
    exact ⟨Below.refl _ _, rfl⟩

theorem implIsTree_yes (t : Tr) (w : World) (h : t.carets ≤ 8) :
    Calls Try.prog 79 #[.string t.str] w fun e w' => Below w.heap.size w w' ∧ e = .returned (.bool true) := by
  go_enter Try.func79, Try.ntmps79
  go_wp2_with fail
  refine (read_yes t _ h).mono ?_; rintro e w1 ⟨b1, hn1, hb1, rfl⟩
  go_wp2_with fail
  go_ret
  exact ⟨hb1, rfl⟩

theorem implIsTree_no (s : ByteArray) (w : World) (hs : s.size ≤ 9223372036854775806) (h : treeOf s = none) :
    Calls Try.prog 79 #[.string s] w fun e w' => Below w.heap.size w w' ∧ e = .returned (.bool false) := by
  have H := Lib.hid h
  clear h
  go_enter Try.func79, Try.ntmps79
  go_wp2_with fail
  refine (read_no s _ hs H.out).mono ?_; rintro e w1 ⟨hb1, rfl⟩
  go_wp2_with fail
  go_ret
  exact ⟨hb1, rfl⟩

end Go.Proofs.Ytdhjchibhlcchaa

/-! TreeO -/
namespace Go.Proofs.Ytdhjchibhlcchaa
open Go.RowKit

theorem keep_cell {w w' : World} {b o : Nat} {v : Value} (hb : Below w.heap.size w w') (h : w.cell? ⟨b, o, none⟩ = some v) : w'.cell? ⟨b, o, none⟩ = some v :=
  (hb.cell (p := ⟨b, o, none⟩) (World.block_lt_of_cell? _ _ h)).trans h

theorem treeOf_any (t : Tr) (w : World) (h : t.carets ≤ 1000) : Calls Try.prog 82 #[.string t.str] w (GivesNode t w) := by
  have hz := t.str_size
  have hp := place_any (t.str.size + 1) t.str
  rw [parse_str t _ (by have := t.text_len; omega)] at hp
  have hp' : ∀ w, Calls Try.prog 108 #[.string t.str] w (PlaceOk t [] t.str w) := fun w => hp w (by omega) (by omega)
  clear hz hp
  go_enter Try.func82, Try.ntmps82
  go_wp2_with fail
  refine (hp' _).mono ?_; rintro e w1 ⟨b1, s1, hs1, hz1, hn1, hb1, rfl⟩
  clear hs1 hz1
  go_wp2_with fail
  go_ret
  exact ⟨b1, hn1, hb1, rfl⟩

end Go.Proofs.Ytdhjchibhlcchaa

/-! Fp1 -/
namespace Go.Proofs.Ytdhjchibhlcchaa
open Go.RowKit

theorem info_piece : (Try.prog.info? 63).map (fun i => (i.zero, i.size, i.bytes)) = some (some (.agg #[.int .i64 0, .int .i64 0, .int .i64 0]), 3, 24) := by kernel_rfl
theorem three1 (a b c : Int) : ∀ u ∈ [Value.int .i64 a, Value.int .i64 b, Value.int .i64 c], u.oneCell' = true := by
  intro u hu
  simp at hu
  rcases hu with rfl | rfl | rfl <;> rfl
/-- Where the pieces of a pair begin, to what this is carried, and the slope. -/
def pcsL : List ByteArray → List ByteArray → List (Nat × Nat × Int)
  | a :: l, b :: m => (stA a, stA b, (a.size : Int) - b.size) :: pcsL l m
  | _, _ => []
def flatP : List (Nat × Nat × Int) → List Int
  | [] => []
  | x :: l => (x.1 : Int) :: (x.2.1 : Int) :: x.2.2 :: flatP l
theorem flatP_length (l : List (Nat × Nat × Int)) : (flatP l).length = l.length * 3 := by
  induction l with
  | nil => rfl
  | cons x l ih => simp [flatP, ih]; omega
theorem flatP_append (l m : List (Nat × Nat × Int)) : flatP (l ++ m) = flatP l ++ flatP m := by
  induction l with
  | nil => rfl
  | cons x l ih => simp [flatP, ih]
theorem flatP_get (l : List (Nat × Nat × Int)) : ∀ k, k < l.length → (flatP l).getD (k * 3) 0 = ((l.getD k (0, 0, 0)).1 : Int) ∧ (flatP l).getD (k * 3 + 1) 0 = ((l.getD k (0, 0, 0)).2.1 : Int) ∧ (flatP l).getD (k * 3 + 2) 0 = (l.getD k (0, 0, 0)).2.2 := by
  induction l with
  | nil => intro k hk; simp at hk
  | cons x l ih =>
    intro k hk
    match k with
    | 0 => exact ⟨rfl, rfl, rfl⟩
    | k + 1 =>
      have := ih k (by simpa using hk)
      rw [show (k + 1) * 3 = k * 3 + 3 by omega]
      exact this
theorem pcsL_length : ∀ (l m : List ByteArray), l.length = m.length → (pcsL l m).length = l.length := by
  intro l
  induction l with
  | nil => intro m h; cases m <;> rfl
  | cons a l ih => intro m h; match m, h with
    | b :: m, h => simp [pcsL, ih m (by simpa using h)]
theorem pcsL_get : ∀ (l m : List ByteArray), l.length = m.length → ∀ k, k < l.length → (pcsL l m).getD k (0, 0, 0) = (stA (l.getD k ⟨#[]⟩), stA (m.getD k ⟨#[]⟩), ((l.getD k ⟨#[]⟩).size : Int) - (m.getD k ⟨#[]⟩).size) := by
  intro l
  induction l with
  | nil => intro m h k hk; simp at hk
  | cons a l ih => intro m h k hk; match m, h with
    | b :: m, h =>
      match k with
      | 0 => rfl
      | k + 1 => exact ih m (by simpa using h) k (by simpa using hk)
def pcs (p : Pr) : List (Nat × Nat × Int) := pcsL (p.1.addrs ⟨#[]⟩) (p.2.addrs ⟨#[]⟩)
/-- v is a slice of pieces that the call has made. -/
def OwnP (base : Nat) (w : World) (v : Value) (xs : List (Nat × Nat × Int)) : Prop := OwnW 63 3 base w v xs.length (flatP xs)
theorem OwnP.keep {base : Nat} {w w' : World} {v : Value} {xs : List (Nat × Nat × Int)} (h : OwnP base w v xs) (hb : Below w.heap.size w w') : OwnP base w' v xs := OwnW.keep h hb
theorem OwnP.mono {base base' : Nat} {w : World} {v : Value} {xs : List (Nat × Nat × Int)} (h : OwnP base w v xs) (hb : base' ≤ base) : OwnP base' w v xs := OwnW.mono h hb
theorem OwnP.cells {base : Nat} {w : World} {v : Value} {xs : List (Nat × Nat × Int)} (h : OwnP base w v xs) : CellsW 3 base w v xs.length (flatP xs) := OwnW.cells h
theorem OwnP.snoc {base : Nat} {w : World} {v : Value} {xs : List (Nat × Nat × Int)} {a b : Nat} {c : Int} (h : w.ownsRow base 63 3 v (xs.length + 1) ((flatP xs).map (Value.int .i64) ++ [Value.int .i64 a, Value.int .i64 b, Value.int .i64 c])) : OwnP base w v (xs ++ [(a, b, c)]) := by
  unfold OwnP OwnW
  rw [List.length_append, flatP_append, List.map_append]
  exact h
def GivesP (xs : List (Nat × Nat × Int)) (w : World) (e : Ending) (w' : World) : Prop :=
  ∃ v, OwnP w.heap.size w' v xs ∧ Below w.heap.size w w' ∧ e = .returned v

theorem size_of_alloc (w : World) (o : Obj) : (w.alloc o).heap.size = w.heap.size + 1 := by simp
set_option maxRecDepth 100000 in
set_option maxHeartbeats 4000000 in
theorem leafPieces_any (p : Pr) (w : World) (h1 : p.1.carets ≤ 8) (h2 : p.2.carets ≤ 8) (he : p.1.carets = p.2.carets) :
    Calls Try.prog 49 #[.agg #[.string p.1.str, .string p.2.str]] w (GivesP (pcs p) w) := by
  obtain ⟨i0, hi, hz0, hz1, hz2⟩ := info_parts info_piece
  have T1 := fun w => treeOf_any p.1 w (by omega)
  have T2 := fun w => treeOf_any p.2 w (by omega)
  have A1 := fun b w h => addressesFrom_any p.1 b ⟨#[]⟩ w h (by omega) (by show 0 + p.1.carets ≤ 1000; omega)
  have A2 := fun b w h => addressesFrom_any p.2 b ⟨#[]⟩ w h (by omega) (by show 0 + p.2.carets ≤ 1000; omega)
  have l1 := addrs_length p.1 ⟨#[]⟩
  have l2 := addrs_length p.2 ⟨#[]⟩
  have o1 := addrs_ok p.1 h1
  have o2 := addrs_ok p.2 h2
  unfold pcs
  generalize p.1.addrs ⟨#[]⟩ = xs at *
  generalize p.2.addrs ⟨#[]⟩ = ys at *
  obtain ⟨n, hn⟩ : ∃ n, n = xs.length := ⟨_, rfl⟩
  have hny : ys.length = n := by omega
  have hn9 : n ≤ 9 := by omega
  have hn0 : 0 < n := by omega
  have hxy : xs.length = ys.length := by omega
  have pl := pcsL_length xs ys hxy
  have pg := pcsL_get xs ys hxy
  have hO : Hid (∀ k, k < n → okAd (xs.getD k ⟨#[]⟩) ∧ okAd (ys.getD k ⟨#[]⟩)) := by
    intro k hk
    have hk1 : k < xs.length := by omega
    have hk2 : k < ys.length := by omega
    exact ⟨o1 _ (by simp [hk1]), o2 _ (by simp [hk2])⟩
  have A1' : ∀ b w, NodeAt w p.1 b → Calls Try.prog 83 #[.pointer (some ⟨b, 0, none⟩), .string ⟨#[]⟩] w fun e w' => ∃ g cap : Nat, OwnS w.heap.size w' (.slice (some ⟨g, 0, none⟩) n cap) xs ∧ Below w.heap.size w w' ∧ e = .returned (.slice (some ⟨g, 0, none⟩) n cap) := by
    intro b w h
    have := A1 b w h
    unfold GivesTexts at this
    rw [← hn] at this
    exact this
  have A2' : ∀ b w, NodeAt w p.2 b → Calls Try.prog 83 #[.pointer (some ⟨b, 0, none⟩), .string ⟨#[]⟩] w fun e w' => ∃ g cap : Nat, OwnS w.heap.size w' (.slice (some ⟨g, 0, none⟩) n cap) ys ∧ Below w.heap.size w w' ∧ e = .returned (.slice (some ⟨g, 0, none⟩) n cap) := by
    intro b w h
    have := A2 b w h
    unfold GivesTexts at this
    rw [hny] at this
    exact this
  clear A1 A2
  rw [← hn] at pl pg
  have hX := hn.symm
  clear hn
  generalize pcsL xs ys = ps at *
  have PG := Lib.hid pg
  have PL := Lib.hid pl
  have HX := Lib.hid hX
  have HY := Lib.hid hny
  clear pg pl o1 o2 hxy l1 l2 hX hny
  go_enter Try.func49, Try.ntmps49
  go_wp2_with fail
  have hb0 : Below w.heap.size w (w.alloc (.cells #[.string p.1.str, .string p.2.str] 34 (0, 0))) := nxAlloc (Below.refl _ _) _
  have hx0 := heap_alloc_at w (.cells #[.string p.1.str, .string p.2.str] 34 (0, 0))
  generalize (w.alloc (.cells #[.string p.1.str, .string p.2.str] 34 (0, 0))) = w0 at *
  obtain ⟨hx0a, hx0b, hx0c⟩ := two_facts hx0
  obtain ⟨hx0f, hx0g⟩ := two_frozen hx0
  have hz0' := Below.refl w0.heap.size w0
  go_region_held3 (fun w' => w'.cell? ⟨w.heap.size, 0, none⟩ = some (.string p.1.str) ∧ w'.cell? ⟨w.heap.size, 1, none⟩ = some (.string p.2.str))
    (first
      | exact ⟨hx0a, hx0b⟩
      | exact ⟨B1, B2⟩
      | exact ⟨C1, C2⟩
      | exact ⟨D1, D2⟩
      | exact ⟨E1, E2⟩)
    (first
      | (go_at_call 82; (with_reducible refine (T1 _).mono ?_); rintro e w1 ⟨b1, hn1, hb1, rfl⟩; have hb1' := nx hz0'.drew hb1; have B1 := keep_cell hb1' hx0a; have B2 := keep_cell hb1' hx0b)
      | (go_at_call_of 83 (some (⟨b1, 0, none⟩ : Addr)); refine (A1' b1 _ ?_).mono ?_; exact hn1; rintro e w2 ⟨g1, cap1, own1, hb2, rfl⟩; have hb2' := nx hb1' hb2; have C1 := keep_cell hb2' hx0a; have C2 := keep_cell hb2' hx0b)
      | (go_at_call 82; (with_reducible refine (T2 _).mono ?_); rintro e w3 ⟨b2, hn2, hb3, rfl⟩; have hb3' := nx hb2' hb3; have D1 := keep_cell hb3' hx0a; have D2 := keep_cell hb3' hx0b)
      | (go_at_call_of 83 (some (⟨b2, 0, none⟩ : Addr)); refine (A2' b2 _ ?_).mono ?_; exact hn2; rintro e w4 ⟨g2, cap2, own2, hb4, rfl⟩; have hb4' := nx hb3' hb4; have E1 := keep_cell hb4' hx0a; have E2 := keep_cell hb4' hx0b))
  have hbw4 := nx hb0 hb4'
  have own1' := own1.keep (nx hb3 hb4)
  clear hx0 hx0a hx0b hx0c hx0f hx0g B1 B2 C1 C2 D1 D2 E1 E2 hb0 hb1 hb2 hb3 hb4 hb1' hb2' hb3' hb4' hn1 hn2 own1 T1 T2 A1' A2' hz0'
  rcases own1'.cells with ⟨h0, _⟩ | ⟨g1', cap1', hv1, _, hg1, hc1, hc2, hcell1, _⟩
  · simp at h0
  rcases own2.cells with ⟨h0, _⟩ | ⟨g2', cap2', hv2, _, hg2, hc3, hc4, hcell2, _⟩
  · simp at h0
  simp only [Value.slice.injEq, Option.some.injEq, Addr.mk.injEq, and_true] at hv1 hv2
  obtain ⟨rfl, e1, rfl⟩ := hv1
  obtain ⟨rfl, e2, rfl⟩ := hv2
  clear e1 e2
  have HC1 := Lib.hid hcell1
  have HC2 := Lib.hid hcell2
  unfold maxLen at hc2 hc4
  clear hcell1 hcell2 own1' own2
  go_wp2_with fail
  go_loopw [5, 17] (fun v i wr => ∃ (k : Nat) (v0 : Value), v0 = v ∧ k ≤ n ∧ i = .int .i64 k ∧ OwnP w4.heap.size wr v0 (ps.take k) ∧ Below w4.heap.size w4 wr ∧ Below w.heap.size w wr) (fun _ i _ => n - (intOf i).toNat)
  case atStart => exact ⟨0, _, rfl, Nat.zero_le _, rfl, OwnW.nil _ _ _ _, Below.refl _ _, hbw4⟩
  case round =>
    obtain ⟨k, v, rfl, hk, rfl, hown, hbw, hbww⟩ := hrel
    by_cases hlt : k < n
    · have hlt' : (k : Int) < (n : Int) := by omega
      have hX := HX.out
      have hY := HY.out
      have d1 := HC1.out k (by omega)
      have d2 := HC2.out k (by omega)
      obtain ⟨ok1, ok2⟩ := hO.out k hlt
      have hpl := PL.out
      have hnext : ps.take (k + 1) = ps.take k ++ [ps.getD k (0, 0, 0)] := by
        have : k < ps.length := by omega
        rw [List.take_succ_eq_append_getElem this]; simp [this]
      have hlen : (ps.take k).length = k := by simp; omega
      rw [PG.out k (by omega)] at hnext
      generalize ps.take k = qs at hown hlen hnext
      generalize xs.getD k ⟨#[]⟩ = a at *
      generalize ys.getD k ⟨#[]⟩ = b at *
      have hS1 := fun w => startOf_any a w ok1.1 ok1.2
      have hS2 := fun w => startOf_any b w ok2.1 ok2.2
      have sa := ok1.1
      have sb := ok2.1
      have hi3 : IntKind.i64.wrap ((a.size : Int) - (b.size : Int)) = (a.size : Int) - (b.size : Int) := by rw [IntKind.wrap_i64] <;> omega
      generalize hx : stA a = x at *
      generalize hy : stA b = y at *
      have HN := Lib.hid hnext
      have hq9 : qs.length ≤ 9 := by omega
      clear hnext hX hY ok1 ok2 hpl hx hy hlen
      have c1 := (hbw.cell (p := ⟨g1, k, none⟩) hg1).trans d1
      have c2 := (hbw.cell (p := ⟨g2, k, none⟩) hg2).trans d2
      have hz := Below.refl wr.heap.size wr
      have hsw := hbw4.size
      have hm9 : qs.length + 1 ≤ maxLen := by unfold maxLen; omega
      have hb9 : (qs.length + 1) * 24 ≤ 140737488355328 := by omega
      go_wp2_with fail
      go_region_held3 (fun w' => w'.cell? ⟨g1, k, none⟩ = some (.string a) ∧ w'.cell? ⟨g2, k, none⟩ = some (.string b))
        (first
          | exact ⟨c1, c2⟩
          | exact ⟨B1, B2⟩
          | exact ⟨C1, C2⟩
          | exact ⟨D1 _, D2 _⟩
          | exact ⟨E1, E2⟩)
        (first
          | (go_at_call 84; (with_reducible refine (hS1 _).mono ?_); rintro e w5 ⟨rfl, hb5⟩; have hb5' := nx hz.drew hb5; have B1 := keep_cell hb5' c1; have B2 := keep_cell hb5' c2)
          | (go_at_call 84; (with_reducible refine (hS2 _).mono ?_); rintro e w6 ⟨rfl, hb6⟩; have hb6' := nx hb5' hb6; have C1 := keep_cell hb6' c1; have C2 := keep_cell hb6' c2; have D1 := fun o => keep_cell (nxAlloc hb6' o) c1; have D2 := fun o => keep_cell (nxAlloc hb6' o) c2; have hown6 := hown.keep hb6'; have hb46 := nx hbw hb6'; have hbw6 := nx hbww hb6'; have hnews := newsK w6 #[.int .i64 x, .int .i64 y, .int .i64 ((a.size : Int) - (b.size : Int))] 63; have hown7 := World.ownsRow.alloc hown6 (.cells #[.int .i64 x, .int .i64 y, .int .i64 ((a.size : Int) - (b.size : Int))] 63 (0, 0)); have hs46 := hb46.size; have hbs := Nat.le_trans hs46 (Nat.le_trans (Nat.le_succ _) (Nat.le_of_eq (size_of_alloc w6 (.cells #[.int .i64 x, .int .i64 y, .int .i64 ((a.size : Int) - (b.size : Int))] 63 (0, 0))).symm)); have hsz7 := size_of_alloc w6 (.cells #[.int .i64 x, .int .i64 y, .int .i64 ((a.size : Int) - (b.size : Int))] 63 (0, 0)))
          | (refine step_append_lies _ (by rfl) _ _ _ (by rfl) w4.heap.size 63 i0 _ 3 24 Try.underlying65 hi hz0 hz1 hz2 rfl (by omega) v qs.length ((flatP qs).map (Value.int .i64)) (by rfl) hown7 ⟨w6.heap.size, 0, none⟩ 1 1 [.int .i64 x, .int .i64 y, .int .i64 ((a.size : Int) - (b.size : Int))] (by rfl) (by rfl) hnews (three1 _ _ _) (by omega) hm9 hb9 hbs (w6.heap.size + 1) hsz7 ?_; intro gg cap9 w9 hown' hgrow hat hlt9; have hbw9 := (nxAlloc hb46 _).grown hgrow hbs (fun k hk => ownsRow_ge hown7 k hk); have E1 := (hbw9.cell (p := ⟨g1, k, none⟩) hg1).trans d1; have E2 := (hbw9.cell (p := ⟨g2, k, none⟩) hg2).trans d2))
      have hbw9w := (nxAlloc hbw6 _).grown hgrow (Nat.le_trans hsw hbs) (fun k hk => Nat.le_trans hsw (ownsRow_ge hown7 k hk))
      have hown1 := OwnP.snoc hown'
      go_wp2_with fail
      go_roundw
      case rel =>
        rw [← HN.out] at hown1
        first
          | exact ⟨k + 1, _, rfl, by omega, by go_num, hown1, hbw9, hbw9w⟩
          | ((repeat apply Exists.intro); exact ⟨⟨k + 1, _, rfl, by omega, by go_num, hown1, hbw9, hbw9w⟩, rfl⟩)
      case measure => simp [intOf]; omega
    · obtain rfl : k = n := by omega
      have hpl := PL.out
      rw [List.take_of_length_le (by omega)] at hown
      go_wp2_with fail
      go_ret
      exact ⟨_, hown.mono hbw4.size, hbww, rfl⟩
end Go.Proofs.Ytdhjchibhlcchaa

/-! SpecMir -/
namespace Go.Proofs.Ytdhjchibhlcchaa
open Go.RowKit

end Go.Proofs.Ytdhjchibhlcchaa

/-! Ans -/
namespace Go.Proofs.Ytdhjchibhlcchaa
open Go.RowKit

def trS : Option Tr → ByteArray
  | some t => t.str
  | none => ⟨#[]⟩
def trB : Option Tr → Bool
  | some _ => true
  | none => false
/-- An answer of a text and a bool. -/
def ansV (o : Option Tr) : Value := .tuple #[.string (trS o), .bool (trB o)]
/-- A tree, if it has no more carets than allowed. -/
def lim (t : Tr) : Option Tr := if t.carets ≤ 8 then some t else none

theorem trIs_yes (t : Tr) (w : World) (h : t.carets ≤ 8) : Calls Try.prog 73 #[.string t.str] w fun e w' => e = .returned (.bool true) ∧ w = w' := by
  have := trIs_any t.str w (by have := t.str_size; omega)
  rwa [isTreeB_str t h] at this
theorem trIs_no (s : ByteArray) (w : World) (hs : s.size ≤ 9223372036854775806) (h : treeOf s = none) : Calls Try.prog 73 #[.string s] w fun e w' => e = .returned (.bool false) ∧ w = w' := by
  have := trIs_any s w hs
  rwa [isTreeB_eq, h] at this
theorem carets_str (t : Tr) (w : World) (h : t.carets ≤ 1000) : Calls Try.prog 74 #[.string t.str] w fun e w' => e = .returned (.int .i64 t.carets) ∧ w = w' := by
  have := carets_any t.str w (by have := t.str_size; omega)
  rwa [cnt_str] at this

def TreesOk (t u : Tr) (w : World) (e : Ending) (w' : World) : Prop :=
  ∃ b c : Nat, NodeAt w' t b ∧ NodeAt w' u c ∧ Below w.heap.size w w' ∧ e = .returned (.tuple #[.pointer (some ⟨b, 0, none⟩), .pointer (some ⟨c, 0, none⟩), .bool true])
def TreesNo (w : World) (e : Ending) (w' : World) : Prop :=
  Below w.heap.size w w' ∧ e = .returned (.tuple #[.pointer none, .pointer none, .bool false])

end Go.Proofs.Ytdhjchibhlcchaa

/-! Count -/
namespace Go.Proofs.Ytdhjchibhlcchaa
open Go.RowKit

set_option maxHeartbeats 1000000 in
set_option maxRecDepth 100000 in
theorem count_any (s : ByteArray) (w : World) :
    Calls Try.prog 107 #[.string s, .string ⟨#[40]⟩] w fun e w' => e = .returned (.int .i64 (Lib.countByte s.data.toList 40 : Nat)) ∧ w = w' := by
  go_enter Try.func107, Try.ntmps107
  go_wp2
  rw [run_callFunc_extern Try.func113 (by kernel_rfl) (by kernel_rfl) (by kernel_rfl) (e := Extern.BytealgCount.count) (by kernel_rfl), Lib.run_countString]
  simp only [Result.andThen]
  rw [Oper.upon_value]
  go_wp2
  go_ret
  exact ⟨rfl, rfl⟩

theorem countCarets_any (t : Tr) (w : World) (_h : t.carets ≤ 1000) :
    Calls Try.prog 80 #[.string t.str] w (Gives (.int .i64 t.carets) w) := by
  have e : Hid (Lib.countByte t.str.data.toList 40 = t.carets) := by rw [show Hid _ = _ from rfl, Tr.str_list, ← text_count]; rfl
  go_enter Try.func80, Try.ntmps80
  go_wp2_with fail
  refine (count_any t.str _).mono ?_; rintro _ w1 ⟨rfl, rfl⟩
  rw [e.out]
  go_wp2_with fail
  go_ret
  exact ⟨rfl, Below.refl _ _⟩
end Go.Proofs.Ytdhjchibhlcchaa

/-! Pair -/
namespace Go.Proofs.Ytdhjchibhlcchaa
open Go.RowKit

/-- A pair of texts as a value. -/
abbrev pv (a b : ByteArray) : Value := .agg #[.string a, .string b]

theorem toPair_any (a b : ByteArray) (w : World) :
    Calls Try.prog 16 #[.agg #[.string a, .string b]] w (Gives (.agg #[.string a, .string b]) w) := by
  go_enter Try.func16, Try.ntmps16
  go_wp2
  refine bodyPost_ret (v := .agg #[.string a, .string b]) (by simp [results, Try.results16, go_sem]) rfl ⟨rfl, ?_⟩
  exact nxAlloc (nxAlloc (nxAlloc (Below.refl _ _) _) _) _

theorem szPair_any (a b : ByteArray) (w : World) (ha : a.size ≤ 9223372036854775807) (hb : b.size ≤ 9223372036854775807) (n : Int) (h0 : 0 ≤ n) (h1 : n ≤ 1048576) :
    Calls Try.prog 14 #[.agg #[.string a, .string b], .int .i64 n] w (Gives (.int .i64 (if (a.size : Int) + b.size ≤ n then n - a.size - b.size else -1)) w) := by
  by_cases h2 : n - a.size < 0
  · rw [if_neg (by omega)]
    go_enter Try.func14, Try.ntmps14
    go_wp2
    go_ret
    exact ⟨rfl, (Below.refl _ _).alloc (Nat.le_refl _) _⟩
  · by_cases h3 : n - a.size - b.size < 0
    · rw [if_neg (by omega)]
      go_enter Try.func14, Try.ntmps14
      go_wp2
      go_ret
      exact ⟨rfl, (Below.refl _ _).alloc (Nat.le_refl _) _⟩
    · rw [if_pos (by omega)]
      go_enter Try.func14, Try.ntmps14
      go_wp2
      go_ret
      exact ⟨rfl, (Below.refl _ _).alloc (Nat.le_refl _) _⟩

theorem pairOf_isSome (a b : ByteArray) (t u : Tr) (ha : treeOf a = some t) (hb : treeOf b = some u) : (pairOf a b).isSome = ((t.carets : Int) == (u.carets : Int)) := by
  unfold pairOf
  rw [ha, hb, Bool.eq_iff_iff, beq_iff_eq]
  by_cases h : t.carets = u.carets
  · simp [h]
  · simp only [h, if_false]; simp; omega

set_option maxRecDepth 100000 in
set_option maxHeartbeats 1000000 in
theorem prGood_any (a b : ByteArray) (w : World) (ha : a.size ≤ 9223372036854775806) (hb : b.size ≤ 9223372036854775806) :
    Calls Try.prog 43 #[.agg #[.string a, .string b]] w (Gives (.bool (pairOf a b).isSome) w) := by
  cases h : treeOf a with
  | none =>
    have e : (pairOf a b).isSome = false := by unfold pairOf; rw [h]; rfl
    rw [e]
    have T := fun w => trIs_no a w ha h
    clear h e
    go_enter Try.func43, Try.ntmps43
    go_wp2_with fail
    go_quiet ((go_at_call 73; with_reducible exact quiet_eq (T _)))
    go_wp2_with fail
    go_ret
    exact ⟨rfl, drewB (nxAlloc (Below.refl _ _) _) _⟩
  | some t =>
    cases k : treeOf b with
    | none =>
      have e : (pairOf a b).isSome = false := by unfold pairOf; rw [h, k]; rfl
      rw [e]
      obtain ⟨rfl, hc⟩ := treeOf_some h
      have T := fun w => trIs_yes t w hc
      have U := fun w => trIs_no b w hb k
      clear h k e
      go_enter Try.func43, Try.ntmps43
      go_wp2_with fail
      go_quiet ((go_at_call 73; first | (with_reducible exact quiet_eq (T _)) | (with_reducible exact quiet_eq (U _))))
      go_wp2_with fail
      go_ret
      exact ⟨rfl, drewB (nxAlloc (Below.refl _ _) _) _⟩
    | some u =>
      rw [pairOf_isSome a b t u h k]
      obtain ⟨rfl, hc⟩ := treeOf_some h
      obtain ⟨rfl, hd⟩ := treeOf_some k
      have T := fun w => trIs_yes t w hc
      have U := fun w => trIs_yes u w hd
      have C := fun w => carets_str t w (by omega)
      have D := fun w => carets_str u w (by omega)
      clear h k
      go_enter Try.func43, Try.ntmps43
      go_wp2_with fail
      go_quiet ((first | (go_at_call 73; first | (with_reducible exact quiet_eq (T _)) | (with_reducible exact quiet_eq (U _))) | (go_at_call 74; first | (with_reducible exact quiet_eq (C _)) | (with_reducible exact quiet_eq (D _)))))
      go_wp2_with fail
      go_ret
      exact ⟨rfl, drewB (nxAlloc (Below.refl _ _) _) _⟩
end Go.Proofs.Ytdhjchibhlcchaa

/-! IsPair -/
namespace Go.Proofs.Ytdhjchibhlcchaa
open Go.RowKit

theorem isTree_yes' (t : Tr) (w : World) (h : t.carets ≤ 8) : Calls Try.prog 79 #[.string t.str] w (Gives (.bool true) w) := (implIsTree_yes t w h).mono fun _ _ ⟨h1, h2⟩ => ⟨h2, h1⟩
theorem isTree_no' (s : ByteArray) (w : World) (hs : s.size ≤ 9223372036854775806) (h : treeOf s = none) : Calls Try.prog 79 #[.string s] w (Gives (.bool false) w) := (implIsTree_no s w hs h).mono fun _ _ ⟨h1, h2⟩ => ⟨h2, h1⟩

set_option maxRecDepth 100000 in
set_option maxHeartbeats 2000000 in
theorem isPair_any (a b : ByteArray) (w : World) (ha : a.size ≤ 9223372036854775806) (hb : b.size ≤ 9223372036854775806) :
    Calls Try.prog 46 #[.agg #[.string a, .string b]] w (Gives (.bool (pairOf a b).isSome) w) := by
  cases h : treeOf a with
  | none =>
    have e : (pairOf a b).isSome = false := by unfold pairOf; rw [h]; rfl
    rw [e]
    have T := fun w => isTree_no' a w ha h
    clear h e
    go_enter Try.func46, Try.ntmps46
    go_wp2_with fail
    have hb0 : Below w.heap.size w (w.alloc (.cells #[.string a, .string b] 34 (0, 0))) := nxAlloc (Below.refl _ _) _
    have hc := two_cells (heap_alloc_at w (.cells #[.string a, .string b] 34 (0, 0)))
    have hs : w.heap.size < (w.alloc (.cells #[.string a, .string b] 34 (0, 0))).heap.size := by simp
    generalize w.alloc (.cells #[.string a, .string b] 34 (0, 0)) = w0 at *
    refine wp_region_cls (by kernel_rfl) (by kernel_rfl) ?_
    repeat (
      refine wpQuiet_step (fun K hK => ?_)
      go_simp
      first
        | (refine hK _ ?_; clear hK K)
        | (refine ⟨_, fun _ _ => rfl, hK _ ?_⟩; clear hK K)
        | (apply Exists.intro
           refine ⟨fun w' hw' => ?_, hK _ ?_⟩
           · first
               | (rw [hw'.cell hs hc.1]; exact ⟨rfl, rfl⟩)
               | (rw [hw'.cell hs hc.2]; exact ⟨rfl, rfl⟩)
               | (go_at_call 79; exact hw'.call (T _))
           clear hK K))
    refine wpQuiet_nil ?_
    intro w' hw'
    go_wp2_with fail
    go_ret
    exact ⟨rfl, nx hb0 hw'⟩
  | some t =>
    cases k : treeOf b with
    | none =>
      have e : (pairOf a b).isSome = false := by unfold pairOf; rw [h, k]; rfl
      rw [e]
      obtain ⟨rfl, hc⟩ := treeOf_some h
      have T := fun w => isTree_yes' t w hc
      have U := fun w => isTree_no' b w hb k
      clear h k e hc
      go_enter Try.func46, Try.ntmps46
      go_wp2_with fail
      have hb0 : Below w.heap.size w (w.alloc (.cells #[.string t.str, .string b] 34 (0, 0))) := nxAlloc (Below.refl _ _) _
      have hc := two_cells (heap_alloc_at w (.cells #[.string t.str, .string b] 34 (0, 0)))
      have hs : w.heap.size < (w.alloc (.cells #[.string t.str, .string b] 34 (0, 0))).heap.size := by simp
      generalize w.alloc (.cells #[.string t.str, .string b] 34 (0, 0)) = w0 at *
      refine wp_region_cls (by kernel_rfl) (by kernel_rfl) ?_
      repeat (
        refine wpQuiet_step (fun K hK => ?_)
        go_simp
        first
          | (refine hK _ ?_; clear hK K)
          | (refine ⟨_, fun _ _ => rfl, hK _ ?_⟩; clear hK K)
          | (apply Exists.intro
             refine ⟨fun w' hw' => ?_, hK _ ?_⟩
             · first
                 | (rw [hw'.cell hs hc.1]; exact ⟨rfl, rfl⟩)
                 | (rw [hw'.cell hs hc.2]; exact ⟨rfl, rfl⟩)
                 | (go_at_call 79; first | (with_reducible exact hw'.call (T _)) | (with_reducible exact hw'.call (U _)))
             clear hK K))
      refine wpQuiet_nil ?_
      intro w' hw'
      go_wp2_with fail
      go_ret
      exact ⟨rfl, nx hb0 hw'⟩
    | some u =>
      rw [pairOf_isSome a b t u h k]
      obtain ⟨rfl, hc⟩ := treeOf_some h
      obtain ⟨rfl, hd⟩ := treeOf_some k
      have T := fun w => isTree_yes' t w hc
      have U := fun w => isTree_yes' u w hd
      have C := fun w => countCarets_any t w (by omega)
      have D := fun w => countCarets_any u w (by omega)
      clear h k hc hd
      go_enter Try.func46, Try.ntmps46
      go_wp2_with fail
      have hb0 : Below w.heap.size w (w.alloc (.cells #[.string t.str, .string u.str] 34 (0, 0))) := nxAlloc (Below.refl _ _) _
      have hc := two_cells (heap_alloc_at w (.cells #[.string t.str, .string u.str] 34 (0, 0)))
      have hs : w.heap.size < (w.alloc (.cells #[.string t.str, .string u.str] 34 (0, 0))).heap.size := by simp
      generalize w.alloc (.cells #[.string t.str, .string u.str] 34 (0, 0)) = w0 at *
      refine wp_region_cls (by kernel_rfl) (by kernel_rfl) ?_
      repeat (
        refine wpQuiet_step (fun K hK => ?_)
        go_simp
        first
          | (refine hK _ ?_; clear hK K)
          | (refine ⟨_, fun _ _ => rfl, hK _ ?_⟩; clear hK K)
          | (apply Exists.intro
             refine ⟨fun w' hw' => ?_, hK _ ?_⟩
             · first
                 | (rw [hw'.cell hs hc.1]; exact ⟨rfl, rfl⟩)
                 | (rw [hw'.cell hs hc.2]; exact ⟨rfl, rfl⟩)
                 | (go_at_call 79; first | (with_reducible exact hw'.call (T _)) | (with_reducible exact hw'.call (U _)))
                 | (go_at_call 80; first | (with_reducible exact hw'.call (C _)) | (with_reducible exact hw'.call (D _)))
             clear hK K))
      refine wpQuiet_nil ?_
      intro w' hw'
      go_wp2_with fail
      go_ret
      exact ⟨rfl, nx hb0 hw'⟩
end Go.Proofs.Ytdhjchibhlcchaa

/-! Ft4 -/
namespace Go.Proofs.Ytdhjchibhlcchaa
open Go.RowKit

theorem less_steps {n d m e : Nat} (h : isFr n d = true) (k : isFr m e = true) : n * e < m * d ↔ stepsOf n d < stepsOf m e := by
  have h1 := steps_cross h
  have k1 := steps_cross k
  have hd : 0 < d := by have := isP2_bounds (isFr_iff.1 h).1; omega
  have he : 0 < e := by have := isP2_bounds (isFr_iff.1 k).1; omega
  obtain ⟨W, hW⟩ : ∃ W, W = 1048576 := ⟨_, rfl⟩
  have hW0 : 0 < W := by omega
  rw [← hW] at h1 k1
  generalize stepsOf n d = s at *
  generalize stepsOf m e = t at *
  have a1 : n * e * W = s * (d * e) := by
    calc n * e * W = (n * W) * e := by ac_rfl
      _ = s * (d * e) := by rw [h1]; ac_rfl
  have a2 : m * d * W = t * (d * e) := by
    calc m * d * W = (m * W) * d := by ac_rfl
      _ = t * (d * e) := by rw [k1]; ac_rfl
  rw [← Nat.mul_lt_mul_right hW0, a1, a2]
  exact Nat.mul_lt_mul_right (Nat.mul_pos hd he)
theorem frOf_pos (s : Nat) : 0 < (frOf s).2 := short_pos (by omega)
theorem frOf_cross (s : Nat) : (frOf s).1 * 1048576 = s * (frOf s).2 := by
  obtain ⟨W, hW⟩ : ∃ W, W = 1048576 := ⟨_, rfl⟩
  have := short_steps (W := W) (n := s) (d := W) (by omega) ⟨1, by omega⟩
  rw [Nat.div_self (by omega), Nat.mul_one] at this
  unfold frOf
  rw [← hW]
  exact this
theorem steps_frOf {s : Nat} (h : s ≤ 1048576) (h2 : s % 1024 = 0) : stepsOf (frOf s).1 (frOf s).2 = s := by
  have h1 := steps_cross (frOf_thousand h h2)
  have h3 := frOf_cross s
  rw [h3] at h1
  exact (Nat.eq_of_mul_eq_mul_right (frOf_pos s) h1).symm

set_option maxHeartbeats 2000000 in
theorem mpLess_any (n d m e : Nat) (w : World) (h : isFr n d = true) (k : isFr m e = true) :
    Calls Try.prog 102 #[.agg #[.int .i64 n, .int .i64 d], .agg #[.int .i64 m, .int .i64 e]] w (Gives (.bool (decide (stepsOf n d < stepsOf m e))) w) := by
  have hl := less_steps h k
  obtain ⟨a1, a2, a3, a4⟩ := isFr_iff.1 h
  obtain ⟨b1, b2, b3, b4⟩ := isFr_iff.1 k
  have c1 := isP2_bounds a1
  have c2 := isP2_bounds b1
  have p1 : n * e ≤ 1024 * 1024 := mul_bound (by omega) (by omega)
  have p2 : m * d ≤ 1024 * 1024 := mul_bound (by omega) (by omega)
  have i1 : (n : Int) * (e : Int) = ((n * e : Nat) : Int) := by simp
  have i2 : (m : Int) * (d : Int) = ((m * d : Nat) : Int) := by simp
  have j1 : 0 ≤ (n : Int) * (e : Int) ∧ (n : Int) * (e : Int) ≤ 1048576 := by omega
  have j2 : 0 ≤ (m : Int) * (d : Int) ∧ (m : Int) * (d : Int) ≤ 1048576 := by omega
  have hl' : (decide (stepsOf n d < stepsOf m e)) = decide ((n : Int) * (e : Int) < (m : Int) * (d : Int)) := by
    rw [i1, i2]
    exact decide_eq_decide.2 (hl.symm.trans (by omega))
  rw [hl']
  clear hl' hl p1 p2 i1 i2 c1 c2 a1 a2 a3 a4 b1 b2 b3 b4 h k
  obtain ⟨j1a, j1b⟩ := j1
  obtain ⟨j2a, j2b⟩ := j2
  generalize hu : (n : Int) * (e : Int) = u at *
  generalize hv : (m : Int) * (d : Int) = v at *
  generalize hr : decide (u < v) = r
  have HR := Lib.hid hr
  clear hr
  go_enter Try.func102, Try.ntmps102
  go_wp2_with fail
  have hb0 : Below w.heap.size w ((w.alloc (.cells #[.int .i64 n, .int .i64 d] 26 (0, 0))).alloc (.cells #[.int .i64 m, .int .i64 e] 26 (0, 0))) := nxAlloc (nxAlloc (Below.refl _ _) _) _
  have hx0 := heap_keep (nxAlloc (Below.refl _ _) (.cells #[.int .i64 m, .int .i64 e] 26 (0, 0))) (heap_alloc_at w (.cells #[.int .i64 n, .int .i64 d] 26 (0, 0)))
  have hx1 := heap_alloc_at (w.alloc (.cells #[.int .i64 n, .int .i64 d] 26 (0, 0))) (.cells #[.int .i64 m, .int .i64 e] 26 (0, 0))
  generalize ((w.alloc (.cells #[.int .i64 n, .int .i64 d] 26 (0, 0))).alloc (.cells #[.int .i64 m, .int .i64 e] 26 (0, 0))) = w0 at *
  have e1 : (w.alloc (.cells #[.int .i64 n, .int .i64 d] 26 (0, 0))).heap.size = w.heap.size + 1 := by simp
  rw [e1] at hx1
  clear e1
  obtain ⟨hx0a, hx0b, hx0c⟩ := two_facts hx0
  obtain ⟨hx0f, hx0g⟩ := two_frozen hx0
  obtain ⟨hx1a, hx1b, hx1c⟩ := two_facts hx1
  obtain ⟨hx1f, hx1g⟩ := two_frozen hx1
  go_ret
  refine ⟨ret_bool ?_, hb0⟩
  rw [← HR.out]

set_option maxRecDepth 100000 in
set_option maxHeartbeats 2000000 in
theorem mpLeaf_any (t : Tr) (n d : Nat) (w : World) (h : t.carets ≤ 8) (hf : isFr n d = true) :
    Calls Try.prog 75 #[.string t.str, .agg #[.int .i64 n, .int .i64 d]] w (Gives (.int .i64 (lastTo t.starts (stepsOf n d))) w) := by
  have hM := fun w => mpStarts_any t w h
  have hok := addrs_ok t h
  have hl := addrs_length t ⟨#[]⟩
  unfold Tr.starts
  generalize t.addrs ⟨#[]⟩ = ss at *
  obtain ⟨S, hS⟩ : ∃ S : List Nat, S = ss.map stA := ⟨_, rfl⟩
  rw [← hS]
  have hSl : S.length = ss.length := by rw [hS]; simp
  have hstep : ∀ k, k < ss.length → ∃ x y : Nat, (flatF (frs ss)).getD (k * 2) 0 = (x : Int) ∧ (flatF (frs ss)).getD (k * 2 + 1) 0 = (y : Int) ∧ isFr x y = true ∧ stepsOf x y = S.getD k 0 := by
    intro k hk
    have hk2 : k < (frs ss).length := by simpa [frs] using hk
    have ha := hok (ss.getD k ⟨#[]⟩) (by simp [hk])
    have hlt := stA_lt (a := ss.getD k ⟨#[]⟩) (by have := ha.1; omega) ha.2
    have hth := stA_thousand ha.1
    have e : (frs ss).getD k (0, 0) = frOf (stA (ss.getD k ⟨#[]⟩)) := by simp [frs, hk]
    have e2 : S.getD k 0 = stA (ss.getD k ⟨#[]⟩) := by rw [hS]; simp [hk]
    have g := flatF_get (frs ss) k hk2
    rw [e] at g
    exact ⟨_, _, g.1, g.2, frOf_thousand (by omega) hth, by rw [e2]; exact steps_frOf (by omega) hth⟩
  have hfl : (frs ss).length = ss.length := by simp [frs]
  generalize frs ss = fs at *
  have HS := Lib.hid hstep
  have hL := fun x y w (k : isFr ((x : Nat) : Int) ((y : Nat) : Int) = true) => mpLess_any n d x y w hf k
  generalize stepsOf n d = s at *
  have HF := Lib.hid hf
  clear hstep hok hS hf
  go_enter Try.func75, Try.ntmps75
  go_wp2_with fail
  have hb0 : Below w.heap.size w (w.alloc (.cells #[.int .i64 n, .int .i64 d] 26 (0, 0))) := nxAlloc (Below.refl _ _) _
  have hx0 := heap_alloc_at w (.cells #[.int .i64 n, .int .i64 d] 26 (0, 0))
  generalize (w.alloc (.cells #[.int .i64 n, .int .i64 d] 26 (0, 0))) = w0 at *
  obtain ⟨hx0a, hx0b, hx0c⟩ := two_facts hx0
  obtain ⟨hx0f, hx0g⟩ := two_frozen hx0
  refine (hM _).mono ?_; rintro e w1 ⟨v, own, hb1, rfl⟩
  have hbw1 := nx hb0 hb1
  have hx1 := heap_keep hb1 hx0
  rcases own.cells with ⟨_, h0⟩ | ⟨g, cap, rfl, hg0, hg, hc1, hc2, hcell, _⟩
  · omega
  · have HC := Lib.hid hcell
    unfold maxLen at hc2
    clear hcell own hx0 hx0a hx0b hx0c hx0f hx0g hM
    rw [hfl] at *
    obtain ⟨hx0a, hx0b, hx0c⟩ := two_facts hx1
    go_wp2_with fail
    go_loopw [5, 11] (fun v i wr => ∃ k : Nat, k ≤ ss.length ∧ i = .int .i64 k ∧ v = .int .i64 (lastTo (S.take k) s) ∧ Below w1.heap.size w1 wr) (fun _ i _ => ss.length - (intOf i).toNat)
    case atStart => exact ⟨0, Nat.zero_le _, rfl, rfl, Below.refl _ _⟩
    case round =>
      obtain ⟨k, hk, rfl, rfl, hbw⟩ := hrel
      by_cases hlt : k < ss.length
      · have hlt' : (k : Int) < (ss.length : Int) := by omega
        obtain ⟨x, y, g1, g2, hf2, hst⟩ := HS.out k hlt
        have c1 := (hbw.cell (p := ⟨g, k * 2, none⟩) hg).trans (HC.out (k * 2) (by omega))
        have c2 := (hbw.cell (p := ⟨g, k * 2 + 1, none⟩) hg).trans (HC.out (k * 2 + 1) (by omega))
        rw [g1] at c1
        rw [g2] at c2
        obtain ⟨ka, kb, kc⟩ := two_facts (heap_keep hbw hx1)
        have hLs := fun w => hL x y w hf2
        rw [hst] at hLs
        have hnext := lastTo_take (l := S) (k := k) (s := s) (by omega)
        clear g1 g2 hf2 hst
        by_cases hc : s < S.getD k 0
        · rw [decide_eq_true hc] at hLs
          rw [if_neg (by omega)] at hnext
          have HN := Lib.hid hnext
          clear hnext hc
          go_wp2_with fail
          refine (hLs _).mono ?_; rintro e w3 ⟨rfl, hb3⟩
          have hbw3 := nx (nxAlloc hbw _) hb3
          go_wp2_with fail
          go_roundw
          case rel => exact ⟨k + 1, by omega, by go_num, by rw [HN.out], hbw3⟩
          case measure => simp [intOf]; omega
        · rw [decide_eq_false hc] at hLs
          rw [if_pos (by omega)] at hnext
          have HN := Lib.hid hnext
          clear hnext hc
          go_wp2_with fail
          refine (hLs _).mono ?_; rintro e w3 ⟨rfl, hb3⟩
          have hbw3 := nx (nxAlloc hbw _) hb3
          go_wp2_with fail
          go_roundw
          case rel => exact ⟨k + 1, by omega, by go_num, by rw [HN.out], hbw3⟩
          case measure => simp [intOf]; omega
      · obtain rfl : k = ss.length := by omega
        rw [List.take_of_length_le (by omega)]
        go_wp2_with fail
        go_ret
        exact ⟨rfl, nx hbw1 hbw⟩

end Go.Proofs.Ytdhjchibhlcchaa

/-! WSlopesOf -/
namespace Go.Proofs.Ytdhjchibhlcchaa
open Go.RowKit

theorem slopesL_pcs : ∀ (l m : List ByteArray), (pcsL l m).map (fun x => x.2.2) = slopesL l m := by
  intro l
  induction l with
  | nil => intro m; cases m <;> rfl
  | cons a l ih => intro m; cases m with
    | nil => rfl
    | cons b m => simp [pcsL, slopesL, ih m]
theorem slopes_pcs (p : Pr) : (pcs p).map (fun x => x.2.2) = slopes p := slopesL_pcs _ _
def SlopesOf_o (a b : ByteArray) : Option (List Int) := (pairOf a b).bind fun p => some (slopes p)
theorem SlopesOf_len (a b : ByteArray) : ((SlopesOf_o a b).getD []).length ≤ 1000000000 := by
  unfold SlopesOf_o
  cases h : pairOf a b with
  | none => simp
  | some p =>
    obtain ⟨_, _, hok, hc1, hc2⟩ := pairOf_some h
    have l1 := addrs_length p.1 ⟨#[]⟩
    have l2 := addrs_length p.2 ⟨#[]⟩
    have hok' : p.1.carets = p.2.carets := hok
    have := slopesL_length (p.1.addrs ⟨#[]⟩) (p.2.addrs ⟨#[]⟩) (by omega)
    show (slopesL (p.1.addrs ⟨#[]⟩) (p.2.addrs ⟨#[]⟩)).length ≤ 1000000000
    omega

set_option maxRecDepth 100000 in
set_option maxHeartbeats 2000000 in
theorem mpSlopes_any (p : Pr) (w : World) (h1 : p.1.carets ≤ 8) (h2 : p.2.carets ≤ 8) (he : p.1.carets = p.2.carets) :
    Calls Try.prog 86 #[.agg #[.string p.1.str, .string p.2.str]] w (GivesInts (slopes p) w) := by
  obtain ⟨i0, hi, hz0, hz1, hz2⟩ := info_parts info_int
  have A1 := fun w => trAddresses_any p.1 ⟨#[]⟩ w (by omega) (by show 0 + p.1.carets ≤ 1000; omega)
  have A2 := fun w => trAddresses_any p.2 ⟨#[]⟩ w (by omega) (by show 0 + p.2.carets ≤ 1000; omega)
  have l1 := addrs_length p.1 ⟨#[]⟩
  have l2 := addrs_length p.2 ⟨#[]⟩
  have o1 := addrs_ok p.1 h1
  have o2 := addrs_ok p.2 h2
  unfold slopes
  generalize p.1.addrs ⟨#[]⟩ = xs at *
  generalize p.2.addrs ⟨#[]⟩ = ys at *
  obtain ⟨n, hn⟩ : ∃ n, n = xs.length := ⟨_, rfl⟩
  have hny : ys.length = n := by omega
  have hn9 : n ≤ 9 := by omega
  have hxy : xs.length = ys.length := by omega
  have pl := slopesL_length xs ys hxy
  have pg := slopesL_get xs ys hxy
  have hO : Hid (∀ k, k < n → okAd (xs.getD k ⟨#[]⟩) ∧ okAd (ys.getD k ⟨#[]⟩)) := by
    intro k hk
    have hk1 : k < xs.length := by omega
    have hk2 : k < ys.length := by omega
    exact ⟨o1 _ (by simp [hk1]), o2 _ (by simp [hk2])⟩
  have A1' : ∀ w, Calls Try.prog 76 #[.string p.1.str, .string ⟨#[]⟩] w fun e w' => ∃ g cap : Nat, OwnS w.heap.size w' (.slice (some ⟨g, 0, none⟩) n cap) xs ∧ Below w.heap.size w w' ∧ e = .returned (.slice (some ⟨g, 0, none⟩) n cap) := by
    intro w
    have := A1 w
    unfold GivesTexts at this
    rw [← hn] at this
    exact this
  have A2' : ∀ w, Calls Try.prog 76 #[.string p.2.str, .string ⟨#[]⟩] w fun e w' => ∃ g cap : Nat, OwnS w.heap.size w' (.slice (some ⟨g, 0, none⟩) n cap) ys ∧ Below w.heap.size w w' ∧ e = .returned (.slice (some ⟨g, 0, none⟩) n cap) := by
    intro w
    have := A2 w
    unfold GivesTexts at this
    rw [hny] at this
    exact this
  clear A1 A2
  rw [← hn] at pl pg
  have hX := hn.symm
  clear hn
  generalize slopesL xs ys = ps at *
  have PG := Lib.hid pg
  have PL := Lib.hid pl
  have HX := Lib.hid hX
  have HY := Lib.hid hny
  clear pg pl o1 o2 hxy l1 l2 hX hny
  go_enter Try.func86, Try.ntmps86
  go_wp2_with fail
  have hb0 : Below w.heap.size w (w.alloc (.cells #[.string p.1.str, .string p.2.str] 34 (0, 0))) := nxAlloc (Below.refl _ _) _
  have hx0 := heap_alloc_at w (.cells #[.string p.1.str, .string p.2.str] 34 (0, 0))
  generalize (w.alloc (.cells #[.string p.1.str, .string p.2.str] 34 (0, 0))) = w0 at *
  obtain ⟨hx0a, hx0b, hx0c⟩ := two_facts hx0
  obtain ⟨hx0f, hx0g⟩ := two_frozen hx0
  refine (A2' _).mono ?_; rintro e w1 ⟨g2, cap2, own2, hb1, rfl⟩
  have hbw1 := nx hb0 hb1
  replace hx0 := heap_keep hb1 hx0
  clear hx0a hx0b hx0c hx0f hx0g
  obtain ⟨hx0a, hx0b, hx0c⟩ := two_facts hx0
  obtain ⟨hx0f, hx0g⟩ := two_frozen hx0
  clear hb1 hb0
  go_wp2_with fail
  refine (A1' _).mono ?_; rintro e w2 ⟨g1, cap1, own1, hb2, rfl⟩
  have hbw2 := nx hbw1 hb2
  replace own2 := own2.keep hb2
  clear hb2 hbw1 hx0 hx0a hx0b hx0c hx0f hx0g A1' A2'
  go_wp2_with fail
  rcases own1.cells with ⟨h0, _⟩ | ⟨g1', cap1', hv1, _, hg1, hc1, hc2, hcell1, _⟩
  · simp at h0
  rcases own2.cells with ⟨h0, _⟩ | ⟨g2', cap2', hv2, _, hg2, hc3, hc4, hcell2, _⟩
  · simp at h0
  simp only [Value.slice.injEq, Option.some.injEq, Addr.mk.injEq, and_true] at hv1 hv2
  obtain ⟨rfl, e1, rfl⟩ := hv1
  obtain ⟨rfl, e2, rfl⟩ := hv2
  clear e1 e2
  have HC1 := Lib.hid hcell1
  have HC2 := Lib.hid hcell2
  unfold maxLen at hc2 hc4
  clear hcell1 hcell2 own1 own2
  go_loopw [3, 14] (fun v i wr => ∃ k : Nat, k ≤ n ∧ i = .int .i64 k ∧ OwnI w2.heap.size wr v (ps.take k) ∧ Below w2.heap.size w2 wr) (fun _ i _ => n - (intOf i).toNat)
  case atStart => exact ⟨0, Nat.zero_le _, rfl, OwnI.nil _ _, Below.refl _ _⟩
  case round =>
    obtain ⟨k, hk, rfl, hown, hbw⟩ := hrel
    by_cases hlt : k < n
    · have hlt' : (k : Int) < (n : Int) := by omega
      have hX := HX.out
      have hY := HY.out
      have c1 := (hbw.cell (p := ⟨g1, k, none⟩) hg1).trans (HC1.out k (by omega))
      have c2 := (hbw.cell (p := ⟨g2, k, none⟩) hg2).trans (HC2.out k (by omega))
      obtain ⟨ok1, ok2⟩ := hO.out k hlt
      have hpl := PL.out
      have hnext : ps.take (k + 1) = ps.take k ++ [ps.getD k 0] := by
        have : k < ps.length := by omega
        rw [List.take_succ_eq_append_getElem this]; simp [this]
      have hlen : (ps.take k).length = k := by simp; omega
      rw [PG.out k (by omega)] at hnext
      generalize ps.take k = qs at hown hlen hnext
      generalize xs.getD k ⟨#[]⟩ = a at *
      generalize ys.getD k ⟨#[]⟩ = b at *
      have sa := ok1.1
      have sb := ok2.1
      have hi3 : IntKind.i64.wrap ((a.size : Int) - (b.size : Int)) = (a.size : Int) - (b.size : Int) := by rw [IntKind.wrap_i64] <;> omega
      have HN := Lib.hid hnext
      have hq9 : qs.length ≤ 9 := by omega
      clear hnext hX hY ok1 ok2 hpl hlen
      go_wp2_with (at_builtin; refine wpList_append_own _ rfl _ _ 44 rfl w2.heap.size 3 i0 (.int .i64 0) 1 8 Try.underlying44 hi hz0 hz1 hz2 rfl (by decide) _ _ _ rfl (hown.alloc _) ⟨wr.heap.size, 0, none⟩ 1 1 [.int .i64 ((a.size : Int) - (b.size : Int))] rfl rfl (new1 _ _ _) (one1 _) (by unfold maxLen; omega) (by omega) (size_al hbw _) ?_; intro v' w3 hown' hgrow hnn)
      have hbw' := below_app hbw hown (Nat.le_refl _) hgrow
      have hown1 := OwnI.snoc hown'
      clear hown hown' hgrow hbw hnn
      go_wp2_with fail
      go_roundw
      case rel => exact ⟨k + 1, by omega, by go_num, by rw [HN.out]; exact hown1, hbw'⟩
      case measure => simp [intOf]; omega
    · obtain rfl : k = n := by omega
      have hpl := PL.out
      rw [List.take_of_length_le (by omega)] at hown
      go_wp2_with fail
      go_ret
      exact ⟨_, hown.mono hbw2.size, nx hbw2 hbw, rfl⟩

theorem newsAt (w : World) (n : Nat) (v : Value) (e : TypeId) (h : n = w.heap.size) : ∀ (j : Nat) (u : Value), [v][j]? = some u → (w.alloc (.cells #[v] e)).cell? ((⟨n, 0, none⟩ : Addr).add j) = some u := by
  subst h; exact new1 w v e
end Go.Proofs.Ytdhjchibhlcchaa

/-! Br1 -/
namespace Go.Proofs.Ytdhjchibhlcchaa
open Go.RowKit

/-- The places where a list changes. -/
def brkI (sl : List Int) (n : Nat) : List Nat := (List.range n).filter fun k => decide (0 < k) && decide (sl.getD k 0 ≠ sl.getD (k - 1) 0)
theorem brkI_one (sl : List Int) : brkI sl 1 = [] := by simp [brkI, List.range_succ]
theorem brkI_succ (sl : List Int) (j : Nat) : brkI sl (j + 1 + 1) = brkI sl (j + 1) ++ (if sl.getD (j + 1) 0 = sl.getD j 0 then [] else [j + 1]) := by
  unfold brkI
  rw [List.range_succ, List.filter_append]
  congr 1
  by_cases h : sl.getD (j + 1) 0 = sl.getD j 0
  · rw [if_pos h, List.filter_cons_of_neg (by simp only [Nat.add_sub_cancel]; rw [h]; simp)]; rfl
  · rw [if_neg h, List.filter_cons_of_pos (by simp only [Nat.add_sub_cancel]; simp only [Bool.and_eq_true, decide_eq_true_eq]; exact ⟨by omega, h⟩)]; rfl
theorem brkI_lt (sl : List Int) (n : Nat) : ∀ k ∈ brkI sl n, k < n := by
  intro k hk
  unfold brkI at hk
  rw [List.mem_filter, List.mem_range] at hk
  exact hk.1
theorem brkI_len (sl : List Int) (n : Nat) : (brkI sl n).length ≤ n := by
  have := List.length_filter_le (fun k => decide (0 < k) && decide (sl.getD k 0 ≠ sl.getD (k - 1) 0)) (List.range n)
  rw [List.length_range] at this
  exact this
def toI (l : List Nat) : List Int := l.map fun (k : Nat) => (k : Int)

set_option maxRecDepth 100000 in
set_option maxHeartbeats 4000000 in
theorem mpBreaks_any (p : Pr) (w : World) (h1 : p.1.carets ≤ 8) (h2 : p.2.carets ≤ 8) (he : p.1.carets = p.2.carets) :
    Calls Try.prog 52 #[.agg #[.string p.1.str, .string p.2.str]] w (GivesInts (toI (brkI (slopes p) (slopes p).length)) w) := by
  obtain ⟨i0, hi, hz0, hz1, hz2⟩ := info_parts info_int
  have hM := fun w => mpSlopes_any p w h1 h2 he
  have l1 := addrs_length p.1 ⟨#[]⟩
  have l2 := addrs_length p.2 ⟨#[]⟩
  have pl : (slopes p).length = p.1.carets + 1 := by
    have := slopesL_length (p.1.addrs ⟨#[]⟩) (p.2.addrs ⟨#[]⟩) (by omega)
    show (slopesL (p.1.addrs ⟨#[]⟩) (p.2.addrs ⟨#[]⟩)).length = _
    omega
  generalize slopes p = ps at *
  obtain ⟨m, hm⟩ : ∃ m, ps.length = m := ⟨_, rfl⟩
  have hm9 : m ≤ 9 := by omega
  have hm0 : 0 < m := by omega
  rw [hm]
  clear l1 l2 pl
  go_enter Try.func52, Try.ntmps52
  go_wp2_with fail
  have hb0 : Below w.heap.size w (w.alloc (.cells #[.string p.1.str, .string p.2.str] 34 (0, 0))) := nxAlloc (Below.refl _ _) _
  have hx0 := heap_alloc_at w (.cells #[.string p.1.str, .string p.2.str] 34 (0, 0))
  generalize (w.alloc (.cells #[.string p.1.str, .string p.2.str] 34 (0, 0))) = w0 at *
  obtain ⟨hx0a, hx0b, hx0c⟩ := two_facts hx0
  obtain ⟨hx0f, hx0g⟩ := two_frozen hx0
  refine (hM _).mono ?_; rintro e w2 ⟨v, own, hb2, rfl⟩
  have hbw2 := nx hb0 hb2
  clear hx0 hx0a hx0b hx0c hx0f hx0g hM hb2 hb0
  rcases own.cells with ⟨_, h0⟩ | ⟨g, cap, rfl, _, hg1, hc3, hc4, hcell, _⟩
  · rw [h0] at hm; simp at hm; omega
  · unfold maxLen at hc4
    rw [hm] at hc3 hcell ⊢
    have HC := Lib.hid hcell
    clear hcell own hm
    go_wp2_with fail
    go_loopw [3, 5] (fun v i wr => ∃ j : Nat, j + 1 ≤ m ∧ i = .int .i64 (j + 1 : Nat) ∧ OwnI w2.heap.size wr v (toI (brkI ps (j + 1))) ∧ Below w2.heap.size w2 wr) (fun _ i _ => m - (intOf i).toNat)
    case atStart => exact ⟨0, by omega, rfl, by rw [brkI_one]; exact OwnI.nil _ _, Below.refl _ _⟩
    case round =>
      obtain ⟨j, hj, rfl, hown, hbw⟩ := hrel
      by_cases hlt : j + 1 < m
      · have hlt' : (j : Int) + 1 < (m : Int) := by omega
        have hlt2 : (j : Int) < (m : Int) := by omega
        have c1 := (hbw.cell (p := ⟨g, j + 1, none⟩) hg1).trans (HC.out (j + 1) (by omega))
        have c2 := (hbw.cell (p := ⟨g, j, none⟩) hg1).trans (HC.out j (by omega))
        have hnext := brkI_succ ps j
        have hlen := brkI_len ps (j + 1)
        generalize ps.getD (j + 1) 0 = x at *
        generalize ps.getD j 0 = y at *
        by_cases hxy : x = y
        · have hxy' : (x != y) = false := by simp [hxy]
          rw [if_pos hxy, List.append_nil] at hnext
          have HN := Lib.hid hnext
          clear hnext hxy hlen
          go_wp2_with fail
          go_quiet (fail)
          go_wp2_with fail
          go_roundw
          case rel => exact ⟨j + 1, by omega, by go_num, by rw [HN.out]; exact hown.keep (drewB (Below.refl _ _) _), drewB hbw _⟩
          case measure => simp [intOf]; omega
        · have hxy' : (x != y) = true := by simp [hxy]
          rw [if_neg hxy] at hnext
          obtain ⟨qs, hqs⟩ : ∃ qs, qs = toI (brkI ps (j + 1)) := ⟨_, rfl⟩
          have hnext2 : toI (brkI ps (j + 1 + 1)) = qs ++ [((j + 1 : Nat) : Int)] := by rw [hnext, hqs]; simp [toI]
          have hq9 : qs.length ≤ 9 := by rw [hqs]; simp [toI]; omega
          rw [← hqs] at hown
          have HN := Lib.hid hnext2
          clear hnext hxy hlen hqs hnext2
          go_wp2_with fail
          go_quiet (fail)
          have hownd := hown.keep (drewB (Below.refl wr.heap.size wr) nq)
          have hbwd := drewB hbw nq
          have hszd := hbwd.size
          generalize wr.drewN nq = wd at *
          clear hown hbw
          go_wp2_with (at_builtin; refine wpList_append_own _ rfl _ _ 44 rfl w2.heap.size 3 i0 (.int .i64 0) 1 8 Try.underlying44 hi hz0 hz1 hz2 rfl (by decide) _ _ _ rfl (hownd.alloc _) ⟨wd.heap.size, 0, none⟩ 1 1 [.int .i64 ((j + 1 : Nat) : Int)] rfl rfl (new1 _ _ _) (one1 _) (by unfold maxLen; omega) (by omega) (size_al hbwd _) ?_; intro v' w3 hown' hgrow hnn)
          have hbw' := below_app hbwd hownd (Nat.le_refl _) hgrow
          have hown1 := OwnI.snoc hown'
          clear hownd hown' hgrow hbwd hnn
          go_wp2_with fail
          go_roundw
          case rel => exact ⟨j + 1, by omega, by go_num, by rw [HN.out]; exact hown1, hbw'⟩
          case measure => simp [intOf]; omega
      · obtain rfl : m = j + 1 := by omega
        go_wp2_with fail
        go_ret
        exact ⟨_, hown.mono hbw2.size, nx hbw2 hbw, rfl⟩

set_option maxRecDepth 100000 in
set_option maxHeartbeats 4000000 in
theorem mpAt_any (t : Tr) (b0 : Nat) (v : Value) (L : List Nat) (w : World) (h : t.carets ≤ 8) (hc : CellsI b0 w v (toI L)) (hL : ∀ k ∈ L, k < t.carets + 1) (hn9 : L.length ≤ 9) :
    Calls Try.prog 51 #[.string t.str, v] w (GivesF (L.map fun k => (frs (t.addrs ⟨#[]⟩)).getD k (0, 0)) w) := by
  obtain ⟨i0, hi, hz0, hz1, hz2⟩ := info_parts info_frac
  have hM := fun w => mpStarts_any t w h
  have hl := addrs_length t ⟨#[]⟩
  have hfl : (frs (t.addrs ⟨#[]⟩)).length = t.carets + 1 := by simp [frs, hl]
  generalize frs (t.addrs ⟨#[]⟩) = fs at *
  obtain ⟨m, hm⟩ : ∃ m, t.carets + 1 = m := ⟨_, rfl⟩
  have hm0 : 0 < m := by omega
  have hm9 : m ≤ 9 := by omega
  rw [hm] at hL hfl
  have HL := Lib.hid hL
  clear hl hm hL
  have hcl : ∀ w', Below w.heap.size w w' → CellsI b0 w' v (toI L) := by
    intro w' hb
    rcases hc with ⟨h1, h2⟩ | ⟨g, cap, h1, h2, h3, h4, h5, h6, h7⟩
    · exact .inl ⟨h1, h2⟩
    · exact .inr ⟨g, cap, h1, h2, Nat.lt_of_lt_of_le h3 hb.size, h4, h5, fun i hi => (hb.cell (p := ⟨g, i, none⟩) h3).trans (h6 i hi), fun i => (hb.frozen (p := ⟨g, i, none⟩) h3).trans (h7 i)⟩
  have HCL := Lib.hid hcl
  clear hcl
  have hlI : (toI L).length = L.length := by simp [toI]
  rcases hc with ⟨rfl, h2⟩ | ⟨gl, capl, rfl, hb1, hgl, hcl1, hcl2, hxl, _⟩
  · have h0 : L = [] := by cases L with
      | nil => rfl
      | cons a l => simp [toI] at h2
    subst h0
    clear h2 hlI HCL
    go_enter Try.func51, Try.ntmps51
    go_wp2_with fail
    refine (hM _).mono ?_; rintro e w2 ⟨vs, own, hb2, rfl⟩
    clear own
    go_wp2_with fail
    go_loopw [5, 13] (fun v i wr => v = .slice none 0 0 ∧ i = .int .i64 0 ∧ wr = w2) (fun _ _ _ => 0)
    case atStart => exact ⟨rfl, rfl, rfl⟩
    case round =>
      obtain ⟨rfl, rfl, rfl⟩ := hrel
      go_wp2_with fail
      go_ret
      exact ⟨_, OwnW.nil _ _ _ _, hb2, rfl⟩
  · have HXL := Lib.hid hxl
    unfold maxLen at hcl2
    rw [hlI] at hcl1 HXL ⊢
    clear hxl HCL hlI
    go_enter Try.func51, Try.ntmps51
    go_wp2_with fail
    refine (hM _).mono ?_; rintro e w2 ⟨vs, own, hb2, rfl⟩
    rcases own.cells with ⟨_, h0⟩ | ⟨g, cap, rfl, _, hg1, hc3, hc4, hcell, _⟩
    · rw [h0] at hfl; omega
    · unfold maxLen at hc4
      rw [hfl] at hc3 hcell ⊢
      have HC := Lib.hid hcell
      have hgl2 := Nat.lt_of_lt_of_le hgl hb2.size
      clear hcell own hM
      go_wp2_with fail
      go_loopw [5, 13] (fun v i wr => ∃ j : Nat, j ≤ L.length ∧ i = .int .i64 j ∧ OwnF w2.heap.size wr v ((L.take j).map fun k => fs.getD k (0, 0)) ∧ Below w2.heap.size w2 wr) (fun _ i _ => L.length - (intOf i).toNat)
      case atStart => exact ⟨0, Nat.zero_le _, rfl, OwnW.nil _ _ _ _, Below.refl _ _⟩
      case round =>
        obtain ⟨j, hj, rfl, hown, hbw⟩ := hrel
        by_cases hlt : j < L.length
        · have hlt' : (j : Int) < (L.length : Int) := by omega
          have e1 : (toI L).getD j 0 = ((L.getD j 0 : Nat) : Int) := by simp [toI, hlt]
          have c1 := (hbw.cell (p := ⟨gl, j, none⟩) hgl2).trans ((hb2.cell (p := ⟨gl, j, none⟩) hgl).trans (HXL.out j hlt))
          rw [e1] at c1
          have hkm := HL.out (L.getD j 0) (by rw [List.getD_eq_getElem?_getD, List.getElem?_eq_getElem hlt]; exact List.getElem_mem hlt)
          have hnext : (L.take (j + 1)).map (fun k => fs.getD k (0, 0)) = (L.take j).map (fun k => fs.getD k (0, 0)) ++ [((fs.getD (L.getD j 0) (0, 0)).1, (fs.getD (L.getD j 0) (0, 0)).2)] := by
            rw [List.take_succ_eq_append_getElem hlt, List.map_append]; simp [hlt]
          have hlen : ((L.take j).map (fun k => fs.getD k (0, 0))).length = j := by simp; omega
          generalize (L.take j).map (fun k => fs.getD k (0, 0)) = qs at hown hlen hnext
          generalize L.getD j 0 = k at *
          have fg := flatF_get fs k (by omega)
          have c2 := (hbw.cell (p := ⟨g, k * 2, none⟩) hg1).trans (HC.out (k * 2) (by omega))
          have c3 := (hbw.cell (p := ⟨g, k * 2 + 1, none⟩) hg1).trans (HC.out (k * 2 + 1) (by omega))
          rw [fg.1] at c2
          rw [fg.2] at c3
          generalize (fs.getD k (0, 0)).1 = x at *
          generalize (fs.getD k (0, 0)).2 = y at *
          have hkm' : (k : Int) < (m : Int) := by omega
          have HN := Lib.hid hnext
          have hq9 : qs.length ≤ 9 := by omega
          have hs3 := hbw.size
          clear hnext hlen fg e1 hfl
          go_wp2_with (at_builtin; refine wpList_append_own _ rfl _ _ 38 rfl w2.heap.size 26 i0 (.agg #[.int .i64 0, .int .i64 0]) 2 16 Try.underlying38 hi hz0 hz1 hz2 rfl (by decide) _ _ _ rfl (hown.alloc _) ⟨wr.heap.size, 0, none⟩ 1 1 [.int .i64 x, .int .i64 y] rfl rfl (newsK _ #[.int .i64 x, .int .i64 y] _) (two1 _ _) (by unfold maxLen; omega) (by omega) (by simp; omega) ?_; intro v' w9 hown' hgrow hnn)
          have hbw9 := (nxAlloc hbw _).grown hgrow (by simp; omega) (fun k hk => ownsRow_ge hown k hk)
          have hown1 := OwnF.snoc hown'
          clear hown hown' hgrow hbw hnn
          go_wp2_with fail
          go_roundw
          case rel => exact ⟨j + 1, by omega, by go_num, by rw [HN.out]; exact hown1, hbw9⟩
          case measure => simp [intOf]; omega
        · obtain rfl : j = L.length := by omega
          rw [List.take_of_length_le (Nat.le_refl _)] at hown
          go_wp2_with fail
          go_ret
          exact ⟨_, hown.mono hb2.size, nx hb2 hbw, rfl⟩
end Go.Proofs.Ytdhjchibhlcchaa

/-! Sl2 -/
namespace Go.Proofs.Ytdhjchibhlcchaa
open Go.RowKit

theorem start_any (x y z : Int) (w : World) : Calls Try.prog 55 #[.agg #[.int .i64 x, .int .i64 y, .int .i64 z]] w (Gives (.int .i64 x) w) := by
  go_enter Try.func55, Try.ntmps55
  go_wp2_with fail
  go_ret
  exact ⟨rfl, nxAlloc (Below.refl _ _) _⟩
set_option maxRecDepth 100000 in
set_option maxHeartbeats 2000000 in
theorem lastUpToP_any (g cap : Nat) (ps : List (Nat × Nat × Int)) (n s : Nat) (w : World) (hn : ps.length = n) (hn9 : n ≤ 1000) (hg : g < w.heap.size) (hc1 : n ≤ cap) (_hc2 : cap ≤ maxLen)
    (hcell : ∀ i, i < n * 3 → w.cell? ⟨g, i, none⟩ = some (.int .i64 ((flatP ps).getD i 0))) :
    Calls Try.prog 81 #[.slice (some ⟨g, 0, none⟩) n cap, .int .i64 s, .func (Fn.func 55) #[] #[]] w (Gives (.int .i64 (lastTo (ps.map fun x => x.1) s)) w) := by
  have hcall : ∀ (args : Array Value) (w : World), (callFunc 55 args).run Try.prog w = .ok (.enter 55 args) w := fun _ _ => by kernel_rfl
  obtain ⟨S, hS⟩ : ∃ S : List Nat, S = ps.map fun x => x.1 := ⟨_, rfl⟩
  rw [← hS]
  have hSl : S.length = n := by rw [hS]; simp [hn]
  have hst : ∀ k, k < n → S.getD k 0 = (ps.getD k (0, 0, 0)).1 := by intro k hk; have : k < ps.length := by omega
                                                                     rw [hS]; simp [this]
  have HT := Lib.hid hst
  have HNN := Lib.hid hn
  have HC := Lib.hid hcell
  unfold maxLen at _hc2
  clear hst hS hn hcell
  go_enter Try.func81, Try.ntmps81
  go_wp2_with fail
  go_loopw [7, 11] (fun v i wr => ∃ k : Nat, k ≤ n ∧ i = .int .i64 k ∧ v = .int .i64 (lastTo (S.take k) s) ∧ Below w.heap.size w wr) (fun _ i _ => n - (intOf i).toNat)
  case atStart => exact ⟨0, Nat.zero_le _, rfl, rfl, Below.refl _ _⟩
  case round =>
    obtain ⟨k, hk, rfl, rfl, hbw⟩ := hrel
    by_cases hlt : k < n
    · have hlt' : (k : Int) < (n : Int) := by omega
      have hN := HNN.out
      have fg := flatP_get ps k (by omega)
      have c1 := (hbw.cell (p := ⟨g, k * 3, none⟩) hg).trans (HC.out (k * 3) (by omega))
      have c2 := (hbw.cell (p := ⟨g, k * 3 + 1, none⟩) hg).trans (HC.out (k * 3 + 1) (by omega))
      have c3 := (hbw.cell (p := ⟨g, k * 3 + 2, none⟩) hg).trans (HC.out (k * 3 + 2) (by omega))
      rw [fg.1] at c1
      rw [fg.2.1] at c2
      rw [fg.2.2] at c3
      have hnext := lastTo_take (l := S) (k := k) (s := s) (by omega)
      rw [HT.out k hlt] at hnext
      generalize (ps.getD k (0, 0, 0)).2.2 = z at *
      generalize (ps.getD k (0, 0, 0)).2.1 = y at *
      generalize (ps.getD k (0, 0, 0)).1 = x at *
      have hS := fun w => start_any (x : Int) (y : Int) z w
      clear fg hN
      by_cases hle : x ≤ s
      · rw [if_pos hle] at hnext
        have HN := Lib.hid hnext
        have hle' : (x : Int) ≤ (s : Int) := by omega
        clear hnext hle
        go_wp2_with fail
        refine (hS _).mono ?_; rintro e w3 ⟨rfl, hb3⟩
        have hbw3 := nx hbw hb3
        go_wp2_with fail
        go_roundw
        case rel => exact ⟨k + 1, by omega, by go_num, by rw [HN.out], hbw3⟩
        case measure => simp [intOf]; omega
      · rw [if_neg hle] at hnext
        have HN := Lib.hid hnext
        have hle' : ¬ (x : Int) ≤ (s : Int) := by omega
        clear hnext hle
        go_wp2_with fail
        refine (hS _).mono ?_; rintro e w3 ⟨rfl, hb3⟩
        have hbw3 := nx hbw hb3
        go_wp2_with fail
        go_roundw
        case rel => exact ⟨k + 1, by omega, by go_num, by rw [HN.out], hbw3⟩
        case measure => simp [intOf]; omega
    · obtain rfl : k = n := by omega
      rw [List.take_of_length_le (by omega)]
      go_wp2_with fail
      go_ret
      exact ⟨rfl, hbw⟩

theorem three_cells {w : World} {g : Nat} {a b c : Value} {t : TypeId} (h : w.heap[g]? = some (.cells #[a, b, c] t (0, 0))) : w.cell? ⟨g, 0, none⟩ = some a ∧ w.cell? ⟨g, 1, none⟩ = some b ∧ w.cell? ⟨g, 2, none⟩ = some c := by
  simp [World.cell?, h]
theorem three_frozen {w : World} {g : Nat} {a b c : Value} {t : TypeId} (h : w.heap[g]? = some (.cells #[a, b, c] t (0, 0))) : w.frozen? ⟨g, 0, none⟩ = false ∧ w.frozen? ⟨g, 1, none⟩ = false ∧ w.frozen? ⟨g, 2, none⟩ = false := by
  simp [World.frozen?, h]
theorem set_three {w : World} {g : Nat} {a b c : Value} (a' b' c' : Value) {t : TypeId} (h : w.heap[g]? = some (.cells #[a, b, c] t (0, 0))) : (((w.setCell ⟨g, 0, none⟩ a').setCell ⟨g, 1, none⟩ b').setCell ⟨g, 2, none⟩ c').heap[g]? = some (.cells #[a', b', c'] t (0, 0)) :=
  Joins.block_setCell (Joins.block_setCell (Joins.block_setCell h a') b') c'

set_option maxRecDepth 100000 in
set_option maxHeartbeats 2000000 in
theorem pieceAt_any (g cap : Nat) (ps : List (Nat × Nat × Int)) (n s : Nat) (w : World) (hn : ps.length = n) (hn0 : 0 < n) (hn9 : n ≤ 1000) (hg : g < w.heap.size) (hc1 : n ≤ cap) (hc2 : cap ≤ maxLen)
    (hcell : ∀ i, i < n * 3 → w.cell? ⟨g, i, none⟩ = some (.int .i64 ((flatP ps).getD i 0))) :
    Calls Try.prog 48 #[.slice (some ⟨g, 0, none⟩) n cap, .int .i64 s] w (Gives (.agg #[.int .i64 (ps.getD (lastTo (ps.map fun x => x.1) s) (0, 0, 0)).1, .int .i64 (ps.getD (lastTo (ps.map fun x => x.1) s) (0, 0, 0)).2.1, .int .i64 (ps.getD (lastTo (ps.map fun x => x.1) s) (0, 0, 0)).2.2]) w) := by
  obtain ⟨o, ho⟩ : ∃ o : Obj, o = .cells #[.int .i64 0, .int .i64 0, .int .i64 0] 63 (0, 0) := ⟨_, rfl⟩
  have hb0 : Below w.heap.size w (w.alloc o) := nxAlloc (Below.refl _ _) _
  have hcell' : ∀ i, i < n * 3 → (w.alloc o).cell? ⟨g, i, none⟩ = some (.int .i64 ((flatP ps).getD i 0)) := fun i hi => (hb0.cell (p := ⟨g, i, none⟩) hg).trans (hcell i hi)
  have hg' : g < (w.alloc o).heap.size := Nat.lt_of_lt_of_le hg hb0.size
  have hU := lastUpToP_any g cap ps n s (w.alloc o) hn hn9 hg' hc1 hc2 hcell'
  have hlt := lastTo_lt (ps.map fun x => x.1) s (by simp; omega)
  rw [List.length_map, hn] at hlt
  generalize lastTo (ps.map fun x => x.1) s = r at *
  have fg := flatP_get ps r (by omega)
  have d1 := hcell' (r * 3) (by omega)
  have d2 := hcell' (r * 3 + 1) (by omega)
  have d3 := hcell' (r * 3 + 2) (by omega)
  rw [fg.1] at d1
  rw [fg.2.1] at d2
  rw [fg.2.2] at d3
  generalize (ps.getD r (0, 0, 0)).2.2 = z at *
  generalize (ps.getD r (0, 0, 0)).2.1 = y at *
  generalize (ps.getD r (0, 0, 0)).1 = x at *
  have hx0 := heap_alloc_at w o
  rw [ho] at hU d1 d2 d3 hg' hx0 hb0
  have hlt' : (r : Int) < (n : Int) := by omega
  unfold maxLen at hc2
  clear hcell hcell' fg hn ho
  go_enter Try.func48, Try.ntmps48
  go_wp2_with fail
  refine hU.mono ?_; rintro e w1 ⟨rfl, hb1⟩
  have c1 := (hb1.cell (p := ⟨g, r * 3, none⟩) hg').trans d1
  have c2 := (hb1.cell (p := ⟨g, r * 3 + 1, none⟩) hg').trans d2
  have c3 := (hb1.cell (p := ⟨g, r * 3 + 2, none⟩) hg').trans d3
  have hx1 := heap_keep hb1 hx0
  have hbw1 := nx hb0 hb1
  obtain ⟨ka, kb, kc⟩ := three_cells hx1
  obtain ⟨kf, kg, kh⟩ := three_frozen hx1
  clear d1 d2 d3 hx0 hb0 hb1 hU
  go_wp2_with fail
  obtain ⟨q1, q2, q3⟩ := three_cells (set_three (.int .i64 x) (.int .i64 y) (.int .i64 z) hx1)
  refine bodyPost_ret (v := .agg #[.int .i64 x, .int .i64 y, .int .i64 z]) (by simp [q1, q2, q3, results, Try.results48, go_sem]) rfl ⟨rfl, ?_⟩
  exact ((hbw1.setCell (by show w.heap.size ≤ w.heap.size; omega) _).setCell (by show w.heap.size ≤ w.heap.size; omega) _).setCell (by show w.heap.size ≤ w.heap.size; omega) _
end Go.Proofs.Ytdhjchibhlcchaa

/-! Br2 -/
namespace Go.Proofs.Ytdhjchibhlcchaa
open Go.RowKit

/-- The pieces that begin at a break. -/
def brkP (ps : List (Nat × Nat × Int)) : List (Nat × Nat × Int) := (brkI (ps.map fun x => x.2.2) ps.length).map fun k => ps.getD k (0, 0, 0)

set_option maxRecDepth 100000 in
set_option maxHeartbeats 4000000 in
theorem breaking_any (g cap : Nat) (ps : List (Nat × Nat × Int)) (n : Nat) (w : World) (hn : ps.length = n) (hn0 : 0 < n) (hn9 : n ≤ 9) (hg : g < w.heap.size) (hc1 : n ≤ cap) (_hc2 : cap ≤ maxLen)
    (hcell : ∀ i, i < n * 3 → w.cell? ⟨g, i, none⟩ = some (.int .i64 ((flatP ps).getD i 0))) :
    Calls Try.prog 87 #[.slice (some ⟨g, 0, none⟩) n cap] w (GivesP (brkP ps) w) := by
  obtain ⟨i0, hi, hz0, hz1, hz2⟩ := info_parts info_piece
  unfold brkP
  obtain ⟨S, hS⟩ : ∃ S : List Int, S = ps.map fun x => x.2.2 := ⟨_, rfl⟩
  rw [← hS, hn]
  have hst : ∀ k, k < n → S.getD k 0 = (ps.getD k (0, 0, 0)).2.2 := by intro k hk; have : k < ps.length := by omega
                                                                       rw [hS]; simp [this]
  have HT := Lib.hid hst
  have HNN := Lib.hid hn
  have HC := Lib.hid hcell
  unfold maxLen at _hc2
  clear hst hS hn hcell
  go_enter Try.func87, Try.ntmps87
  go_wp2_with fail
  go_loopw [3, 4] (fun v i wr => ∃ j : Nat, j + 1 ≤ n ∧ i = .int .i64 (j + 1 : Nat) ∧ OwnP w.heap.size wr v ((brkI S (j + 1)).map fun k => ps.getD k (0, 0, 0)) ∧ Below w.heap.size w wr) (fun _ i _ => n - (intOf i).toNat)
  case atStart => exact ⟨0, by omega, rfl, by rw [brkI_one]; exact OwnW.nil _ _ _ _, Below.refl _ _⟩
  case round =>
    obtain ⟨j, hj, rfl, hown, hbw⟩ := hrel
    by_cases hlt : j + 1 < n
    · have hlt' : (j : Int) + 1 < (n : Int) := by omega
      have hlt2 : (j : Int) < (n : Int) := by omega
      have hN := HNN.out
      have fg := flatP_get ps (j + 1) (by omega)
      have fh := (flatP_get ps j (by omega)).2.2
      have fi := (flatP_get ps j (by omega)).2.1
      have fj := (flatP_get ps j (by omega)).1
      have c1 := (hbw.cell (p := ⟨g, (j + 1) * 3, none⟩) hg).trans (HC.out ((j + 1) * 3) (by omega))
      have c2 := (hbw.cell (p := ⟨g, (j + 1) * 3 + 1, none⟩) hg).trans (HC.out ((j + 1) * 3 + 1) (by omega))
      have c3 := (hbw.cell (p := ⟨g, (j + 1) * 3 + 2, none⟩) hg).trans (HC.out ((j + 1) * 3 + 2) (by omega))
      have c4 := (hbw.cell (p := ⟨g, j * 3 + 2, none⟩) hg).trans (HC.out (j * 3 + 2) (by omega))
      have c5 := (hbw.cell (p := ⟨g, j * 3 + 1, none⟩) hg).trans (HC.out (j * 3 + 1) (by omega))
      have c6 := (hbw.cell (p := ⟨g, j * 3, none⟩) hg).trans (HC.out (j * 3) (by omega))
      rw [fg.1] at c1
      rw [fg.2.1] at c2
      rw [fg.2.2] at c3
      rw [fh] at c4
      rw [fi] at c5
      rw [fj] at c6
      have hnext := brkI_succ S j
      rw [HT.out (j + 1) hlt, HT.out j (by omega)] at hnext
      have hlen := brkI_len S (j + 1)
      obtain ⟨qs, hqs⟩ : ∃ qs, qs = (brkI S (j + 1)).map fun k => ps.getD k (0, 0, 0) := ⟨_, rfl⟩
      have hq9 : qs.length ≤ 9 := by rw [hqs, List.length_map]; omega
      rw [← hqs] at hown
      by_cases hxy : (ps.getD (j + 1) (0, 0, 0)).2.2 = (ps.getD j (0, 0, 0)).2.2
      · rw [if_pos hxy, List.append_nil] at hnext
        rw [← hnext] at hqs
        generalize (ps.getD (j + 1) (0, 0, 0)).2.2 = z at *
        generalize (ps.getD (j + 1) (0, 0, 0)).2.1 = y at *
        generalize (ps.getD (j + 1) (0, 0, 0)).1 = x at *
        generalize (ps.getD j (0, 0, 0)).2.2 = z2 at *
        generalize (ps.getD j (0, 0, 0)).2.1 = y2 at *
        generalize (ps.getD j (0, 0, 0)).1 = x2 at *
        have hxy' : (z != z2) = false := by simp [hxy]
        have HN := Lib.hid hqs
        clear hnext hxy hlen hqs hN fg fh fi fj
        go_wp2_with fail
        go_quiet (fail)
        go_wp2_with fail
        go_roundw
        case rel => exact ⟨j + 1, by omega, by go_num, by rw [← HN.out]; exact hown.keep (drewB (Below.refl _ _) _), drewB hbw _⟩
        case measure => simp [intOf]; omega
      · rw [if_neg hxy] at hnext
        have hqs2 : (brkI S (j + 1 + 1)).map (fun k => ps.getD k (0, 0, 0)) = qs ++ [((ps.getD (j + 1) (0, 0, 0)).1, (ps.getD (j + 1) (0, 0, 0)).2.1, (ps.getD (j + 1) (0, 0, 0)).2.2)] := by rw [hnext, List.map_append, hqs]; rfl
        generalize (ps.getD (j + 1) (0, 0, 0)).2.2 = z at *
        generalize (ps.getD (j + 1) (0, 0, 0)).2.1 = y at *
        generalize (ps.getD (j + 1) (0, 0, 0)).1 = x at *
        generalize (ps.getD j (0, 0, 0)).2.2 = z2 at *
        generalize (ps.getD j (0, 0, 0)).2.1 = y2 at *
        generalize (ps.getD j (0, 0, 0)).1 = x2 at *
        have hxy' : (z != z2) = true := by simp [hxy]
        have HN := Lib.hid hqs2
        clear hnext hxy hlen hqs hqs2 hN fg fh fi fj
        go_wp2_with fail
        go_quiet (fail)
        have hownd := hown.keep (drewB (Below.refl wr.heap.size wr) nq)
        have d1 := (keep_cell (drewB (Below.refl wr.heap.size wr) nq) c1)
        have d2 := (keep_cell (drewB (Below.refl wr.heap.size wr) nq) c2)
        have d3 := (keep_cell (drewB (Below.refl wr.heap.size wr) nq) c3)
        have hbwd := drewB hbw nq
        have hszd := hbwd.size
        generalize wr.drewN nq = wd at *
        clear hown hbw c1 c2 c3 c4 c5 c6
        go_wp2_with (at_builtin; refine wpList_append_own _ rfl _ _ 65 rfl w.heap.size 63 i0 (.agg #[.int .i64 0, .int .i64 0, .int .i64 0]) 3 24 Try.underlying65 hi hz0 hz1 hz2 rfl (by decide) _ _ _ rfl (hownd.alloc _) ⟨wd.heap.size, 0, none⟩ 1 1 [.int .i64 x, .int .i64 y, .int .i64 z] rfl rfl (newsK _ #[.int .i64 x, .int .i64 y, .int .i64 z] _) (three1 _ _ _) (by unfold maxLen; omega) (by omega) (by simp; omega) ?_; intro v' w3 hown' hgrow hnn)
        have hbw' := (nxAlloc hbwd _).grown hgrow (by simp; omega) (fun k hk => ownsRow_ge hownd k hk)
        have hown1 := OwnP.snoc hown'
        clear hownd hown' hgrow hbwd hnn
        go_wp2_with fail
        go_roundw
        case rel => exact ⟨j + 1, by omega, by go_num, by rw [HN.out]; exact hown1, hbw'⟩
        case measure => simp [intOf]; omega
    · obtain rfl : n = j + 1 := by omega
      go_wp2_with fail
      go_ret
      exact ⟨_, hown, hbw, rfl⟩

/-- Fractions of steps. -/
def fracs (sel : Nat × Nat × Int → Nat) (ps : List (Nat × Nat × Int)) : List (Nat × Nat) := ps.map fun x => frOf (sel x)

theorem start_any' (x y z : Int) (w : World) : Calls Try.prog 55 #[.agg #[.int .i64 x, .int .i64 y, .int .i64 z]] w (Gives (.int .i64 x) w) := by
  go_enter Try.func55, Try.ntmps55
  go_wp2_with fail
  go_ret
  exact ⟨rfl, nxAlloc (Below.refl _ _) _⟩
set_option maxRecDepth 100000 in
set_option maxHeartbeats 4000000 in
theorem fractionsOf_start (b0 : Nat) (v : Value) (ps : List (Nat × Nat × Int)) (w : World) (hc : CellsW 3 b0 w v ps.length (flatP ps)) (hn : ps.length ≤ 1000) (hok : ∀ x ∈ ps, x.1 ≤ 1048576 ∧ x.1 % 1024 = 0) :
    Calls Try.prog 54 #[v, .func (Fn.func 55) #[] #[]] w (GivesF (fracs (fun x => x.1) ps) w) := by
  have hcall : ∀ (args : Array Value) (w : World), (callFunc 55 args).run Try.prog w = .ok (.enter 55 args) w := fun _ _ => by kernel_rfl
  obtain ⟨i0, hi, hz0, hz1, hz2⟩ := info_parts info_frac
  have HZ := Lib.hid hok
  clear hok
  rcases hc with ⟨rfl, h0⟩ | ⟨g, cap, rfl, hg0, hg, hc1, hc2, hcell, _⟩
  · obtain rfl : ps = [] := List.length_eq_zero_iff.1 h0
    go_enter Try.func54, Try.ntmps54
    go_wp2_with fail
    go_loopw [5, 12] (fun v i wr => v = .slice none 0 0 ∧ i = .int .i64 0 ∧ wr = w) (fun _ _ _ => 0)
    case atStart => exact ⟨rfl, rfl, rfl⟩
    case round =>
      obtain ⟨rfl, rfl, rfl⟩ := hrel
      go_wp2_with fail
      go_ret
      exact ⟨_, OwnW.nil _ _ _ _, Below.refl _ _, rfl⟩
  · obtain ⟨n, hnn⟩ : ∃ n, ps.length = n := ⟨_, rfl⟩
    rw [hnn] at hcell hc1 hn ⊢
    have HC := Lib.hid hcell
    have HNN := Lib.hid hnn
    unfold maxLen at hc2
    clear hcell hnn
    go_enter Try.func54, Try.ntmps54
    go_wp2_with fail
    go_loopw [5, 12] (fun v i wr => ∃ k : Nat, k ≤ n ∧ i = .int .i64 k ∧ OwnF w.heap.size wr v (fracs (fun x => x.1) (ps.take k)) ∧ Below w.heap.size w wr) (fun _ i _ => n - (intOf i).toNat)
    case atStart => exact ⟨0, Nat.zero_le _, rfl, OwnW.nil _ _ _ _, Below.refl _ _⟩
    case round =>
      obtain ⟨k, hk, rfl, hown, hbw2⟩ := hrel
      by_cases hlt : k < n
      · have hlt' : (k : Int) < (n : Int) := by omega
        have hN := HNN.out
        have hlen : (fracs (fun x => x.1) (ps.take k)).length = k := by simp [fracs]; omega
        have fg := flatP_get ps k (by omega)
        have c1 := (hbw2.cell (p := ⟨g, k * 3, none⟩) hg).trans (HC.out (k * 3) (by omega))
        have c2 := (hbw2.cell (p := ⟨g, k * 3 + 1, none⟩) hg).trans (HC.out (k * 3 + 1) (by omega))
        have c3 := (hbw2.cell (p := ⟨g, k * 3 + 2, none⟩) hg).trans (HC.out (k * 3 + 2) (by omega))
        rw [fg.1] at c1
        rw [fg.2.1] at c2
        rw [fg.2.2] at c3
        have hz := HZ.out (ps.getD k (0, 0, 0)) (by have : k < ps.length := by omega
                                                    rw [List.getD_eq_getElem?_getD, List.getElem?_eq_getElem this]; exact List.getElem_mem this)
        have hnext : fracs (fun x => x.1) (ps.take (k + 1)) = fracs (fun x => x.1) (ps.take k) ++ [((frOf ((ps.getD k (0, 0, 0)).1)).1, (frOf ((ps.getD k (0, 0, 0)).1)).2)] := by
          have : k < ps.length := by omega
          unfold fracs
          rw [List.take_succ_eq_append_getElem this, List.map_append]
          simp [this]
        obtain ⟨xs, hxs⟩ : ∃ xs, xs = fracs (fun x => x.1) (ps.take k) := ⟨_, rfl⟩
        rw [← hxs] at hown hlen hnext
        have hFA := fun w => fractionAt_any ((ps.getD k (0, 0, 0)).1) w (by have := hz.1; omega)
        rw [frA_thousand hz.1 hz.2] at hFA
        have hF : ∀ w, Calls Try.prog 47 #[.int .i64 ((ps.getD k (0, 0, 0)).1 : Nat)] w (Gives (.tuple #[.agg #[.int .i64 (frOf ((ps.getD k (0, 0, 0)).1)).1, .int .i64 (frOf ((ps.getD k (0, 0, 0)).1)).2], .bool true]) w) := hFA
        clear hFA hz fg hN
        generalize (ps.getD k (0, 0, 0)).2.2 = z at *
        generalize (ps.getD k (0, 0, 0)).2.1 = y at *
        generalize (ps.getD k (0, 0, 0)).1 = x at *
        have hS := fun w => start_any' (x : Int) (y : Int) z w
        generalize (frOf x).1 = x1 at *
        generalize (frOf x).2 = y1 at *
        have HN := Lib.hid hnext
        have hxl : xs.length ≤ 1000 := by omega
        clear hnext hxs hlen
        go_wp2_with fail
        refine (hS _).mono ?_; rintro e w3 ⟨rfl, hb3⟩
        have hown3 := OwnF.keep (xs := xs) (World.ownsRow.alloc hown _) hb3
        have hbw3 := nx (nxAlloc hbw2 _) hb3
        clear hown hbw2 hb3
        go_wp2_with fail
        refine (hF _).mono ?_; rintro e w4 ⟨rfl, hb4⟩
        have hown4 := (hown3.keep hb4)
        have hbw4 := nx hbw3 hb4
        have hs4 := hbw4.size
        clear hown3 hbw3 hb4
        have hnews : ∀ (j : Nat) (u : Value), [Value.int .i64 x1, Value.int .i64 y1][j]? = some u → ((w4.alloc (.cells #[.int .i64 x1, .int .i64 y1] 26 (0, 0))).alloc (.cells #[.int .i64 x1, .int .i64 y1] 26 (0, 0))).cell? ((⟨w4.heap.size + 1, 0, none⟩ : Addr).add j) = some u := by
          have h := newsK (w4.alloc (.cells #[.int .i64 x1, .int .i64 y1] 26 (0, 0))) #[.int .i64 x1, .int .i64 y1] 26
          have e1 : (w4.alloc (.cells #[.int .i64 x1, .int .i64 y1] 26 (0, 0))).heap.size = w4.heap.size + 1 := by simp
          rw [e1] at h
          exact h
        have hown5 := World.ownsRow.alloc (World.ownsRow.alloc hown4 (.cells #[.int .i64 x1, .int .i64 y1] 26 (0, 0))) (.cells #[.int .i64 x1, .int .i64 y1] 26 (0, 0))
        have hsz5 : w.heap.size ≤ ((w4.alloc (.cells #[.int .i64 x1, .int .i64 y1] 26 (0, 0))).alloc (.cells #[.int .i64 x1, .int .i64 y1] 26 (0, 0))).heap.size := by simp; omega
        go_wp2_with (at_builtin; refine wpList_append_own _ rfl _ _ 38 rfl w.heap.size 26 i0 (.agg #[.int .i64 0, .int .i64 0]) 2 16 Try.underlying38 hi hz0 hz1 hz2 rfl (by decide) _ _ _ rfl hown5 ⟨w4.heap.size + 1, 0, none⟩ 1 1 [.int .i64 x1, .int .i64 y1] rfl rfl hnews (two1 _ _) (by unfold maxLen; omega) (by omega) hsz5 ?_; intro v' w9 hown' hgrow hnn)
        have hbw9 := (nxAlloc (nxAlloc hbw4 _) _).grown hgrow (by simp; omega) (fun k hk => ownsRow_ge hown4 k hk)
        have hown1 := OwnF.snoc hown'
        clear hown4 hown5 hnews hsz5 hown' hgrow hbw4 hnn
        go_wp2_with fail
        go_roundw
        case rel => exact ⟨k + 1, by omega, by go_num, by rw [HN.out]; exact hown1, hbw9⟩
        case measure => simp [intOf]; omega
      · obtain rfl : k = n := by omega
        have hN := HNN.out
        rw [List.take_of_length_le (by omega)] at hown
        go_wp2_with fail
        go_ret
        exact ⟨_, hown, hbw2, rfl⟩

theorem target_any' (x y z : Int) (w : World) : Calls Try.prog 56 #[.agg #[.int .i64 x, .int .i64 y, .int .i64 z]] w (Gives (.int .i64 y) w) := by
  go_enter Try.func56, Try.ntmps56
  go_wp2_with fail
  go_ret
  exact ⟨rfl, nxAlloc (Below.refl _ _) _⟩
set_option maxRecDepth 100000 in
set_option maxHeartbeats 4000000 in
theorem fractionsOf_target (b0 : Nat) (v : Value) (ps : List (Nat × Nat × Int)) (w : World) (hc : CellsW 3 b0 w v ps.length (flatP ps)) (hn : ps.length ≤ 1000) (hok : ∀ x ∈ ps, x.2.1 ≤ 1048576 ∧ x.2.1 % 1024 = 0) :
    Calls Try.prog 54 #[v, .func (Fn.func 56) #[] #[]] w (GivesF (fracs (fun x => x.2.1) ps) w) := by
  have hcall : ∀ (args : Array Value) (w : World), (callFunc 56 args).run Try.prog w = .ok (.enter 56 args) w := fun _ _ => by kernel_rfl
  obtain ⟨i0, hi, hz0, hz1, hz2⟩ := info_parts info_frac
  have HZ := Lib.hid hok
  clear hok
  rcases hc with ⟨rfl, h0⟩ | ⟨g, cap, rfl, hg0, hg, hc1, hc2, hcell, _⟩
  · obtain rfl : ps = [] := List.length_eq_zero_iff.1 h0
    go_enter Try.func54, Try.ntmps54
    go_wp2_with fail
    go_loopw [5, 12] (fun v i wr => v = .slice none 0 0 ∧ i = .int .i64 0 ∧ wr = w) (fun _ _ _ => 0)
    case atStart => exact ⟨rfl, rfl, rfl⟩
    case round =>
      obtain ⟨rfl, rfl, rfl⟩ := hrel
      go_wp2_with fail
      go_ret
      exact ⟨_, OwnW.nil _ _ _ _, Below.refl _ _, rfl⟩
  · obtain ⟨n, hnn⟩ : ∃ n, ps.length = n := ⟨_, rfl⟩
    rw [hnn] at hcell hc1 hn ⊢
    have HC := Lib.hid hcell
    have HNN := Lib.hid hnn
    unfold maxLen at hc2
    clear hcell hnn
    go_enter Try.func54, Try.ntmps54
    go_wp2_with fail
    go_loopw [5, 12] (fun v i wr => ∃ k : Nat, k ≤ n ∧ i = .int .i64 k ∧ OwnF w.heap.size wr v (fracs (fun x => x.2.1) (ps.take k)) ∧ Below w.heap.size w wr) (fun _ i _ => n - (intOf i).toNat)
    case atStart => exact ⟨0, Nat.zero_le _, rfl, OwnW.nil _ _ _ _, Below.refl _ _⟩
    case round =>
      obtain ⟨k, hk, rfl, hown, hbw2⟩ := hrel
      by_cases hlt : k < n
      · have hlt' : (k : Int) < (n : Int) := by omega
        have hN := HNN.out
        have hlen : (fracs (fun x => x.2.1) (ps.take k)).length = k := by simp [fracs]; omega
        have fg := flatP_get ps k (by omega)
        have c1 := (hbw2.cell (p := ⟨g, k * 3, none⟩) hg).trans (HC.out (k * 3) (by omega))
        have c2 := (hbw2.cell (p := ⟨g, k * 3 + 1, none⟩) hg).trans (HC.out (k * 3 + 1) (by omega))
        have c3 := (hbw2.cell (p := ⟨g, k * 3 + 2, none⟩) hg).trans (HC.out (k * 3 + 2) (by omega))
        rw [fg.1] at c1
        rw [fg.2.1] at c2
        rw [fg.2.2] at c3
        have hz := HZ.out (ps.getD k (0, 0, 0)) (by have : k < ps.length := by omega
                                                    rw [List.getD_eq_getElem?_getD, List.getElem?_eq_getElem this]; exact List.getElem_mem this)
        have hnext : fracs (fun x => x.2.1) (ps.take (k + 1)) = fracs (fun x => x.2.1) (ps.take k) ++ [((frOf ((ps.getD k (0, 0, 0)).2.1)).1, (frOf ((ps.getD k (0, 0, 0)).2.1)).2)] := by
          have : k < ps.length := by omega
          unfold fracs
          rw [List.take_succ_eq_append_getElem this, List.map_append]
          simp [this]
        obtain ⟨xs, hxs⟩ : ∃ xs, xs = fracs (fun x => x.2.1) (ps.take k) := ⟨_, rfl⟩
        rw [← hxs] at hown hlen hnext
        have hFA := fun w => fractionAt_any ((ps.getD k (0, 0, 0)).2.1) w (by have := hz.1; omega)
        rw [frA_thousand hz.1 hz.2] at hFA
        have hF : ∀ w, Calls Try.prog 47 #[.int .i64 ((ps.getD k (0, 0, 0)).2.1 : Nat)] w (Gives (.tuple #[.agg #[.int .i64 (frOf ((ps.getD k (0, 0, 0)).2.1)).1, .int .i64 (frOf ((ps.getD k (0, 0, 0)).2.1)).2], .bool true]) w) := hFA
        clear hFA hz fg hN
        generalize (ps.getD k (0, 0, 0)).2.2 = z at *
        generalize (ps.getD k (0, 0, 0)).2.1 = y at *
        generalize (ps.getD k (0, 0, 0)).1 = x at *
        have hS := fun w => target_any' (x : Int) (y : Int) z w
        generalize (frOf y).1 = x1 at *
        generalize (frOf y).2 = y1 at *
        have HN := Lib.hid hnext
        have hxl : xs.length ≤ 1000 := by omega
        clear hnext hxs hlen
        go_wp2_with fail
        refine (hS _).mono ?_; rintro e w3 ⟨rfl, hb3⟩
        have hown3 := OwnF.keep (xs := xs) (World.ownsRow.alloc hown _) hb3
        have hbw3 := nx (nxAlloc hbw2 _) hb3
        clear hown hbw2 hb3
        go_wp2_with fail
        refine (hF _).mono ?_; rintro e w4 ⟨rfl, hb4⟩
        have hown4 := (hown3.keep hb4)
        have hbw4 := nx hbw3 hb4
        have hs4 := hbw4.size
        clear hown3 hbw3 hb4
        have hnews : ∀ (j : Nat) (u : Value), [Value.int .i64 x1, Value.int .i64 y1][j]? = some u → ((w4.alloc (.cells #[.int .i64 x1, .int .i64 y1] 26 (0, 0))).alloc (.cells #[.int .i64 x1, .int .i64 y1] 26 (0, 0))).cell? ((⟨w4.heap.size + 1, 0, none⟩ : Addr).add j) = some u := by
          have h := newsK (w4.alloc (.cells #[.int .i64 x1, .int .i64 y1] 26 (0, 0))) #[.int .i64 x1, .int .i64 y1] 26
          have e1 : (w4.alloc (.cells #[.int .i64 x1, .int .i64 y1] 26 (0, 0))).heap.size = w4.heap.size + 1 := by simp
          rw [e1] at h
          exact h
        have hown5 := World.ownsRow.alloc (World.ownsRow.alloc hown4 (.cells #[.int .i64 x1, .int .i64 y1] 26 (0, 0))) (.cells #[.int .i64 x1, .int .i64 y1] 26 (0, 0))
        have hsz5 : w.heap.size ≤ ((w4.alloc (.cells #[.int .i64 x1, .int .i64 y1] 26 (0, 0))).alloc (.cells #[.int .i64 x1, .int .i64 y1] 26 (0, 0))).heap.size := by simp; omega
        go_wp2_with (at_builtin; refine wpList_append_own _ rfl _ _ 38 rfl w.heap.size 26 i0 (.agg #[.int .i64 0, .int .i64 0]) 2 16 Try.underlying38 hi hz0 hz1 hz2 rfl (by decide) _ _ _ rfl hown5 ⟨w4.heap.size + 1, 0, none⟩ 1 1 [.int .i64 x1, .int .i64 y1] rfl rfl hnews (two1 _ _) (by unfold maxLen; omega) (by omega) hsz5 ?_; intro v' w9 hown' hgrow hnn)
        have hbw9 := (nxAlloc (nxAlloc hbw4 _) _).grown hgrow (by simp; omega) (fun k hk => ownsRow_ge hown4 k hk)
        have hown1 := OwnF.snoc hown'
        clear hown4 hown5 hnews hsz5 hown' hgrow hbw4 hnn
        go_wp2_with fail
        go_roundw
        case rel => exact ⟨k + 1, by omega, by go_num, by rw [HN.out]; exact hown1, hbw9⟩
        case measure => simp [intOf]; omega
      · obtain rfl : k = n := by omega
        have hN := HNN.out
        rw [List.take_of_length_le (by omega)] at hown
        go_wp2_with fail
        go_ret
        exact ⟨_, hown, hbw2, rfl⟩
end Go.Proofs.Ytdhjchibhlcchaa

/-! Fx1 -/
namespace Go.Proofs.Ytdhjchibhlcchaa
open Go.RowKit

/-- The pieces that are carried to themselves at their start. -/
def keepP (ps : List (Nat × Nat × Int)) : List (Nat × Nat × Int) := ps.filter fun x => decide (x.1 = x.2.1)
/-- How many of them stand in front. -/
def nG : List (Nat × Nat × Int) → Nat
  | [] => 0
  | x :: l => if x.1 = x.2.1 then nG l + 1 else 0
theorem nG_le (ps : List (Nat × Nat × Int)) : nG ps ≤ ps.length := by
  induction ps with
  | nil => exact Nat.le_refl _
  | cons x l ih => simp only [nG, List.length_cons]; split <;> omega
theorem nG_step : ∀ (ps : List (Nat × Nat × Int)) (j : Nat), j ≤ nG ps → j < ps.length →
    ((ps.getD j (0, 0, 0)).1 = (ps.getD j (0, 0, 0)).2.1 → j + 1 ≤ nG ps) ∧ ((ps.getD j (0, 0, 0)).1 ≠ (ps.getD j (0, 0, 0)).2.1 → nG ps = j) := by
  intro ps
  induction ps with
  | nil => intro j _ h; simp at h
  | cons x l ih =>
    intro j h1 h2
    match j with
    | 0 =>
      show (x.1 = x.2.1 → _) ∧ (x.1 ≠ x.2.1 → _)
      exact ⟨fun h => by simp [nG, h], fun h => by simp [nG, h]⟩
    | j + 1 =>
      show ((l.getD j (0, 0, 0)).1 = (l.getD j (0, 0, 0)).2.1 → _) ∧ ((l.getD j (0, 0, 0)).1 ≠ (l.getD j (0, 0, 0)).2.1 → _)
      unfold nG at h1 ⊢
      split at h1
      · rename_i hx
        rw [if_pos hx]
        have := ih j (by omega) (by simpa using h2)
        exact ⟨fun h => by have := this.1 h; omega, fun h => by have := this.2 h; omega⟩
      · omega
theorem keep_front : ∀ (ps : List (Nat × Nat × Int)) (j : Nat), j ≤ nG ps → keepP (ps.take j) = ps.take j := by
  intro ps
  induction ps with
  | nil => intro j _; simp [keepP]
  | cons x l ih =>
    intro j h
    match j with
    | 0 => rfl
    | j + 1 =>
      unfold nG at h
      split at h
      · rename_i hx
        have := ih j (by omega)
        unfold keepP at this ⊢
        rw [List.take_succ_cons, List.filter_cons_of_pos (by simp [hx]), this]
      · omega
theorem keep_good (ps : List (Nat × Nat × Int)) (j : Nat) (h : j < ps.length) (hx : (ps.getD j (0, 0, 0)).1 = (ps.getD j (0, 0, 0)).2.1) :
    keepP (ps.take (j + 1)) = keepP (ps.take j) ++ [((ps.getD j (0, 0, 0)).1, (ps.getD j (0, 0, 0)).2.1, (ps.getD j (0, 0, 0)).2.2)] := by
  unfold keepP
  rw [take_succ_getD ps (0, 0, 0) h, List.filter_append, List.filter_cons_of_pos (by rw [decide_eq_true_eq]; exact hx)]
  rfl
theorem keep_bad (ps : List (Nat × Nat × Int)) (j : Nat) (h : j < ps.length) (hx : (ps.getD j (0, 0, 0)).1 ≠ (ps.getD j (0, 0, 0)).2.1) :
    keepP (ps.take (j + 1)) = keepP (ps.take j) := by
  unfold keepP
  rw [take_succ_getD ps (0, 0, 0) h, List.filter_append, List.filter_cons_of_neg (by rw [decide_eq_true_eq]; exact hx)]
  simp
theorem keep_len (ps : List (Nat × Nat × Int)) (j : Nat) : (keepP (ps.take j)).length ≤ j := by
  have := List.length_filter_le (fun x : Nat × Nat × Int => decide (x.1 = x.2.1)) (ps.take j)
  unfold keepP
  rw [List.length_take] at this
  omega

theorem moved_any (x y : Nat) (z : Int) (w : World) : Calls Try.prog 59 #[.agg #[.int .i64 x, .int .i64 y, .int .i64 z]] w (Gives (.bool (decide (x ≠ y))) w) := by
  by_cases h : x = y
  · subst h
    rw [show decide (x ≠ x) = false by simp]
    go_enter Try.func59, Try.ntmps59
    go_wp2_with fail
    go_ret
    exact ⟨by simp, nxAlloc (Below.refl _ _) _⟩
  · rw [show decide (x ≠ y) = true by simp [h]]
    have h' : ((x : Int) != (y : Int)) = true := by simp; omega
    go_enter Try.func59, Try.ntmps59
    go_wp2_with fail
    go_ret
    exact ⟨by simp, nxAlloc (Below.refl _ _) _⟩
theorem call_moved (args : Array Value) (w : World) : (callFunc 59 args).run Try.prog w = .ok (.enter 59 args) w := by kernel_rfl

set_option maxRecDepth 100000 in
set_option maxHeartbeats 2000000 in
theorem indexFunc_any (g cap : Nat) (ps : List (Nat × Nat × Int)) (n : Nat) (w : World) (hn : ps.length = n) (hn9 : n ≤ 1000) (hg : g < w.heap.size) (hc1 : n ≤ cap) (_hc2 : cap ≤ 9223372036854775807)
    (hcell : ∀ i, i < n * 3 → w.cell? ⟨g, i, none⟩ = some (.int .i64 ((flatP ps).getD i 0))) :
    Calls Try.prog 88 #[.slice (some ⟨g, 0, none⟩) n cap, .func (Fn.func 59) #[] #[]] w (Gives (.int .i64 (if nG ps = n then -1 else (nG ps : Int))) w) := by
  have hcall := call_moved
  obtain ⟨N, hN⟩ : ∃ N, N = nG ps := ⟨_, rfl⟩
  have hle := nG_le ps
  rw [← hN] at hle ⊢
  obtain ⟨R, hR⟩ : ∃ R : Int, R = if N = n then -1 else (N : Int) := ⟨_, rfl⟩
  rw [← hR]
  have HR := Lib.hid hR
  clear hR
  have HN := Lib.hid hN
  have HNN := Lib.hid hn
  have HC := Lib.hid hcell
  clear hn hcell hN
  go_enter Try.func88, Try.ntmps88
  go_wp2_with fail
  go_loopw [8] (fun i wr => ∃ k : Nat, k ≤ n ∧ i = .int .i64 k ∧ k ≤ N ∧ Below w.heap.size w wr) (fun i _ => n - (intOf i).toNat)
  case atStart => exact ⟨0, Nat.zero_le _, rfl, Nat.zero_le _, Below.refl _ _⟩
  case round =>
    obtain ⟨k, hk, rfl, hkN, hbw⟩ := hrel
    by_cases hlt : k < n
    · have hlt' : (k : Int) < (n : Int) := by omega
      have hn := HNN.out
      have fg := flatP_get ps k (by omega)
      have st := nG_step ps k (by rw [← HN.out]; exact hkN) (by omega)
      rw [← HN.out] at st
      have c1 := (hbw.cell (p := ⟨g, k * 3, none⟩) hg).trans (HC.out (k * 3) (by omega))
      have c2 := (hbw.cell (p := ⟨g, k * 3 + 1, none⟩) hg).trans (HC.out (k * 3 + 1) (by omega))
      have c3 := (hbw.cell (p := ⟨g, k * 3 + 2, none⟩) hg).trans (HC.out (k * 3 + 2) (by omega))
      rw [fg.1] at c1
      rw [fg.2.1] at c2
      rw [fg.2.2] at c3
      generalize (ps.getD k (0, 0, 0)).2.2 = z at *
      generalize (ps.getD k (0, 0, 0)).2.1 = y at *
      generalize (ps.getD k (0, 0, 0)).1 = x at *
      have hM := fun w => moved_any x y z w
      clear fg hn
      by_cases hxy : x = y
      · have hk1 := st.1 hxy
        rw [show decide (x ≠ y) = false by simp [hxy]] at hM
        clear st hxy
        go_wp2_with fail
        refine (hM _).mono ?_; rintro e w3 ⟨rfl, hb3⟩
        have hbw3 := nx hbw hb3
        go_wp2_with fail
        go_roundw
        case rel => exact ⟨k + 1, by omega, by go_num, by omega, hbw3⟩
        case measure => simp [intOf]; omega
      · have hk1 := st.2 hxy
        rw [show decide (x ≠ y) = true by simp [hxy]] at hM
        clear st
        go_wp2_with fail
        refine (hM _).mono ?_; rintro e w3 ⟨rfl, hb3⟩
        have hbw3 := nx hbw hb3
        go_wp2_with fail
        go_ret
        have hr := HR.out
        rw [if_neg (by omega), hk1] at hr
        subst hr
        exact ⟨rfl, hbw3⟩
    · obtain rfl : k = n := by omega
      go_wp2_with fail
      go_ret
      have hr := HR.out
      rw [if_pos (by have := HNN.out; omega)] at hr
      subst hr
      exact ⟨rfl, hbw⟩
end Go.Proofs.Ytdhjchibhlcchaa

/-! Ft1 -/
namespace Go.Proofs.Ytdhjchibhlcchaa
open Go.RowKit

set_option maxHeartbeats 2000000 in
theorem heldFractionS_any (b1 : Nat) (v1 : Value) (n : Nat) (k : Int) (w : World) (hk0 : 0 ≤ k) (hk1 : k ≤ 1000000000) (hn9 : n ≤ 1000000000) (h1 : CellsW 2 b1 w v1 n (marks k (n * 2))) :
    Calls Try.prog 23 #[v1, .int .i64 k] w (Gives (.int .i64 (k + (n * 2 : Nat))) w) := by
  rcases h1 with ⟨rfl, hn⟩ | ⟨g, cap, rfl, hb1, hg1, hc1, hm1, hx1, _⟩
  · subst hn
    go_enter Try.func23, Try.ntmps23
    go_wp2_with fail
    go_loopw [1, 5] (fun v i wr => v = .int .i64 k ∧ i = .int .i64 0 ∧ wr = w) (fun _ _ _ => 0)
    case atStart => exact ⟨rfl, rfl, rfl⟩
    case round =>
      obtain ⟨rfl, rfl, rfl⟩ := hrel
      go_wp2_with fail
      go_ret
      exact ⟨ret_int (by simp), Below.refl _ _⟩
  · have HX1 := Lib.hid hx1
    clear hx1
    go_enter Try.func23, Try.ntmps23
    go_wp2_with fail
    go_loopw [1, 5] (fun v i wr => ∃ j : Nat, j ≤ n ∧ i = .int .i64 j ∧ v = .int .i64 (k + (j * 2 : Nat)) ∧ Below w.heap.size w wr) (fun _ i _ => n - (intOf i).toNat)
    case atStart => exact ⟨0, Nat.zero_le _, rfl, by simp, Below.refl _ _⟩
    case round =>
      obtain ⟨j, hj, rfl, rfl, hbw⟩ := hrel
      by_cases hlt : j < n
      · have hlt' : (j : Int) < (n : Int) := by omega
        have c1 := (hbw.cell (p := ⟨g, j * 2, none⟩) hg1).trans (HX1.out (j * 2) (by omega))
        have c2 := (hbw.cell (p := ⟨g, j * 2 + 1, none⟩) hg1).trans (HX1.out (j * 2 + 1) (by omega))
        rw [marks_getD k (by omega)] at c1 c2
        go_wp2_with fail
        go_roundw
        case rel => exact ⟨j + 1, by omega, by go_num, by go_num, hbw⟩
        case measure => simp [intOf]; omega
      · obtain rfl : j = n := by omega
        go_wp2_with fail
        go_ret
        exact ⟨rfl, hbw⟩

set_option maxHeartbeats 2000000 in
theorem eqFractionS_any (b1 b2 : Nat) (v1 v2 : Value) (xs : List (Nat × Nat)) (w : World) (h1 : CellsW 2 b1 w v1 xs.length (flatF xs)) (h2 : CellsW 2 b2 w v2 xs.length (flatF xs)) :
    Calls Try.prog 21 #[v1, v2] w (Gives (.bool true) w) := by
  rcases h1 with ⟨rfl, hn⟩ | ⟨g, cap, rfl, hb1, hg1, hc1, hm1, hx1, _⟩
  · rcases h2 with ⟨rfl, _⟩ | ⟨g, cap, rfl, hb1, hg1, hc1, hm1, hx1, _⟩
    all_goals
      simp only [hn] at *
      go_enter Try.func21, Try.ntmps21
      go_wp2_with fail
      go_loopw [5] (fun i wr => i = .int .i64 0 ∧ wr = w) (fun _ _ => 0)
      case atStart => exact ⟨rfl, rfl⟩
      case round =>
        obtain ⟨rfl, rfl⟩ := hrel
        go_wp2_with fail
        go_ret
        exact ⟨rfl, Below.refl _ _⟩
  · rcases h2 with ⟨rfl, hn⟩ | ⟨g2, cap2, rfl, hb2, hg2, hc2, hm2, hx2, _⟩
    · simp only [hn] at *
      go_enter Try.func21, Try.ntmps21
      go_wp2_with fail
      go_loopw [5] (fun i wr => i = .int .i64 0 ∧ wr = w) (fun _ _ => 0)
      case atStart => exact ⟨rfl, rfl⟩
      case round =>
        obtain ⟨rfl, rfl⟩ := hrel
        go_wp2_with fail
        go_ret
        exact ⟨rfl, Below.refl _ _⟩
    · have HX1 := Lib.hid hx1
      have HX2 := Lib.hid hx2
      unfold maxLen at hm1 hm2
      clear hx1 hx2
      go_enter Try.func21, Try.ntmps21
      go_wp2_with fail
      go_loopw [5] (fun i wr => ∃ k : Nat, k ≤ xs.length ∧ i = .int .i64 k ∧ Below w.heap.size w wr) (fun i _ => xs.length - (intOf i).toNat)
      case atStart => exact ⟨0, Nat.zero_le _, rfl, Below.refl _ _⟩
      case round =>
        obtain ⟨k, hk, rfl, hbw⟩ := hrel
        by_cases hlt : k < xs.length
        · have hlt' : (k : Int) < (xs.length : Int) := by omega
          have c1 := (hbw.cell (p := ⟨g, k * 2, none⟩) hg1).trans (HX1.out (k * 2) (by omega))
          have c2 := (hbw.cell (p := ⟨g, k * 2 + 1, none⟩) hg1).trans (HX1.out (k * 2 + 1) (by omega))
          have c3 := (hbw.cell (p := ⟨g2, k * 2, none⟩) hg2).trans (HX2.out (k * 2) (by omega))
          have c4 := (hbw.cell (p := ⟨g2, k * 2 + 1, none⟩) hg2).trans (HX2.out (k * 2 + 1) (by omega))
          rw [(flatF_get xs k hlt).1] at c1 c3
          rw [(flatF_get xs k hlt).2] at c2 c4
          generalize (xs.getD k (0, 0)).1 = x at *
          generalize (xs.getD k (0, 0)).2 = y at *
          have hgr : g < wr.heap.size := Nat.lt_of_lt_of_le hg1 hbw.size
          have hgr2 : g2 < wr.heap.size := Nat.lt_of_lt_of_le hg2 hbw.size
          have hE := fun w => eqFraction_same (x : Int) (y : Int) w
          go_wp2_with fail
          refine wp_region_cls (by kernel_rfl) (by kernel_rfl) ?_
          repeat (
            refine wpQuiet_step (fun K hK => ?_)
            go_simp
            first
              | (refine hK _ ?_; clear hK K)
              | (refine ⟨_, fun _ _ => rfl, hK _ ?_⟩; clear hK K)
              | (apply Exists.intro
                 refine ⟨fun w' hw' => ?_, hK _ ?_⟩
                 · first
                     | (go_at_call 18; exact hw'.call (hE _))
                     | (rw [hw'.cell hgr c1]; dsimp only [Result.andThen]; rw [hw'.cell hgr c2]; exact ⟨rfl, rfl⟩)
                     | (rw [hw'.cell hgr2 c3]; dsimp only [Result.andThen]; rw [hw'.cell hgr2 c4]; exact ⟨rfl, rfl⟩)
                 clear hK K))
          refine wpQuiet_nil ?_
          intro w' hw'
          have hbw2 := nx hbw hw'
          go_wp2_with fail
          go_roundw
          case rel => exact ⟨k + 1, by omega, by go_num, hbw2⟩
          case measure => simp [intOf]; omega
        · obtain rfl : k = xs.length := by omega
          go_wp2_with fail
          go_ret
          exact ⟨rfl, hbw⟩

theorem OwnW.set {e : TypeId} {c base : Nat} {w : World} {g cap n : Nat} {L : List Int} (h : OwnW e c base w (.slice (some ⟨g, 0, none⟩) n cap) n L) (j : Nat) (m : Int) :
    OwnW e c base (w.setCell ⟨g, j, none⟩ (.int .i64 m)) (.slice (some ⟨g, 0, none⟩) n cap) n (L.set j m) := by
  unfold OwnW at *
  rw [List.map_set]
  exact (World.ownsRow.stored h j _).1
/-- A call that hands back a number, and leaves the slice v with other numbers. -/
def MarkedW (e0 : TypeId) (c base : Nat) (r : Int) (v : Value) (n : Nat) (L : List Int) (w : World) (e : Ending) (w' : World) : Prop := e = .returned (.int .i64 r) ∧ OwnW e0 c base w' v n L ∧ Below base w w'

set_option maxHeartbeats 2000000 in
theorem markFractionS_any (base : Nat) (v : Value) (xs : List (Nat × Nat)) (k : Int) (w : World) (hk0 : 0 ≤ k) (hk1 : k ≤ 1000000000) (hn9 : xs.length ≤ 1000000000) (h : OwnF base w v xs) :
    Calls Try.prog 22 #[v, .int .i64 k] w (MarkedW 26 2 base (k + (xs.length * 2 : Nat)) v xs.length (marks k (xs.length * 2)) w) := by
  have hb0 := Below.refl base w
  have hL := flatF_length xs
  unfold OwnF at h
  generalize flatF xs = L at *
  generalize xs.length = n at *
  rcases h.cells with ⟨rfl, rfl⟩ | ⟨g, cap, rfl, hb1, hg1, hc1, hm1, hx1, hf1⟩
  · have H := Lib.hid h
    have HL := Lib.hid hL
    clear h hL
    go_enter Try.func22, Try.ntmps22
    go_wp2_with fail
    go_loopw [1, 5] (fun v i wr => v = .int .i64 k ∧ i = .int .i64 0 ∧ wr = w) (fun _ _ _ => 0)
    case atStart => exact ⟨rfl, rfl, rfl⟩
    case round =>
      obtain ⟨rfl, rfl, rfl⟩ := hrel
      go_wp2_with fail
      go_ret
      refine ⟨ret_int (by simp), ?_, hb0⟩
      have hl : L = [] := List.length_eq_zero_iff.1 (by have := HL.out; omega)
      have := H.out
      rw [hl] at this
      exact this
  · unfold maxLen at hm1
    clear hx1 hf1 hg1
    have HL := Lib.hid hL
    have H := Lib.hid h
    clear h hL
    go_enter Try.func22, Try.ntmps22
    go_wp2_with fail
    go_loopw [1, 5] (fun v i wr => ∃ j : Nat, j ≤ n ∧ i = .int .i64 j ∧ v = .int .i64 (k + (j * 2 : Nat)) ∧ OwnW 26 2 base wr (.slice (some ⟨g, 0, none⟩) n cap) n (marks k (j * 2) ++ L.drop (j * 2)) ∧ Below base w wr) (fun _ i _ => n - (intOf i).toNat)
    case atStart => exact ⟨0, Nat.zero_le _, rfl, by simp, H.out, hb0⟩
    case round =>
      obtain ⟨j, hj, rfl, rfl, hown, hbw⟩ := hrel
      by_cases hlt : j < n
      · have hlt' : (j : Int) < (n : Int) := by omega
        rcases hown.cells with ⟨h0, _⟩ | ⟨g', cap', h0, hb1', hg1, hc1', hm1', hx1, hf1⟩
        · simp at h0
        simp only [Value.slice.injEq, Option.some.injEq, Addr.mk.injEq, and_true, true_and] at h0
        obtain ⟨rfl, rfl⟩ := h0
        have c1 := hx1 (j * 2) (by omega)
        have c2 := hx1 (j * 2 + 1) (by omega)
        have f1 := hf1 (j * 2)
        have f2 := hf1 (j * 2 + 1)
        have HO := Lib.hid hown
        clear hx1 hf1 hown
        generalize (marks k (j * 2) ++ L.drop (j * 2)).getD (j * 2) 0 = y1 at *
        generalize (marks k (j * 2) ++ L.drop (j * 2)).getD (j * 2 + 1) 0 = y2 at *
        go_wp2_with fail
        go_roundw
        case rel =>
          refine ⟨j + 1, by omega, by go_num, by go_num, ?_, (hbw.setCell hb1 _).setCell hb1 _⟩
          have o1 := (HO.out.set (j * 2) (k + (j * 2 : Nat))).set (j * 2 + 1) (k + (j * 2 + 1 : Nat))
          have hL := HL.out
          rw [marks_set k L (j * 2) (by omega), marks_set k L (j * 2 + 1) (by omega)] at o1
          rw [show (j + 1) * 2 = j * 2 + 1 + 1 by omega]
          have e1 : k + ((j * 2 : Nat) : Int) = k + (j : Int) * 2 := by omega
          have e2 : k + ((j * 2 + 1 : Nat) : Int) = k + (j : Int) * 2 + 1 := by omega
          rw [e1, e2] at o1
          exact o1
        case measure => simp [intOf]; omega
      · obtain rfl : j = n := by omega
        go_wp2_with fail
        go_ret
        refine ⟨rfl, ?_, hbw⟩
        have hL := HL.out
        rw [List.drop_of_length_le (by omega), List.append_nil] at hown
        exact hown
end Go.Proofs.Ytdhjchibhlcchaa
