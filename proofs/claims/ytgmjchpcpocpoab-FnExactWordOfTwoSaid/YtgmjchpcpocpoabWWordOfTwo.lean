/- The walk of laws.FnExactWordOfTwo. -/
import Derived.Test.YtgmjchpcpocpoabTwo3
namespace Go.Proofs.Ytgmjchpcpocpoab
open Go.RowKit

def WordOfTwo_o (L : List Int) : Option (List Int) := twoO L
theorem WordOfTwo_len (L : List Int) : ((WordOfTwo_o L).getD []).length ≤ 1000000000 := by
  unfold WordOfTwo_o twoO
  split
  · split
    · have := freeW_length (twoW L)
      simp; omega
    · simp
  · simp
theorem specWordOfTwo_any (v : Value) (b1 : Nat) (L : List Int) (w : World) (hv : CellsI b1 w v L) (_hz : ∀ s ∈ L, -9223372036854775808 ≤ s ∧ s ≤ 9223372036854775807) :
    Calls Try.prog 10 #[v] w (AnsIs (WordOfTwo_o L) w) := specTwo_any v b1 L w hv _hz
theorem implWordOfTwo_any (v : Value) (b1 : Nat) (L : List Int) (w : World) (hv : CellsI b1 w v L) (_hz : ∀ s ∈ L, -9223372036854775808 ≤ s ∧ s ≤ 9223372036854775807) :
    Calls Try.prog 12 #[v] w (AnsIs (WordOfTwo_o L) w) := implTwo_any v b1 L w hv _hz

set_option maxRecDepth 100000 in
set_option maxHeartbeats 2000000 in
theorem fnExactWordOfTwo_law (w : World) (oa : Option Addr) (n cap : Nat) (L : List Int) (hl : L.length = n) (hl2 : (n : Int) ≤ 9223372036854775807) (_hz : ∀ s ∈ L, -9223372036854775808 ≤ s ∧ s ≤ 9223372036854775807) (hin : InI w oa L) :
    Calls Try.prog 3 #[.slice oa n cap] w fun e w' => e = .returned (.bool true) ∧ Below w.heap.size w w' := by
  have HI := Lib.hid hin
  have HL := Lib.hid hl
  clear hin hl
  by_cases hbig : (1048576 : Int) < n
  · clear _hz
    go_enter Try.func3, Try.ntmps3
    go_wp2_with fail
    go_ret
    exact ⟨rfl, Below.refl _ _⟩
  have hS := fun v b w h => specWordOfTwo_any v b L w h _hz
  have hI := fun v b w h => implWordOfTwo_any v b L w h _hz
  have hn9 := WordOfTwo_len L
  obtain ⟨o, ho⟩ : ∃ o, o = WordOfTwo_o L := ⟨_, rfl⟩
  rw [← ho] at hn9
  simp only [← ho] at hS hI
  clear ho
  obtain ⟨xs, ok, hx, hk⟩ : ∃ xs ok, xs = o.getD [] ∧ ok = o.isSome := ⟨_, _, rfl, rfl⟩
  have hS' : ∀ v b w, CellsI b w v L → Calls Try.prog 10 #[v] w (AnsI2 xs ok w) := by rw [hx, hk]; exact hS
  have hI' : ∀ v b w, CellsI b w v L → Calls Try.prog 12 #[v] w (AnsI2 xs ok w) := by rw [hx, hk]; exact hI
  rw [← hx] at hn9
  clear hS hI hx hk
  have hT := fun w h => toIntS_any oa cap n L w HL.out (by omega) h
  clear _hz
  go_enter Try.func3, Try.ntmps3
  go_wp2_with fail
  refine (hT _ HI.out).mono ?_; rintro e w1 ⟨pg, po, hb1, rfl⟩
  go_wp2_with fail
  refine (hS' _ _ _ po.cells).mono ?_; rintro e w2 ⟨v0, own0, hb2, rfl⟩
  have hbw2 := nx hb1 hb2
  have hs2 := hbw2.size
  clear po hb1 hb2
  go_wp2_with fail
  refine (hT _ (HI.out.keep hbw2)).mono ?_; rintro e w3 ⟨qg, qo, hb3, rfl⟩
  have hqg := qo.lt
  go_wp2_with fail
  refine (hI' _ _ _ qo.cells).mono ?_; rintro e w4 ⟨v1, own1, hb4, rfl⟩
  have hB4 := nx hb3 hb4
  replace qo := qo.keep hb4
  clear hb4
  go_wp2_with fail
  refine (eqIntS_any _ _ v1 v0 xs _ own1.cells (own0.keep hB4).cells).mono ?_; rintro e w5 ⟨rfl, d5, hw5⟩
  have hb5 : Below w4.heap.size w4 w5 := by rw [hw5]; exact drewB (Below.refl _ _) d5
  clear hw5
  have hB5 := nx hB4 hb5
  replace qo := qo.keep hb5
  replace own1 := own1.keep hb5
  clear hb5 hB4
  go_wp2_with fail
  refine (hT _ (HI.out.keep (nx hbw2 hB5))).mono ?_; rintro e w6 ⟨rg, ro, hb6, rfl⟩
  have hB6 := nx hB5 hb6
  replace qo := qo.keep hb6
  replace own1 := own1.keep hb6
  clear hb6 hB5
  go_wp2_with fail
  refine (eqIntS_any _ _ _ _ L _ qo.cells ro.cells).mono ?_; rintro e w7 ⟨rfl, d7, hw7⟩
  have hb7 : Below w6.heap.size w6 w7 := by rw [hw7]; exact drewB (Below.refl _ _) d7
  clear hw7 ro
  have hB7 := nx hB6 hb7
  replace qo := qo.keep hb7
  replace own1 := own1.keep hb7
  clear hb7 hB6
  go_wp2_with fail
  refine (markIntS_one w2.heap.size qg n n L HL.out 1 _ (by omega) (by omega) (by omega) qo).mono ?_; rintro e w8 ⟨rfl, _, hg8⟩
  have hB8 := hB7.trans (grown_below hg8 hB7.size hqg.1)
  replace own1 := own1.kept hg8 hqg.2
  clear hB7 hg8 qo
  go_wp2_with fail
  refine (eqIntS_any _ _ v1 v0 xs _ own1.cells (own0.keep hB8).cells).mono ?_; rintro e w9 ⟨rfl, d9, hw9⟩
  have hb9 : Below w8.heap.size w8 w9 := by rw [hw9]; exact drewB (Below.refl _ _) d9
  clear hw9
  have hB9 := nx hB8 hb9
  replace own1 := own1.keep hb9
  clear hb9 hB8
  go_wp2_with fail
  refine (markIntS_any w3.heap.size v1 xs xs.length rfl 1 _ (by omega) (by omega) hn9 own1).mono ?_; rintro e w10 ⟨rfl, own10, hb10⟩
  have hB10 := hB9.trans (hb10.mono hb3.size)
  clear hB9 hb10 own1
  go_wp2_with fail
  refine (heldIntS_any w3.heap.size v1 xs.length 1 _ (by omega) (by omega) hn9 own10.cells).mono ?_; rintro e w11 ⟨rfl, d11, hw11⟩
  have hb11 : Below w10.heap.size w10 w11 := by rw [hw11]; exact drewB (Below.refl _ _) d11
  clear hw11
  have hB11 := nx hB10 hb11
  replace own10 := own10.keep hb11
  clear hb11 hB10
  go_wp2_with fail
  refine (hT _ (HI.out.keep (nx hbw2 hB11))).mono ?_; rintro e w12 ⟨sg, so, hb12, rfl⟩
  have hB12 := nx hB11 hb12
  replace own10 := own10.keep hb12
  clear hb12 hB11
  go_wp2_with fail
  refine (hI' _ _ _ so.cells).mono ?_; rintro e w13 ⟨v2, own2, hb13, rfl⟩
  have hB13 := nx hB12 hb13
  replace own10 := own10.keep hb13
  clear hb13 hB12 so
  go_wp2_with fail
  refine (eqIntS_any _ _ v2 v0 xs _ own2.cells (own0.keep hB13).cells).mono ?_; rintro e w14 ⟨rfl, d14, hw14⟩
  have hb14 : Below w13.heap.size w13 w14 := by rw [hw14]; exact drewB (Below.refl _ _) d14
  clear hw14
  have hB14 := nx hB13 hb14
  replace own10 := own10.keep hb14
  clear hb14 hB13
  go_wp2_with fail
  refine (heldIntS_any w3.heap.size v1 xs.length 1 _ (by omega) (by omega) hn9 own10.cells).mono ?_; rintro e w15 ⟨rfl, d15, hw15⟩
  have hb15 : Below w14.heap.size w14 w15 := by rw [hw15]; exact drewB (Below.refl _ _) d15
  clear hw15
  go_wp2_with fail
  go_ret
  exact ⟨rfl, nx (nx hbw2 hB14) hb15⟩

theorem fnExactWordOfTwo_walk (W : World) (a : Option Addr) (len cap : Nat) (z : List Int) (h : IsInts W a len cap z) :
    Calls Try.prog 3 #[.slice a len cap] W fun e w' => e = .returned (.bool true) ∧ Below W.heap.size W w' := by
  obtain ⟨h1, h2, h3, h4⟩ := h.inI
  exact fnExactWordOfTwo_law W a len cap (z.take len) h2 h3 h4 h1
end Go.Proofs.Ytgmjchpcpocpoab
