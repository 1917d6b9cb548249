/- Walks: values of trees. -/
import Derived.Test.YtkoebmdocenlkabTb1
import Derived.Test.YtkoebmdocenlkabText
import Derived.Test.YtkoebmdocenlkabAns
namespace Go.Proofs.Ytkoebmdocenlkab
open Go.RowKit

theorem ReadI.drop {w : World} {g off : Nat} {L : List Int} (h : ReadI w g off L) (k : Nat) : ReadI w g (off + k) (L.drop k) := by
  intro i hi
  rw [List.length_drop] at hi
  have := h (k + i) (by omega)
  rw [getD_drop, Nat.add_assoc]
  exact this
theorem prd_nat (T : List (List Int)) (i j : Nat) : prd T (i : Int) (j : Int) = (T.getD i []).getD j 0 := by
  unfold prd
  rw [Int.toNat_natCast, Int.toNat_natCast]
/-- The cell of a product. -/
theorem TabAt.prod {w : World} {g : Nat} {gs : List Nat} {T : List (List Int)} (h : TabAt w g gs T) (hT : tabB T = true) {i j : Nat} (hi : i < T.length) (hj : j < T.length) :
    w.cell? ⟨g, i, none⟩ = some (.slice (some ⟨gs.getD i 0, 0, none⟩) T.length T.length) ∧ w.cell? ⟨gs.getD i 0, j, none⟩ = some (.int .i64 (prd T i j)) := by
  obtain ⟨h1, h2⟩ := h i hi
  obtain ⟨h3, _⟩ := tabB_row hT hi
  unfold rowV at h1
  rw [h3] at h1
  refine ⟨h1, ?_⟩
  have h4 := h2 j (by omega)
  rw [Nat.zero_add] at h4
  rw [h4, prd_nat]

/-- A value and the numbers that are left. -/
def ValP (x : Int) (g off n m c : Nat) (w : World) (e : Ending) (w' : World) : Prop :=
  ∃ a' : Option Addr, e = .returned (.tuple #[.int .i64 x, .slice a' (n - m) (c - m)]) ∧ (m < n → a' = some ⟨g, off + m, none⟩) ∧ Below w.heap.size w w'

set_option maxRecDepth 100000 in
set_option maxHeartbeats 1000000 in
theorem valueOf_any (gT cT : Nat) (gs : List Nat) (T : List (List Int)) (hT : tabB T = true) (nT : Nat) (hnT : nT = T.length) (t : Tr) : ∀ (b g off n c : Nat) (vs : List Int) (w : World), NodeAt w t b → TabAt w gT gs T → ReadI w g off vs → vs.length = n → n ≤ c → c ≤ 1000000000 → off + n ≤ 1000000000 → t.carets + 1 ≤ n → (∀ x ∈ vs, 0 ≤ x ∧ x < T.length) →
    Calls Try.prog 82 #[.slice (some ⟨gT, 0, none⟩) nT cT, .pointer (some ⟨b, 0, none⟩), .slice (some ⟨g, off, none⟩) n c] w (ValP (valT T t vs) g off n (t.carets + 1) c w) := by
  have hT4 := tabB_len hT
  induction t with
  | lf =>
    intro b g off n c vs w hn hTa hr hl hnc hc9 ho9 htn hin
    have H := Lib.hid hn
    have h0 : 0 < vs.length := by simp [Tr.carets] at htn; omega
    have c1 := hr 0 h0
    have hv : valT T .lf vs = vs.getD 0 0 := rfl
    rw [hv, Nat.add_zero] at *
    generalize vs.getD 0 0 = x at *
    have hn0 : 0 < n := by omega
    have hn1 : 1 ≤ n := by omega
    have hc1' : 1 ≤ c := by omega
    clear hn hTa hr hl htn hin h0 hv
    by_cases hc1 : c = 1
    · subst hc1
      have hn9 : n = 1 := by omega
      subst hn9
      go_enter Try.func82, Try.ntmps82
      go_wp2_with fail
      refine (isLeaf_any .lf b _ H.out).mono ?_; rintro e w1 ⟨rfl, rfl⟩
      simp only [Tr.isLf]
      go_wp2_with fail
      go_region
      go_wp2_with fail
      go_ret2
      exact ⟨_, rfl, fun h => absurd h (by simp [Tr.carets]), (Below.refl _ _).drew⟩
    · go_enter Try.func82, Try.ntmps82
      go_wp2_with fail
      refine (isLeaf_any .lf b _ H.out).mono ?_; rintro e w1 ⟨rfl, rfl⟩
      simp only [Tr.isLf]
      go_wp2_with fail
      go_region
      go_wp2_with fail
      go_ret2
      exact ⟨_, rfl, fun h => rfl, (Below.refl _ _).drew⟩
  | nd l r ihl ihr =>
    intro b g off n c vs w hn hTa hr hl hnc hc9 ho9 htn hin
    have htn' : l.carets + r.carets + 2 ≤ n := by simp only [Tr.carets] at htn; omega
    have H := Lib.hid hn
    obtain ⟨bl, br, h, hnl, hnr⟩ := hn
    have h1 := two_left h
    have h2 := two_right h
    have HLT := lt_of_block h
    have hv1 := valT_in hT l vs (by omega) hin
    have hv2 := valT_in hT r (vs.drop (l.carets + 1)) (by rw [List.length_drop]; omega) (fun x hx => hin x (List.mem_of_mem_drop hx))
    have hvv : valT T (.nd l r) vs = prd T (valT T l vs) (valT T r (vs.drop (l.carets + 1))) := rfl
    have jl := fun w hx hy hz => ihl bl g off n c vs w hx hy hz hl hnc hc9 ho9 (by omega) hin
    have jr := fun w hx hy hz => ihr br g (off + (l.carets + 1)) (n - (l.carets + 1)) (c - (l.carets + 1)) (vs.drop (l.carets + 1)) w hx hy hz (by rw [List.length_drop]; omega) (by omega) (by omega) (by omega) (by omega) (fun x hx => hin x (List.mem_of_mem_drop hx))
    obtain ⟨i, hi⟩ : ∃ i : Nat, valT T l vs = (i : Int) := ⟨(valT T l vs).toNat, by omega⟩
    obtain ⟨j, hj⟩ : ∃ j : Nat, valT T r (vs.drop (l.carets + 1)) = (j : Int) := ⟨(valT T r (vs.drop (l.carets + 1))).toNat, by omega⟩
    rw [hvv, hi, hj]
    rw [hi] at jl hv1
    rw [hj] at jr hv2
    have hiT : i < T.length := by omega
    have hjT : j < T.length := by omega
    obtain ⟨p1, p2⟩ := hTa.prod hT hiT hjT
    have HTA := Lib.hid hTa
    have HRD := Lib.hid hr
    have HRD2 := Lib.hid (hr.drop (l.carets + 1))
    have HNL := Lib.hid hnl
    have HNR := Lib.hid hnr
    rw [← hnT] at p1 hiT hjT
    have hk1 : (Tr.nd l r).carets + 1 = (l.carets + 1) + (r.carets + 1) := by simp only [Tr.carets]; omega
    rw [hk1]
    obtain ⟨kl, hkl⟩ : ∃ k, k = l.carets + 1 := ⟨_, rfl⟩
    obtain ⟨kr, hkr⟩ : ∃ k, k = r.carets + 1 := ⟨_, rfl⟩
    rw [← hkl] at jl jr HRD2 ⊢
    rw [← hkr] at jr ⊢
    have hsum : kl + kr ≤ n := by omega
    have hkr1 : 1 ≤ kr := by omega
    generalize prd T i j = x at *
    generalize gs.getD i 0 = gr at *
    have g1 := World.block_lt_of_cell? w _ p1
    have g2 := World.block_lt_of_cell? w _ p2
    clear ihl ihr hv1 hv2 hvv hi hj h hnl hnr hTa hr hl hin htn htn' hk1 hkl hkr hT hnT hT4
    go_enter Try.func82, Try.ntmps82
    go_wp2_with fail
    refine (isLeaf_any (.nd l r) b _ H.out).mono ?_; rintro e w1 ⟨rfl, rfl⟩
    simp only [Tr.isLf]
    go_wp2_with fail
    refine (jl _ HNL.out HTA.out HRD.out).mono ?_; rintro e w1 ⟨a1, rfl, ha1, hb1⟩
    obtain rfl := ha1 (by omega)
    have h2' := (hb1.cell (p := ⟨b, 1, none⟩) HLT).trans h2
    have hNR := HNR.out.keep hb1
    have hTA := HTA.out.keep hb1
    have hRD2 := HRD2.out.keep hb1
    go_wp2_with fail
    refine (jr _ hNR hTA hRD2).mono ?_; rintro e w2 ⟨a2, rfl, ha2, hb2⟩
    have hbb := nx hb1 hb2
    have p1' := (hbb.cell (p := ⟨gT, i, none⟩) g1).trans p1
    have p2' := (hbb.cell (p := ⟨gr, j, none⟩) g2).trans p2
    have HA2 := Lib.hid ha2
    clear ha2 hNR hTA hRD2
    go_wp2_with fail
    go_ret2
    refine ⟨a2, ?_, fun h => ?_, hbb⟩
    · first
      | rfl
      | (rw [Nat.sub_sub, Nat.sub_sub]; rfl)
    · have h9 := HA2.out (by omega)
      rw [h9, Nat.add_assoc]
end Go.Proofs.Ytkoebmdocenlkab
