/- FnExactPairOfForest: for every input the law returns true and leaves its arguments as they were. No conditions. -/
import Derived.Test.YtplmbdljhgicfaaMgPairOfForest2
import Derived.ProofKit
import Derived.OpenShut
import Derived.ShutString
import Derived.ChangeOld
import Derived.Below
import Derived.SliceStrings
/-! WPairOfForest -/
namespace Go.Proofs.Ytplmbdljhgicfaa
open Go.RowKit

set_option maxRecDepth 100000 in
set_option maxHeartbeats 4000000 in
theorem fnExactPairOfForest_law (W : World) (a0 : Option Addr) (len0 cap0 : Nat) (L : List ByteArray) (hl0 : L.length = len0) (hm0 : (len0 : Int) ≤ 9223372036854775807) (hz0 : ∀ s ∈ L, (s.size : Int) ≤ 9223372036854775807) (hin0 : InS W a0 L) :
    Calls Try.prog 11 #[.slice a0 len0 cap0] W fun e w' => e = .returned (.bool true) ∧ Below W.heap.size W w' := by
  have hsz0 := fun left h0 h1 => szStringS_at a0 cap0 len0 L left W h0 h1 hl0 hm0 hz0 hin0
  have HI0 := Lib.hid hin0
  have HL0 := Lib.hid hl0
  clear hin0 hz0 hl0
  go_enter Try.func11, Try.ntmps11
  go_wp2_with fail
  refine (hsz0 1048576 (by omega) (by omega)).mono ?_; rintro e w1 ⟨r0, rfl, rfl, hM0, hR0⟩
  by_cases hneg0 : r0 < 0
  · clear hM0 hR0
    go_wp2_with fail
    go_ret
    exact ⟨rfl, Below.refl _ _⟩
  have hM0' := hM0.out
  obtain ⟨hn0, hs0⟩ := hR0.out (by omega)
  have HS0 := Lib.hid hs0
  have HN0 := Lib.hid hn0
  clear hM0 hR0 hs0 hn0 hsz0
  have hS : ∀ (v0 : Value) (b0 : Nat) (w : World), CellsS b0 w v0 L → Calls Try.prog 36 #[v0] w (Gives (ansPr ((forOf L).bind fun us => limP (pairF us))) w) := fun v0 b0 w h0 => specPairOfForest_any v0 b0 L w h0 HS0.out HN0.out
  have hI : ∀ (v0 : Value) (b0 : Nat) (w : World), CellsS b0 w v0 L → Calls Try.prog 37 #[v0] w (Gives (ansPr ((forOf L).bind fun us => limP (pairF us))) w) := fun v0 b0 w h0 => implPairOfForest_any v0 b0 L w h0 HS0.out HN0.out
  generalize ((forOf L).bind fun us => limP (pairF us)) = o at hS hI
  unfold ansPr at hS hI
  generalize pS1 o = A at hS hI
  generalize pS2 o = B at hS hI
  generalize o.isSome = ok at hS hI
  clear o
  have hT0 := fun w h => toStringS_any a0 cap0 len0 L w HL0.out (by have := HN0.out; have := HL0.out; omega) h
  have hN0 : len0 ≤ 1048576 := by have := HN0.out; have := HL0.out; omega
  clear HS0 HN0
  have hc0 := Below.refl W.heap.size W
  go_wp2_with fail
  refine (hT0 _ (HI0.out.keep hc0)).mono ?_; rintro e u1 ⟨pg0, po0, hb, rfl⟩
  have hc1 := nx hc0 hb
  clear hb hc0
  go_wp2_with fail
  refine (hS _ _ _ po0.cells).mono ?_; rintro e u2 ⟨rfl, hb⟩
  clear po0
  have hc2 := nx hc1 hb
  clear hb hc1
  go_wp2_with fail
  have hb := nxAlloc (Below.refl u2.heap.size u2) (.cells #[.string A, .string B] 40 (0, 0))
  have hy := heap_alloc_at u2 (.cells #[.string A, .string B] 40 (0, 0))
  generalize u2.alloc (.cells #[.string A, .string B] 40 (0, 0)) = u3 at *
  have hc3 := nx hc2 hb
  clear hb hc2
  refine (hT0 _ (HI0.out.keep hc3)).mono ?_; rintro e u4 ⟨qg0, qo0, hb, rfl⟩
  have hc4 := nx hc3 hb
  replace hy := heap_keep hb hy
  clear hb hc3
  go_wp2_with fail
  refine (hI _ _ _ qo0.cells).mono ?_; rintro e u5 ⟨rfl, hb⟩
  have hc5 := nx hc4 hb
  replace hy := heap_keep hb hy
  replace qo0 := qo0.keep hb
  clear hb hc4
  obtain ⟨ya, yb, yc⟩ := two_facts hy
  obtain ⟨yf, yg⟩ := two_frozen hy
  go_wp2_with fail
  have hb := nxAlloc (Below.refl u5.heap.size u5) (.cells #[.string A, .string B] 40 (0, 0))
  have hz9 := heap_alloc_at u5 (.cells #[.string A, .string B] 40 (0, 0))
  generalize u5.alloc (.cells #[.string A, .string B] 40 (0, 0)) = u6 at *
  have hc6 := nx hc5 hb
  replace hy := heap_keep hb hy
  replace qo0 := qo0.keep hb
  clear ya yb yc yf yg
  clear hb hc5
  refine (eqPair_same A B _).mono ?_; rintro e u7 ⟨rfl, hb⟩
  clear hz9
  clear hy
  have hc7 := nx hc6 hb
  replace qo0 := qo0.keep hb
  clear hb hc6
  go_wp2_with fail
  refine (hT0 _ (HI0.out.keep hc7)).mono ?_; rintro e u8 ⟨rg0, ro0, hb, rfl⟩
  have hc8 := nx hc7 hb
  replace qo0 := qo0.keep hb
  clear hb hc7
  go_wp2_with fail
  refine (eqStringS_any _ _ _ _ L _ qo0.cells ro0.cells).mono ?_; rintro e u9 ⟨rfl, dd, hw⟩
  have hb : Below u8.heap.size u8 u9 := by rw [hw]; exact drewB (Below.refl _ _) dd
  clear hw ro0
  have hc9 := nx hc8 hb
  replace qo0 := qo0.keep hb
  clear hb hc8
  go_wp2_with fail
  go_ret
  exact ⟨rfl, hc9⟩

theorem fnExactPairOfForest_walk (W : World) (a0 : Option Addr) (len0 cap0 : Nat) (z0 : List ByteArray) (h0 : IsStrs W a0 len0 cap0 z0) :
    Calls Try.prog 11 #[.slice a0 len0 cap0] W fun e w' => e = .returned (.bool true) ∧ Below W.heap.size W w' := by
  obtain ⟨x0, y0, s0, t0⟩ := h0.inS
  exact fnExactPairOfForest_law W a0 len0 cap0 (z0.take len0) y0 s0 t0 x0

end Go.Proofs.Ytplmbdljhgicfaa

/-! LFnExactPairOfForest -/
namespace Go.Proofs.Ytplmbdljhgicfaa.fnExactPairOfForest
open Go.ChangeShapes Go.WideShapes Go.ChangeAt Go.RowKit
open Go.ChangeMaps (open_string shut_string)
set_option linter.unusedVariables false

theorem own : ownKnob Try.prog.godebug = none := by kernel_rfl
theorem laidOut : laidOutB Try.prog = true := by kernel_rfl

set_option maxRecDepth 100000 in
theorem lifted (os : Os) (started : os.Started) (H : Type) (enc : TypeId × Value → H) :
    ReturnsInHanded {} Try.checked os 11 .any (Rows.fnExactPairOfForestSpec.pre6 enc Try.prog Try.f11 Rows.fnExactPairOfForestRow.domain false) (Rows.fnExactPairOfForestSpec.post enc Try.prog Try.f11 false true false false) := by
  refine returnsInHanded_of_change (C := Try.checked) own started (by kernel_rfl) Try.func11
    (ChangeSpec.witness6 (enc := enc) (C := Try.checked) false ⟨#[], #[.slice none 0 0], []⟩ 8 (by kernel_rfl) (by kernel_rfl) (by kernel_rfl) (by kernel_rfl)) ?_
  intro W base args ds gs before hval0 hW hcnd _
  have hval : ∀ (j : Nat) t v, Try.f11.params[j]? = some t → args[j]? = some v → Value.okWide Try.prog W .any base t v := hval0
  have hW' := hW
  obtain ⟨p, q, hA0, hV, rfl, hfz, hnd⟩ := hW
  have hA : DataW.TrodAll enc Try.prog W 0 (fun _ => true) true Try.f11.params.toList args.toList ds p := hA0
  rw [Try.params11] at hA hval
  obtain ⟨v0, vs0, d0, ds0, p0, q0, hargs, rfl, rfl, h0, r0⟩ := trodAll_cons hA
  obtain ⟨rfl, rfl, rfl⟩ := trodAll_nil r0
  obtain rfl : args = #[v0] := by cases args; simp_all
  obtain ⟨rfl, rfl⟩ := trodVars_none hV
  obtain ⟨a0, len0, cap0, rfl⟩ := okWide_slice Try.underlying22 (hval 0 22 v0 rfl rfl)
  have k0 := h0
  have lt0 : ∀ x ∈ p0, x.block < W.heap.size := by obtain ⟨m, hm⟩ := k0; exact DataW.trod_lt m _ _ _ hm
  obtain ⟨z0, w0⟩ : ∃ zs, IsStrs W a0 len0 cap0 zs := by
    obtain ⟨fuel, hf⟩ := h0
    rcases open_strings Try.underlying22 Try.underlying9 (by kernel_rfl) hf with ⟨hcs, _⟩ | ⟨x, l, c, zs, hcs, _, hl, hm, hz, _, hcell, hwz⟩
    · simp [Value.cells] at hcs
      obtain ⟨rfl, rfl, rfl⟩ := hcs
      exact ⟨[], .inl ⟨rfl, rfl, rfl, rfl⟩⟩
    · simp [Value.cells] at hcs
      obtain ⟨rfl, rfl, rfl⟩ := hcs
      exact ⟨zs, .inr ⟨_, rfl, hl, hm, by simpa using hz, hcell, hwz⟩⟩
  clear hA0 hval0
  simp only [List.append_nil] at hW'
  refine (fnExactPairOfForest_walk W a0 len0 cap0 z0 w0).mono fun e W' ⟨he, bel⟩ => ?_
  subst he
  exact ⟨_, rfl, _, _, _, [], _, [], hW', trodAll_mk1 (shut_bool Try.underlying4 _), (trodAll_cons_mk (Below.trod laidOut (by kernel_rfl) (of_decide_eq_true (by kernel_rfl)) k0 bel lt0) trodAll_mk0), rfl, bel.frame _, fun h => by cases h⟩

theorem over : Rows.fnExactPairOfForestRow.holds Try.pinned (OpenSpec.ofChange Rows.fnExactPairOfForestSpec) :=
  OpenClaim.holds_of_wide 11 Try.f11 rfl rfl rfl rfl rfl rfl rfl ⟨rfl, rfl, rfl, rfl, rfl⟩ rfl rfl rfl rfl rfl (by kernel_rfl) Try.func11 (by kernel_rfl)
    (of_decide_eq_true (by kernel_rfl)) (by unfold Func.isWrapper; first | (rw [if_pos (by decide +kernel)]; kernel_rfl) | (rw [if_neg (by decide +kernel)]; exact ⟨rfl, rfl⟩))
    (fun os started H enc _ => lifted os started H enc)

theorem proved : Rows.FnExactPairOfForestSaid := over
#print axioms proved
end Go.Proofs.Ytplmbdljhgicfaa.fnExactPairOfForest
