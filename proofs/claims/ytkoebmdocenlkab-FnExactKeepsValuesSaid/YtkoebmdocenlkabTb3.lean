/- Walks: spec.brValue. -/
import Derived.Test.YtkoebmdocenlkabTb2
import Derived.Test.YtkoebmdocenlkabRegT
namespace Go.Proofs.Ytkoebmdocenlkab
open Go.RowKit

set_option maxRecDepth 100000 in
set_option maxHeartbeats 2000000 in
theorem brValue_any (gT cT : Nat) (gs : List Nat) (T : List (List Int)) (hT : tabB T = true) (nT : Nat) (hnT : nT = T.length) (t : Tr) : ∀ (g off n c : Nat) (vs : List Int) (w : World), t.carets ≤ 60 → TabAt w gT gs T → ReadI w g off vs → vs.length = n → n ≤ c → c ≤ 9223372036854775807 → off + n ≤ 1000000000 → t.carets + 1 ≤ n → (∀ x ∈ vs, 0 ≤ x ∧ x < T.length) →
    Calls Try.prog 78 #[.string t.str, .slice (some ⟨gT, 0, none⟩) nT cT, .slice (some ⟨g, off, none⟩) n c] w (Gives (.int .i64 (valT T t vs)) w) := by
  induction t with
  | lf =>
    intro g off n c vs w _ hTa hr hl hnc hc9 ho9 htn hin
    have h0 : 0 < vs.length := by simp [Tr.carets] at htn; omega
    have c1 := hr 0 h0
    have hv : valT T .lf vs = vs.getD 0 0 := rfl
    rw [hv, Nat.add_zero] at *
    generalize vs.getD 0 0 = x at *
    have hn0 : 0 < n := by omega
    clear hTa hr hl htn hin h0 hv
    go_enter Try.func78, Try.ntmps78
    go_wp2_with fail
    refine (trLeaf_any .lf _).mono ?_; rintro e w1 ⟨rfl, rfl⟩
    simp only [Tr.isLf]
    go_wp2_with fail
    go_ret
    exact ⟨rfl, Below.refl _ _⟩
  | nd l r ihl ihr =>
    intro g off n c vs w hc60 hTa hr hl hnc hc9 ho9 htn hin
    have hc60' : l.carets + r.carets + 1 ≤ 60 := hc60
    have htn' : l.carets + r.carets + 2 ≤ n := by simp only [Tr.carets] at htn; omega
    have hv1 := valT_in hT l vs (by omega) hin
    have hv2 := valT_in hT r (vs.drop (l.carets + 1)) (by rw [List.length_drop]; omega) (fun x hx => hin x (List.mem_of_mem_drop hx))
    have hvv : valT T (.nd l r) vs = prd T (valT T l vs) (valT T r (vs.drop (l.carets + 1))) := rfl
    have hvl := valT_take T l vs (l.carets + 1) (Nat.le_refl _)
    have jl := fun w hy hz => ihl g off (l.carets + 1) c (vs.take (l.carets + 1)) w (by omega) hy hz (by rw [List.length_take]; omega) (by omega) hc9 (by omega) (Nat.le_refl _) (fun x hx => hin x (List.mem_of_mem_take hx))
    have jr := fun w hy hz => ihr g (off + (l.carets + 1)) (n - (l.carets + 1)) (c - (l.carets + 1)) (vs.drop (l.carets + 1)) w (by omega) hy hz (by rw [List.length_drop]; omega) (by omega) (by omega) (by omega) (by omega) (fun x hx => hin x (List.mem_of_mem_drop hx))
    rw [hvl] at jl
    obtain ⟨i, hi⟩ : ∃ i : Nat, valT T l vs = (i : Int) := ⟨(valT T l vs).toNat, by omega⟩
    obtain ⟨j, hj⟩ : ∃ j : Nat, valT T r (vs.drop (l.carets + 1)) = (j : Int) := ⟨(valT T r (vs.drop (l.carets + 1))).toNat, by omega⟩
    rw [hvv, hi, hj]
    rw [hi] at jl hv1
    rw [hj] at jr hv2
    have hiT : i < T.length := by omega
    have hjT : j < T.length := by omega
    obtain ⟨p1, p2⟩ := hTa.prod hT hiT hjT
    have hC := fun w => carets_str l w (by omega)
    rw [← hnT] at p1 hiT hjT
    have hrt : ReadI w g off (vs.take (l.carets + 1)) := by
      intro q hq
      rw [List.length_take] at hq
      have := hr q (by omega)
      rw [this]
      simp [List.getD_eq_getElem?_getD, show q < l.carets + 1 by omega]
    have hrd := hr.drop (l.carets + 1)
    have E1 : Hid (∀ w', Below w.heap.size w w' → Calls Try.prog 78 #[.string l.str, .slice (some ⟨gT, 0, none⟩) nT cT, .slice (some ⟨g, off, none⟩) (l.carets + 1) c] w' (Gives (.int .i64 i) w')) := fun w' hb => jl w' (hTa.keep hb) (hrt.keep hb)
    have E2 : Hid (∀ w', Below w.heap.size w w' → Calls Try.prog 78 #[.string r.str, .slice (some ⟨gT, 0, none⟩) nT cT, .slice (some ⟨g, off + (l.carets + 1), none⟩) (n - (l.carets + 1)) (c - (l.carets + 1))] w' (Gives (.int .i64 j) w')) := fun w' hb => jr w' (hTa.keep hb) (hrd.keep hb)
    have hkn : (l.carets + 1) < n := by omega
    have hkc1 : (l.carets + 1) ≤ c := by omega
    have hck : ¬ c = (l.carets + 1) := by omega
    have HS : Hid (∀ w, Calls Try.prog 88 #[.string (Tr.nd l r).str] w fun e w' => e = .returned (.tuple #[.string l.str, .string r.str]) ∧ Below w.heap.size w w') := fun w => trSides_any l r w (by omega)
    generalize prd T i j = x at *
    generalize gs.getD i 0 = gr at *
    have hf1 : l.carets < c := by omega
    have hf2 : ((l.carets : Nat) : Int) + 1 ≤ (c : Int) := by omega
    have hf3 : ((l.carets : Nat) : Int) + 1 ≤ (n : Int) := by omega
    have hf4 : l.carets < n := by omega
    have hf5 : (0 : Int) ≤ ((l.carets : Nat) : Int) + 1 := by omega
    generalize l.carets = lc at *
    clear ihl ihr hv1 hv2 hvv hi hj hTa hr hl hin htn htn' hT hnT jl jr hrt hrd hvl hc60'
    go_enter Try.func78, Try.ntmps78
    go_wp2_with fail
    refine (trLeaf_any (.nd l r) _).mono ?_; rintro e w1 ⟨rfl, rfl⟩
    simp only [Tr.isLf]
    go_wp2_with fail
    refine (HS.out _).mono ?_; rintro e w1 ⟨rfl, hb1⟩
    have F1 : ∀ w', Cls w1 w' → Calls Try.prog 78 #[.string l.str, .slice (some ⟨gT, 0, none⟩) nT cT, .slice (some ⟨g, off, none⟩) (lc + 1) c] w' (Gives (.int .i64 i) w') := fun w' hb => E1.out w' (nx hb1 hb)
    have F2 : ∀ w', Cls w1 w' → Calls Try.prog 78 #[.string r.str, .slice (some ⟨gT, 0, none⟩) nT cT, .slice (some ⟨g, off + (lc + 1), none⟩) (n - (lc + 1)) (c - (lc + 1))] w' (Gives (.int .i64 j) w') := fun w' hb => E2.out w' (nx hb1 hb)
    have q1 := (hb1.cell (p := ⟨gT, i, none⟩) (World.block_lt_of_cell? w _ p1)).trans p1
    have q2 := (hb1.cell (p := ⟨gr, j, none⟩) (World.block_lt_of_cell? w _ p2)).trans p2
    have l1 := World.block_lt_of_cell? w1 _ q1
    have l2 := World.block_lt_of_cell? w1 _ q2
    clear E1 E2 p1 p2
    go_wp2_with fail
    refine (hC _).mono ?_; rintro e w2 ⟨rfl, rfl⟩
    go_wp2_with fail
    refine wp_region_cls (by kernel_rfl) (by kernel_rfl) ?_
    repeat (
      refine wpQuiet_step (fun K hK => ?_)
      go_simp
      first
        | (refine hK _ ?_; clear hK K)
        | (refine ⟨_, fun _ _ => rfl, hK _ ?_⟩; clear hK K)
        | (apply Exists.intro
           refine ⟨fun w' hw' => ?_, hK _ ?_⟩
           · first
               | (rw [hw'.cell l1 q1]; exact ⟨rfl, rfl⟩)
               | (rw [hw'.cell l2 q2]; exact ⟨rfl, rfl⟩)
               | (go_at_call 78; first | (with_reducible exact hw'.call (F1 _ hw')) | (with_reducible exact hw'.call (F2 _ hw')))
           clear hK K))
    refine wpQuiet_nil ?_
    intro w' hw'
    go_wp2_with fail
    go_ret
    exact ⟨rfl, nx hb1 hw'⟩
end Go.Proofs.Ytkoebmdocenlkab
