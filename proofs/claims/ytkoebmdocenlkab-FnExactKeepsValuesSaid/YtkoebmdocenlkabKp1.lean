/- Walks: brKeeps. -/
import Derived.Test.YtkoebmdocenlkabTb3
import Derived.Test.YtkoebmdocenlkabTc2
import Derived.Test.YtkoebmdocenlkabRu2
import Derived.Test.YtkoebmdocenlkabHeldW
import Derived.Deep.AppendLies
namespace Go.Proofs.Ytkoebmdocenlkab
open Go.RowKit

/-- A list of numbers that can be read: nothing, or cells of a block. -/
def VecAt (w : World) (v : Value) (vs : List Int) : Prop := (v = .slice none 0 0 ∧ vs = []) ∨ ∃ g cap, v = .slice (some ⟨g, 0, none⟩) vs.length cap ∧ vs.length ≤ cap ∧ cap ≤ 9223372036854775807 ∧ ReadI w g 0 vs
theorem VecAt.keep {w w' : World} {v : Value} {vs : List Int} (h : VecAt w v vs) (hb : Below w.heap.size w w') : VecAt w' v vs := by
  rcases h with h | ⟨g, cap, h1, h2, h3, h4⟩
  · exact .inl h
  · exact .inr ⟨g, cap, h1, h2, h3, h4.keep hb⟩
theorem VecAt.src {w : World} {v : Value} {vs : List Int} (h : VecAt w v vs) : SrcV w v (vs.map (Value.int .i64)) := by
  rcases h with ⟨h1, h2⟩ | ⟨g, cap, h1, h2, h3, h4⟩
  · exact .inl ⟨h1, by rw [h2]; rfl⟩
  · refine .inr ⟨⟨g, 0, none⟩, cap, by rw [h1, List.length_map], fun j x hj => ?_⟩
    rw [List.getElem?_map] at hj
    cases hx : vs[j]? with
    | none => rw [hx] at hj; cases hj
    | some y =>
      rw [hx] at hj
      simp at hj
      subst hj
      have hlt := (List.getElem?_eq_some_iff.1 hx).1
      have := h4 j hlt
      rw [show vs.getD j 0 = y by simp [List.getD_eq_getElem?_getD, hx]] at this
      rw [Nat.zero_add] at this
      have e : (⟨g, 0, none⟩ : Addr).add j = ⟨g, j, none⟩ := by cases j <;> simp [Addr.add]
      rw [e]
      exact this
theorem OwnI.vec {base : Nat} {w : World} {v : Value} {vs : List Int} (h : OwnI base w v vs) : VecAt w v vs := by
  rcases h.cells with ⟨h1, h2⟩ | ⟨g, cap, h1, _, _, h2, h3, h4, _⟩
  · exact .inl ⟨h1, h2⟩
  · subst h1
    exact .inr ⟨g, cap, rfl, h2, by unfold maxLen at h3; omega, h.read⟩
theorem VecAt.len {w : World} {v : Value} {vs : List Int} (h : VecAt w v vs) : ∃ oa cap, v = .slice oa vs.length cap := by
  rcases h with ⟨h1, h2⟩ | ⟨g, cap, h1, _⟩
  · exact ⟨none, 0, by rw [h1, h2]; rfl⟩
  · exact ⟨_, _, h1⟩

set_option maxRecDepth 100000 in
set_option maxHeartbeats 4000000 in
theorem brKeeps_any (gT cT : Nat) (gs : List Nat) (T : List (List Int)) (hT : tabB T = true) (nT : Nat) (hnT : nT = T.length) (t u : Tr) (htu : u.carets = t.carets) (h60 : t.carets ≤ 60) : ∀ (r : Nat) (vs : List Int) (v : Value) (w : World), vs.length + r = t.carets + 1 → TabAt w gT gs T → VecAt w v vs → (∀ x ∈ vs, 0 ≤ x ∧ x < T.length) →
    Calls Try.prog 45 #[.agg #[.string t.str, .string u.str], .slice (some ⟨gT, 0, none⟩) nT cT, v] w (Gives (.bool (kpB T t u r vs)) w) := by
  intro r
  induction r with
  | zero =>
    intro vs v w hl hTa hv hin
    obtain ⟨g, cap, rfl, hc1, hc2, hr⟩ : ∃ g cap, v = .slice (some ⟨g, 0, none⟩) vs.length cap ∧ vs.length ≤ cap ∧ cap ≤ 9223372036854775807 ∧ ReadI w g 0 vs := by
      rcases hv with ⟨_, h2⟩ | h
      · rw [h2] at hl; simp at hl
      · exact h
    obtain ⟨n, hn⟩ : ∃ n, n = vs.length := ⟨_, rfl⟩
    rw [← hn] at hc1 ⊢
    have V1 : Hid (∀ w', Below w.heap.size w w' → Calls Try.prog 78 #[.string t.str, .slice (some ⟨gT, 0, none⟩) nT cT, .slice (some ⟨g, 0, none⟩) n cap] w' (Gives (.int .i64 (valT T t vs)) w')) := fun w' hb => brValue_any gT cT gs T hT nT hnT t g 0 n cap vs w' (by omega) (hTa.keep hb) (hr.keep hb) hn.symm hc1 hc2 (by omega) (by omega) hin
    have V2 : Hid (∀ w', Below w.heap.size w w' → Calls Try.prog 78 #[.string u.str, .slice (some ⟨gT, 0, none⟩) nT cT, .slice (some ⟨g, 0, none⟩) n cap] w' (Gives (.int .i64 (valT T u vs)) w')) := fun w' hb => brValue_any gT cT gs T hT nT hnT u g 0 n cap vs w' (by omega) (hTa.keep hb) (hr.keep hb) hn.symm hc1 hc2 (by omega) (by omega) hin
    have hK : Hid (kpB T t u 0 vs = (valT T t vs == valT T u vs)) := rfl
    have hC := fun w => carets_str t w (by omega)
    have hq : (((n : Nat) : Int) == (t.carets : Int) + 1) = true := by simp; omega
    have hn9 : (n : Int) ≤ 61 := by omega
    generalize valT T t vs = x1 at *
    generalize valT T u vs = x2 at *
    generalize kpB T t u 0 vs = kb at *
    clear hl hTa hv hin hr hc1 hc2 hn hT hnT
    generalize t.carets = tc at *
    go_enter Try.func45, Try.ntmps45
    go_wp2_with fail
    have hb0 : Below w.heap.size w (w.alloc (.cells #[.string t.str, .string u.str] 32 (0, 0))) := nxAlloc (Below.refl _ _) _
    have hx0 := heap_alloc_at w (.cells #[.string t.str, .string u.str] 32 (0, 0))
    generalize (w.alloc (.cells #[.string t.str, .string u.str] 32 (0, 0))) = w0 at *
    obtain ⟨q1, q2, l1⟩ := two_facts hx0
    refine (hC _).mono ?_; rintro e w1 ⟨rfl, rfl⟩
    have F1 : ∀ w', Cls w0 w' → Calls Try.prog 78 #[.string t.str, .slice (some ⟨gT, 0, none⟩) nT cT, .slice (some ⟨g, 0, none⟩) n cap] w' (Gives (.int .i64 x1) w') := fun w' hb => V1.out w' (nx hb0 hb)
    have F2 : ∀ w', Cls w0 w' → Calls Try.prog 78 #[.string u.str, .slice (some ⟨gT, 0, none⟩) nT cT, .slice (some ⟨g, 0, none⟩) n cap] w' (Gives (.int .i64 x2) w') := fun w' hb => V2.out w' (nx hb0 hb)
    clear V1 V2 hx0
    go_wp2_with fail
    refine wp_region_cls (by kernel_rfl) (by kernel_rfl) ?_
    repeat (
      refine wpQuiet_step (fun K hK => ?_)
      go_simp
      first
        | (refine hK _ ?_; clear hK K)
        | (refine ⟨_, fun _ _ => rfl, hK _ ?_⟩; clear hK K)
        | (apply Exists.intro
           refine ⟨fun w' hw' => ?_, hK _ ?_⟩
           · first
               | (rw [hw'.cell l1 q1]; exact ⟨rfl, rfl⟩)
               | (rw [hw'.cell l1 q2]; exact ⟨rfl, rfl⟩)
               | (go_at_call 78; first | (with_reducible exact hw'.call (F1 _ hw')) | (with_reducible exact hw'.call (F2 _ hw')))
           clear hK K))
    refine wpQuiet_nil ?_
    intro w' hw'
    go_wp2_with fail
    go_ret
    exact ⟨ret_bool (by rw [hK.out]), nx hb0 hw'⟩
  | succ r ih =>
    intro vs v w hl hTa hv hin
    have hO := fun w h => l1Own_any v vs w h (by omega)
    have hC := fun w => carets_str t w (by omega)
    obtain ⟨oa, cap, rfl⟩ := hv.len
    obtain ⟨i0, hi, hz0, hz1, hz2⟩ := info_parts info_int
    obtain ⟨n, hn⟩ : ∃ n, n = vs.length := ⟨_, rfl⟩
    have hq : (((n : Nat) : Int) == (t.carets : Int) + 1) = false := by simp; omega
    have hn9 : n ≤ 61 := by omega
    have hT4 := tabB_len hT
    have hnT4 : nT ≤ 4 := by omega
    have HIH : Hid (∀ (k : Nat) (v : Value) (w : World), k < nT → TabAt w gT gs T → VecAt w v (vs ++ [(k : Int)]) → Calls Try.prog 45 #[.agg #[.string t.str, .string u.str], .slice (some ⟨gT, 0, none⟩) nT cT, v] w (Gives (.bool (kpB T t u r (vs ++ [(k : Int)]))) w)) := by
      show ∀ k, _
      intro k v w hk h1 h2
      refine ih _ v w (by rw [List.length_append]; simp; omega) h1 h2 fun x hx => ?_
      rcases List.mem_append.1 hx with hx | hx
      · exact hin x hx
      · simp at hx; subst hx; omega
    have HK : Hid (kpB T t u (r + 1) vs = (List.range nT).all fun k => kpB T t u r (vs ++ [(k : Int)])) := by show _ = _; rw [hnT]; rfl
    generalize kpB T t u (r + 1) vs = kb at *
    rw [← hn] at hO hv ⊢
    have HNV := Lib.hid hn
    have HT := Lib.hid hTa
    have HV := Lib.hid hv
    clear hl hTa hv hin ih hT hnT hT4 hn
    generalize t.carets = tc at *
    go_enter Try.func45, Try.ntmps45
    go_wp2_with fail
    have hb0 : Below w.heap.size w (w.alloc (.cells #[.string t.str, .string u.str] 32 (0, 0))) := nxAlloc (Below.refl _ _) _
    have hx0 := heap_alloc_at w (.cells #[.string t.str, .string u.str] 32 (0, 0))
    generalize (w.alloc (.cells #[.string t.str, .string u.str] 32 (0, 0))) = w0 at *
    obtain ⟨q1, q2, l1⟩ := two_facts hx0
    obtain ⟨B, hB⟩ : ∃ B, B = w.heap.size := ⟨_, rfl⟩
    rw [← hB] at q1 q2 l1 ⊢
    clear hB hx0
    refine (hC _).mono ?_; rintro e w1 ⟨rfl, rfl⟩
    go_wp2_with fail
    go_loopw [28] (fun i wr => ∃ k : Nat, i = .int .i64 k ∧ k ≤ nT ∧ Below w0.heap.size w0 wr ∧ Hid (∀ x, x < k → kpB T t u r (vs ++ [(x : Int)]) = true)) (fun i _ => nT - (intOf i).toNat)
    case atStart => exact ⟨0, rfl, Nat.zero_le _, Below.refl _ _, fun x hx => absurd hx (Nat.not_lt_zero x)⟩
    case round =>
      obtain ⟨k, rfl, hk, hbw, hall⟩ := hrel
      by_cases hlt : k < nT
      · have hlt' : (k : Int) < (nT : Int) := by omega
        have f1 := keep_cell hbw q1
        have f2 := keep_cell hbw q2
        have hz := Below.refl wr.heap.size wr
        have hbw0 := nx hb0 hbw
        have hsrc := (HV.out.keep hbw0).src
        have RR := fun v w => HIH.out k v w hlt
        cases hkb : kpB T t u r (vs ++ [(k : Int)]) with
        | true =>
          rw [hkb] at RR
          have hall' : Hid (∀ x, x < k + 1 → kpB T t u r (vs ++ [(x : Int)]) = true) := by
            show ∀ x, _
            intro x hx
            by_cases h : x = k
            · subst h; exact hkb
            · exact hall.out x (by omega)
          clear hkb hall
          go_wp2_with fail
          refine wp_region_held_drew (S := (fun (w' : World) => w'.cell? ⟨B, 0, none⟩ = some (.string t.str) ∧ w'.cell? ⟨B, 1, none⟩ = some (.string u.str))) (by kernel_rfl) ⟨f1, f2⟩ (fun hH0 => ?_)
          refine wpAnyH_take (i := 0) (oi := ?oi201) (v := ?vv201) ?hi201 ?hn201 ?hf201 ?hr201 ?hq201 (Or.inl ⟨?hg201, ?hy201⟩) hH0 ?rest201
          case hi201 => (simp only [List.getElem?_toArray, List.getElem?_cons_zero]; rfl)
          case hn201 => kernel_rfl
          case hf201 => kernel_rfl
          case hr201 => kernel_rfl
          case hg201 => rfl
          case hy201 => (intro w hSw; (try dsimp only at hSw); go_simp; first | done | with_reducible rfl)
          case hq201 => exact fun _ _ _ h => h
          try dsimp only [Act.put]
          refine wpAnyH_take (i := 1) (oi := ?oi202) (v := ?vv202) ?hi202 ?hn202 ?hf202 ?hr202 ?hq202 (Or.inl ⟨?hg202, ?hy202⟩) hH0 ?rest202
          case hi202 => (simp only [List.getElem?_toArray, List.getElem?_cons_succ, List.getElem?_cons_zero]; rfl)
          case hn202 => kernel_rfl
          case hf202 => kernel_rfl
          case hr202 => kernel_rfl
          case hg202 => rfl
          case hy202 => (intro w hSw; (try dsimp only at hSw); go_simp; first | done | with_reducible rfl)
          case hq202 => exact fun _ _ _ h => h
          try dsimp only [Act.put]
          refine wpAnyH_take (i := 2) (oi := ?oi203) (v := ?vv203) ?hi203 ?hn203 ?hf203 ?hr203 ?hq203 (Or.inl ⟨?hg203, ?hy203⟩) hH0 ?rest203
          case hi203 => (simp only [List.getElem?_toArray, List.getElem?_cons_succ, List.getElem?_cons_zero]; rfl)
          case hn203 => kernel_rfl
          case hf203 => kernel_rfl
          case hr203 => kernel_rfl
          case hg203 => rfl
          case hy203 => (intro w hSw; (try dsimp only at hSw); go_simp; first | done | with_reducible rfl)
          case hq203 => exact fun _ _ _ h => h
          try dsimp only [Act.put]
          refine wpAnyH_take (i := 4) (oi := ?oi204) (v := ?vv204) ?hi204 ?hn204 ?hf204 ?hr204 ?hq204 (Or.inl ⟨?hg204, ?hy204⟩) hH0 ?rest204
          case hi204 => (simp only [List.getElem?_toArray, List.getElem?_cons_succ, List.getElem?_cons_zero]; rfl)
          case hn204 => kernel_rfl
          case hf204 => kernel_rfl
          case hr204 => kernel_rfl
          case hg204 => rfl
          case hy204 => (intro w hSw; (try dsimp only at hSw); go_simp; first | done | with_reducible rfl)
          case hq204 => exact fun _ _ _ h => h
          try dsimp only [Act.put]
          refine held_two 3 5 rfl rfl (by kernel_rfl) (fun K hK => ?_) (fun K hK => ?_)
          · go_simp
            refine (hO _ (hsrc.keep hz.drew)).mono ?_; rintro e w4 ⟨g4, cap4, own4, hb4, rfl⟩
            have hb4' := nx hz.drew hb4
            go_wp2_with fail
            refine hK.out (fun (w' : World) => w'.cell? ⟨B, 0, none⟩ = some (.string t.str) ∧ w'.cell? ⟨B, 1, none⟩ = some (.string u.str)) _ _ (fun _ h => h) ⟨keep_cell hb4' f1, keep_cell hb4' f2⟩ ?_
            clear hK K
            try dsimp only [Act.put]
            have hbn := nxAlloc hb4' (.cells #[.int .i64 (k : Int)] 3 (0, 0))
            refine held_one 5 rfl (by kernel_rfl) (fun K hK => ?_)
            go_simp
            refine hK.out (fun (w' : World) => w'.cell? ⟨B, 0, none⟩ = some (.string t.str) ∧ w'.cell? ⟨B, 1, none⟩ = some (.string u.str)) _ _ (fun _ h => h) ⟨keep_cell hbn f1, keep_cell hbn f2⟩ ?_
            clear hK K
            try dsimp only [Act.put]
            have own4' : w4.ownsRow wr.heap.size 3 1 (.slice (some ⟨g4, 0, none⟩) vs.length cap4) vs.length (vs.map (Value.int .i64)) := by
              have := own4.mono (show wr.heap.size ≤ _ by exact Nat.le_refl _)
              unfold OwnI at this
              exact this
            have hsn := hb4'.size
            refine held_one 6 rfl (by kernel_rfl) (fun K hK => ?_)
            refine step_append_lies _ rfl _ _ 47 rfl wr.heap.size 3 i0 (.int .i64 0) 1 8 Try.underlying47 hi hz0 hz1 hz2 rfl (by decide) _ _ _ rfl (own4'.alloc _) ⟨w4.heap.size, 0, none⟩ 1 1 [.int .i64 (k : Int)] rfl rfl (new1 _ _ _) (one1 _) (by decide) (by have := HNV.out; unfold maxLen; omega) (by have := HNV.out; omega) (by first | exact hsn | (simp; omega)) _ rfl ?_
            intro g9 cap9 w9 hown9 hgrow hnb hlt9
            have hbw9 := hbn.grown hgrow (by first | exact hsn | (simp; omega)) (fun k hk => ownsRow_ge own4' k hk)
            have hown1 := OwnI.snoc hown9
            refine hK.out (fun (w' : World) => w'.cell? ⟨B, 0, none⟩ = some (.string t.str) ∧ w'.cell? ⟨B, 1, none⟩ = some (.string u.str)) _ _ (fun _ h => h) ⟨keep_cell hbw9 f1, keep_cell hbw9 f2⟩ ?_
            clear hK K
            try dsimp only [Act.put]
            refine held_one 7 rfl (by kernel_rfl) (fun K hK => ?_)
            go_simp
            refine (RR _ _ (HT.out.keep (nx hbw0 hbw9)) hown1.vec).mono ?_; rintro e wA ⟨rfl, hbA⟩
            have hbA9 := nx hbw9 hbA
            go_wp2_with fail
            have hH9 : (fun (w' : World) => w'.cell? ⟨B, 0, none⟩ = some (.string t.str) ∧ w'.cell? ⟨B, 1, none⟩ = some (.string u.str)) _ := ⟨keep_cell hbA9 f1, keep_cell hbA9 f2⟩
            refine hK.out (fun (w' : World) => w'.cell? ⟨B, 0, none⟩ = some (.string t.str) ∧ w'.cell? ⟨B, 1, none⟩ = some (.string u.str)) _ _ (fun _ h => h) hH9 ?_
            clear hK K
            try dsimp only [Act.put]
            refine wpAnyH_take (i := 8) (oi := ?oi401) (v := ?vv401) ?hi401 ?hn401 ?hf401 ?hr401 ?hq401 (Or.inl ⟨?hg401, ?hy401⟩) hH9 ?rest401
            case hi401 => (simp only [List.getElem?_toArray, List.getElem?_cons_succ, List.getElem?_cons_zero]; rfl)
            case hn401 => kernel_rfl
            case hf401 => kernel_rfl
            case hr401 => kernel_rfl
            case hg401 => rfl
            case hy401 => (intro w hSw; (try dsimp only at hSw); go_simp; first | done | with_reducible rfl)
            case hq401 => exact fun _ _ _ h => h
            try dsimp only [Act.put]
            refine wpAnyH_done (by kernel_rfl) ?_ _
            simp only [List.setIfInBounds_toArray, List.set_cons_zero, List.set_cons_succ]
            clear own4 own4' hown9 hgrow hsn hb4 hb4' hbw9 hown1 hz hH9 f1 f2 RR hsrc hbw0
            go_wp2_with fail
            go_roundw
            case rel => exact ⟨k + 1, by go_num, by omega, nx hbw hbA9, hall'⟩
            case measure => simp [intOf]; omega
          · have hbn0 : Below wr.heap.size wr (wr.drew.alloc (.cells #[.int .i64 (k : Int)] 3 (0, 0))) := nxAlloc hz.drew (.cells #[.int .i64 (k : Int)] 3 (0, 0))
            go_simp
            refine hK.out (fun (w' : World) => w'.cell? ⟨B, 0, none⟩ = some (.string t.str) ∧ w'.cell? ⟨B, 1, none⟩ = some (.string u.str)) _ _ (fun _ h => h) ⟨keep_cell hbn0 f1, keep_cell hbn0 f2⟩ ?_
            clear hK K
            try dsimp only [Act.put]
            refine held_one 3 rfl (by kernel_rfl) (fun K hK => ?_)
            go_simp
            refine (hO _ (hsrc.keep hbn0)).mono ?_; rintro e w4 ⟨g4, cap4, own4, hb4, rfl⟩
            have hb4' := nx hbn0 hb4
            have hsx : ∀ (j : Nat) (u : Value), [Value.int .i64 (k : Int)][j]? = some u → w4.cell? ((⟨wr.heap.size, 0, none⟩ : Addr).add j) = some u := fun j u hj => by
              have h1 := new1 wr.drew (.int .i64 (k : Int)) 3 j u hj
              exact (hb4.cell (World.block_lt_of_cell? _ _ h1)).trans h1
            go_wp2_with fail
            refine hK.out (fun (w' : World) => w'.cell? ⟨B, 0, none⟩ = some (.string t.str) ∧ w'.cell? ⟨B, 1, none⟩ = some (.string u.str)) _ _ (fun _ h => h) ⟨keep_cell hb4' f1, keep_cell hb4' f2⟩ ?_
            clear hK K
            try dsimp only [Act.put]
            have own4' : w4.ownsRow wr.heap.size 3 1 (.slice (some ⟨g4, 0, none⟩) vs.length cap4) vs.length (vs.map (Value.int .i64)) := by
              have := own4.mono (show wr.heap.size ≤ _ by simp)
              unfold OwnI at this
              exact this
            have hsn := hb4'.size
            refine held_one 6 rfl (by kernel_rfl) (fun K hK => ?_)
            refine step_append_lies _ rfl _ _ 47 rfl wr.heap.size 3 i0 (.int .i64 0) 1 8 Try.underlying47 hi hz0 hz1 hz2 rfl (by decide) _ _ _ rfl own4' ⟨wr.heap.size, 0, none⟩ 1 1 [.int .i64 (k : Int)] rfl rfl hsx (one1 _) (by decide) (by have := HNV.out; unfold maxLen; omega) (by have := HNV.out; omega) (by first | exact hsn | (simp; omega)) _ rfl ?_
            intro g9 cap9 w9 hown9 hgrow hnb hlt9
            have hbw9 := hb4'.grown hgrow (by first | exact hsn | (simp; omega)) (fun k hk => ownsRow_ge own4' k hk)
            have hown1 := OwnI.snoc hown9
            refine hK.out (fun (w' : World) => w'.cell? ⟨B, 0, none⟩ = some (.string t.str) ∧ w'.cell? ⟨B, 1, none⟩ = some (.string u.str)) _ _ (fun _ h => h) ⟨keep_cell hbw9 f1, keep_cell hbw9 f2⟩ ?_
            clear hK K
            try dsimp only [Act.put]
            refine held_one 7 rfl (by kernel_rfl) (fun K hK => ?_)
            go_simp
            refine (RR _ _ (HT.out.keep (nx hbw0 hbw9)) hown1.vec).mono ?_; rintro e wA ⟨rfl, hbA⟩
            have hbA9 := nx hbw9 hbA
            go_wp2_with fail
            have hH9 : (fun (w' : World) => w'.cell? ⟨B, 0, none⟩ = some (.string t.str) ∧ w'.cell? ⟨B, 1, none⟩ = some (.string u.str)) _ := ⟨keep_cell hbA9 f1, keep_cell hbA9 f2⟩
            refine hK.out (fun (w' : World) => w'.cell? ⟨B, 0, none⟩ = some (.string t.str) ∧ w'.cell? ⟨B, 1, none⟩ = some (.string u.str)) _ _ (fun _ h => h) hH9 ?_
            clear hK K
            try dsimp only [Act.put]
            refine wpAnyH_take (i := 8) (oi := ?oi601) (v := ?vv601) ?hi601 ?hn601 ?hf601 ?hr601 ?hq601 (Or.inl ⟨?hg601, ?hy601⟩) hH9 ?rest601
            case hi601 => (simp only [List.getElem?_toArray, List.getElem?_cons_succ, List.getElem?_cons_zero]; rfl)
            case hn601 => kernel_rfl
            case hf601 => kernel_rfl
            case hr601 => kernel_rfl
            case hg601 => rfl
            case hy601 => (intro w hSw; (try dsimp only at hSw); go_simp; first | done | with_reducible rfl)
            case hq601 => exact fun _ _ _ h => h
            try dsimp only [Act.put]
            refine wpAnyH_done (by kernel_rfl) ?_ _
            simp only [List.setIfInBounds_toArray, List.set_cons_zero, List.set_cons_succ]
            clear own4 own4' hown9 hgrow hsn hb4 hb4' hbw9 hown1 hz hH9 f1 f2 RR hsrc hbw0
            go_wp2_with fail
            go_roundw
            case rel => exact ⟨k + 1, by go_num, by omega, nx hbw hbA9, hall'⟩
            case measure => simp [intOf]; omega
        | false =>
          rw [hkb] at RR
          have HF : Hid (kb = false) := by
            show _ = _
            rw [HK.out, List.all_eq_false]
            exact ⟨k, by simpa using hlt, by rw [hkb]; simp⟩
          clear hkb hall
          go_wp2_with fail
          refine wp_region_held_drew (S := (fun (w' : World) => w'.cell? ⟨B, 0, none⟩ = some (.string t.str) ∧ w'.cell? ⟨B, 1, none⟩ = some (.string u.str))) (by kernel_rfl) ⟨f1, f2⟩ (fun hH0 => ?_)
          refine wpAnyH_take (i := 0) (oi := ?oi801) (v := ?vv801) ?hi801 ?hn801 ?hf801 ?hr801 ?hq801 (Or.inl ⟨?hg801, ?hy801⟩) hH0 ?rest801
          case hi801 => (simp only [List.getElem?_toArray, List.getElem?_cons_zero]; rfl)
          case hn801 => kernel_rfl
          case hf801 => kernel_rfl
          case hr801 => kernel_rfl
          case hg801 => rfl
          case hy801 => (intro w hSw; (try dsimp only at hSw); go_simp; first | done | with_reducible rfl)
          case hq801 => exact fun _ _ _ h => h
          try dsimp only [Act.put]
          refine wpAnyH_take (i := 1) (oi := ?oi802) (v := ?vv802) ?hi802 ?hn802 ?hf802 ?hr802 ?hq802 (Or.inl ⟨?hg802, ?hy802⟩) hH0 ?rest802
          case hi802 => (simp only [List.getElem?_toArray, List.getElem?_cons_succ, List.getElem?_cons_zero]; rfl)
          case hn802 => kernel_rfl
          case hf802 => kernel_rfl
          case hr802 => kernel_rfl
          case hg802 => rfl
          case hy802 => (intro w hSw; (try dsimp only at hSw); go_simp; first | done | with_reducible rfl)
          case hq802 => exact fun _ _ _ h => h
          try dsimp only [Act.put]
          refine wpAnyH_take (i := 2) (oi := ?oi803) (v := ?vv803) ?hi803 ?hn803 ?hf803 ?hr803 ?hq803 (Or.inl ⟨?hg803, ?hy803⟩) hH0 ?rest803
          case hi803 => (simp only [List.getElem?_toArray, List.getElem?_cons_succ, List.getElem?_cons_zero]; rfl)
          case hn803 => kernel_rfl
          case hf803 => kernel_rfl
          case hr803 => kernel_rfl
          case hg803 => rfl
          case hy803 => (intro w hSw; (try dsimp only at hSw); go_simp; first | done | with_reducible rfl)
          case hq803 => exact fun _ _ _ h => h
          try dsimp only [Act.put]
          refine wpAnyH_take (i := 4) (oi := ?oi804) (v := ?vv804) ?hi804 ?hn804 ?hf804 ?hr804 ?hq804 (Or.inl ⟨?hg804, ?hy804⟩) hH0 ?rest804
          case hi804 => (simp only [List.getElem?_toArray, List.getElem?_cons_succ, List.getElem?_cons_zero]; rfl)
          case hn804 => kernel_rfl
          case hf804 => kernel_rfl
          case hr804 => kernel_rfl
          case hg804 => rfl
          case hy804 => (intro w hSw; (try dsimp only at hSw); go_simp; first | done | with_reducible rfl)
          case hq804 => exact fun _ _ _ h => h
          try dsimp only [Act.put]
          refine held_two 3 5 rfl rfl (by kernel_rfl) (fun K hK => ?_) (fun K hK => ?_)
          · go_simp
            refine (hO _ (hsrc.keep hz.drew)).mono ?_; rintro e w4 ⟨g4, cap4, own4, hb4, rfl⟩
            have hb4' := nx hz.drew hb4
            go_wp2_with fail
            refine hK.out (fun (w' : World) => w'.cell? ⟨B, 0, none⟩ = some (.string t.str) ∧ w'.cell? ⟨B, 1, none⟩ = some (.string u.str)) _ _ (fun _ h => h) ⟨keep_cell hb4' f1, keep_cell hb4' f2⟩ ?_
            clear hK K
            try dsimp only [Act.put]
            have hbn := nxAlloc hb4' (.cells #[.int .i64 (k : Int)] 3 (0, 0))
            refine held_one 5 rfl (by kernel_rfl) (fun K hK => ?_)
            go_simp
            refine hK.out (fun (w' : World) => w'.cell? ⟨B, 0, none⟩ = some (.string t.str) ∧ w'.cell? ⟨B, 1, none⟩ = some (.string u.str)) _ _ (fun _ h => h) ⟨keep_cell hbn f1, keep_cell hbn f2⟩ ?_
            clear hK K
            try dsimp only [Act.put]
            have own4' : w4.ownsRow wr.heap.size 3 1 (.slice (some ⟨g4, 0, none⟩) vs.length cap4) vs.length (vs.map (Value.int .i64)) := by
              have := own4.mono (show wr.heap.size ≤ _ by exact Nat.le_refl _)
              unfold OwnI at this
              exact this
            have hsn := hb4'.size
            refine held_one 6 rfl (by kernel_rfl) (fun K hK => ?_)
            refine step_append_lies _ rfl _ _ 47 rfl wr.heap.size 3 i0 (.int .i64 0) 1 8 Try.underlying47 hi hz0 hz1 hz2 rfl (by decide) _ _ _ rfl (own4'.alloc _) ⟨w4.heap.size, 0, none⟩ 1 1 [.int .i64 (k : Int)] rfl rfl (new1 _ _ _) (one1 _) (by decide) (by have := HNV.out; unfold maxLen; omega) (by have := HNV.out; omega) (by first | exact hsn | (simp; omega)) _ rfl ?_
            intro g9 cap9 w9 hown9 hgrow hnb hlt9
            have hbw9 := hbn.grown hgrow (by first | exact hsn | (simp; omega)) (fun k hk => ownsRow_ge own4' k hk)
            have hown1 := OwnI.snoc hown9
            refine hK.out (fun (w' : World) => w'.cell? ⟨B, 0, none⟩ = some (.string t.str) ∧ w'.cell? ⟨B, 1, none⟩ = some (.string u.str)) _ _ (fun _ h => h) ⟨keep_cell hbw9 f1, keep_cell hbw9 f2⟩ ?_
            clear hK K
            try dsimp only [Act.put]
            refine held_one 7 rfl (by kernel_rfl) (fun K hK => ?_)
            go_simp
            refine (RR _ _ (HT.out.keep (nx hbw0 hbw9)) hown1.vec).mono ?_; rintro e wA ⟨rfl, hbA⟩
            have hbA9 := nx hbw9 hbA
            go_wp2_with fail
            have hH9 : (fun (w' : World) => w'.cell? ⟨B, 0, none⟩ = some (.string t.str) ∧ w'.cell? ⟨B, 1, none⟩ = some (.string u.str)) _ := ⟨keep_cell hbA9 f1, keep_cell hbA9 f2⟩
            refine hK.out (fun (w' : World) => w'.cell? ⟨B, 0, none⟩ = some (.string t.str) ∧ w'.cell? ⟨B, 1, none⟩ = some (.string u.str)) _ _ (fun _ h => h) hH9 ?_
            clear hK K
            try dsimp only [Act.put]
            refine wpAnyH_take (i := 8) (oi := ?oi1001) (v := ?vv1001) ?hi1001 ?hn1001 ?hf1001 ?hr1001 ?hq1001 (Or.inl ⟨?hg1001, ?hy1001⟩) hH9 ?rest1001
            case hi1001 => (simp only [List.getElem?_toArray, List.getElem?_cons_succ, List.getElem?_cons_zero]; rfl)
            case hn1001 => kernel_rfl
            case hf1001 => kernel_rfl
            case hr1001 => kernel_rfl
            case hg1001 => rfl
            case hy1001 => (intro w hSw; (try dsimp only at hSw); go_simp; first | done | with_reducible rfl)
            case hq1001 => exact fun _ _ _ h => h
            try dsimp only [Act.put]
            refine wpAnyH_done (by kernel_rfl) ?_ _
            simp only [List.setIfInBounds_toArray, List.set_cons_zero, List.set_cons_succ]
            clear own4 own4' hown9 hgrow hsn hb4 hb4' hbw9 hown1 hz hH9 f1 f2 RR hsrc hbw0
            go_wp2_with fail
            go_ret
            exact ⟨ret_bool (by rw [HF.out]), nx hb0 (nx hbw hbA9)⟩
          · have hbn0 : Below wr.heap.size wr (wr.drew.alloc (.cells #[.int .i64 (k : Int)] 3 (0, 0))) := nxAlloc hz.drew (.cells #[.int .i64 (k : Int)] 3 (0, 0))
            go_simp
            refine hK.out (fun (w' : World) => w'.cell? ⟨B, 0, none⟩ = some (.string t.str) ∧ w'.cell? ⟨B, 1, none⟩ = some (.string u.str)) _ _ (fun _ h => h) ⟨keep_cell hbn0 f1, keep_cell hbn0 f2⟩ ?_
            clear hK K
            try dsimp only [Act.put]
            refine held_one 3 rfl (by kernel_rfl) (fun K hK => ?_)
            go_simp
            refine (hO _ (hsrc.keep hbn0)).mono ?_; rintro e w4 ⟨g4, cap4, own4, hb4, rfl⟩
            have hb4' := nx hbn0 hb4
            have hsx : ∀ (j : Nat) (u : Value), [Value.int .i64 (k : Int)][j]? = some u → w4.cell? ((⟨wr.heap.size, 0, none⟩ : Addr).add j) = some u := fun j u hj => by
              have h1 := new1 wr.drew (.int .i64 (k : Int)) 3 j u hj
              exact (hb4.cell (World.block_lt_of_cell? _ _ h1)).trans h1
            go_wp2_with fail
            refine hK.out (fun (w' : World) => w'.cell? ⟨B, 0, none⟩ = some (.string t.str) ∧ w'.cell? ⟨B, 1, none⟩ = some (.string u.str)) _ _ (fun _ h => h) ⟨keep_cell hb4' f1, keep_cell hb4' f2⟩ ?_
            clear hK K
            try dsimp only [Act.put]
            have own4' : w4.ownsRow wr.heap.size 3 1 (.slice (some ⟨g4, 0, none⟩) vs.length cap4) vs.length (vs.map (Value.int .i64)) := by
              have := own4.mono (show wr.heap.size ≤ _ by simp)
              unfold OwnI at this
              exact this
            have hsn := hb4'.size
            refine held_one 6 rfl (by kernel_rfl) (fun K hK => ?_)
            refine step_append_lies _ rfl _ _ 47 rfl wr.heap.size 3 i0 (.int .i64 0) 1 8 Try.underlying47 hi hz0 hz1 hz2 rfl (by decide) _ _ _ rfl own4' ⟨wr.heap.size, 0, none⟩ 1 1 [.int .i64 (k : Int)] rfl rfl hsx (one1 _) (by decide) (by have := HNV.out; unfold maxLen; omega) (by have := HNV.out; omega) (by first | exact hsn | (simp; omega)) _ rfl ?_
            intro g9 cap9 w9 hown9 hgrow hnb hlt9
            have hbw9 := hb4'.grown hgrow (by first | exact hsn | (simp; omega)) (fun k hk => ownsRow_ge own4' k hk)
            have hown1 := OwnI.snoc hown9
            refine hK.out (fun (w' : World) => w'.cell? ⟨B, 0, none⟩ = some (.string t.str) ∧ w'.cell? ⟨B, 1, none⟩ = some (.string u.str)) _ _ (fun _ h => h) ⟨keep_cell hbw9 f1, keep_cell hbw9 f2⟩ ?_
            clear hK K
            try dsimp only [Act.put]
            refine held_one 7 rfl (by kernel_rfl) (fun K hK => ?_)
            go_simp
            refine (RR _ _ (HT.out.keep (nx hbw0 hbw9)) hown1.vec).mono ?_; rintro e wA ⟨rfl, hbA⟩
            have hbA9 := nx hbw9 hbA
            go_wp2_with fail
            have hH9 : (fun (w' : World) => w'.cell? ⟨B, 0, none⟩ = some (.string t.str) ∧ w'.cell? ⟨B, 1, none⟩ = some (.string u.str)) _ := ⟨keep_cell hbA9 f1, keep_cell hbA9 f2⟩
            refine hK.out (fun (w' : World) => w'.cell? ⟨B, 0, none⟩ = some (.string t.str) ∧ w'.cell? ⟨B, 1, none⟩ = some (.string u.str)) _ _ (fun _ h => h) hH9 ?_
            clear hK K
            try dsimp only [Act.put]
            refine wpAnyH_take (i := 8) (oi := ?oi1201) (v := ?vv1201) ?hi1201 ?hn1201 ?hf1201 ?hr1201 ?hq1201 (Or.inl ⟨?hg1201, ?hy1201⟩) hH9 ?rest1201
            case hi1201 => (simp only [List.getElem?_toArray, List.getElem?_cons_succ, List.getElem?_cons_zero]; rfl)
            case hn1201 => kernel_rfl
            case hf1201 => kernel_rfl
            case hr1201 => kernel_rfl
            case hg1201 => rfl
            case hy1201 => (intro w hSw; (try dsimp only at hSw); go_simp; first | done | with_reducible rfl)
            case hq1201 => exact fun _ _ _ h => h
            try dsimp only [Act.put]
            refine wpAnyH_done (by kernel_rfl) ?_ _
            simp only [List.setIfInBounds_toArray, List.set_cons_zero, List.set_cons_succ]
            clear own4 own4' hown9 hgrow hsn hb4 hb4' hbw9 hown1 hz hH9 f1 f2 RR hsrc hbw0
            go_wp2_with fail
            go_ret
            exact ⟨ret_bool (by rw [HF.out]), nx hb0 (nx hbw hbA9)⟩
      · obtain rfl : k = nT := by omega
        have HF : Hid (kb = true) := by
          show _ = _
          rw [HK.out, List.all_eq_true]
          intro x hx
          exact hall.out x (by simpa using hx)
        clear hall HK
        go_wp2_with fail
        go_ret
        exact ⟨ret_bool (by rw [HF.out]), nx hb0 hbw⟩
end Go.Proofs.Ytkoebmdocenlkab
