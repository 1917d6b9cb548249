/- Walks: spec.wdStep. -/
import Derived.Test.YtlcepokenaiggabRu3
import Derived.Test.YtlcepokenaiggabHeldW
import Derived.Test.YtlcepokenaiggabTreeO
namespace Go.Proofs.Ytlcepokenaiggab
open Go.RowKit

def StepW (v : Value) (o : Option (List Int)) (w : World) (e : Ending) (w' : World) : Prop :=
  Below w.heap.size w w' ∧ match o with
    | some r => ∃ v', OwnI w.heap.size w' v' r ∧ e = .returned (.tuple #[v', .bool true])
    | none => e = .returned (.tuple #[v, .bool false])
set_option maxRecDepth 100000 in
set_option maxHeartbeats 4000000 in
theorem wdStep_any (v : Value) (b1 : Nat) (L : List Int) (w : World) (hv : CellsI b1 w v L) (hn : L.length ≤ 100) (hL : ∀ x ∈ L, -1000 ≤ x ∧ x ≤ 1000) :
    Calls Try.prog 22 #[v] w (StepW v (stepO L) w) := by
  obtain ⟨R, hR⟩ : ∃ R, R = stepO L := ⟨_, rfl⟩
  rw [← hR]
  have HR := Lib.hid hR
  clear hR
  rcases hv with ⟨rfl, rfl⟩ | ⟨g, cap, rfl, _, hg, hc1, hc2, hx, _⟩
  · go_enter Try.func22, Try.ntmps22
    go_wp2_with fail
    go_loopw [4] (fun i wr => i = .int .i64 0 ∧ wr = w) (fun _ _ => 0)
    case atStart => exact ⟨rfl, rfl⟩
    case round =>
      obtain ⟨rfl, rfl⟩ := hrel
      have hr := HR.out
      rw [show stepO [] = none from rfl] at hr
      subst hr
      go_wp2_with fail
      go_ret2
      exact ⟨Below.refl _ _, rfl⟩
  · obtain ⟨n, hn0⟩ : ∃ n, L.length = n := ⟨_, rfl⟩
    have HC := Lib.hid hx
    have HL := Lib.hid hL
    rw [hn0] at hc1 hn ⊢
    unfold maxLen at hc2
    obtain ⟨i0, hi, hz0, hz1, hz2⟩ := info_parts info_int
    have HNN := Lib.hid hn0
    clear hx hL hn0
    go_enter Try.func22, Try.ntmps22
    go_wp2_with fail
    go_loopw [4] (fun i wr => ∃ j : Nat, j ≤ n ∧ i = .int .i64 j ∧ Hid (stepO (L.take (j + 1)) = none) ∧ Below w.heap.size w wr) (fun i _ => n - (intOf i).toNat)
    case atStart => exact ⟨0, Nat.zero_le _, rfl, Lib.hid (stepO_small (by rw [List.length_take]; omega)), Below.refl _ _⟩
    case round =>
      obtain ⟨j, hj, rfl, hst, hbw⟩ := hrel
      have hn0 := HNN.out
      by_cases hlt : j + 1 < n
      · have hlt' : (j : Int) + 1 < (n : Int) := by omega
        have hlt2 : (j : Int) < (n : Int) := by omega
        have c1 := (hbw.cell (p := ⟨g, j, none⟩) hg).trans (HC.out j (by omega))
        have c2 := (hbw.cell (p := ⟨g, j + 1, none⟩) hg).trans (HC.out (j + 1) (by omega))
        have ht := stepO_take (w := L) (k := j) (by omega) hst.out
        have hlx := HL.out (L.getD j 0) (by simp [show j < L.length by omega])
        have hly := HL.out (L.getD (j + 1) 0) (by simp [show j + 1 < L.length by omega])
        generalize L.getD j 0 = x at *
        generalize L.getD (j + 1) 0 = y at *
        have hR := fun w => wdRule_any x y w hlx.1 hlx.2 hly.1 hly.2
        have hz := Below.refl wr.heap.size wr
        have hwj : IntKind.i64.wrap ((j : Int) + 1) = (j : Int) + 1 := by rw [IntKind.wrap_i64]; omega
        have hj0 : 0 ≤ (j : Int) + 1 := by omega
        clear hlx hly hst
        cases hru : ruleO x y with
        | none =>
          have HS := Lib.hid (ht.2 hru)
          rw [hru] at hR
          change ∀ w, Calls _ _ _ w (AnsI2 [] false w) at hR
          clear ht hru hn0
          go_wp2_with fail
          refine wp_region_held_drew (S := (fun (w' : World) => w'.cell? ⟨g, j, none⟩ = some (.int .i64 x) ∧ w'.cell? ⟨g, j + 1, none⟩ = some (.int .i64 y))) (by kernel_rfl) ⟨c1, c2⟩ (fun hH0 => ?_)
          refine wpAnyH_take (i := 0) (oi := ?oi201) (v := ?vv201) ?hi201 ?hn201 ?hf201 ?hr201 ?hq201 (Or.inl ⟨?hg201, ?hy201⟩) hH0 ?rest201
          case hi201 => (simp only [List.getElem?_toArray, List.getElem?_cons_zero]; rfl)
          case hn201 => kernel_rfl
          case hf201 => kernel_rfl
          case hr201 => kernel_rfl
          case hg201 => rfl
          case hy201 => (intro w hSw; (try dsimp only at hSw); go_simp; first | done | with_reducible rfl)
          case hq201 => exact fun _ _ _ h => h
          try dsimp only [Act.put]
          refine wpAnyH_take (i := 1) (oi := ?oi202) (v := ?vv202) ?hi202 ?hn202 ?hf202 ?hr202 ?hq202 (Or.inl ⟨?hg202, ?hy202⟩) hH0 ?rest202
          case hi202 => (simp only [List.getElem?_toArray, List.getElem?_cons_succ, List.getElem?_cons_zero]; rfl)
          case hn202 => kernel_rfl
          case hf202 => kernel_rfl
          case hr202 => kernel_rfl
          case hg202 => rfl
          case hy202 => (intro w hSw; (try dsimp only at hSw); go_simp; first | done | with_reducible rfl)
          case hq202 => exact fun _ _ _ h => h
          try dsimp only [Act.put]
          refine wpAnyH_take (i := 2) (oi := ?oi203) (v := ?vv203) ?hi203 ?hn203 ?hf203 ?hr203 ?hq203 (Or.inl ⟨?hg203, ?hy203⟩) hH0 ?rest203
          case hi203 => (simp only [List.getElem?_toArray, List.getElem?_cons_succ, List.getElem?_cons_zero]; rfl)
          case hn203 => kernel_rfl
          case hf203 => kernel_rfl
          case hr203 => kernel_rfl
          case hg203 => rfl
          case hy203 => (intro w hSw; (try dsimp only at hSw); go_simp; first | done | with_reducible rfl)
          case hq203 => exact fun _ _ _ h => h
          try dsimp only [Act.put]
          refine wpAnyH_take (i := 3) (oi := ?oi204) (v := ?vv204) ?hi204 ?hn204 ?hf204 ?hr204 ?hq204 (Or.inl ⟨?hg204, ?hy204⟩) hH0 ?rest204
          case hi204 => (simp only [List.getElem?_toArray, List.getElem?_cons_succ, List.getElem?_cons_zero]; rfl)
          case hn204 => kernel_rfl
          case hf204 => kernel_rfl
          case hr204 => kernel_rfl
          case hg204 => rfl
          case hy204 => (intro w hSw; (try dsimp only at hSw); go_simp; first | done | with_reducible rfl)
          case hq204 => exact fun _ _ _ h => h
          try dsimp only [Act.put]
          refine wpAnyH_take (i := 4) (oi := ?oi205) (v := ?vv205) ?hi205 ?hn205 ?hf205 ?hr205 ?hq205 (Or.inl ⟨?hg205, ?hy205⟩) hH0 ?rest205
          case hi205 => (simp only [List.getElem?_toArray, List.getElem?_cons_succ, List.getElem?_cons_zero]; rfl)
          case hn205 => kernel_rfl
          case hf205 => kernel_rfl
          case hr205 => kernel_rfl
          case hg205 => rfl
          case hy205 => (intro w hSw; (try dsimp only at hSw); go_simp; first | done | with_reducible rfl)
          case hq205 => exact fun _ _ _ h => h
          try dsimp only [Act.put]
          refine wpAnyH_take (i := 5) (oi := ?oi206) (v := ?vv206) ?hi206 ?hn206 ?hf206 ?hr206 ?hq206 (Or.inl ⟨?hg206, ?hy206⟩) hH0 ?rest206
          case hi206 => (simp only [List.getElem?_toArray, List.getElem?_cons_succ, List.getElem?_cons_zero]; rfl)
          case hn206 => kernel_rfl
          case hf206 => kernel_rfl
          case hr206 => kernel_rfl
          case hg206 => rfl
          case hy206 => (intro w hSw; (try dsimp only at hSw); go_simp; first | done | with_reducible rfl)
          case hq206 => exact fun _ _ _ h => h
          try dsimp only [Act.put]
          refine wpAnyH_take (i := 6) (oi := ?oi207) (v := ?vv207) ?hi207 ?hn207 ?hf207 ?hr207 ?hq207 (Or.inl ⟨?hg207, ?hy207⟩) hH0 ?rest207
          case hi207 => (simp only [List.getElem?_toArray, List.getElem?_cons_succ, List.getElem?_cons_zero]; rfl)
          case hn207 => kernel_rfl
          case hf207 => kernel_rfl
          case hr207 => kernel_rfl
          case hg207 => rfl
          case hy207 => (intro w hSw; (try dsimp only at hSw); go_simp; first | done | with_reducible rfl)
          case hq207 => exact fun _ _ _ h => h
          try dsimp only [Act.put]
          refine wpAnyH_take (i := 7) (oi := ?oi208) (v := ?vv208) ?hi208 ?hn208 ?hf208 ?hr208 ?hq208 (Or.inl ⟨?hg208, ?hy208⟩) hH0 ?rest208
          case hi208 => (simp only [List.getElem?_toArray, List.getElem?_cons_succ, List.getElem?_cons_zero]; rfl)
          case hn208 => kernel_rfl
          case hf208 => kernel_rfl
          case hr208 => kernel_rfl
          case hg208 => rfl
          case hy208 => (intro w hSw; (try dsimp only at hSw); go_simp; first | done | with_reducible rfl)
          case hq208 => exact fun _ _ _ h => h
          try dsimp only [Act.put]
          refine wpAnyH_take (i := 8) (oi := ?oi209) (v := ?vv209) ?hi209 ?hn209 ?hf209 ?hr209 ?hq209 (Or.inl ⟨?hg209, ?hy209⟩) hH0 ?rest209
          case hi209 => (simp only [List.getElem?_toArray, List.getElem?_cons_succ, List.getElem?_cons_zero]; rfl)
          case hn209 => kernel_rfl
          case hf209 => kernel_rfl
          case hr209 => kernel_rfl
          case hg209 => rfl
          case hy209 => (intro w hSw; (try dsimp only at hSw); go_simp; first | done | with_reducible rfl)
          case hq209 => exact fun _ _ _ h => h
          try dsimp only [Act.put]
          refine held_one 9 rfl (by kernel_rfl) (fun K hK => ?_)
          go_simp
          refine (hR _).mono ?_; rintro e w3 ⟨v3, own3, hb3, rfl⟩
          have hb3' := nx hz.drew hb3
          go_wp2_with fail
          have hH1 : (fun (w' : World) => w'.cell? ⟨g, j, none⟩ = some (.int .i64 x) ∧ w'.cell? ⟨g, j + 1, none⟩ = some (.int .i64 y)) _ := ⟨keep_cell hb3' c1, keep_cell hb3' c2⟩
          refine hK.out (fun (w' : World) => w'.cell? ⟨g, j, none⟩ = some (.int .i64 x) ∧ w'.cell? ⟨g, j + 1, none⟩ = some (.int .i64 y)) _ _ (fun _ h => h) hH1 ?_
          clear hK K
          try dsimp only [Act.put]
          refine wpAnyH_take (i := 10) (oi := ?oi210) (v := ?vv210) ?hi210 ?hn210 ?hf210 ?hr210 ?hq210 (Or.inl ⟨?hg210, ?hy210⟩) hH1 ?rest210
          case hi210 => (simp only [List.getElem?_toArray, List.getElem?_cons_succ, List.getElem?_cons_zero]; rfl)
          case hn210 => kernel_rfl
          case hf210 => kernel_rfl
          case hr210 => kernel_rfl
          case hg210 => rfl
          case hy210 => (intro w hSw; (try dsimp only at hSw); go_simp; first | done | with_reducible rfl)
          case hq210 => exact fun _ _ _ h => h
          try dsimp only [Act.put]
          refine wpAnyH_take (i := 11) (oi := ?oi211) (v := ?vv211) ?hi211 ?hn211 ?hf211 ?hr211 ?hq211 (Or.inl ⟨?hg211, ?hy211⟩) hH1 ?rest211
          case hi211 => (simp only [List.getElem?_toArray, List.getElem?_cons_succ, List.getElem?_cons_zero]; rfl)
          case hn211 => kernel_rfl
          case hf211 => kernel_rfl
          case hr211 => kernel_rfl
          case hg211 => rfl
          case hy211 => (intro w hSw; (try dsimp only at hSw); go_simp; first | done | with_reducible rfl)
          case hq211 => exact fun _ _ _ h => h
          try dsimp only [Act.put]
          refine wpAnyH_take (i := 12) (oi := ?oi212) (v := ?vv212) ?hi212 ?hn212 ?hf212 ?hr212 ?hq212 (Or.inl ⟨?hg212, ?hy212⟩) hH1 ?rest212
          case hi212 => (simp only [List.getElem?_toArray, List.getElem?_cons_succ, List.getElem?_cons_zero]; rfl)
          case hn212 => kernel_rfl
          case hf212 => kernel_rfl
          case hr212 => kernel_rfl
          case hg212 => rfl
          case hy212 => (intro w hSw; (try dsimp only at hSw); go_simp; first | done | with_reducible rfl)
          case hq212 => exact fun _ _ _ h => h
          try dsimp only [Act.put]
          refine wpAnyH_take (i := 13) (oi := ?oi213) (v := ?vv213) ?hi213 ?hn213 ?hf213 ?hr213 ?hq213 (Or.inl ⟨?hg213, ?hy213⟩) hH1 ?rest213
          case hi213 => (simp only [List.getElem?_toArray, List.getElem?_cons_succ, List.getElem?_cons_zero]; rfl)
          case hn213 => kernel_rfl
          case hf213 => kernel_rfl
          case hr213 => kernel_rfl
          case hg213 => rfl
          case hy213 => (intro w hSw; (try dsimp only at hSw); go_simp; first | done | with_reducible rfl)
          case hq213 => exact fun _ _ _ h => h
          try dsimp only [Act.put]
          refine wpAnyH_take (i := 14) (oi := ?oi214) (v := ?vv214) ?hi214 ?hn214 ?hf214 ?hr214 ?hq214 (Or.inl ⟨?hg214, ?hy214⟩) hH1 ?rest214
          case hi214 => (simp only [List.getElem?_toArray, List.getElem?_cons_succ, List.getElem?_cons_zero]; rfl)
          case hn214 => kernel_rfl
          case hf214 => kernel_rfl
          case hr214 => kernel_rfl
          case hg214 => rfl
          case hy214 => (intro w hSw; (try dsimp only at hSw); go_simp; first | done | with_reducible rfl)
          case hq214 => exact fun _ _ _ h => h
          try dsimp only [Act.put]
          refine wpAnyH_done (by kernel_rfl) ?_ _
          simp only [List.setIfInBounds_toArray, List.set_cons_zero, List.set_cons_succ]
          have hbw3 := nx hbw hb3'
          clear own3 hb3 hb3' hz hH0 hH1 c1 c2 hR
          go_wp2_with fail
          go_roundw
          case rel => exact ⟨j + 1, by omega, by go_num, HS, hbw3⟩
          case measure => simp [intOf]; omega
        | some b =>
          have hres := ht.1 b hru
          rw [← HR.out] at hres
          rw [hru] at hR
          change ∀ w, Calls _ _ _ w (AnsI2 b true w) at hR
          have hbl : b.length ≤ 2 := by
            unfold ruleO at hru
            split at hru
            · cases hru; simp
            · split at hru
              · cases hru; simp
              · split at hru
                · cases hru; simp
                · split at hru
                  · cases hru; simp
                  · split at hru
                    · cases hru; simp
                    · cases hru
          clear ht hru HR
          subst hres
          go_wp2_with fail
          refine wp_region_held_drew (S := (fun (w' : World) => w'.cell? ⟨g, j, none⟩ = some (.int .i64 x) ∧ w'.cell? ⟨g, j + 1, none⟩ = some (.int .i64 y))) (by kernel_rfl) ⟨c1, c2⟩ (fun hH0 => ?_)
          refine wpAnyH_take (i := 0) (oi := ?oi401) (v := ?vv401) ?hi401 ?hn401 ?hf401 ?hr401 ?hq401 (Or.inl ⟨?hg401, ?hy401⟩) hH0 ?rest401
          case hi401 => (simp only [List.getElem?_toArray, List.getElem?_cons_zero]; rfl)
          case hn401 => kernel_rfl
          case hf401 => kernel_rfl
          case hr401 => kernel_rfl
          case hg401 => rfl
          case hy401 => (intro w hSw; (try dsimp only at hSw); go_simp; first | done | with_reducible rfl)
          case hq401 => exact fun _ _ _ h => h
          try dsimp only [Act.put]
          refine wpAnyH_take (i := 1) (oi := ?oi402) (v := ?vv402) ?hi402 ?hn402 ?hf402 ?hr402 ?hq402 (Or.inl ⟨?hg402, ?hy402⟩) hH0 ?rest402
          case hi402 => (simp only [List.getElem?_toArray, List.getElem?_cons_succ, List.getElem?_cons_zero]; rfl)
          case hn402 => kernel_rfl
          case hf402 => kernel_rfl
          case hr402 => kernel_rfl
          case hg402 => rfl
          case hy402 => (intro w hSw; (try dsimp only at hSw); go_simp; first | done | with_reducible rfl)
          case hq402 => exact fun _ _ _ h => h
          try dsimp only [Act.put]
          refine wpAnyH_take (i := 2) (oi := ?oi403) (v := ?vv403) ?hi403 ?hn403 ?hf403 ?hr403 ?hq403 (Or.inl ⟨?hg403, ?hy403⟩) hH0 ?rest403
          case hi403 => (simp only [List.getElem?_toArray, List.getElem?_cons_succ, List.getElem?_cons_zero]; rfl)
          case hn403 => kernel_rfl
          case hf403 => kernel_rfl
          case hr403 => kernel_rfl
          case hg403 => rfl
          case hy403 => (intro w hSw; (try dsimp only at hSw); go_simp; first | done | with_reducible rfl)
          case hq403 => exact fun _ _ _ h => h
          try dsimp only [Act.put]
          refine wpAnyH_take (i := 3) (oi := ?oi404) (v := ?vv404) ?hi404 ?hn404 ?hf404 ?hr404 ?hq404 (Or.inl ⟨?hg404, ?hy404⟩) hH0 ?rest404
          case hi404 => (simp only [List.getElem?_toArray, List.getElem?_cons_succ, List.getElem?_cons_zero]; rfl)
          case hn404 => kernel_rfl
          case hf404 => kernel_rfl
          case hr404 => kernel_rfl
          case hg404 => rfl
          case hy404 => (intro w hSw; (try dsimp only at hSw); go_simp; first | done | with_reducible rfl)
          case hq404 => exact fun _ _ _ h => h
          try dsimp only [Act.put]
          refine wpAnyH_take (i := 4) (oi := ?oi405) (v := ?vv405) ?hi405 ?hn405 ?hf405 ?hr405 ?hq405 (Or.inl ⟨?hg405, ?hy405⟩) hH0 ?rest405
          case hi405 => (simp only [List.getElem?_toArray, List.getElem?_cons_succ, List.getElem?_cons_zero]; rfl)
          case hn405 => kernel_rfl
          case hf405 => kernel_rfl
          case hr405 => kernel_rfl
          case hg405 => rfl
          case hy405 => (intro w hSw; (try dsimp only at hSw); go_simp; first | done | with_reducible rfl)
          case hq405 => exact fun _ _ _ h => h
          try dsimp only [Act.put]
          refine wpAnyH_take (i := 5) (oi := ?oi406) (v := ?vv406) ?hi406 ?hn406 ?hf406 ?hr406 ?hq406 (Or.inl ⟨?hg406, ?hy406⟩) hH0 ?rest406
          case hi406 => (simp only [List.getElem?_toArray, List.getElem?_cons_succ, List.getElem?_cons_zero]; rfl)
          case hn406 => kernel_rfl
          case hf406 => kernel_rfl
          case hr406 => kernel_rfl
          case hg406 => rfl
          case hy406 => (intro w hSw; (try dsimp only at hSw); go_simp; first | done | with_reducible rfl)
          case hq406 => exact fun _ _ _ h => h
          try dsimp only [Act.put]
          refine wpAnyH_take (i := 6) (oi := ?oi407) (v := ?vv407) ?hi407 ?hn407 ?hf407 ?hr407 ?hq407 (Or.inl ⟨?hg407, ?hy407⟩) hH0 ?rest407
          case hi407 => (simp only [List.getElem?_toArray, List.getElem?_cons_succ, List.getElem?_cons_zero]; rfl)
          case hn407 => kernel_rfl
          case hf407 => kernel_rfl
          case hr407 => kernel_rfl
          case hg407 => rfl
          case hy407 => (intro w hSw; (try dsimp only at hSw); go_simp; first | done | with_reducible rfl)
          case hq407 => exact fun _ _ _ h => h
          try dsimp only [Act.put]
          refine wpAnyH_take (i := 7) (oi := ?oi408) (v := ?vv408) ?hi408 ?hn408 ?hf408 ?hr408 ?hq408 (Or.inl ⟨?hg408, ?hy408⟩) hH0 ?rest408
          case hi408 => (simp only [List.getElem?_toArray, List.getElem?_cons_succ, List.getElem?_cons_zero]; rfl)
          case hn408 => kernel_rfl
          case hf408 => kernel_rfl
          case hr408 => kernel_rfl
          case hg408 => rfl
          case hy408 => (intro w hSw; (try dsimp only at hSw); go_simp; first | done | with_reducible rfl)
          case hq408 => exact fun _ _ _ h => h
          try dsimp only [Act.put]
          refine wpAnyH_take (i := 8) (oi := ?oi409) (v := ?vv409) ?hi409 ?hn409 ?hf409 ?hr409 ?hq409 (Or.inl ⟨?hg409, ?hy409⟩) hH0 ?rest409
          case hi409 => (simp only [List.getElem?_toArray, List.getElem?_cons_succ, List.getElem?_cons_zero]; rfl)
          case hn409 => kernel_rfl
          case hf409 => kernel_rfl
          case hr409 => kernel_rfl
          case hg409 => rfl
          case hy409 => (intro w hSw; (try dsimp only at hSw); go_simp; first | done | with_reducible rfl)
          case hq409 => exact fun _ _ _ h => h
          try dsimp only [Act.put]
          refine held_one 9 rfl (by kernel_rfl) (fun K hK => ?_)
          go_simp
          refine (hR _).mono ?_; rintro e w3 ⟨v3, own3, hb3, rfl⟩
          have hb3' := nx hz.drew hb3
          go_wp2_with fail
          have hH1 : (fun (w' : World) => w'.cell? ⟨g, j, none⟩ = some (.int .i64 x) ∧ w'.cell? ⟨g, j + 1, none⟩ = some (.int .i64 y)) _ := ⟨keep_cell hb3' c1, keep_cell hb3' c2⟩
          refine hK.out (fun (w' : World) => w'.cell? ⟨g, j, none⟩ = some (.int .i64 x) ∧ w'.cell? ⟨g, j + 1, none⟩ = some (.int .i64 y)) _ _ (fun _ h => h) hH1 ?_
          clear hK K
          try dsimp only [Act.put]
          refine wpAnyH_take (i := 10) (oi := ?oi410) (v := ?vv410) ?hi410 ?hn410 ?hf410 ?hr410 ?hq410 (Or.inl ⟨?hg410, ?hy410⟩) hH1 ?rest410
          case hi410 => (simp only [List.getElem?_toArray, List.getElem?_cons_succ, List.getElem?_cons_zero]; rfl)
          case hn410 => kernel_rfl
          case hf410 => kernel_rfl
          case hr410 => kernel_rfl
          case hg410 => rfl
          case hy410 => (intro w hSw; (try dsimp only at hSw); go_simp; first | done | with_reducible rfl)
          case hq410 => exact fun _ _ _ h => h
          try dsimp only [Act.put]
          refine wpAnyH_take (i := 11) (oi := ?oi411) (v := ?vv411) ?hi411 ?hn411 ?hf411 ?hr411 ?hq411 (Or.inl ⟨?hg411, ?hy411⟩) hH1 ?rest411
          case hi411 => (simp only [List.getElem?_toArray, List.getElem?_cons_succ, List.getElem?_cons_zero]; rfl)
          case hn411 => kernel_rfl
          case hf411 => kernel_rfl
          case hr411 => kernel_rfl
          case hg411 => rfl
          case hy411 => (intro w hSw; (try dsimp only at hSw); go_simp; first | done | with_reducible rfl)
          case hq411 => exact fun _ _ _ h => h
          try dsimp only [Act.put]
          refine wpAnyH_take (i := 12) (oi := ?oi412) (v := ?vv412) ?hi412 ?hn412 ?hf412 ?hr412 ?hq412 (Or.inl ⟨?hg412, ?hy412⟩) hH1 ?rest412
          case hi412 => (simp only [List.getElem?_toArray, List.getElem?_cons_succ, List.getElem?_cons_zero]; rfl)
          case hn412 => kernel_rfl
          case hf412 => kernel_rfl
          case hr412 => kernel_rfl
          case hg412 => rfl
          case hy412 => (intro w hSw; (try dsimp only at hSw); go_simp; first | done | with_reducible rfl)
          case hq412 => exact fun _ _ _ h => h
          try dsimp only [Act.put]
          refine wpAnyH_take (i := 13) (oi := ?oi413) (v := ?vv413) ?hi413 ?hn413 ?hf413 ?hr413 ?hq413 (Or.inl ⟨?hg413, ?hy413⟩) hH1 ?rest413
          case hi413 => (simp only [List.getElem?_toArray, List.getElem?_cons_succ, List.getElem?_cons_zero]; rfl)
          case hn413 => kernel_rfl
          case hf413 => kernel_rfl
          case hr413 => kernel_rfl
          case hg413 => rfl
          case hy413 => (intro w hSw; (try dsimp only at hSw); go_simp; first | done | with_reducible rfl)
          case hq413 => exact fun _ _ _ h => h
          try dsimp only [Act.put]
          refine wpAnyH_take (i := 14) (oi := ?oi414) (v := ?vv414) ?hi414 ?hn414 ?hf414 ?hr414 ?hq414 (Or.inl ⟨?hg414, ?hy414⟩) hH1 ?rest414
          case hi414 => (simp only [List.getElem?_toArray, List.getElem?_cons_succ, List.getElem?_cons_zero]; rfl)
          case hn414 => kernel_rfl
          case hf414 => kernel_rfl
          case hr414 => kernel_rfl
          case hg414 => rfl
          case hy414 => (intro w hSw; (try dsimp only at hSw); go_simp; first | done | with_reducible rfl)
          case hq414 => exact fun _ _ _ h => h
          try dsimp only [Act.put]
          refine wpAnyH_done (by kernel_rfl) ?_ _
          simp only [List.setIfInBounds_toArray, List.set_cons_zero, List.set_cons_succ]
          have hbw3 := nx hbw hb3'
          clear hb3 hb3' hz hH0 hH1 c1 c2 hR
          go_wp2_with fail
          have hwj2 : IntKind.i64.wrap ((j : Int) + 2) = (j : Int) + 2 := by rw [IntKind.wrap_i64]; omega
          have hj20 : 0 ≤ (j : Int) + 2 := by omega
          have hj2 : (j : Int) + 2 ≤ (n : Int) := by omega
          have hjc : (j : Int) ≤ (cap : Int) := by omega
          have hnc : (n : Int) ≤ (cap : Int) := by omega
          have hcz : ((j : Int) + 2).toNat = j + 2 := by omega
          have hj22 : (j : Int) ≤ (j : Int) + 2 := by omega
          have hn22 : (j : Int) + 2 ≤ (j : Int) + 2 := by omega
          by_cases hcc : cap = j + 2
          · skip
            refine wp_region_held_drew (S := (fun (_ : World) => True)) (by kernel_rfl) trivial (fun hH0 => ?_)
            refine wpAnyH_take (i := 0) (oi := ?oi901) (v := ?vv901) ?hi901 ?hn901 ?hf901 ?hr901 ?hq901 (Or.inl ⟨?hg901, ?hy901⟩) hH0 ?rest901
            case hi901 => (simp only [List.getElem?_toArray, List.getElem?_cons_zero]; rfl)
            case hn901 => kernel_rfl
            case hf901 => kernel_rfl
            case hr901 => kernel_rfl
            case hg901 => rfl
            case hy901 => (intro w hSw; (try dsimp only at hSw); go_simp; first | done | with_reducible rfl)
            case hq901 => exact fun _ _ _ h => h
            try dsimp only [Act.put]
            refine wpAnyH_take (i := 1) (oi := ?oi902) (v := ?vv902) ?hi902 ?hn902 ?hf902 ?hr902 ?hq902 (Or.inl ⟨?hg902, ?hy902⟩) hH0 ?rest902
            case hi902 => (simp only [List.getElem?_toArray, List.getElem?_cons_succ, List.getElem?_cons_zero]; rfl)
            case hn902 => kernel_rfl
            case hf902 => kernel_rfl
            case hr902 => kernel_rfl
            case hg902 => rfl
            case hy902 => (intro w hSw; (try dsimp only at hSw); go_simp; first | done | with_reducible rfl)
            case hq902 => exact fun _ _ _ h => h
            try dsimp only [Act.put]
            refine wpAnyH_take (i := 2) (oi := ?oi903) (v := ?vv903) ?hi903 ?hn903 ?hf903 ?hr903 ?hq903 (Or.inl ⟨?hg903, ?hy903⟩) hH0 ?rest903
            case hi903 => (simp only [List.getElem?_toArray, List.getElem?_cons_succ, List.getElem?_cons_zero]; rfl)
            case hn903 => kernel_rfl
            case hf903 => kernel_rfl
            case hr903 => kernel_rfl
            case hg903 => rfl
            case hy903 => (intro w hSw; (try dsimp only at hSw); go_simp; first | done | with_reducible rfl)
            case hq903 => exact fun _ _ _ h => h
            try dsimp only [Act.put]
            refine wpAnyH_take (i := 4) (oi := ?oi904) (v := ?vv904) ?hi904 ?hn904 ?hf904 ?hr904 ?hq904 (Or.inl ⟨?hg904, ?hy904⟩) hH0 ?rest904
            case hi904 => (simp only [List.getElem?_toArray, List.getElem?_cons_succ, List.getElem?_cons_zero]; rfl)
            case hn904 => kernel_rfl
            case hf904 => kernel_rfl
            case hr904 => kernel_rfl
            case hg904 => rfl
            case hy904 => (intro w hSw; (try dsimp only at hSw); go_simp; first | done | with_reducible rfl)
            case hq904 => exact fun _ _ _ h => h
            try dsimp only [Act.put]
            refine wpAnyH_take (i := 6) (oi := ?oi905) (v := ?vv905) ?hi905 ?hn905 ?hf905 ?hr905 ?hq905 (Or.inl ⟨?hg905, ?hy905⟩) hH0 ?rest905
            case hi905 => (simp only [List.getElem?_toArray, List.getElem?_cons_succ, List.getElem?_cons_zero]; rfl)
            case hn905 => kernel_rfl
            case hf905 => kernel_rfl
            case hr905 => kernel_rfl
            case hg905 => rfl
            case hy905 => (intro w hSw; (try dsimp only at hSw); go_simp; first | done | with_reducible rfl)
            case hq905 => exact fun _ _ _ h => h
            try dsimp only [Act.put]
            refine wpAnyH_take (i := 7) (oi := ?oi906) (v := ?vv906) ?hi906 ?hn906 ?hf906 ?hr906 ?hq906 (Or.inl ⟨?hg906, ?hy906⟩) hH0 ?rest906
            case hi906 => (simp only [List.getElem?_toArray, List.getElem?_cons_succ, List.getElem?_cons_zero]; rfl)
            case hn906 => kernel_rfl
            case hf906 => kernel_rfl
            case hr906 => kernel_rfl
            case hg906 => rfl
            case hy906 => (intro w hSw; (try dsimp only at hSw); go_simp; first | done | with_reducible rfl)
            case hq906 => exact fun _ _ _ h => h
            try dsimp only [Act.put]
            refine wpAnyH_take (i := 8) (oi := ?oi907) (v := ?vv907) ?hi907 ?hn907 ?hf907 ?hr907 ?hq907 (Or.inl ⟨?hg907, ?hy907⟩) hH0 ?rest907
            case hi907 => (simp only [List.getElem?_toArray, List.getElem?_cons_succ, List.getElem?_cons_zero]; rfl)
            case hn907 => kernel_rfl
            case hf907 => kernel_rfl
            case hr907 => kernel_rfl
            case hg907 => rfl
            case hy907 => (intro w hSw; (try dsimp only at hSw); go_simp; first | done | with_reducible rfl)
            case hq907 => exact fun _ _ _ h => h
            try dsimp only [Act.put]
            refine wpAnyH_take (i := 9) (oi := ?oi908) (v := ?vv908) ?hi908 ?hn908 ?hf908 ?hr908 ?hq908 (Or.inl ⟨?hg908, ?hy908⟩) hH0 ?rest908
            case hi908 => (simp only [List.getElem?_toArray, List.getElem?_cons_succ, List.getElem?_cons_zero]; rfl)
            case hn908 => kernel_rfl
            case hf908 => kernel_rfl
            case hr908 => kernel_rfl
            case hg908 => rfl
            case hy908 => (intro w hSw; (try dsimp only at hSw); go_simp; first | done | with_reducible rfl)
            case hq908 => exact fun _ _ _ h => h
            try dsimp only [Act.put]
            refine held_one 3 rfl (by kernel_rfl) (fun K hK => ?_)
            go_simp
            have hcw : ∀ i, i < L.length → w3.drew.cell? ⟨g, i, none⟩ = some (.int .i64 (L.getD i 0)) := fun i hi => (hbw3.cell (p := ⟨g, i, none⟩) hg).trans (HC.out i hi)
            refine (l1Own_any _ (L.take j) _ (word_front (cap := j + 2) (by omega) hcw) (by rw [List.length_take]; omega)).mono ?_; rintro e w4 ⟨g4, cap4, own4, hb4, rfl⟩
            have hb4' := nx (Below.refl w3.heap.size w3).drew hb4
            go_wp2_with fail
            refine hK.out (fun (_ : World) => True) _ _ (fun _ h => h) trivial ?_
            clear hK K
            try dsimp only [Act.put]
            have own3' := own3.keep hb4'
            have e1 : (L.take j).length = j := by rw [List.length_take]; omega
            have own4' : w4.ownsRow w3.heap.size 3 1 (.slice (some ⟨g4, 0, none⟩) j cap4) j ((L.take j).map (Value.int .i64)) := by have := own4; unfold OwnI at this; rw [e1] at this; exact this
            have hbl2 : (b.map (Value.int .i64)).length = b.length := by simp
            refine held_one 5 rfl (by kernel_rfl) (fun K hK => ?_)
            refine step_appSrc rfl _ _ 22 rfl w3.heap.size 3 i0 (.int .i64 0) 8 Try.underlying22 hi hz0 hz1 hz2 rfl _ _ _ rfl own4' _ _ rfl own3'.src (one_ints b) (by rw [hbl2]; unfold maxLen; omega) (by rw [hbl2]; omega) hb4'.size ?_
            intro v5 w5 own5 hb5
            refine hK.out (fun (_ : World) => True) _ _ (fun _ h => h) trivial ?_
            clear hK K
            try dsimp only [Act.put]
            have hb35 : Below w3.heap.size w3 w5 := hb4'.trans hb5
            have hcw5 : ∀ i, i < L.length → w5.cell? ⟨g, i, none⟩ = some (.int .i64 (L.getD i 0)) := fun i hi => ((nx hbw3 hb35).cell (p := ⟨g, i, none⟩) hg).trans (HC.out i hi)
            have hbk : SrcV w5 (.slice (some ⟨g, 0, none⟩) (n - (j + 2)) 0) ((L.drop (j + 2)).map (Value.int .i64)) := .inr ⟨⟨g, 0, none⟩, 0, by rw [List.length_map, List.length_drop, hn0], fun i x hi => by rw [List.drop_of_length_le (by omega)] at hi; simp at hi⟩
            skip
            have hdl : ((L.drop (j + 2)).map (Value.int .i64)).length = n - (j + 2) := by rw [List.length_map, List.length_drop]; omega
            refine held_one 10 rfl (by kernel_rfl) (fun K hK => ?_)
            refine step_appSrc rfl _ _ 22 rfl w3.heap.size 3 i0 (.int .i64 0) 8 Try.underlying22 hi hz0 hz1 hz2 rfl _ _ _ rfl own5 _ _ rfl hbk (one_ints _) (by rw [hdl, hbl2]; unfold maxLen; omega) (by rw [hdl, hbl2]; omega) hb35.size ?_
            intro v6 w6 own6 hb6
            refine hK.out (fun (_ : World) => True) _ _ (fun _ h => h) trivial ?_
            clear hK K
            try dsimp only [Act.put]
            refine wpAnyH_take (i := 11) (oi := ?oi950) (v := ?vv950) ?hi950 ?hn950 ?hf950 ?hr950 ?hq950 (Or.inl ⟨?hg950, ?hy950⟩) trivial ?rest950
            case hi950 => (simp only [List.getElem?_toArray, List.getElem?_cons_succ, List.getElem?_cons_zero]; rfl)
            case hn950 => kernel_rfl
            case hf950 => kernel_rfl
            case hr950 => kernel_rfl
            case hg950 => rfl
            case hy950 => (intro w hSw; (try dsimp only at hSw); go_simp; first | done | with_reducible rfl)
            case hq950 => exact fun _ _ _ h => h
            try dsimp only [Act.put]
            refine wpAnyH_take (i := 12) (oi := ?oi951) (v := ?vv951) ?hi951 ?hn951 ?hf951 ?hr951 ?hq951 (Or.inl ⟨?hg951, ?hy951⟩) trivial ?rest951
            case hi951 => (simp only [List.getElem?_toArray, List.getElem?_cons_succ, List.getElem?_cons_zero]; rfl)
            case hn951 => kernel_rfl
            case hf951 => kernel_rfl
            case hr951 => kernel_rfl
            case hg951 => rfl
            case hy951 => (intro w hSw; (try dsimp only at hSw); go_simp; first | done | with_reducible rfl)
            case hq951 => exact fun _ _ _ h => h
            try dsimp only [Act.put]
            refine wpAnyH_done (by kernel_rfl) ?_ _
            simp only [List.setIfInBounds_toArray]
            go_wp2_with fail
            go_ret2
            have hb36 := hb35.trans hb6
            refine ⟨nx hbw3 hb36, v6, ?_, by simp⟩
            refine OwnI.mono ?_ hbw3.size
            unfold OwnI
            have e2 : (L.take j ++ (b ++ L.drop (j + 2))).length = j + (b.map (Value.int .i64)).length + ((L.drop (j + 2)).map (Value.int .i64)).length := by rw [List.length_append, List.length_append, e1, List.length_map, List.length_map]; omega
            rw [e2, List.map_append, List.map_append, ← List.append_assoc]
            exact own6
          · skip
            refine wp_region_held_drew (S := (fun (_ : World) => True)) (by kernel_rfl) trivial (fun hH0 => ?_)
            refine wpAnyH_take (i := 0) (oi := ?oi1901) (v := ?vv1901) ?hi1901 ?hn1901 ?hf1901 ?hr1901 ?hq1901 (Or.inl ⟨?hg1901, ?hy1901⟩) hH0 ?rest1901
            case hi1901 => (simp only [List.getElem?_toArray, List.getElem?_cons_zero]; rfl)
            case hn1901 => kernel_rfl
            case hf1901 => kernel_rfl
            case hr1901 => kernel_rfl
            case hg1901 => rfl
            case hy1901 => (intro w hSw; (try dsimp only at hSw); go_simp; first | done | with_reducible rfl)
            case hq1901 => exact fun _ _ _ h => h
            try dsimp only [Act.put]
            refine wpAnyH_take (i := 1) (oi := ?oi1902) (v := ?vv1902) ?hi1902 ?hn1902 ?hf1902 ?hr1902 ?hq1902 (Or.inl ⟨?hg1902, ?hy1902⟩) hH0 ?rest1902
            case hi1902 => (simp only [List.getElem?_toArray, List.getElem?_cons_succ, List.getElem?_cons_zero]; rfl)
            case hn1902 => kernel_rfl
            case hf1902 => kernel_rfl
            case hr1902 => kernel_rfl
            case hg1902 => rfl
            case hy1902 => (intro w hSw; (try dsimp only at hSw); go_simp; first | done | with_reducible rfl)
            case hq1902 => exact fun _ _ _ h => h
            try dsimp only [Act.put]
            refine wpAnyH_take (i := 2) (oi := ?oi1903) (v := ?vv1903) ?hi1903 ?hn1903 ?hf1903 ?hr1903 ?hq1903 (Or.inl ⟨?hg1903, ?hy1903⟩) hH0 ?rest1903
            case hi1903 => (simp only [List.getElem?_toArray, List.getElem?_cons_succ, List.getElem?_cons_zero]; rfl)
            case hn1903 => kernel_rfl
            case hf1903 => kernel_rfl
            case hr1903 => kernel_rfl
            case hg1903 => rfl
            case hy1903 => (intro w hSw; (try dsimp only at hSw); go_simp; first | done | with_reducible rfl)
            case hq1903 => exact fun _ _ _ h => h
            try dsimp only [Act.put]
            refine wpAnyH_take (i := 4) (oi := ?oi1904) (v := ?vv1904) ?hi1904 ?hn1904 ?hf1904 ?hr1904 ?hq1904 (Or.inl ⟨?hg1904, ?hy1904⟩) hH0 ?rest1904
            case hi1904 => (simp only [List.getElem?_toArray, List.getElem?_cons_succ, List.getElem?_cons_zero]; rfl)
            case hn1904 => kernel_rfl
            case hf1904 => kernel_rfl
            case hr1904 => kernel_rfl
            case hg1904 => rfl
            case hy1904 => (intro w hSw; (try dsimp only at hSw); go_simp; first | done | with_reducible rfl)
            case hq1904 => exact fun _ _ _ h => h
            try dsimp only [Act.put]
            refine wpAnyH_take (i := 6) (oi := ?oi1905) (v := ?vv1905) ?hi1905 ?hn1905 ?hf1905 ?hr1905 ?hq1905 (Or.inl ⟨?hg1905, ?hy1905⟩) hH0 ?rest1905
            case hi1905 => (simp only [List.getElem?_toArray, List.getElem?_cons_succ, List.getElem?_cons_zero]; rfl)
            case hn1905 => kernel_rfl
            case hf1905 => kernel_rfl
            case hr1905 => kernel_rfl
            case hg1905 => rfl
            case hy1905 => (intro w hSw; (try dsimp only at hSw); go_simp; first | done | with_reducible rfl)
            case hq1905 => exact fun _ _ _ h => h
            try dsimp only [Act.put]
            refine wpAnyH_take (i := 7) (oi := ?oi1906) (v := ?vv1906) ?hi1906 ?hn1906 ?hf1906 ?hr1906 ?hq1906 (Or.inl ⟨?hg1906, ?hy1906⟩) hH0 ?rest1906
            case hi1906 => (simp only [List.getElem?_toArray, List.getElem?_cons_succ, List.getElem?_cons_zero]; rfl)
            case hn1906 => kernel_rfl
            case hf1906 => kernel_rfl
            case hr1906 => kernel_rfl
            case hg1906 => rfl
            case hy1906 => (intro w hSw; (try dsimp only at hSw); go_simp; first | done | with_reducible rfl)
            case hq1906 => exact fun _ _ _ h => h
            try dsimp only [Act.put]
            refine wpAnyH_take (i := 8) (oi := ?oi1907) (v := ?vv1907) ?hi1907 ?hn1907 ?hf1907 ?hr1907 ?hq1907 (Or.inl ⟨?hg1907, ?hy1907⟩) hH0 ?rest1907
            case hi1907 => (simp only [List.getElem?_toArray, List.getElem?_cons_succ, List.getElem?_cons_zero]; rfl)
            case hn1907 => kernel_rfl
            case hf1907 => kernel_rfl
            case hr1907 => kernel_rfl
            case hg1907 => rfl
            case hy1907 => (intro w hSw; (try dsimp only at hSw); go_simp; first | done | with_reducible rfl)
            case hq1907 => exact fun _ _ _ h => h
            try dsimp only [Act.put]
            refine wpAnyH_take (i := 9) (oi := ?oi1908) (v := ?vv1908) ?hi1908 ?hn1908 ?hf1908 ?hr1908 ?hq1908 (Or.inl ⟨?hg1908, ?hy1908⟩) hH0 ?rest1908
            case hi1908 => (simp only [List.getElem?_toArray, List.getElem?_cons_succ, List.getElem?_cons_zero]; rfl)
            case hn1908 => kernel_rfl
            case hf1908 => kernel_rfl
            case hr1908 => kernel_rfl
            case hg1908 => rfl
            case hy1908 => (intro w hSw; (try dsimp only at hSw); go_simp; first | done | with_reducible rfl)
            case hq1908 => exact fun _ _ _ h => h
            try dsimp only [Act.put]
            refine held_one 3 rfl (by kernel_rfl) (fun K hK => ?_)
            go_simp
            have hcw : ∀ i, i < L.length → w3.drew.cell? ⟨g, i, none⟩ = some (.int .i64 (L.getD i 0)) := fun i hi => (hbw3.cell (p := ⟨g, i, none⟩) hg).trans (HC.out i hi)
            refine (l1Own_any _ (L.take j) _ (word_front (cap := cap) (by omega) hcw) (by rw [List.length_take]; omega)).mono ?_; rintro e w4 ⟨g4, cap4, own4, hb4, rfl⟩
            have hb4' := nx (Below.refl w3.heap.size w3).drew hb4
            go_wp2_with fail
            refine hK.out (fun (_ : World) => True) _ _ (fun _ h => h) trivial ?_
            clear hK K
            try dsimp only [Act.put]
            have own3' := own3.keep hb4'
            have e1 : (L.take j).length = j := by rw [List.length_take]; omega
            have own4' : w4.ownsRow w3.heap.size 3 1 (.slice (some ⟨g4, 0, none⟩) j cap4) j ((L.take j).map (Value.int .i64)) := by have := own4; unfold OwnI at this; rw [e1] at this; exact this
            have hbl2 : (b.map (Value.int .i64)).length = b.length := by simp
            refine held_one 5 rfl (by kernel_rfl) (fun K hK => ?_)
            refine step_appSrc rfl _ _ 22 rfl w3.heap.size 3 i0 (.int .i64 0) 8 Try.underlying22 hi hz0 hz1 hz2 rfl _ _ _ rfl own4' _ _ rfl own3'.src (one_ints b) (by rw [hbl2]; unfold maxLen; omega) (by rw [hbl2]; omega) hb4'.size ?_
            intro v5 w5 own5 hb5
            refine hK.out (fun (_ : World) => True) _ _ (fun _ h => h) trivial ?_
            clear hK K
            try dsimp only [Act.put]
            have hb35 : Below w3.heap.size w3 w5 := hb4'.trans hb5
            have hcw5 : ∀ i, i < L.length → w5.cell? ⟨g, i, none⟩ = some (.int .i64 (L.getD i 0)) := fun i hi => ((nx hbw3 hb35).cell (p := ⟨g, i, none⟩) hg).trans (HC.out i hi)
            have hbk := word_back (cap := cap - (j + 2)) (j := j + 2) (by omega) hcw5
            rw [hn0] at hbk
            have hdl : ((L.drop (j + 2)).map (Value.int .i64)).length = n - (j + 2) := by rw [List.length_map, List.length_drop]; omega
            refine held_one 10 rfl (by kernel_rfl) (fun K hK => ?_)
            refine step_appSrc rfl _ _ 22 rfl w3.heap.size 3 i0 (.int .i64 0) 8 Try.underlying22 hi hz0 hz1 hz2 rfl _ _ _ rfl own5 _ _ rfl hbk (one_ints _) (by rw [hdl, hbl2]; unfold maxLen; omega) (by rw [hdl, hbl2]; omega) hb35.size ?_
            intro v6 w6 own6 hb6
            refine hK.out (fun (_ : World) => True) _ _ (fun _ h => h) trivial ?_
            clear hK K
            try dsimp only [Act.put]
            refine wpAnyH_take (i := 11) (oi := ?oi1950) (v := ?vv1950) ?hi1950 ?hn1950 ?hf1950 ?hr1950 ?hq1950 (Or.inl ⟨?hg1950, ?hy1950⟩) trivial ?rest1950
            case hi1950 => (simp only [List.getElem?_toArray, List.getElem?_cons_succ, List.getElem?_cons_zero]; rfl)
            case hn1950 => kernel_rfl
            case hf1950 => kernel_rfl
            case hr1950 => kernel_rfl
            case hg1950 => rfl
            case hy1950 => (intro w hSw; (try dsimp only at hSw); go_simp; first | done | with_reducible rfl)
            case hq1950 => exact fun _ _ _ h => h
            try dsimp only [Act.put]
            refine wpAnyH_take (i := 12) (oi := ?oi1951) (v := ?vv1951) ?hi1951 ?hn1951 ?hf1951 ?hr1951 ?hq1951 (Or.inl ⟨?hg1951, ?hy1951⟩) trivial ?rest1951
            case hi1951 => (simp only [List.getElem?_toArray, List.getElem?_cons_succ, List.getElem?_cons_zero]; rfl)
            case hn1951 => kernel_rfl
            case hf1951 => kernel_rfl
            case hr1951 => kernel_rfl
            case hg1951 => rfl
            case hy1951 => (intro w hSw; (try dsimp only at hSw); go_simp; first | done | with_reducible rfl)
            case hq1951 => exact fun _ _ _ h => h
            try dsimp only [Act.put]
            refine wpAnyH_done (by kernel_rfl) ?_ _
            simp only [List.setIfInBounds_toArray]
            go_wp2_with fail
            go_ret2
            have hb36 := hb35.trans hb6
            refine ⟨nx hbw3 hb36, v6, ?_, by simp⟩
            refine OwnI.mono ?_ hbw3.size
            unfold OwnI
            have e2 : (L.take j ++ (b ++ L.drop (j + 2))).length = j + (b.map (Value.int .i64)).length + ((L.drop (j + 2)).map (Value.int .i64)).length := by rw [List.length_append, List.length_append, e1, List.length_map, List.length_map]; omega
            rw [e2, List.map_append, List.map_append, ← List.append_assoc]
            exact own6
      · obtain hr := HR.out
        rw [List.take_of_length_le (by omega)] at hst
        rw [hst.out] at hr
        have hlt' : ¬ (j : Int) + 1 < (n : Int) := by omega
        clear HR
        subst hr
        go_wp2_with fail
        go_ret2
        exact ⟨hbw, rfl⟩
end Go.Proofs.Ytlcepokenaiggab
