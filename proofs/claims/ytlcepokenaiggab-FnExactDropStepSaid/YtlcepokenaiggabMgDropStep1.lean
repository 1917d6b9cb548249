/- Texts that the claim needs, part 2. -/
import Derived.Test.YtlcepokenaiggabMgDropStep0
import Derived.Lib.AppendZeros
import Derived.Laws.CopyOwn
import Derived.Laws.MakeOwn
import Derived.Deep.RegionLaw
/-! Ru4 -/
namespace Go.Proofs.Ytlcepokenaiggab
open Go.RowKit

def StepW (v : Value) (o : Option (List Int)) (w : World) (e : Ending) (w' : World) : Prop :=
  Below w.heap.size w w' ∧ match o with
    | some r => ∃ v', OwnI w.heap.size w' v' r ∧ e = .returned (.tuple #[v', .bool true])
    | none => e = .returned (.tuple #[v, .bool false])
set_option maxRecDepth 100000 in
set_option maxHeartbeats 4000000 in
theorem wdStep_any (v : Value) (b1 : Nat) (L : List Int) (w : World) (hv : CellsI b1 w v L) (hn : L.length ≤ 100) (hL : ∀ x ∈ L, -1000 ≤ x ∧ x ≤ 1000) :
    Calls Try.prog 22 #[v] w (StepW v (stepO L) w) := by
  obtain ⟨R, hR⟩ : ∃ R, R = stepO L := ⟨_, rfl⟩
  rw [← hR]
  have HR := Lib.hid hR
  clear hR
  rcases hv with ⟨rfl, rfl⟩ | ⟨g, cap, rfl, _, hg, hc1, hc2, hx, _⟩
  · go_enter Try.func22, Try.ntmps22
    go_wp2_with fail
    go_loopw [4] (fun i wr => i = .int .i64 0 ∧ wr = w) (fun _ _ => 0)
    case atStart => exact ⟨rfl, rfl⟩
    case round =>
      obtain ⟨rfl, rfl⟩ := hrel
      have hr := HR.out
      rw [show stepO [] = none from rfl] at hr
      subst hr
      go_wp2_with fail
      go_ret2
      exact ⟨Below.refl _ _, rfl⟩
  · obtain ⟨n, hn0⟩ : ∃ n, L.length = n := ⟨_, rfl⟩
    have HC := Lib.hid hx
    have HL := Lib.hid hL
    rw [hn0] at hc1 hn ⊢
    unfold maxLen at hc2
    obtain ⟨i0, hi, hz0, hz1, hz2⟩ := info_parts info_int
    have HNN := Lib.hid hn0
    clear hx hL hn0
    go_enter Try.func22, Try.ntmps22
    go_wp2_with fail
    go_loopw [4] (fun i wr => ∃ j : Nat, j ≤ n ∧ i = .int .i64 j ∧ Hid (stepO (L.take (j + 1)) = none) ∧ Below w.heap.size w wr) (fun i _ => n - (intOf i).toNat)
    case atStart => exact ⟨0, Nat.zero_le _, rfl, Lib.hid (stepO_small (by rw [List.length_take]; omega)), Below.refl _ _⟩
    case round =>
      obtain ⟨j, hj, rfl, hst, hbw⟩ := hrel
      have hn0 := HNN.out
      by_cases hlt : j + 1 < n
      · have hlt' : (j : Int) + 1 < (n : Int) := by omega
        have hlt2 : (j : Int) < (n : Int) := by omega
        have c1 := (hbw.cell (p := ⟨g, j, none⟩) hg).trans (HC.out j (by omega))
        have c2 := (hbw.cell (p := ⟨g, j + 1, none⟩) hg).trans (HC.out (j + 1) (by omega))
        have ht := stepO_take (w := L) (k := j) (by omega) hst.out
        have hlx := HL.out (L.getD j 0) (by simp [show j < L.length by omega])
        have hly := HL.out (L.getD (j + 1) 0) (by simp [show j + 1 < L.length by omega])
        generalize L.getD j 0 = x at *
        generalize L.getD (j + 1) 0 = y at *
        have hR := fun w => wdRule_any x y w hlx.1 hlx.2 hly.1 hly.2
        have hz := Below.refl wr.heap.size wr
        have hwj : IntKind.i64.wrap ((j : Int) + 1) = (j : Int) + 1 := by rw [IntKind.wrap_i64]; omega
        have hj0 : 0 ≤ (j : Int) + 1 := by omega
        clear hlx hly hst
        cases hru : ruleO x y with
        | none =>
          have HS := Lib.hid (ht.2 hru)
          rw [hru] at hR
          change ∀ w, Calls _ _ _ w (AnsI2 [] false w) at hR
          clear ht hru hn0
          go_wp2_with fail
          refine wp_region_held_drew (S := (fun (w' : World) => w'.cell? ⟨g, j, none⟩ = some (.int .i64 x) ∧ w'.cell? ⟨g, j + 1, none⟩ = some (.int .i64 y))) (by kernel_rfl) ⟨c1, c2⟩ (fun hH0 => ?_)
          refine wpAnyH_take (i := 0) (oi := ?oi201) (v := ?vv201) ?hi201 ?hn201 ?hf201 ?hr201 ?hq201 (Or.inl ⟨?hg201, ?hy201⟩) hH0 ?rest201
          case hi201 => (simp only [List.getElem?_toArray, List.getElem?_cons_zero]; rfl)
          case hn201 => kernel_rfl
          case hf201 => kernel_rfl
          case hr201 => kernel_rfl
          case hg201 => rfl
          case hy201 => (intro w hSw; (try dsimp only at hSw); go_simp; first | done | with_reducible rfl)
          case hq201 => exact fun _ _ _ h => h
          try dsimp only [Act.put]
          refine wpAnyH_take (i := 1) (oi := ?oi202) (v := ?vv202) ?hi202 ?hn202 ?hf202 ?hr202 ?hq202 (Or.inl ⟨?hg202, ?hy202⟩) hH0 ?rest202
          case hi202 => (simp only [List.getElem?_toArray, List.getElem?_cons_succ, List.getElem?_cons_zero]; rfl)
          case hn202 => kernel_rfl
          case hf202 => kernel_rfl
          case hr202 => kernel_rfl
          case hg202 => rfl
          case hy202 => (intro w hSw; (try dsimp only at hSw); go_simp; first | done | with_reducible rfl)
          case hq202 => exact fun _ _ _ h => h
          try dsimp only [Act.put]
          refine wpAnyH_take (i := 2) (oi := ?oi203) (v := ?vv203) ?hi203 ?hn203 ?hf203 ?hr203 ?hq203 (Or.inl ⟨?hg203, ?hy203⟩) hH0 ?rest203
          case hi203 => (simp only [List.getElem?_toArray, List.getElem?_cons_succ, List.getElem?_cons_zero]; rfl)
          case hn203 => kernel_rfl
          case hf203 => kernel_rfl
          case hr203 => kernel_rfl
          case hg203 => rfl
          case hy203 => (intro w hSw; (try dsimp only at hSw); go_simp; first | done | with_reducible rfl)
          case hq203 => exact fun _ _ _ h => h
          try dsimp only [Act.put]
          refine wpAnyH_take (i := 3) (oi := ?oi204) (v := ?vv204) ?hi204 ?hn204 ?hf204 ?hr204 ?hq204 (Or.inl ⟨?hg204, ?hy204⟩) hH0 ?rest204
          case hi204 => (simp only [List.getElem?_toArray, List.getElem?_cons_succ, List.getElem?_cons_zero]; rfl)
          case hn204 => kernel_rfl
          case hf204 => kernel_rfl
          case hr204 => kernel_rfl
          case hg204 => rfl
          case hy204 => (intro w hSw; (try dsimp only at hSw); go_simp; first | done | with_reducible rfl)
          case hq204 => exact fun _ _ _ h => h
          try dsimp only [Act.put]
          refine wpAnyH_take (i := 4) (oi := ?oi205) (v := ?vv205) ?hi205 ?hn205 ?hf205 ?hr205 ?hq205 (Or.inl ⟨?hg205, ?hy205⟩) hH0 ?rest205
          case hi205 => (simp only [List.getElem?_toArray, List.getElem?_cons_succ, List.getElem?_cons_zero]; rfl)
          case hn205 => kernel_rfl
          case hf205 => kernel_rfl
          case hr205 => kernel_rfl
          case hg205 => rfl
          case hy205 => (intro w hSw; (try dsimp only at hSw); go_simp; first | done | with_reducible rfl)
          case hq205 => exact fun _ _ _ h => h
          try dsimp only [Act.put]
          refine wpAnyH_take (i := 5) (oi := ?oi206) (v := ?vv206) ?hi206 ?hn206 ?hf206 ?hr206 ?hq206 (Or.inl ⟨?hg206, ?hy206⟩) hH0 ?rest206
          case hi206 => (simp only [List.getElem?_toArray, List.getElem?_cons_succ, List.getElem?_cons_zero]; rfl)
          case hn206 => kernel_rfl
          case hf206 => kernel_rfl
          case hr206 => kernel_rfl
          case hg206 => rfl
          case hy206 => (intro w hSw; (try dsimp only at hSw); go_simp; first | done | with_reducible rfl)
          case hq206 => exact fun _ _ _ h => h
          try dsimp only [Act.put]
          refine wpAnyH_take (i := 6) (oi := ?oi207) (v := ?vv207) ?hi207 ?hn207 ?hf207 ?hr207 ?hq207 (Or.inl ⟨?hg207, ?hy207⟩) hH0 ?rest207
          case hi207 => (simp only [List.getElem?_toArray, List.getElem?_cons_succ, List.getElem?_cons_zero]; rfl)
          case hn207 => kernel_rfl
          case hf207 => kernel_rfl
          case hr207 => kernel_rfl
          case hg207 => rfl
          case hy207 => (intro w hSw; (try dsimp only at hSw); go_simp; first | done | with_reducible rfl)
          case hq207 => exact fun _ _ _ h => h
          try dsimp only [Act.put]
          refine wpAnyH_take (i := 7) (oi := ?oi208) (v := ?vv208) ?hi208 ?hn208 ?hf208 ?hr208 ?hq208 (Or.inl ⟨?hg208, ?hy208⟩) hH0 ?rest208
          case hi208 => (simp only [List.getElem?_toArray, List.getElem?_cons_succ, List.getElem?_cons_zero]; rfl)
          case hn208 => kernel_rfl
          case hf208 => kernel_rfl
          case hr208 => kernel_rfl
          case hg208 => rfl
          case hy208 => (intro w hSw; (try dsimp only at hSw); go_simp; first | done | with_reducible rfl)
          case hq208 => exact fun _ _ _ h => h
          try dsimp only [Act.put]
          refine wpAnyH_take (i := 8) (oi := ?oi209) (v := ?vv209) ?hi209 ?hn209 ?hf209 ?hr209 ?hq209 (Or.inl ⟨?hg209, ?hy209⟩) hH0 ?rest209
          case hi209 => (simp only [List.getElem?_toArray, List.getElem?_cons_succ, List.getElem?_cons_zero]; rfl)
          case hn209 => kernel_rfl
          case hf209 => kernel_rfl
          case hr209 => kernel_rfl
          case hg209 => rfl
          case hy209 => (intro w hSw; (try dsimp only at hSw); go_simp; first | done | with_reducible rfl)
          case hq209 => exact fun _ _ _ h => h
          try dsimp only [Act.put]
          refine held_one 9 rfl (by kernel_rfl) (fun K hK => ?_)
          go_simp
          refine (hR _).mono ?_; rintro e w3 ⟨v3, own3, hb3, rfl⟩
          have hb3' := nx hz.drew hb3
          go_wp2_with fail
          have hH1 : (fun (w' : World) => w'.cell? ⟨g, j, none⟩ = some (.int .i64 x) ∧ w'.cell? ⟨g, j + 1, none⟩ = some (.int .i64 y)) _ := ⟨keep_cell hb3' c1, keep_cell hb3' c2⟩
          refine hK.out (fun (w' : World) => w'.cell? ⟨g, j, none⟩ = some (.int .i64 x) ∧ w'.cell? ⟨g, j + 1, none⟩ = some (.int .i64 y)) _ _ (fun _ h => h) hH1 ?_
          clear hK K
          try dsimp only [Act.put]
          refine wpAnyH_take (i := 10) (oi := ?oi210) (v := ?vv210) ?hi210 ?hn210 ?hf210 ?hr210 ?hq210 (Or.inl ⟨?hg210, ?hy210⟩) hH1 ?rest210
          case hi210 => (simp only [List.getElem?_toArray, List.getElem?_cons_succ, List.getElem?_cons_zero]; rfl)
          case hn210 => kernel_rfl
          case hf210 => kernel_rfl
          case hr210 => kernel_rfl
          case hg210 => rfl
          case hy210 => (intro w hSw; (try dsimp only at hSw); go_simp; first | done | with_reducible rfl)
          case hq210 => exact fun _ _ _ h => h
          try dsimp only [Act.put]
          refine wpAnyH_take (i := 11) (oi := ?oi211) (v := ?vv211) ?hi211 ?hn211 ?hf211 ?hr211 ?hq211 (Or.inl ⟨?hg211, ?hy211⟩) hH1 ?rest211
          case hi211 => (simp only [List.getElem?_toArray, List.getElem?_cons_succ, List.getElem?_cons_zero]; rfl)
          case hn211 => kernel_rfl
          case hf211 => kernel_rfl
          case hr211 => kernel_rfl
          case hg211 => rfl
          case hy211 => (intro w hSw; (try dsimp only at hSw); go_simp; first | done | with_reducible rfl)
          case hq211 => exact fun _ _ _ h => h
          try dsimp only [Act.put]
          refine wpAnyH_take (i := 12) (oi := ?oi212) (v := ?vv212) ?hi212 ?hn212 ?hf212 ?hr212 ?hq212 (Or.inl ⟨?hg212, ?hy212⟩) hH1 ?rest212
          case hi212 => (simp only [List.getElem?_toArray, List.getElem?_cons_succ, List.getElem?_cons_zero]; rfl)
          case hn212 => kernel_rfl
          case hf212 => kernel_rfl
          case hr212 => kernel_rfl
          case hg212 => rfl
          case hy212 => (intro w hSw; (try dsimp only at hSw); go_simp; first | done | with_reducible rfl)
          case hq212 => exact fun _ _ _ h => h
          try dsimp only [Act.put]
          refine wpAnyH_take (i := 13) (oi := ?oi213) (v := ?vv213) ?hi213 ?hn213 ?hf213 ?hr213 ?hq213 (Or.inl ⟨?hg213, ?hy213⟩) hH1 ?rest213
          case hi213 => (simp only [List.getElem?_toArray, List.getElem?_cons_succ, List.getElem?_cons_zero]; rfl)
          case hn213 => kernel_rfl
          case hf213 => kernel_rfl
          case hr213 => kernel_rfl
          case hg213 => rfl
          case hy213 => (intro w hSw; (try dsimp only at hSw); go_simp; first | done | with_reducible rfl)
          case hq213 => exact fun _ _ _ h => h
          try dsimp only [Act.put]
          refine wpAnyH_take (i := 14) (oi := ?oi214) (v := ?vv214) ?hi214 ?hn214 ?hf214 ?hr214 ?hq214 (Or.inl ⟨?hg214, ?hy214⟩) hH1 ?rest214
          case hi214 => (simp only [List.getElem?_toArray, List.getElem?_cons_succ, List.getElem?_cons_zero]; rfl)
          case hn214 => kernel_rfl
          case hf214 => kernel_rfl
          case hr214 => kernel_rfl
          case hg214 => rfl
          case hy214 => (intro w hSw; (try dsimp only at hSw); go_simp; first | done | with_reducible rfl)
          case hq214 => exact fun _ _ _ h => h
          try dsimp only [Act.put]
          refine wpAnyH_done (by kernel_rfl) ?_ _
          simp only [List.setIfInBounds_toArray, List.set_cons_zero, List.set_cons_succ]
          have hbw3 := nx hbw hb3'
          clear own3 hb3 hb3' hz hH0 hH1 c1 c2 hR
          go_wp2_with fail
          go_roundw
          case rel => exact ⟨j + 1, by omega, by go_num, HS, hbw3⟩
          case measure => simp [intOf]; omega
        | some b =>
          have hres := ht.1 b hru
          rw [← HR.out] at hres
          rw [hru] at hR
          change ∀ w, Calls _ _ _ w (AnsI2 b true w) at hR
          have hbl : b.length ≤ 2 := by
            unfold ruleO at hru
            split at hru
            · cases hru; simp
            · split at hru
              · cases hru; simp
              · split at hru
                · cases hru; simp
                · split at hru
                  · cases hru; simp
                  · split at hru
                    · cases hru; simp
                    · cases hru
          clear ht hru HR
          subst hres
          go_wp2_with fail
          refine wp_region_held_drew (S := (fun (w' : World) => w'.cell? ⟨g, j, none⟩ = some (.int .i64 x) ∧ w'.cell? ⟨g, j + 1, none⟩ = some (.int .i64 y))) (by kernel_rfl) ⟨c1, c2⟩ (fun hH0 => ?_)
          refine wpAnyH_take (i := 0) (oi := ?oi401) (v := ?vv401) ?hi401 ?hn401 ?hf401 ?hr401 ?hq401 (Or.inl ⟨?hg401, ?hy401⟩) hH0 ?rest401
          case hi401 => (simp only [List.getElem?_toArray, List.getElem?_cons_zero]; rfl)
          case hn401 => kernel_rfl
          case hf401 => kernel_rfl
          case hr401 => kernel_rfl
          case hg401 => rfl
          case hy401 => (intro w hSw; (try dsimp only at hSw); go_simp; first | done | with_reducible rfl)
          case hq401 => exact fun _ _ _ h => h
          try dsimp only [Act.put]
          refine wpAnyH_take (i := 1) (oi := ?oi402) (v := ?vv402) ?hi402 ?hn402 ?hf402 ?hr402 ?hq402 (Or.inl ⟨?hg402, ?hy402⟩) hH0 ?rest402
          case hi402 => (simp only [List.getElem?_toArray, List.getElem?_cons_succ, List.getElem?_cons_zero]; rfl)
          case hn402 => kernel_rfl
          case hf402 => kernel_rfl
          case hr402 => kernel_rfl
          case hg402 => rfl
          case hy402 => (intro w hSw; (try dsimp only at hSw); go_simp; first | done | with_reducible rfl)
          case hq402 => exact fun _ _ _ h => h
          try dsimp only [Act.put]
          refine wpAnyH_take (i := 2) (oi := ?oi403) (v := ?vv403) ?hi403 ?hn403 ?hf403 ?hr403 ?hq403 (Or.inl ⟨?hg403, ?hy403⟩) hH0 ?rest403
          case hi403 => (simp only [List.getElem?_toArray, List.getElem?_cons_succ, List.getElem?_cons_zero]; rfl)
          case hn403 => kernel_rfl
          case hf403 => kernel_rfl
          case hr403 => kernel_rfl
          case hg403 => rfl
          case hy403 => (intro w hSw; (try dsimp only at hSw); go_simp; first | done | with_reducible rfl)
          case hq403 => exact fun _ _ _ h => h
          try dsimp only [Act.put]
          refine wpAnyH_take (i := 3) (oi := ?oi404) (v := ?vv404) ?hi404 ?hn404 ?hf404 ?hr404 ?hq404 (Or.inl ⟨?hg404, ?hy404⟩) hH0 ?rest404
          case hi404 => (simp only [List.getElem?_toArray, List.getElem?_cons_succ, List.getElem?_cons_zero]; rfl)
          case hn404 => kernel_rfl
          case hf404 => kernel_rfl
          case hr404 => kernel_rfl
          case hg404 => rfl
          case hy404 => (intro w hSw; (try dsimp only at hSw); go_simp; first | done | with_reducible rfl)
          case hq404 => exact fun _ _ _ h => h
          try dsimp only [Act.put]
          refine wpAnyH_take (i := 4) (oi := ?oi405) (v := ?vv405) ?hi405 ?hn405 ?hf405 ?hr405 ?hq405 (Or.inl ⟨?hg405, ?hy405⟩) hH0 ?rest405
          case hi405 => (simp only [List.getElem?_toArray, List.getElem?_cons_succ, List.getElem?_cons_zero]; rfl)
          case hn405 => kernel_rfl
          case hf405 => kernel_rfl
          case hr405 => kernel_rfl
          case hg405 => rfl
          case hy405 => (intro w hSw; (try dsimp only at hSw); go_simp; first | done | with_reducible rfl)
          case hq405 => exact fun _ _ _ h => h
          try dsimp only [Act.put]
          refine wpAnyH_take (i := 5) (oi := ?oi406) (v := ?vv406) ?hi406 ?hn406 ?hf406 ?hr406 ?hq406 (Or.inl ⟨?hg406, ?hy406⟩) hH0 ?rest406
          case hi406 => (simp only [List.getElem?_toArray, List.getElem?_cons_succ, List.getElem?_cons_zero]; rfl)
          case hn406 => kernel_rfl
          case hf406 => kernel_rfl
          case hr406 => kernel_rfl
          case hg406 => rfl
          case hy406 => (intro w hSw; (try dsimp only at hSw); go_simp; first | done | with_reducible rfl)
          case hq406 => exact fun _ _ _ h => h
          try dsimp only [Act.put]
          refine wpAnyH_take (i := 6) (oi := ?oi407) (v := ?vv407) ?hi407 ?hn407 ?hf407 ?hr407 ?hq407 (Or.inl ⟨?hg407, ?hy407⟩) hH0 ?rest407
          case hi407 => (simp only [List.getElem?_toArray, List.getElem?_cons_succ, List.getElem?_cons_zero]; rfl)
          case hn407 => kernel_rfl
          case hf407 => kernel_rfl
          case hr407 => kernel_rfl
          case hg407 => rfl
          case hy407 => (intro w hSw; (try dsimp only at hSw); go_simp; first | done | with_reducible rfl)
          case hq407 => exact fun _ _ _ h => h
          try dsimp only [Act.put]
          refine wpAnyH_take (i := 7) (oi := ?oi408) (v := ?vv408) ?hi408 ?hn408 ?hf408 ?hr408 ?hq408 (Or.inl ⟨?hg408, ?hy408⟩) hH0 ?rest408
          case hi408 => (simp only [List.getElem?_toArray, List.getElem?_cons_succ, List.getElem?_cons_zero]; rfl)
          case hn408 => kernel_rfl
          case hf408 => kernel_rfl
          case hr408 => kernel_rfl
          case hg408 => rfl
          case hy408 => (intro w hSw; (try dsimp only at hSw); go_simp; first | done | with_reducible rfl)
          case hq408 => exact fun _ _ _ h => h
          try dsimp only [Act.put]
          refine wpAnyH_take (i := 8) (oi := ?oi409) (v := ?vv409) ?hi409 ?hn409 ?hf409 ?hr409 ?hq409 (Or.inl ⟨?hg409, ?hy409⟩) hH0 ?rest409
          case hi409 => (simp only [List.getElem?_toArray, List.getElem?_cons_succ, List.getElem?_cons_zero]; rfl)
          case hn409 => kernel_rfl
          case hf409 => kernel_rfl
          case hr409 => kernel_rfl
          case hg409 => rfl
          case hy409 => (intro w hSw; (try dsimp only at hSw); go_simp; first | done | with_reducible rfl)
          case hq409 => exact fun _ _ _ h => h
          try dsimp only [Act.put]
          refine held_one 9 rfl (by kernel_rfl) (fun K hK => ?_)
          go_simp
          refine (hR _).mono ?_; rintro e w3 ⟨v3, own3, hb3, rfl⟩
          have hb3' := nx hz.drew hb3
          go_wp2_with fail
          have hH1 : (fun (w' : World) => w'.cell? ⟨g, j, none⟩ = some (.int .i64 x) ∧ w'.cell? ⟨g, j + 1, none⟩ = some (.int .i64 y)) _ := ⟨keep_cell hb3' c1, keep_cell hb3' c2⟩
          refine hK.out (fun (w' : World) => w'.cell? ⟨g, j, none⟩ = some (.int .i64 x) ∧ w'.cell? ⟨g, j + 1, none⟩ = some (.int .i64 y)) _ _ (fun _ h => h) hH1 ?_
          clear hK K
          try dsimp only [Act.put]
          refine wpAnyH_take (i := 10) (oi := ?oi410) (v := ?vv410) ?hi410 ?hn410 ?hf410 ?hr410 ?hq410 (Or.inl ⟨?hg410, ?hy410⟩) hH1 ?rest410
          case hi410 => (simp only [List.getElem?_toArray, List.getElem?_cons_succ, List.getElem?_cons_zero]; rfl)
          case hn410 => kernel_rfl
          case hf410 => kernel_rfl
          case hr410 => kernel_rfl
          case hg410 => rfl
          case hy410 => (intro w hSw; (try dsimp only at hSw); go_simp; first | done | with_reducible rfl)
          case hq410 => exact fun _ _ _ h => h
          try dsimp only [Act.put]
          refine wpAnyH_take (i := 11) (oi := ?oi411) (v := ?vv411) ?hi411 ?hn411 ?hf411 ?hr411 ?hq411 (Or.inl ⟨?hg411, ?hy411⟩) hH1 ?rest411
          case hi411 => (simp only [List.getElem?_toArray, List.getElem?_cons_succ, List.getElem?_cons_zero]; rfl)
          case hn411 => kernel_rfl
          case hf411 => kernel_rfl
          case hr411 => kernel_rfl
          case hg411 => rfl
          case hy411 => (intro w hSw; (try dsimp only at hSw); go_simp; first | done | with_reducible rfl)
          case hq411 => exact fun _ _ _ h => h
          try dsimp only [Act.put]
          refine wpAnyH_take (i := 12) (oi := ?oi412) (v := ?vv412) ?hi412 ?hn412 ?hf412 ?hr412 ?hq412 (Or.inl ⟨?hg412, ?hy412⟩) hH1 ?rest412
          case hi412 => (simp only [List.getElem?_toArray, List.getElem?_cons_succ, List.getElem?_cons_zero]; rfl)
          case hn412 => kernel_rfl
          case hf412 => kernel_rfl
          case hr412 => kernel_rfl
          case hg412 => rfl
          case hy412 => (intro w hSw; (try dsimp only at hSw); go_simp; first | done | with_reducible rfl)
          case hq412 => exact fun _ _ _ h => h
          try dsimp only [Act.put]
          refine wpAnyH_take (i := 13) (oi := ?oi413) (v := ?vv413) ?hi413 ?hn413 ?hf413 ?hr413 ?hq413 (Or.inl ⟨?hg413, ?hy413⟩) hH1 ?rest413
          case hi413 => (simp only [List.getElem?_toArray, List.getElem?_cons_succ, List.getElem?_cons_zero]; rfl)
          case hn413 => kernel_rfl
          case hf413 => kernel_rfl
          case hr413 => kernel_rfl
          case hg413 => rfl
          case hy413 => (intro w hSw; (try dsimp only at hSw); go_simp; first | done | with_reducible rfl)
          case hq413 => exact fun _ _ _ h => h
          try dsimp only [Act.put]
          refine wpAnyH_take (i := 14) (oi := ?oi414) (v := ?vv414) ?hi414 ?hn414 ?hf414 ?hr414 ?hq414 (Or.inl ⟨?hg414, ?hy414⟩) hH1 ?rest414
          case hi414 => (simp only [List.getElem?_toArray, List.getElem?_cons_succ, List.getElem?_cons_zero]; rfl)
          case hn414 => kernel_rfl
          case hf414 => kernel_rfl
          case hr414 => kernel_rfl
          case hg414 => rfl
          case hy414 => (intro w hSw; (try dsimp only at hSw); go_simp; first | done | with_reducible rfl)
          case hq414 => exact fun _ _ _ h => h
          try dsimp only [Act.put]
          refine wpAnyH_done (by kernel_rfl) ?_ _
          simp only [List.setIfInBounds_toArray, List.set_cons_zero, List.set_cons_succ]
          have hbw3 := nx hbw hb3'
          clear hb3 hb3' hz hH0 hH1 c1 c2 hR
          go_wp2_with fail
          have hwj2 : IntKind.i64.wrap ((j : Int) + 2) = (j : Int) + 2 := by rw [IntKind.wrap_i64]; omega
          have hj20 : 0 ≤ (j : Int) + 2 := by omega
          have hj2 : (j : Int) + 2 ≤ (n : Int) := by omega
          have hjc : (j : Int) ≤ (cap : Int) := by omega
          have hnc : (n : Int) ≤ (cap : Int) := by omega
          have hcz : ((j : Int) + 2).toNat = j + 2 := by omega
          have hj22 : (j : Int) ≤ (j : Int) + 2 := by omega
          have hn22 : (j : Int) + 2 ≤ (j : Int) + 2 := by omega
          by_cases hcc : cap = j + 2
          · skip
            refine wp_region_held_drew (S := (fun (_ : World) => True)) (by kernel_rfl) trivial (fun hH0 => ?_)
            refine wpAnyH_take (i := 0) (oi := ?oi901) (v := ?vv901) ?hi901 ?hn901 ?hf901 ?hr901 ?hq901 (Or.inl ⟨?hg901, ?hy901⟩) hH0 ?rest901
            case hi901 => (simp only [List.getElem?_toArray, List.getElem?_cons_zero]; rfl)
            case hn901 => kernel_rfl
            case hf901 => kernel_rfl
            case hr901 => kernel_rfl
            case hg901 => rfl
            case hy901 => (intro w hSw; (try dsimp only at hSw); go_simp; first | done | with_reducible rfl)
            case hq901 => exact fun _ _ _ h => h
            try dsimp only [Act.put]
            refine wpAnyH_take (i := 1) (oi := ?oi902) (v := ?vv902) ?hi902 ?hn902 ?hf902 ?hr902 ?hq902 (Or.inl ⟨?hg902, ?hy902⟩) hH0 ?rest902
            case hi902 => (simp only [List.getElem?_toArray, List.getElem?_cons_succ, List.getElem?_cons_zero]; rfl)
            case hn902 => kernel_rfl
            case hf902 => kernel_rfl
            case hr902 => kernel_rfl
            case hg902 => rfl
            case hy902 => (intro w hSw; (try dsimp only at hSw); go_simp; first | done | with_reducible rfl)
            case hq902 => exact fun _ _ _ h => h
            try dsimp only [Act.put]
            refine wpAnyH_take (i := 2) (oi := ?oi903) (v := ?vv903) ?hi903 ?hn903 ?hf903 ?hr903 ?hq903 (Or.inl ⟨?hg903, ?hy903⟩) hH0 ?rest903
            case hi903 => (simp only [List.getElem?_toArray, List.getElem?_cons_succ, List.getElem?_cons_zero]; rfl)
            case hn903 => kernel_rfl
            case hf903 => kernel_rfl
            case hr903 => kernel_rfl
            case hg903 => rfl
            case hy903 => (intro w hSw; (try dsimp only at hSw); go_simp; first | done | with_reducible rfl)
            case hq903 => exact fun _ _ _ h => h
            try dsimp only [Act.put]
            refine wpAnyH_take (i := 4) (oi := ?oi904) (v := ?vv904) ?hi904 ?hn904 ?hf904 ?hr904 ?hq904 (Or.inl ⟨?hg904, ?hy904⟩) hH0 ?rest904
            case hi904 => (simp only [List.getElem?_toArray, List.getElem?_cons_succ, List.getElem?_cons_zero]; rfl)
            case hn904 => kernel_rfl
            case hf904 => kernel_rfl
            case hr904 => kernel_rfl
            case hg904 => rfl
            case hy904 => (intro w hSw; (try dsimp only at hSw); go_simp; first | done | with_reducible rfl)
            case hq904 => exact fun _ _ _ h => h
            try dsimp only [Act.put]
            refine wpAnyH_take (i := 6) (oi := ?oi905) (v := ?vv905) ?hi905 ?hn905 ?hf905 ?hr905 ?hq905 (Or.inl ⟨?hg905, ?hy905⟩) hH0 ?rest905
            case hi905 => (simp only [List.getElem?_toArray, List.getElem?_cons_succ, List.getElem?_cons_zero]; rfl)
            case hn905 => kernel_rfl
            case hf905 => kernel_rfl
            case hr905 => kernel_rfl
            case hg905 => rfl
            case hy905 => (intro w hSw; (try dsimp only at hSw); go_simp; first | done | with_reducible rfl)
            case hq905 => exact fun _ _ _ h => h
            try dsimp only [Act.put]
            refine wpAnyH_take (i := 7) (oi := ?oi906) (v := ?vv906) ?hi906 ?hn906 ?hf906 ?hr906 ?hq906 (Or.inl ⟨?hg906, ?hy906⟩) hH0 ?rest906
            case hi906 => (simp only [List.getElem?_toArray, List.getElem?_cons_succ, List.getElem?_cons_zero]; rfl)
            case hn906 => kernel_rfl
            case hf906 => kernel_rfl
            case hr906 => kernel_rfl
            case hg906 => rfl
            case hy906 => (intro w hSw; (try dsimp only at hSw); go_simp; first | done | with_reducible rfl)
            case hq906 => exact fun _ _ _ h => h
            try dsimp only [Act.put]
            refine wpAnyH_take (i := 8) (oi := ?oi907) (v := ?vv907) ?hi907 ?hn907 ?hf907 ?hr907 ?hq907 (Or.inl ⟨?hg907, ?hy907⟩) hH0 ?rest907
            case hi907 => (simp only [List.getElem?_toArray, List.getElem?_cons_succ, List.getElem?_cons_zero]; rfl)
            case hn907 => kernel_rfl
            case hf907 => kernel_rfl
            case hr907 => kernel_rfl
            case hg907 => rfl
            case hy907 => (intro w hSw; (try dsimp only at hSw); go_simp; first | done | with_reducible rfl)
            case hq907 => exact fun _ _ _ h => h
            try dsimp only [Act.put]
            refine wpAnyH_take (i := 9) (oi := ?oi908) (v := ?vv908) ?hi908 ?hn908 ?hf908 ?hr908 ?hq908 (Or.inl ⟨?hg908, ?hy908⟩) hH0 ?rest908
            case hi908 => (simp only [List.getElem?_toArray, List.getElem?_cons_succ, List.getElem?_cons_zero]; rfl)
            case hn908 => kernel_rfl
            case hf908 => kernel_rfl
            case hr908 => kernel_rfl
            case hg908 => rfl
            case hy908 => (intro w hSw; (try dsimp only at hSw); go_simp; first | done | with_reducible rfl)
            case hq908 => exact fun _ _ _ h => h
            try dsimp only [Act.put]
            refine held_one 3 rfl (by kernel_rfl) (fun K hK => ?_)
            go_simp
            have hcw : ∀ i, i < L.length → w3.drew.cell? ⟨g, i, none⟩ = some (.int .i64 (L.getD i 0)) := fun i hi => (hbw3.cell (p := ⟨g, i, none⟩) hg).trans (HC.out i hi)
            refine (l1Own_any _ (L.take j) _ (word_front (cap := j + 2) (by omega) hcw) (by rw [List.length_take]; omega)).mono ?_; rintro e w4 ⟨g4, cap4, own4, hb4, rfl⟩
            have hb4' := nx (Below.refl w3.heap.size w3).drew hb4
            go_wp2_with fail
            refine hK.out (fun (_ : World) => True) _ _ (fun _ h => h) trivial ?_
            clear hK K
            try dsimp only [Act.put]
            have own3' := own3.keep hb4'
            have e1 : (L.take j).length = j := by rw [List.length_take]; omega
            have own4' : w4.ownsRow w3.heap.size 3 1 (.slice (some ⟨g4, 0, none⟩) j cap4) j ((L.take j).map (Value.int .i64)) := by have := own4; unfold OwnI at this; rw [e1] at this; exact this
            have hbl2 : (b.map (Value.int .i64)).length = b.length := by simp
            refine held_one 5 rfl (by kernel_rfl) (fun K hK => ?_)
            refine step_appSrc rfl _ _ 22 rfl w3.heap.size 3 i0 (.int .i64 0) 8 Try.underlying22 hi hz0 hz1 hz2 rfl _ _ _ rfl own4' _ _ rfl own3'.src (one_ints b) (by rw [hbl2]; unfold maxLen; omega) (by rw [hbl2]; omega) hb4'.size ?_
            intro v5 w5 own5 hb5
            refine hK.out (fun (_ : World) => True) _ _ (fun _ h => h) trivial ?_
            clear hK K
            try dsimp only [Act.put]
            have hb35 : Below w3.heap.size w3 w5 := hb4'.trans hb5
            have hcw5 : ∀ i, i < L.length → w5.cell? ⟨g, i, none⟩ = some (.int .i64 (L.getD i 0)) := fun i hi => ((nx hbw3 hb35).cell (p := ⟨g, i, none⟩) hg).trans (HC.out i hi)
            have hbk : SrcV w5 (.slice (some ⟨g, 0, none⟩) (n - (j + 2)) 0) ((L.drop (j + 2)).map (Value.int .i64)) := .inr ⟨⟨g, 0, none⟩, 0, by rw [List.length_map, List.length_drop, hn0], fun i x hi => by rw [List.drop_of_length_le (by omega)] at hi; simp at hi⟩
            skip
            have hdl : ((L.drop (j + 2)).map (Value.int .i64)).length = n - (j + 2) := by rw [List.length_map, List.length_drop]; omega
            refine held_one 10 rfl (by kernel_rfl) (fun K hK => ?_)
            refine step_appSrc rfl _ _ 22 rfl w3.heap.size 3 i0 (.int .i64 0) 8 Try.underlying22 hi hz0 hz1 hz2 rfl _ _ _ rfl own5 _ _ rfl hbk (one_ints _) (by rw [hdl, hbl2]; unfold maxLen; omega) (by rw [hdl, hbl2]; omega) hb35.size ?_
            intro v6 w6 own6 hb6
            refine hK.out (fun (_ : World) => True) _ _ (fun _ h => h) trivial ?_
            clear hK K
            try dsimp only [Act.put]
            refine wpAnyH_take (i := 11) (oi := ?oi950) (v := ?vv950) ?hi950 ?hn950 ?hf950 ?hr950 ?hq950 (Or.inl ⟨?hg950, ?hy950⟩) trivial ?rest950
            case hi950 => (simp only [List.getElem?_toArray, List.getElem?_cons_succ, List.getElem?_cons_zero]; rfl)
            case hn950 => kernel_rfl
            case hf950 => kernel_rfl
            case hr950 => kernel_rfl
            case hg950 => rfl
            case hy950 => (intro w hSw; (try dsimp only at hSw); go_simp; first | done | with_reducible rfl)
            case hq950 => exact fun _ _ _ h => h
            try dsimp only [Act.put]
            refine wpAnyH_take (i := 12) (oi := ?oi951) (v := ?vv951) ?hi951 ?hn951 ?hf951 ?hr951 ?hq951 (Or.inl ⟨?hg951, ?hy951⟩) trivial ?rest951
            case hi951 => (simp only [List.getElem?_toArray, List.getElem?_cons_succ, List.getElem?_cons_zero]; rfl)
            case hn951 => kernel_rfl
            case hf951 => kernel_rfl
            case hr951 => kernel_rfl
            case hg951 => rfl
            case hy951 => (intro w hSw; (try dsimp only at hSw); go_simp; first | done | with_reducible rfl)
            case hq951 => exact fun _ _ _ h => h
            try dsimp only [Act.put]
            refine wpAnyH_done (by kernel_rfl) ?_ _
            simp only [List.setIfInBounds_toArray]
            go_wp2_with fail
            go_ret2
            have hb36 := hb35.trans hb6
            refine ⟨nx hbw3 hb36, v6, ?_, by simp⟩
            refine OwnI.mono ?_ hbw3.size
            unfold OwnI
            have e2 : (L.take j ++ (b ++ L.drop (j + 2))).length = j + (b.map (Value.int .i64)).length + ((L.drop (j + 2)).map (Value.int .i64)).length := by rw [List.length_append, List.length_append, e1, List.length_map, List.length_map]; omega
            rw [e2, List.map_append, List.map_append, ← List.append_assoc]
            exact own6
          · skip
            refine wp_region_held_drew (S := (fun (_ : World) => True)) (by kernel_rfl) trivial (fun hH0 => ?_)
            refine wpAnyH_take (i := 0) (oi := ?oi1901) (v := ?vv1901) ?hi1901 ?hn1901 ?hf1901 ?hr1901 ?hq1901 (Or.inl ⟨?hg1901, ?hy1901⟩) hH0 ?rest1901
            case hi1901 => (simp only [List.getElem?_toArray, List.getElem?_cons_zero]; rfl)
            case hn1901 => kernel_rfl
            case hf1901 => kernel_rfl
            case hr1901 => kernel_rfl
            case hg1901 => rfl
            case hy1901 => (intro w hSw; (try dsimp only at hSw); go_simp; first | done | with_reducible rfl)
            case hq1901 => exact fun _ _ _ h => h
            try dsimp only [Act.put]
            refine wpAnyH_take (i := 1) (oi := ?oi1902) (v := ?vv1902) ?hi1902 ?hn1902 ?hf1902 ?hr1902 ?hq1902 (Or.inl ⟨?hg1902, ?hy1902⟩) hH0 ?rest1902
            case hi1902 => (simp only [List.getElem?_toArray, List.getElem?_cons_succ, List.getElem?_cons_zero]; rfl)
            case hn1902 => kernel_rfl
            case hf1902 => kernel_rfl
            case hr1902 => kernel_rfl
            case hg1902 => rfl
            case hy1902 => (intro w hSw; (try dsimp only at hSw); go_simp; first | done | with_reducible rfl)
            case hq1902 => exact fun _ _ _ h => h
            try dsimp only [Act.put]
            refine wpAnyH_take (i := 2) (oi := ?oi1903) (v := ?vv1903) ?hi1903 ?hn1903 ?hf1903 ?hr1903 ?hq1903 (Or.inl ⟨?hg1903, ?hy1903⟩) hH0 ?rest1903
            case hi1903 => (simp only [List.getElem?_toArray, List.getElem?_cons_succ, List.getElem?_cons_zero]; rfl)
            case hn1903 => kernel_rfl
            case hf1903 => kernel_rfl
            case hr1903 => kernel_rfl
            case hg1903 => rfl
            case hy1903 => (intro w hSw; (try dsimp only at hSw); go_simp; first | done | with_reducible rfl)
            case hq1903 => exact fun _ _ _ h => h
            try dsimp only [Act.put]
            refine wpAnyH_take (i := 4) (oi := ?oi1904) (v := ?vv1904) ?hi1904 ?hn1904 ?hf1904 ?hr1904 ?hq1904 (Or.inl ⟨?hg1904, ?hy1904⟩) hH0 ?rest1904
            case hi1904 => (simp only [List.getElem?_toArray, List.getElem?_cons_succ, List.getElem?_cons_zero]; rfl)
            case hn1904 => kernel_rfl
            case hf1904 => kernel_rfl
            case hr1904 => kernel_rfl
            case hg1904 => rfl
            case hy1904 => (intro w hSw; (try dsimp only at hSw); go_simp; first | done | with_reducible rfl)
            case hq1904 => exact fun _ _ _ h => h
            try dsimp only [Act.put]
            refine wpAnyH_take (i := 6) (oi := ?oi1905) (v := ?vv1905) ?hi1905 ?hn1905 ?hf1905 ?hr1905 ?hq1905 (Or.inl ⟨?hg1905, ?hy1905⟩) hH0 ?rest1905
            case hi1905 => (simp only [List.getElem?_toArray, List.getElem?_cons_succ, List.getElem?_cons_zero]; rfl)
            case hn1905 => kernel_rfl
            case hf1905 => kernel_rfl
            case hr1905 => kernel_rfl
            case hg1905 => rfl
            case hy1905 => (intro w hSw; (try dsimp only at hSw); go_simp; first | done | with_reducible rfl)
            case hq1905 => exact fun _ _ _ h => h
            try dsimp only [Act.put]
            refine wpAnyH_take (i := 7) (oi := ?oi1906) (v := ?vv1906) ?hi1906 ?hn1906 ?hf1906 ?hr1906 ?hq1906 (Or.inl ⟨?hg1906, ?hy1906⟩) hH0 ?rest1906
            case hi1906 => (simp only [List.getElem?_toArray, List.getElem?_cons_succ, List.getElem?_cons_zero]; rfl)
            case hn1906 => kernel_rfl
            case hf1906 => kernel_rfl
            case hr1906 => kernel_rfl
            case hg1906 => rfl
            case hy1906 => (intro w hSw; (try dsimp only at hSw); go_simp; first | done | with_reducible rfl)
            case hq1906 => exact fun _ _ _ h => h
            try dsimp only [Act.put]
            refine wpAnyH_take (i := 8) (oi := ?oi1907) (v := ?vv1907) ?hi1907 ?hn1907 ?hf1907 ?hr1907 ?hq1907 (Or.inl ⟨?hg1907, ?hy1907⟩) hH0 ?rest1907
            case hi1907 => (simp only [List.getElem?_toArray, List.getElem?_cons_succ, List.getElem?_cons_zero]; rfl)
            case hn1907 => kernel_rfl
            case hf1907 => kernel_rfl
            case hr1907 => kernel_rfl
            case hg1907 => rfl
            case hy1907 => (intro w hSw; (try dsimp only at hSw); go_simp; first | done | with_reducible rfl)
            case hq1907 => exact fun _ _ _ h => h
            try dsimp only [Act.put]
            refine wpAnyH_take (i := 9) (oi := ?oi1908) (v := ?vv1908) ?hi1908 ?hn1908 ?hf1908 ?hr1908 ?hq1908 (Or.inl ⟨?hg1908, ?hy1908⟩) hH0 ?rest1908
            case hi1908 => (simp only [List.getElem?_toArray, List.getElem?_cons_succ, List.getElem?_cons_zero]; rfl)
            case hn1908 => kernel_rfl
            case hf1908 => kernel_rfl
            case hr1908 => kernel_rfl
            case hg1908 => rfl
            case hy1908 => (intro w hSw; (try dsimp only at hSw); go_simp; first | done | with_reducible rfl)
            case hq1908 => exact fun _ _ _ h => h
            try dsimp only [Act.put]
            refine held_one 3 rfl (by kernel_rfl) (fun K hK => ?_)
            go_simp
            have hcw : ∀ i, i < L.length → w3.drew.cell? ⟨g, i, none⟩ = some (.int .i64 (L.getD i 0)) := fun i hi => (hbw3.cell (p := ⟨g, i, none⟩) hg).trans (HC.out i hi)
            refine (l1Own_any _ (L.take j) _ (word_front (cap := cap) (by omega) hcw) (by rw [List.length_take]; omega)).mono ?_; rintro e w4 ⟨g4, cap4, own4, hb4, rfl⟩
            have hb4' := nx (Below.refl w3.heap.size w3).drew hb4
            go_wp2_with fail
            refine hK.out (fun (_ : World) => True) _ _ (fun _ h => h) trivial ?_
            clear hK K
            try dsimp only [Act.put]
            have own3' := own3.keep hb4'
            have e1 : (L.take j).length = j := by rw [List.length_take]; omega
            have own4' : w4.ownsRow w3.heap.size 3 1 (.slice (some ⟨g4, 0, none⟩) j cap4) j ((L.take j).map (Value.int .i64)) := by have := own4; unfold OwnI at this; rw [e1] at this; exact this
            have hbl2 : (b.map (Value.int .i64)).length = b.length := by simp
            refine held_one 5 rfl (by kernel_rfl) (fun K hK => ?_)
            refine step_appSrc rfl _ _ 22 rfl w3.heap.size 3 i0 (.int .i64 0) 8 Try.underlying22 hi hz0 hz1 hz2 rfl _ _ _ rfl own4' _ _ rfl own3'.src (one_ints b) (by rw [hbl2]; unfold maxLen; omega) (by rw [hbl2]; omega) hb4'.size ?_
            intro v5 w5 own5 hb5
            refine hK.out (fun (_ : World) => True) _ _ (fun _ h => h) trivial ?_
            clear hK K
            try dsimp only [Act.put]
            have hb35 : Below w3.heap.size w3 w5 := hb4'.trans hb5
            have hcw5 : ∀ i, i < L.length → w5.cell? ⟨g, i, none⟩ = some (.int .i64 (L.getD i 0)) := fun i hi => ((nx hbw3 hb35).cell (p := ⟨g, i, none⟩) hg).trans (HC.out i hi)
            have hbk := word_back (cap := cap - (j + 2)) (j := j + 2) (by omega) hcw5
            rw [hn0] at hbk
            have hdl : ((L.drop (j + 2)).map (Value.int .i64)).length = n - (j + 2) := by rw [List.length_map, List.length_drop]; omega
            refine held_one 10 rfl (by kernel_rfl) (fun K hK => ?_)
            refine step_appSrc rfl _ _ 22 rfl w3.heap.size 3 i0 (.int .i64 0) 8 Try.underlying22 hi hz0 hz1 hz2 rfl _ _ _ rfl own5 _ _ rfl hbk (one_ints _) (by rw [hdl, hbl2]; unfold maxLen; omega) (by rw [hdl, hbl2]; omega) hb35.size ?_
            intro v6 w6 own6 hb6
            refine hK.out (fun (_ : World) => True) _ _ (fun _ h => h) trivial ?_
            clear hK K
            try dsimp only [Act.put]
            refine wpAnyH_take (i := 11) (oi := ?oi1950) (v := ?vv1950) ?hi1950 ?hn1950 ?hf1950 ?hr1950 ?hq1950 (Or.inl ⟨?hg1950, ?hy1950⟩) trivial ?rest1950
            case hi1950 => (simp only [List.getElem?_toArray, List.getElem?_cons_succ, List.getElem?_cons_zero]; rfl)
            case hn1950 => kernel_rfl
            case hf1950 => kernel_rfl
            case hr1950 => kernel_rfl
            case hg1950 => rfl
            case hy1950 => (intro w hSw; (try dsimp only at hSw); go_simp; first | done | with_reducible rfl)
            case hq1950 => exact fun _ _ _ h => h
            try dsimp only [Act.put]
            refine wpAnyH_take (i := 12) (oi := ?oi1951) (v := ?vv1951) ?hi1951 ?hn1951 ?hf1951 ?hr1951 ?hq1951 (Or.inl ⟨?hg1951, ?hy1951⟩) trivial ?rest1951
            case hi1951 => (simp only [List.getElem?_toArray, List.getElem?_cons_succ, List.getElem?_cons_zero]; rfl)
            case hn1951 => kernel_rfl
            case hf1951 => kernel_rfl
            case hr1951 => kernel_rfl
            case hg1951 => rfl
            case hy1951 => (intro w hSw; (try dsimp only at hSw); go_simp; first | done | with_reducible rfl)
            case hq1951 => exact fun _ _ _ h => h
            try dsimp only [Act.put]
            refine wpAnyH_done (by kernel_rfl) ?_ _
            simp only [List.setIfInBounds_toArray]
            go_wp2_with fail
            go_ret2
            have hb36 := hb35.trans hb6
            refine ⟨nx hbw3 hb36, v6, ?_, by simp⟩
            refine OwnI.mono ?_ hbw3.size
            unfold OwnI
            have e2 : (L.take j ++ (b ++ L.drop (j + 2))).length = j + (b.map (Value.int .i64)).length + ((L.drop (j + 2)).map (Value.int .i64)).length := by rw [List.length_append, List.length_append, e1, List.length_map, List.length_map]; omega
            rw [e2, List.map_append, List.map_append, ← List.append_assoc]
            exact own6
      · obtain hr := HR.out
        rw [List.take_of_length_le (by omega)] at hst
        rw [hst.out] at hr
        have hlt' : ¬ (j : Int) + 1 < (n : Int) := by omega
        clear HR
        subst hr
        go_wp2_with fail
        go_ret2
        exact ⟨hbw, rfl⟩
end Go.Proofs.Ytlcepokenaiggab

/-! Cat -/
namespace Go.Proofs.Ytlcepokenaiggab
open Go.RowKit

/-- A slice of integers as a source: its length, and that its cells can be read. -/
def SrcI (w : World) (u : Value) (xs : List Int) : Prop := SrcV w u (xs.map (Value.int .i64)) ∧ ∃ oa c, u = .slice oa xs.length c
theorem SrcI.keep {w w' : World} {u : Value} {xs : List Int} (h : SrcI w u xs) (hb : Below w.heap.size w w') : SrcI w' u xs := ⟨h.1.keep hb, h.2⟩
theorem SrcI.of {w : World} {u : Value} {xs : List Int} (h : SrcV w u (xs.map (Value.int .i64))) : SrcI w u xs := by
  refine ⟨h, ?_⟩
  rcases h with ⟨rfl, hx⟩ | ⟨ad, c, rfl, _⟩
  · have : xs = [] := by simpa using hx
    subst this
    exact ⟨none, 0, rfl⟩
  · exact ⟨some ad, c, by rw [List.length_map]⟩
theorem oneInts (xs : List Int) : ∀ u ∈ xs.map (Value.int .i64), u.oneCell' = true := by
  intro u hu
  obtain ⟨x, _, rfl⟩ := List.mem_map.1 hu
  rfl

set_option maxRecDepth 100000 in
set_option maxHeartbeats 2000000 in
theorem grow_nil (n : Nat) (w : World) (hn : n ≤ 100000) :
    Calls Try.prog 38 #[.slice none 0 0, .int .i64 n] w (GivesInts [] w) := by
  obtain ⟨i0, hi, hz0, hz1, hz2⟩ := info_parts info_int
  have h1 : (0 : Int) ≤ (n : Int) := by omega
  by_cases h0 : n = 0
  · subst h0
    go_enter Try.func38, Try.ntmps38
    go_wp2_with fail
    go_ret
    exact ⟨_, OwnI.nil _ _, Below.refl _ _, rfl⟩
  · have h2 : (0 : Int) < (n : Int) := by omega
    have happ := Lib.run_append_nil_zeros (P := Try.prog) w 22 3 22 3 i0 (.int .i64 0) .i64 .i64 Try.underlying22 Try.underlying3 hi hz0 n (by omega) (by omega) (by omega) (by rw [hz2]; omega)
    have hge := grownCap_ge w n 0 3
    have hle := grownCap_le_maxLen w n 0 3 (by unfold maxLen; omega)
    have hown : (w.drew.alloc (.cells (Builtin.zeroCells (Value.int .i64 0).cells n ++ Builtin.zeroCells (Value.int .i64 0).cells (grownCap w n 0 3 - n)) 3)).ownsRow w.heap.size 3 1 (.slice (some ⟨w.heap.size, 0, none⟩) 0 (grownCap w n 0 3)) 0 [] :=
      World.ownsRow_made w.drew _ _ (Nat.le_refl _) hle (by rw [Array.size_append, size_zeroCells, size_zeroCells]; show n * 1 + _ * 1 = _; omega)
    have hbel : Below w.heap.size w (w.drew.alloc (.cells (Builtin.zeroCells (Value.int .i64 0).cells n ++ Builtin.zeroCells (Value.int .i64 0).cells (grownCap w n 0 3 - n)) 3)) := nxAlloc ((Below.refl _ _).drew) _
    unfold maxLen at hle
    generalize grownCap w n 0 3 = gc at *
    have HO := Lib.hid hown
    clear hown
    have HA := Lib.hid happ
    clear happ h0
    go_enter Try.func38, Try.ntmps38
    go_wp2_with (at_builtin; refine Lib.wpList_append_run _ rfl _ _ _ _ rfl _ _ rfl rfl _ _ HA.out ?_)
    go_ret
    exact ⟨_, HO.out, hbel, rfl⟩

/-- Slices in a row of their own, and what can be read of them. -/
def Parts (w : World) (g : Nat) (us : List Value) (ps : List (List Int)) : Prop := g < w.heap.size ∧ us.length = ps.length ∧ ∀ i, i < ps.length → w.cell? ⟨g, i, none⟩ = some (us.getD i undef) ∧ SrcI w (us.getD i undef) (ps.getD i [])
theorem Parts.keep {w w' : World} {g : Nat} {us : List Value} {ps : List (List Int)} (h : Parts w g us ps) (hb : Below w.heap.size w w') : Parts w' g us ps :=
  ⟨Nat.lt_of_lt_of_le h.1 hb.size, h.2.1, fun i hi => ⟨(hb.cell (p := ⟨g, i, none⟩) h.1).trans (h.2.2 i hi).1, (h.2.2 i hi).2.keep hb⟩⟩
theorem flat_take {ps : List (List Int)} {k : Nat} (h : k < ps.length) : (ps.take (k + 1)).flatten = (ps.take k).flatten ++ ps.getD k [] := by
  rw [List.take_succ_eq_append_getElem h, List.flatten_append]
  simp [h]
def flN (ps : List (List Int)) (k : Nat) : Nat := (ps.take k).flatten.length
theorem flat_le (ps : List (List Int)) (k : Nat) : (ps.take k).flatten.length ≤ ps.flatten.length := by
  have := congrArg List.flatten (List.take_append_drop k ps)
  rw [List.flatten_append] at this
  have := congrArg List.length this
  rw [List.length_append] at this; omega

set_option maxRecDepth 100000 in
set_option maxHeartbeats 4000000 in
theorem concat_any (g n : Nat) (us : List Value) (ps : List (List Int)) (w : World) (h : Parts w g us ps) (hn : ps.length = n) (hn9 : n ≤ 100) (hf : ps.flatten.length ≤ 10000) :
    Calls Try.prog 33 #[.slice (some ⟨g, 0, none⟩) n n] w (GivesInts ps.flatten w) := by
  obtain ⟨i0, hi, hz0, hz1, hz2⟩ := info_parts info_int
  have HP := Lib.hid h
  have HN := Lib.hid hn
  obtain ⟨F, hF⟩ : ∃ F, F = ps.flatten.length := ⟨_, rfl⟩
  rw [← hF] at hf
  have hG := fun w => grow_nil F w (by omega)
  have HF := Lib.hid hF
  clear hF
  clear h hn
  go_enter Try.func33, Try.ntmps33
  go_wp2_with fail
  go_loop [3, 11] (fun m i => ∃ k : Nat, i = .int .i64 k ∧ k ≤ n ∧ m = .int .i64 ((flN ps k : Nat) : Int)) (fun _ i => n - (intOf i).toNat)
  case atStart => exact ⟨0, rfl, Nat.zero_le _, rfl⟩
  case round =>
    obtain ⟨k, rfl, hk, rfl⟩ := hrel
    by_cases hlt : k < n
    · have hlt' : (k : Int) < (n : Int) := by omega
      obtain ⟨c1, _, oa, c, hu⟩ := HP.out.2.2 k (by rw [HN.out]; exact hlt)
      rw [hu] at c1
      have hst : flN ps (k + 1) = flN ps k + (ps.getD k []).length := by
        have h8 := congrArg List.length (flat_take (ps := ps) (k := k) (by rw [HN.out]; exact hlt))
        rwa [List.length_append] at h8
      have hle : flN ps (k + 1) ≤ F := by rw [HF.out]; exact flat_le ps (k + 1)
      have HS := Lib.hid hst
      have h0 : (0 : Int) ≤ (flN ps k : Int) + ((ps.getD k []).length : Int) := by omega
      have h9 : flN ps k + (ps.getD k []).length ≤ 10000 := by omega
      generalize flN ps k = a at *
      generalize (ps.getD k []).length = b at *
      clear hu hst hle
      go_wp2_with fail
      go_round
      case rel => exact ⟨k + 1, by go_num, by omega, by rw [HS.out]; go_num⟩
      case measure => simp [intOf]; omega
    · obtain rfl : k = n := by omega
      rw [show flN ps k = F by rw [HF.out]; unfold flN; rw [show ps.take k = ps by rw [← HN.out]; exact List.take_length]]
      go_wp2_with fail
      refine (hG _).mono ?_; rintro e w1 ⟨v1, own1, hb1, rfl⟩
      go_wp2_with fail
      go_loopw [6, 27] (fun u i wr => ∃ q : Nat, i = .int .i64 q ∧ q ≤ k ∧ OwnI w.heap.size wr u (ps.take q).flatten ∧ Below w.heap.size w wr) (fun _ i _ => k - (intOf i).toNat)
      case atStart => exact ⟨0, rfl, Nat.zero_le _, own1, hb1⟩
      case round =>
        obtain ⟨q, rfl, hq, hown, hbw⟩ := hrel
        by_cases hlq : q < k
        · have hlq' : (q : Int) < (k : Int) := by omega
          have hPk := (HP.out.keep hbw).2.2 q (by rw [HN.out]; exact hlq)
          obtain ⟨c1, hsv, oa, c, hu⟩ := hPk
          rw [hu] at c1 hsv
          have hst := flat_take (ps := ps) (k := q) (by rw [HN.out]; exact hlq)
          have hle := flat_le ps (q + 1)
          rw [hst, List.length_append, ← HF.out] at hle
          have hone := oneInts (ps.getD q [])
          have hyl : ((ps.getD q []).map (Value.int .i64)).length = (ps.getD q []).length := List.length_map _
          have HS := Lib.hid hst
          unfold OwnI at hown
          generalize (ps.take q).flatten = xa at *
          generalize ps.getD q [] = xb at *
          clear hu hst
          go_wp2_with (at_builtin; refine wpList_appSrc rfl _ _ 22 rfl w.heap.size 3 i0 (.int .i64 0) 8 Try.underlying22 hi hz0 hz1 hz2 rfl _ _ _ rfl hown _ _ rfl hsv hone (by unfold maxLen; omega) (by omega) hbw.size ?_; intro v9 w9 o9 b9 n9)
          have hown1 : OwnI w.heap.size w9 v9 (xa ++ xb) := by
            unfold OwnI
            rw [List.length_append, List.map_append, ← hyl]
            exact o9
          have hbw9 := hbw.trans b9
          clear o9 b9 n9 hown hbw hsv
          go_wp2_with fail
          go_roundw
          case rel => exact ⟨q + 1, by go_num, by omega, by rw [HS.out]; exact hown1, hbw9⟩
          case measure => simp [intOf]; omega
        · obtain rfl : q = k := by omega
          have hx : ps.take q = ps := by rw [← HN.out]; exact List.take_length
          rw [hx] at hown
          clear hx
          go_wp2_with fail
          go_ret
          exact ⟨_, hown, hbw, rfl⟩
end Go.Proofs.Ytlcepokenaiggab

/-! RepM -/
namespace Go.Proofs.Ytlcepokenaiggab
open Go.RowKit

end Go.Proofs.Ytlcepokenaiggab

/-! Rep -/
namespace Go.Proofs.Ytlcepokenaiggab
open Go.RowKit

/-- The first m cells of a row are all X. -/
def allX (X : Value) (m : Nat) (c : List Value) : Prop := c.take m = List.replicate m X
theorem allX_splice {X : Value} {m k : Nat} {c : List Value} (h : allX X m c) : allX X (m + k) (splice c m (List.replicate k X)) := by
  unfold allX splice at *
  rw [h, ← List.append_assoc, List.replicate_append_replicate, List.take_left' (by simp)]
theorem allX_at {X : Value} {m j : Nat} {c : List Value} (h : allX X m c) (hj : j < m) : c[j]? = some X := by
  have e : (c.take m)[j]? = some X := by rw [h]; simp [hj]
  rwa [List.getElem?_take_of_lt hj] at e
theorem cell_of_block {w : World} {g j : Nat} {c : List Value} {t : TypeId} {X : Value} (h : w.heap[g]? = some (.cells c.toArray t (0, 0))) (hj : c[j]? = some X) : w.cell? ⟨g, j, none⟩ = some X := by
  unfold World.cell?
  rw [h]
  simpa using hj

/-- A call that hands back so many cells of one number, in a new block. -/
def GivesRep (x : Int) (n : Nat) (w : World) (e : Ending) (w' : World) : Prop :=
  ∃ g : Nat, OwnI w.heap.size w' (.slice (some ⟨g, 0, none⟩) n n) (List.replicate n x) ∧ Below w.heap.size w w' ∧ e = .returned (.slice (some ⟨g, 0, none⟩) n n)

theorem own_of_block {w : World} {B g n : Nat} {c : List Value} {x : Int} (h : w.heap[g]? = some (.cells c.toArray 3 (0, 0))) (hB : B ≤ g) (hl : c.length = n) (hn : n ≤ 1000000) (ha : allX (.int .i64 x) n c) :
    OwnI B w (.slice (some ⟨g, 0, none⟩) n n) (List.replicate n x) := by
  unfold OwnI
  rw [List.length_replicate]
  refine ⟨by simp, .inr ⟨g, n, c.toArray, rfl, hB, h, Nat.le_refl _, by unfold maxLen; omega, by simp [hl], ?_⟩⟩
  unfold allX at ha
  simp only [Nat.mul_one]
  rw [ha]
  simp

end Go.Proofs.Ytlcepokenaiggab

/-! AddrP -/
namespace Go.Proofs.Ytlcepokenaiggab
def Tr.addrs : Tr → ByteArray → List ByteArray
  | .lf, here => [here]
  | .nd l r, here => l.addrs (here ++ ⟨#[48]⟩) ++ r.addrs (here ++ ⟨#[49]⟩)
theorem addrs_length (t : Tr) : ∀ here, (t.addrs here).length = t.carets + 1 := by
  induction t with
  | lf => intro here; rfl
  | nd l r ihl ihr => intro here; simp [Tr.addrs, Tr.carets, ihl, ihr]; omega
theorem addrs_size (t : Tr) : ∀ here, ∀ s ∈ t.addrs here, here.size ≤ s.size ∧ s.size ≤ here.size + t.carets := by
  induction t with
  | lf => intro here s hs; simp [Tr.addrs] at hs; subst hs; simp [Tr.carets]
  | nd l r ihl ihr =>
    intro here s hs
    rw [Tr.addrs, List.mem_append] at hs
    rcases hs with hs | hs
    · have := ihl _ s hs
      have e0 : ∀ c : UInt8, (here ++ (⟨#[c]⟩ : ByteArray)).size = here.size + 1 := fun c => ByteArray.size_append
      rw [e0] at this
      simp only [Tr.carets]; omega
    · have := ihr _ s hs
      have e0 : ∀ c : UInt8, (here ++ (⟨#[c]⟩ : ByteArray)).size = here.size + 1 := fun c => ByteArray.size_append
      rw [e0] at this
      simp only [Tr.carets]; omega
end Go.Proofs.Ytlcepokenaiggab

/-! WayP -/
namespace Go.Proofs.Ytlcepokenaiggab

/-- The exponents of the leaves, where a way of so many left sides leads to the tree. -/
def Tr.expN : Tr → Nat → List Nat
  | .lf, w => [w]
  | .nd l r, w => l.expN (w + 1) ++ r.expN 0
/-- Those of a whole tree. -/
def Tr.expR : Tr → List Nat
  | .lf => [0]
  | .nd l r => l.expN 0 ++ r.expR
theorem expN_length (t : Tr) : ∀ w, (t.expN w).length = t.carets + 1 := by
  induction t with
  | lf => intro w; rfl
  | nd l r ihl ihr => intro w; simp [Tr.expN, Tr.carets, ihl, ihr]; omega
theorem expR_length (t : Tr) : t.expR.length = t.carets + 1 := by
  induction t with
  | lf => rfl
  | nd l r ihl ihr => simp [Tr.expR, Tr.carets, expN_length, ihr]; omega
theorem expN_sum (t : Tr) : ∀ w, (t.expN w).sum = w + t.carets := by
  induction t with
  | lf => intro w; simp [Tr.expN, Tr.carets]
  | nd l r ihl ihr => intro w; simp [Tr.expN, Tr.carets, ihl, ihr]; omega
theorem expR_sum (t : Tr) : t.expR.sum ≤ t.carets := by
  induction t with
  | lf => simp [Tr.expR]
  | nd l r ihl ihr => simp [Tr.expR, Tr.carets, expN_sum]; omega

/-! The program's exponent of a leaf, from its address: letters '0' and '1'. -/
/-- How many '0' a list ends in. -/
def zerosR (l : List UInt8) : Nat := (l.reverse.takeWhile (· == 48)).length
def topL (l : List UInt8) : List UInt8 := l.take (l.length - zerosR l)
def expoL (l : List UInt8) : Nat := if 0 < zerosR l ∧ ¬ (48 : UInt8) ∈ topL l then zerosR l - 1 else zerosR l
theorem zerosR_le (l : List UInt8) : zerosR l ≤ l.length := by
  unfold zerosR
  have := (List.takeWhile_prefix (p := (· == (48 : UInt8))) (l := l.reverse)).length_le
  simpa using this
theorem zerosR_zero (l : List UInt8) : zerosR (l ++ [48]) = zerosR l + 1 := by simp [zerosR]
theorem zerosR_one (l : List UInt8) : zerosR (l ++ [49]) = 0 := by simp [zerosR]
theorem topL_zero (l : List UInt8) : topL (l ++ [48]) = topL l := by
  have := zerosR_le l
  unfold topL
  rw [zerosR_zero, List.length_append, List.take_append_of_le_length (by simp; try omega)]
  congr 1
  simp
theorem topL_one (l : List UInt8) : topL (l ++ [49]) = l ++ [49] := by
  unfold topL
  rw [zerosR_one, Nat.sub_zero, List.take_length]

theorem expoL_zero (l : List UInt8) (h : (48 : UInt8) ∈ topL l) : expoL (l ++ [48]) = zerosR l + 1 := by
  unfold expoL; rw [zerosR_zero, topL_zero, if_neg (fun k => k.2 h)]

def expsL (t : Tr) (here : List UInt8) : List Nat := (t.addrs ⟨here.toArray⟩).map fun a => expoL a.data.toList

theorem addrs_push (here : List UInt8) (c : UInt8) : (⟨here.toArray⟩ : ByteArray) ++ ⟨#[c]⟩ = ⟨(here ++ [c]).toArray⟩ := ba_ext (by simp)

theorem expsL_nd (l r : Tr) (here : List UInt8) : expsL (.nd l r) here = expsL l (here ++ [48]) ++ expsL r (here ++ [49]) := by
  unfold expsL
  rw [Tr.addrs, addrs_push, addrs_push, List.map_append]
theorem expsL_lf (here : List UInt8) : expsL .lf here = [expoL here] := by simp [expsL, Tr.addrs]

theorem mem_topL_zero {l : List UInt8} (h : (48 : UInt8) ∈ topL l) : (48 : UInt8) ∈ topL (l ++ [48]) := by rwa [topL_zero]
theorem mem_topL_one {l : List UInt8} (h : (48 : UInt8) ∈ l) : (48 : UInt8) ∈ topL (l ++ [49]) := by rw [topL_one]; simp [h]
theorem mem_of_topL {l : List UInt8} (h : (48 : UInt8) ∈ topL l) : (48 : UInt8) ∈ l := List.mem_of_mem_take h

/-- Below a place that some '0' and a '1' lead to. -/
theorem exps_in (t : Tr) : ∀ here : List UInt8, (48 : UInt8) ∈ topL here → expsL t here = t.expN (zerosR here) := by
  induction t with
  | lf => intro here h; rw [expsL_lf]; simp [expoL, h, Tr.expN]
  | nd l r ihl ihr =>
    intro here h
    rw [expsL_nd, ihl _ (mem_topL_zero h), ihr _ (mem_topL_one (mem_of_topL h)), zerosR_zero, zerosR_one]
    rfl
/-- Below a place that '1's and then '0's lead to. -/
theorem exps_left (t : Tr) : ∀ (here : List UInt8) (k : Nat), ¬ (48 : UInt8) ∈ topL here → zerosR here = k + 1 → expsL t here = t.expN k := by
  induction t with
  | lf => intro here k h hk; rw [expsL_lf]; simp [expoL, h, hk, Tr.expN]
  | nd l r ihl ihr =>
    intro here k h hk
    have h48 : (48 : UInt8) ∈ here := by
      have h1 : zerosR here ≠ 0 := by omega
      unfold zerosR at h1
      cases hr : here.reverse with
      | nil => rw [hr] at h1; simp at h1
      | cons c rest =>
        rw [hr, List.takeWhile_cons] at h1
        split at h1
        · next hc =>
          have : c ∈ here := by rw [← List.mem_reverse, hr]; simp
          rw [beq_iff_eq] at hc
          rwa [hc] at this
        · simp at h1
    rw [expsL_nd, ihl _ (k + 1) (by rw [topL_zero]; exact h) (by rw [zerosR_zero, hk]), exps_in r _ (mem_topL_one h48), zerosR_one]
    rfl
theorem exps_right (t : Tr) : ∀ here : List UInt8, ¬ (48 : UInt8) ∈ here → zerosR here = 0 → expsL t here = t.expR := by
  induction t with
  | lf => intro here h hz; rw [expsL_lf]; simp [expoL, hz, Tr.expR]
  | nd l r ihl ihr =>
    intro here h hz
    have ht : ¬ (48 : UInt8) ∈ topL (here ++ [48]) := by rw [topL_zero]; exact fun k => h (mem_of_topL k)
    rw [expsL_nd, exps_left l _ 0 ht (by rw [zerosR_zero, hz]), ihr _ (by simp [h]) (zerosR_one _)]
    rfl
/-- The program's exponents are those of the tree. -/
theorem exps_all (t : Tr) : (t.addrs ⟨#[]⟩).map (fun a => expoL a.data.toList) = t.expR := exps_right t [] (by simp) rfl

/-! Trees of exponents. -/
/-- Joins of the first two trees of a list. -/
def joinJ : Nat → List Tr → List Tr
  | 0, s => s
  | n + 1, t :: u :: r => joinJ n (.nd t u :: r)
  | _ + 1, s => s
/-- The trees of exponents, over n leaves behind them. -/
def stackD (n : Nat) : List Nat → List Tr
  | [] => List.replicate n .lf
  | e :: L => joinJ e (.lf :: stackD n L)
theorem joinJ_length : ∀ (e : Nat) (s : List Tr), e < s.length → (joinJ e s).length + e = s.length := by
  intro e
  induction e with
  | zero => intro s _; rfl
  | succ e ih =>
    intro s h
    match s, h with
    | [], h => simp at h
    | [_], h => simp at h
    | t :: u :: r, h => rw [joinJ]; have := ih (.nd t u :: r) (by simp at h ⊢; omega); simp at this ⊢; omega
theorem joinJ_app : ∀ (e : Nat) (s r : List Tr), e < s.length → joinJ e (s ++ r) = joinJ e s ++ r := by
  intro e
  induction e with
  | zero => intro s r _; rfl
  | succ e ih =>
    intro s r h
    match s, h with
    | [], h => simp at h
    | [_], h => simp at h
    | t :: u :: q, h =>
      show joinJ (e + 1) (t :: u :: (q ++ r)) = _
      rw [joinJ, joinJ]
      exact ih (.nd t u :: q) r (by simp at h ⊢; omega)
theorem stackD_length (n : Nat) : ∀ L : List Nat, L.sum ≤ n → (stackD n L).length + L.sum = n + L.length := by
  intro L
  induction L with
  | nil => intro _; simp [stackD]
  | cons e L ih =>
    intro h
    rw [List.sum_cons] at h
    have h1 := ih (by omega)
    have h2 := joinJ_length e (.lf :: stackD n L) (by simp; omega)
    rw [stackD]
    simp at h2 ⊢; omega
theorem stackD_more (n m : Nat) : ∀ L : List Nat, L.sum ≤ n → stackD (n + m) L = stackD n L ++ List.replicate m .lf := by
  intro L
  induction L with
  | nil => intro _; simp [stackD, List.replicate_append_replicate]
  | cons e L ih =>
    intro h
    rw [List.sum_cons] at h
    have h1 := stackD_length n L (by omega)
    rw [stackD, ih (by omega), stackD]
    exact joinJ_app e (.lf :: stackD n L) _ (by simp; omega)
theorem stackD_zeros (n m : Nat) : ∀ L : List Nat, stackD n (L ++ List.replicate m 0) = stackD (n + m) L := by
  intro L
  induction L with
  | nil =>
    show stackD n (List.replicate m 0) = List.replicate (n + m) .lf
    induction m with
    | zero => rfl
    | succ m ih => rw [List.replicate_succ, stackD, joinJ, ih]; rfl
  | cons e L ih => rw [List.cons_append, stackD, stackD, ih]
theorem stackD_expN (n : Nat) (t : Tr) : ∀ (w : Nat) (X : List Nat), stackD n (t.expN w ++ X) = joinJ w (t :: stackD n X) := by
  induction t with
  | lf => intro w X; rfl
  | nd l r ihl ihr =>
    intro w X
    rw [Tr.expN, List.append_assoc, ihl, ihr]
    rfl

/-- The tree with trees at the left sides of its right side. -/
def combT : List Tr → Tr
  | [] => .lf
  | t :: r => .nd t (combT r)
def sidesT : Tr → List Tr
  | .lf => []
  | .nd l r => l :: sidesT r
theorem comb_sides (t : Tr) : combT (sidesT t) = t := by
  induction t with
  | lf => rfl
  | nd l r _ ihr => rw [sidesT, combT, ihr]
theorem stackD_expR (n : Nat) (t : Tr) : stackD n t.expR = sidesT t ++ List.replicate (n + 1) Tr.lf := by
  induction t with
  | lf => rfl
  | nd l r _ ihr => rw [Tr.expR, stackD_expN, joinJ, ihr]; rfl
/-- A list of trees without leaves at its end. -/
def stripT (s : List Tr) : List Tr := (s.reverse.dropWhile Tr.isLf).reverse
theorem stripT_lf (s : List Tr) : ∀ m : Nat, stripT (s ++ List.replicate m Tr.lf) = stripT s := by
  intro m
  induction m with
  | zero => simp
  | succ m ih =>
    rw [List.replicate_succ', ← List.append_assoc]
    unfold stripT
    rw [List.reverse_append]
    show ((Tr.lf :: (s ++ List.replicate m Tr.lf).reverse).dropWhile Tr.isLf).reverse = _
    rw [List.dropWhile_cons_of_pos (by rfl)]
    exact ih
theorem stripT_last (s : List Tr) (t : Tr) (h : t.isLf = false) : stripT (s ++ [t]) = s ++ [t] := by
  unfold stripT
  rw [List.reverse_append]
  show ((t :: s.reverse).dropWhile Tr.isLf).reverse = _
  rw [List.dropWhile_cons_of_neg (by rw [h]; decide)]
  simp
/-- The tree of exponents as the model makes it. -/
def treeE (L : List Nat) : Tr := combT (stripT (stackD (L.sum + 1) L))
theorem treeE_of (L : List Nat) (t : Tr) (j : Nat) (h : t.expR = L ++ List.replicate j 0) (hl : t = .lf ∨ ∃ s u, sidesT t = s ++ [u] ∧ u.isLf = false) : treeE L = t := by
  have h1 := stackD_expR (L.sum + 1) t
  rw [h, stackD_zeros, stackD_more (L.sum + 1) j L (by omega)] at h1
  have h2 := congrArg stripT h1
  rw [stripT_lf, stripT_lf] at h2
  unfold treeE
  rw [h2]
  rcases hl with rfl | ⟨s, u, hs, hu⟩
  · rfl
  · rw [hs, stripT_last s u hu, ← hs, comb_sides]

end Go.Proofs.Ytlcepokenaiggab

/-! WdR -/
namespace Go.Proofs.Ytlcepokenaiggab

/-- x(k) as often as the exponent of the leaf k tells, k leaves being in front. -/
def lettersE : List Nat → Nat → List Int
  | [], _ => []
  | a :: L, k => List.replicate a ((k : Int) + 1) ++ lettersE L (k + 1)
theorem lettersE_length : ∀ (L : List Nat) (k : Nat), (lettersE L k).length = L.sum := by
  intro L
  induction L with
  | nil => intro k; rfl
  | cons a L ih => intro k; simp [lettersE, ih]
theorem lettersE_mem : ∀ (L : List Nat) (k : Nat), ∀ x ∈ lettersE L k, (k : Int) + 1 ≤ x ∧ x ≤ (k : Int) + L.length := by
  intro L
  induction L with
  | nil => intro k x h; simp [lettersE] at h
  | cons a L ih =>
    intro k x h
    rw [lettersE, List.mem_append] at h
    rcases h with h | h
    · have := (List.mem_replicate.1 h).2; simp; omega
    · have := ih (k + 1) x h; simp; omega
theorem lettersE_snoc : ∀ (L : List Nat) (a k : Nat), lettersE (L ++ [a]) k = lettersE L k ++ List.replicate a (((k + L.length : Nat) : Int) + 1) := by
  intro L
  induction L with
  | nil => intro a k; simp [lettersE]
  | cons b L ih =>
    intro a k
    rw [List.cons_append, lettersE, ih, lettersE, List.append_assoc]
    congr 4
    simp; omega
/-- The letters of a tree. -/
def Tr.letters (t : Tr) : List Int := lettersE t.expR 0
theorem letters_length (t : Tr) : t.letters.length ≤ t.carets := by unfold Tr.letters; rw [lettersE_length]; exact expR_sum t
theorem letters_mem (t : Tr) : ∀ x ∈ t.letters, 1 ≤ x ∧ x ≤ (t.carets : Int) + 1 := by
  intro x h
  have := lettersE_mem _ _ x h
  rw [expR_length] at this
  simp at this; omega
/-- The normal word of a reduced pair of trees. -/
def wordT (a b : Tr) : List Int := a.letters ++ invW b.letters
theorem wordT_good {a b : Tr} (h : a.carets ≤ 8) (k : b.carets ≤ 8) : goodW (wordT a b) = true := by
  rw [goodW_iff]
  have h1 := letters_length a
  have h2 := letters_length b
  refine ⟨by unfold wordT; rw [List.length_append, invW_length]; omega, fun x hx => ?_⟩
  rcases List.mem_append.1 hx with hx | hx
  · have := letters_mem a x hx; omega
  · unfold invW at hx
    rw [List.mem_reverse, List.mem_map] at hx
    obtain ⟨y, hy, rfl⟩ := hx
    have := letters_mem b y hy; omega

/-- The letters of x(0), x(1) that stand for one. -/
def twoL (x : Int) : List Int :=
  if num x = 0 then [x] else List.replicate (num x - 1).toNat (-1) ++ ((if 0 < x then 2 else -2) :: List.replicate (num x - 1).toNat 1)
def twoW (w : List Int) : List Int := w.flatMap twoL
def twoO (w : List Int) : Option (List Int) := if goodW w = true then if (twoW w).length ≤ 300 then some (freeW (twoW w)) else none else none
theorem twoL_length {x : Int} (_h : x ≠ 0) (h1 : -21 ≤ x) (h2 : x ≤ 21) : (twoL x).length ≤ 39 := by
  unfold twoL
  split
  · simp
  · simp only [List.length_append, List.length_replicate, List.length_cons]
    unfold num at *
    split <;> omega
theorem twoW_length {w : List Int} (h : goodW w = true) : (twoW w).length ≤ 39 * w.length := by
  have hm := (goodW_iff.1 h).2
  clear h
  induction w with
  | nil => simp [twoW]
  | cons x w ih =>
    have h1 := hm x (by simp)
    have h2 := twoL_length h1.1 h1.2.1 h1.2.2
    have h3 := ih (fun y hy => hm y (by simp [hy]))
    have h4 : twoW (x :: w) = twoL x ++ twoW w := rfl
    rw [h4, List.length_append, List.length_cons]; omega

end Go.Proofs.Ytlcepokenaiggab

/-! Wd4n -/
namespace Go.Proofs.Ytlcepokenaiggab
open Go.RowKit
end Go.Proofs.Ytlcepokenaiggab

/-! Two1 -/
namespace Go.Proofs.Ytlcepokenaiggab
open Go.RowKit

theorem OwnI.lone (w : World) (s : Int) : OwnI w.heap.size (w.alloc (.cells #[.int .i64 s] 3 (0, 0))) (.slice (some ⟨w.heap.size, 0, none⟩) 1 1) [s] := by
  refine ⟨rfl, .inr ⟨w.heap.size, 1, #[.int .i64 s], rfl, Nat.le_refl _, ?_, Nat.le_refl _, by unfold maxLen; omega, rfl, rfl⟩⟩
  show (w.heap.push _)[w.heap.size]? = _
  simp
theorem cell_new1 (w : World) (v : Value) (e : TypeId) : (w.alloc (.cells #[v] e)).cell? ⟨w.heap.size, 0, none⟩ = some v := by
  have h := new1 w v e 0 v rfl
  rwa [addr_add] at h
theorem src_own {base g n cap : Nat} {w : World} {xs : List Int} (h : OwnI base w (.slice (some ⟨g, 0, none⟩) n cap) xs) (hn : xs.length = n) : SrcI w (.slice (some ⟨g, 0, none⟩) n cap) xs := by
  subst hn
  refine SrcI.of ?_
  have h' := src_take h xs.length (Nat.le_refl _) cap
  rwa [List.take_of_length_le (by simp)] at h'
theorem src_one (w : World) (m : Int) : SrcI (w.alloc (.cells #[.int .i64 m] 3)) (.slice (some ⟨w.heap.size, 0, none⟩) 1 1) [m] :=
  SrcI.of (.inr ⟨_, 1, rfl, new1 _ _ _⟩)
theorem parts3 (w : World) (t : TypeId) (a b c : Value) (A B C : List Int) (ha : SrcI w a A) (hb : SrcI w b B) (hc : SrcI w c C) : Parts (w.alloc (.cells #[a, b, c] t)) w.heap.size [a, b, c] [A, B, C] := by
  have hk : Below w.heap.size w (w.alloc (.cells #[a, b, c] t)) := (Below.refl _ w).alloc (Nat.le_refl _) _
  have hc0 : ∀ (j : Nat) (u : Value), [a, b, c][j]? = some u → (w.alloc (.cells #[a, b, c] t)).cell? ⟨w.heap.size, j, none⟩ = some u := by
    intro j u hj
    unfold World.cell?
    rw [show (w.alloc (.cells #[a, b, c] t)).heap[w.heap.size]? = some (.cells #[a, b, c] t (0, 0)) by show (w.heap.push _)[w.heap.size]? = _; simp]
    simpa using hj
  refine ⟨by simp, rfl, fun i hi => ?_⟩
  have hi' : i < 3 := hi
  match i, hi' with
  | 0, _ => exact ⟨hc0 0 a rfl, ha.keep hk⟩
  | 1, _ => exact ⟨hc0 1 b rfl, hb.keep hk⟩
  | 2, _ => exact ⟨hc0 2 c rfl, hc.keep hk⟩

end Go.Proofs.Ytlcepokenaiggab

/-! Ru6 -/
namespace Go.Proofs.Ytlcepokenaiggab
open Go.RowKit

/-- A word behind the first rule, or none. -/
def StepB (o : Option (List Int)) (w : World) (e : Ending) (w' : World) : Prop :=
  Below w.heap.size w w' ∧ match o with
    | some r => ∃ v', OwnI w.heap.size w' v' r ∧ e = .returned (.tuple #[v', .bool true])
    | none => e = .returned (.tuple #[.slice none 0 0, .bool false])

def ruleT : Nat → TypeId
  | 0 => 44
  | 1 => 45
  | 2 => 46
  | 3 => 47
  | _ => 48
def ruleF : Nat → FuncId
  | 0 => 55
  | 1 => 56
  | 2 => 57
  | 3 => 58
  | _ => 59
theorem ruleV_eq (k : Nat) (h : k < 5) : ruleV k = .iface (ruleT k) (.agg #[]) := by
  match k, h with
  | 0, _ => rfl
  | 1, _ => rfl
  | 2, _ => rfl
  | 3, _ => rfl
  | 4, _ => rfl
theorem changesK_any (k : Nat) (h : k < 5) (x y : Int) (w : World) (h1 : -1000 ≤ x) (h2 : x ≤ 1000) (h3 : -1000 ≤ y) (h4 : y ≤ 1000) : Calls Try.prog (ruleF k) #[.agg #[], .int .i64 x, .int .i64 y] w (Gives (.bool (chI k x y)) w) := by
  match k, h with
  | 0, _ => exact changes0_any x y w h1 h2 h3 h4
  | 1, _ => exact changes1_any x y w h1 h2 h3 h4
  | 2, _ => exact changes2_any x y w h1 h2 h3 h4
  | 3, _ => exact changes3_any x y w h1 h2 h3 h4
  | 4, _ => exact changes4_any x y w h1 h2 h3 h4
theorem behindRuleK_any (k : Nat) (h : k < 5) (x y : Int) (w : World) (h1 : -1000 ≤ x) (h2 : x ≤ 1000) (h3 : -1000 ≤ y) (h4 : y ≤ 1000) : Calls Try.prog 34 #[.iface (ruleT k) (.agg #[]), .int .i64 x, .int .i64 y] w (GivesInts (behI k x y) w) := by
  match k, h with
  | 0, _ => exact behindRule0_any x y w h1 h2 h3 h4
  | 1, _ => exact behindRule1_any x y w h1 h2 h3 h4
  | 2, _ => exact behindRule2_any x y w h1 h2 h3 h4
  | 3, _ => exact behindRule3_any x y w h1 h2 h3 h4
  | 4, _ => exact behindRule4_any x y w h1 h2 h3 h4
theorem nilAhead_rule (k : Nat) (h : k < 5) : ∀ (m : Nat) (w : World), (nilAhead (m + 1) (ruleT k) (.agg #[]) "loop.example/g01161/impl.changes").run Try.prog w = .ok (some false) w := by
  match k, h with
  | 0, _ => exact fun m w => by kernel_rfl
  | 1, _ => exact fun m w => by kernel_rfl
  | 2, _ => exact fun m w => by kernel_rfl
  | 3, _ => exact fun m w => by kernel_rfl
  | 4, _ => exact fun m w => by kernel_rfl
theorem method_rule (k : Nat) (h : k < 5) : ∀ (m : Nat) (w : World), (method (m + 1) (ruleT k) (.agg #[]) "loop.example/g01161/impl.changes").run Try.prog w = .ok (ruleF k, .agg #[]) w := by
  match k, h with
  | 0, _ => exact fun m w => by kernel_rfl
  | 1, _ => exact fun m w => by kernel_rfl
  | 2, _ => exact fun m w => by kernel_rfl
  | 3, _ => exact fun m w => by kernel_rfl
  | 4, _ => exact fun m w => by kernel_rfl
theorem call_rule (k : Nat) (h : k < 5) : ∀ (args : Array Value) (w : World), (callFunc (ruleF k) args).run Try.prog w = .ok (.enter (ruleF k) args) w := by
  match k, h with
  | 0, _ => exact fun m w => by kernel_rfl
  | 1, _ => exact fun m w => by kernel_rfl
  | 2, _ => exact fun m w => by kernel_rfl
  | 3, _ => exact fun m w => by kernel_rfl
  | 4, _ => exact fun m w => by kernel_rfl

set_option maxRecDepth 100000 in
set_option maxHeartbeats 4000000 in
theorem behindFirstRule_any (v : Value) (b1 : Nat) (L : List Int) (w : World) (hv : CellsI b1 w v L) (hn : L.length ≤ 100) (hL : ∀ x ∈ L, -900 ≤ x ∧ x ≤ 900) :
    Calls Try.prog 24 #[v] w (StepB (stepO L) w) := by
  obtain ⟨R, hR⟩ : ∃ R, R = stepO L := ⟨_, rfl⟩
  rw [← hR]
  have HR := Lib.hid hR
  clear hR
  rcases hv with ⟨rfl, rfl⟩ | ⟨g, cap, rfl, _, hg, hc1, hc2, hx, _⟩
  · have hr := HR.out
    rw [show stepO [] = none from rfl] at hr
    subst hr
    go_enter Try.func24, Try.ntmps24
    go_wp2_with fail
    refine (allRules_any _).mono ?_; rintro e w1 ⟨rfl, _, _, hb1⟩
    go_wp2_with fail
    go_loopw [12] (fun i wr => i = .int .i64 0 ∧ wr = w1) (fun _ _ => 0)
    case atStart => exact ⟨rfl, rfl⟩
    case round =>
      obtain ⟨rfl, rfl⟩ := hrel
      go_wp2_with fail
      go_ret2
      exact ⟨hb1, rfl⟩
  · obtain ⟨n, hn0⟩ : ∃ n, L.length = n := ⟨_, rfl⟩
    have HC := Lib.hid hx
    have HL := Lib.hid hL
    rw [hn0] at hc1 hn ⊢
    unfold maxLen at hc2
    obtain ⟨i0, hi, hz0, hz1, hz2⟩ := info_parts info_int
    have HNN := Lib.hid hn0
    have hwn : IntKind.i64.wrap ((n : Int) - 1) = (n : Int) - 1 := by rw [IntKind.wrap_i64]; omega
    clear hx hL hn0
    go_enter Try.func24, Try.ntmps24
    go_wp2_with fail
    refine (allRules_any _).mono ?_; rintro e w1 ⟨rfl, hrc, hgr, hb1⟩
    have HRC := Lib.hid hrc
    clear hrc
    go_wp2_with fail
    go_loopw [12] (fun i wr => ∃ j : Nat, j ≤ n ∧ i = .int .i64 j ∧ Hid (stepO (L.take (j + 1)) = none) ∧ Below w.heap.size w wr ∧ Below w1.heap.size w1 wr) (fun i _ => n - (intOf i).toNat)
    case atStart => exact ⟨0, Nat.zero_le _, rfl, Lib.hid (stepO_small (by rw [List.length_take]; omega)), hb1, Below.refl _ _⟩
    case round =>
      obtain ⟨j, hj, rfl, hst, hbw, hbw1⟩ := hrel
      have hn0 := HNN.out
      by_cases hlt : j + 1 < n
      · have hlt' : (j : Int) < (n : Int) - 1 := by omega
        have hlt2 : (j : Int) < (n : Int) := by omega
        have hlt3 : (j : Int) + 1 < (n : Int) := by omega
        have ht := stepO_take (w := L) (k := j) (by omega) hst.out
        have hlx := HL.out (L.getD j 0) (by simp [show j < L.length by omega])
        have hly := HL.out (L.getD (j + 1) 0) (by simp [show j + 1 < L.length by omega])
        have d1 := HC.out j (by omega)
        have d2 := HC.out (j + 1) (by omega)
        generalize L.getD j 0 = x at *
        generalize L.getD (j + 1) 0 = y at *
        have hwj : IntKind.i64.wrap ((j : Int) + 1) = (j : Int) + 1 := by rw [IntKind.wrap_i64]; omega
        have hj0 : 0 ≤ (j : Int) + 1 := by omega
        have hjt : ((j : Int) + 1).toNat = j + 1 := by omega
        have HT := Lib.hid ht
        clear ht hst hn0
        go_wp2_with fail
        go_loopw [17] (fun i wi => ∃ k : Nat, k ≤ 5 ∧ i = .int .i64 k ∧ Hid (∀ i, i < k → chI i x y = false) ∧ Below w.heap.size w wi ∧ Below w1.heap.size w1 wi) (fun i _ => 5 - (intOf i).toNat)
        case atStart => exact ⟨0, Nat.zero_le _, rfl, Lib.hid (fun i hi => by omega), hbw, hbw1⟩
        case round =>
          clear hbw hbw1
          obtain ⟨k, hk, rfl, hfl, hbw, hbw1⟩ := hrel
          by_cases hk5 : k < 5
          · have hk5' : (k : Int) < 5 := by omega
            have c1 := (hbw.cell (p := ⟨g, j, none⟩) hg).trans d1
            have c2 := (hbw.cell (p := ⟨g, j + 1, none⟩) hg).trans d2
            have cr := (hbw1.cell (p := ⟨w.heap.size, k, none⟩) hgr).trans (HRC.out k hk5)
            rw [ruleV_eq k hk5] at cr
            have hM := fun w => changesK_any k hk5 x y w (by omega) (by omega) (by omega) (by omega)
            have hB := fun w => behindRuleK_any k hk5 x y w (by omega) (by omega) (by omega) (by omega)
            have hNA := nilAhead_rule k hk5
            have hMT := method_rule k hk5
            have hcall := call_rule k hk5
            have hbl : (behI k x y).length ≤ 2 := by unfold behI; split <;> simp
            have hz := Below.refl wr.heap.size wr
            have HF := Lib.hid hfl.out
            have HCS : Hid (chI k x y = true → ruleO x y = some (behI k x y)) := Lib.hid (fun h => rule_some hk5 hfl.out h)
            generalize behI k x y = b at *
            clear hfl
            cases hch : chI k x y with
            | false =>
              rw [hch] at hM
              have HF2 : Hid (∀ i, i < k + 1 → chI i x y = false) := Lib.hid (fun i hi => by
                by_cases hik : i < k
                · exact HF.out i hik
                · obtain rfl : i = k := by omega
                  exact hch)
              clear hch HCS HF hB
              go_wp2_with fail
              refine wp_region_held_drew (S := (fun (w' : World) => w'.cell? ⟨g, j, none⟩ = some (.int .i64 x) ∧ w'.cell? ⟨g, j + 1, none⟩ = some (.int .i64 y))) (by kernel_rfl) ⟨c1, c2⟩ (fun hH0 => ?_)
              refine wpAnyH_take (i := 0) (oi := ?oi201) (v := ?vv201) ?hi201 ?hn201 ?hf201 ?hr201 ?hq201 (Or.inl ⟨?hg201, ?hy201⟩) hH0 ?rest201
              case hi201 => (simp only [List.getElem?_toArray, List.getElem?_cons_zero]; rfl)
              case hn201 => kernel_rfl
              case hf201 => kernel_rfl
              case hr201 => kernel_rfl
              case hg201 => rfl
              case hy201 => (intro w hSw; (try dsimp only at hSw); go_simp; first | done | with_reducible rfl)
              case hq201 => exact fun _ _ _ h => h
              try dsimp only [Act.put]
              refine wpAnyH_take (i := 1) (oi := ?oi202) (v := ?vv202) ?hi202 ?hn202 ?hf202 ?hr202 ?hq202 (Or.inl ⟨?hg202, ?hy202⟩) hH0 ?rest202
              case hi202 => (simp only [List.getElem?_toArray, List.getElem?_cons_succ, List.getElem?_cons_zero]; rfl)
              case hn202 => kernel_rfl
              case hf202 => kernel_rfl
              case hr202 => kernel_rfl
              case hg202 => rfl
              case hy202 => (intro w hSw; (try dsimp only at hSw); go_simp; first | done | with_reducible rfl)
              case hq202 => exact fun _ _ _ h => h
              try dsimp only [Act.put]
              refine wpAnyH_take (i := 2) (oi := ?oi203) (v := ?vv203) ?hi203 ?hn203 ?hf203 ?hr203 ?hq203 (Or.inl ⟨?hg203, ?hy203⟩) hH0 ?rest203
              case hi203 => (simp only [List.getElem?_toArray, List.getElem?_cons_succ, List.getElem?_cons_zero]; rfl)
              case hn203 => kernel_rfl
              case hf203 => kernel_rfl
              case hr203 => kernel_rfl
              case hg203 => rfl
              case hy203 => (intro w hSw; (try dsimp only at hSw); go_simp; first | done | with_reducible rfl)
              case hq203 => exact fun _ _ _ h => h
              try dsimp only [Act.put]
              refine wpAnyH_take (i := 3) (oi := ?oi204) (v := ?vv204) ?hi204 ?hn204 ?hf204 ?hr204 ?hq204 (Or.inl ⟨?hg204, ?hy204⟩) hH0 ?rest204
              case hi204 => (simp only [List.getElem?_toArray, List.getElem?_cons_succ, List.getElem?_cons_zero]; rfl)
              case hn204 => kernel_rfl
              case hf204 => kernel_rfl
              case hr204 => kernel_rfl
              case hg204 => rfl
              case hy204 => (intro w hSw; (try dsimp only at hSw); go_simp; first | done | with_reducible rfl)
              case hq204 => exact fun _ _ _ h => h
              try dsimp only [Act.put]
              refine wpAnyH_take (i := 4) (oi := ?oi205) (v := ?vv205) ?hi205 ?hn205 ?hf205 ?hr205 ?hq205 (Or.inl ⟨?hg205, ?hy205⟩) hH0 ?rest205
              case hi205 => (simp only [List.getElem?_toArray, List.getElem?_cons_succ, List.getElem?_cons_zero]; rfl)
              case hn205 => kernel_rfl
              case hf205 => kernel_rfl
              case hr205 => kernel_rfl
              case hg205 => rfl
              case hy205 => (intro w hSw; (try dsimp only at hSw); go_simp; first | done | with_reducible rfl)
              case hq205 => exact fun _ _ _ h => h
              try dsimp only [Act.put]
              refine wpAnyH_take (i := 5) (oi := ?oi206) (v := ?vv206) ?hi206 ?hn206 ?hf206 ?hr206 ?hq206 (Or.inl ⟨?hg206, ?hy206⟩) hH0 ?rest206
              case hi206 => (simp only [List.getElem?_toArray, List.getElem?_cons_succ, List.getElem?_cons_zero]; rfl)
              case hn206 => kernel_rfl
              case hf206 => kernel_rfl
              case hr206 => kernel_rfl
              case hg206 => rfl
              case hy206 => (intro w hSw; (try dsimp only at hSw); go_simp; first | done | with_reducible rfl)
              case hq206 => exact fun _ _ _ h => h
              try dsimp only [Act.put]
              refine wpAnyH_take (i := 6) (oi := ?oi207) (v := ?vv207) ?hi207 ?hn207 ?hf207 ?hr207 ?hq207 (Or.inl ⟨?hg207, ?hy207⟩) hH0 ?rest207
              case hi207 => (simp only [List.getElem?_toArray, List.getElem?_cons_succ, List.getElem?_cons_zero]; rfl)
              case hn207 => kernel_rfl
              case hf207 => kernel_rfl
              case hr207 => kernel_rfl
              case hg207 => rfl
              case hy207 => (intro w hSw; (try dsimp only at hSw); go_simp; first | done | with_reducible rfl)
              case hq207 => exact fun _ _ _ h => h
              try dsimp only [Act.put]
              refine wpAnyH_take (i := 7) (oi := ?oi208) (v := ?vv208) ?hi208 ?hn208 ?hf208 ?hr208 ?hq208 (Or.inl ⟨?hg208, ?hy208⟩) hH0 ?rest208
              case hi208 => (simp only [List.getElem?_toArray, List.getElem?_cons_succ, List.getElem?_cons_zero]; rfl)
              case hn208 => kernel_rfl
              case hf208 => kernel_rfl
              case hr208 => kernel_rfl
              case hg208 => rfl
              case hy208 => (intro w hSw; (try dsimp only at hSw); go_simp; first | done | with_reducible rfl)
              case hq208 => exact fun _ _ _ h => h
              try dsimp only [Act.put]
              refine wpAnyH_take (i := 8) (oi := ?oi209) (v := ?vv209) ?hi209 ?hn209 ?hf209 ?hr209 ?hq209 (Or.inl ⟨?hg209, ?hy209⟩) hH0 ?rest209
              case hi209 => (simp only [List.getElem?_toArray, List.getElem?_cons_succ, List.getElem?_cons_zero]; rfl)
              case hn209 => kernel_rfl
              case hf209 => kernel_rfl
              case hr209 => kernel_rfl
              case hg209 => rfl
              case hy209 => (intro w hSw; (try dsimp only at hSw); go_simp; first | done | with_reducible rfl)
              case hq209 => exact fun _ _ _ h => h
              try dsimp only [Act.put]
              refine wpAnyH_take (i := 9) (oi := ?oi210) (v := ?vv210) ?hi210 ?hn210 ?hf210 ?hr210 ?hq210 (Or.inl ⟨?hg210, ?hy210⟩) hH0 ?rest210
              case hi210 => (simp only [List.getElem?_toArray, List.getElem?_cons_succ, List.getElem?_cons_zero]; rfl)
              case hn210 => kernel_rfl
              case hf210 => kernel_rfl
              case hr210 => kernel_rfl
              case hg210 => rfl
              case hy210 => (intro w hSw; (try dsimp only at hSw); go_simp; first | done | with_reducible rfl)
              case hq210 => exact fun _ _ _ h => h
              try dsimp only [Act.put]
              refine wpAnyH_take (i := 10) (oi := ?oi211) (v := ?vv211) ?hi211 ?hn211 ?hf211 ?hr211 ?hq211 (Or.inl ⟨?hg211, ?hy211⟩) hH0 ?rest211
              case hi211 => (simp only [List.getElem?_toArray, List.getElem?_cons_succ, List.getElem?_cons_zero]; rfl)
              case hn211 => kernel_rfl
              case hf211 => kernel_rfl
              case hr211 => kernel_rfl
              case hg211 => rfl
              case hy211 => (intro w hSw; (try dsimp only at hSw); go_simp; first | done | with_reducible rfl)
              case hq211 => exact fun _ _ _ h => h
              try dsimp only [Act.put]
              refine wpAnyH_take (i := 11) (oi := ?oi212) (v := ?vv212) ?hi212 ?hn212 ?hf212 ?hr212 ?hq212 (Or.inl ⟨?hg212, ?hy212⟩) hH0 ?rest212
              case hi212 => (simp only [List.getElem?_toArray, List.getElem?_cons_succ, List.getElem?_cons_zero]; rfl)
              case hn212 => kernel_rfl
              case hf212 => kernel_rfl
              case hr212 => kernel_rfl
              case hg212 => rfl
              case hy212 => (intro w hSw; (try dsimp only at hSw); go_simp; first | done | with_reducible rfl)
              case hq212 => exact fun _ _ _ h => h
              try dsimp only [Act.put]
              refine wpAnyH_take (i := 12) (oi := ?oi213) (v := ?vv213) ?hi213 ?hn213 ?hf213 ?hr213 ?hq213 (Or.inl ⟨?hg213, ?hy213⟩) hH0 ?rest213
              case hi213 => (simp only [List.getElem?_toArray, List.getElem?_cons_succ, List.getElem?_cons_zero]; rfl)
              case hn213 => kernel_rfl
              case hf213 => kernel_rfl
              case hr213 => kernel_rfl
              case hg213 => rfl
              case hy213 => (intro w hSw; (try dsimp only at hSw); go_simp; first | done | with_reducible rfl)
              case hq213 => exact fun _ _ _ h => h
              try dsimp only [Act.put]
              refine held_one 13 rfl (by kernel_rfl) (fun K hK => ?_)
              go_simp
              refine (hM _).mono ?_; rintro e w3 ⟨rfl, hb3⟩
              have hb3' := nx hz.drew hb3
              have nx9 := nx hbw hb3'
              have nx91 := nx hbw1 hb3'
              go_wp2_with fail
              have hH1 : (fun (w' : World) => w'.cell? ⟨g, j, none⟩ = some (.int .i64 x) ∧ w'.cell? ⟨g, j + 1, none⟩ = some (.int .i64 y)) _ := ⟨keep_cell hb3' c1, keep_cell hb3' c2⟩
              refine hK.out (fun (w' : World) => w'.cell? ⟨g, j, none⟩ = some (.int .i64 x) ∧ w'.cell? ⟨g, j + 1, none⟩ = some (.int .i64 y)) _ _ (fun _ h => h) hH1 ?_
              clear hK K
              try dsimp only [Act.put]
              refine wpAnyH_done (by kernel_rfl) ?_ _
              try simp only [List.setIfInBounds_toArray]
              clear hH0 hH1 hz hM hNA hMT hcall c1 c2 cr
              go_wp2_with fail
              go_roundw
              case rel => exact ⟨k + 1, by omega, by go_num, HF2, nx9, nx91⟩
              case measure => simp [intOf]; omega
            | true =>
              rw [hch] at hM
              have hres := HT.out.1 _ (HCS.out hch)
              rw [← HR.out] at hres
              have HRS := Lib.hid hres
              clear hch hres HCS HF HT
              have hwj2 : IntKind.i64.wrap ((j : Int) + 2) = (j : Int) + 2 := by rw [IntKind.wrap_i64]; omega
              have hj20 : 0 ≤ (j : Int) + 2 := by omega
              have hj2 : (j : Int) + 2 ≤ (n : Int) := by omega
              have hjc : (j : Int) ≤ (cap : Int) := by omega
              have hnc : (n : Int) ≤ (cap : Int) := by omega
              have hcz : ((j : Int) + 2).toNat = j + 2 := by omega
              have hj22 : (j : Int) ≤ (j : Int) + 2 := by omega
              have hn22 : (j : Int) + 2 ≤ (j : Int) + 2 := by omega
              by_cases hcc : cap = j + 2
              · skip
                go_wp2_with fail
                refine wp_region_held_drew (S := (fun (w' : World) => w'.cell? ⟨g, j, none⟩ = some (.int .i64 x) ∧ w'.cell? ⟨g, j + 1, none⟩ = some (.int .i64 y))) (by kernel_rfl) ⟨c1, c2⟩ (fun hH0 => ?_)
                refine wpAnyH_take (i := 0) (oi := ?oi401) (v := ?vv401) ?hi401 ?hn401 ?hf401 ?hr401 ?hq401 (Or.inl ⟨?hg401, ?hy401⟩) hH0 ?rest401
                case hi401 => (simp only [List.getElem?_toArray, List.getElem?_cons_zero]; rfl)
                case hn401 => kernel_rfl
                case hf401 => kernel_rfl
                case hr401 => kernel_rfl
                case hg401 => rfl
                case hy401 => (intro w hSw; (try dsimp only at hSw); go_simp; first | done | with_reducible rfl)
                case hq401 => exact fun _ _ _ h => h
                try dsimp only [Act.put]
                refine wpAnyH_take (i := 1) (oi := ?oi402) (v := ?vv402) ?hi402 ?hn402 ?hf402 ?hr402 ?hq402 (Or.inl ⟨?hg402, ?hy402⟩) hH0 ?rest402
                case hi402 => (simp only [List.getElem?_toArray, List.getElem?_cons_succ, List.getElem?_cons_zero]; rfl)
                case hn402 => kernel_rfl
                case hf402 => kernel_rfl
                case hr402 => kernel_rfl
                case hg402 => rfl
                case hy402 => (intro w hSw; (try dsimp only at hSw); go_simp; first | done | with_reducible rfl)
                case hq402 => exact fun _ _ _ h => h
                try dsimp only [Act.put]
                refine wpAnyH_take (i := 2) (oi := ?oi403) (v := ?vv403) ?hi403 ?hn403 ?hf403 ?hr403 ?hq403 (Or.inl ⟨?hg403, ?hy403⟩) hH0 ?rest403
                case hi403 => (simp only [List.getElem?_toArray, List.getElem?_cons_succ, List.getElem?_cons_zero]; rfl)
                case hn403 => kernel_rfl
                case hf403 => kernel_rfl
                case hr403 => kernel_rfl
                case hg403 => rfl
                case hy403 => (intro w hSw; (try dsimp only at hSw); go_simp; first | done | with_reducible rfl)
                case hq403 => exact fun _ _ _ h => h
                try dsimp only [Act.put]
                refine wpAnyH_take (i := 3) (oi := ?oi404) (v := ?vv404) ?hi404 ?hn404 ?hf404 ?hr404 ?hq404 (Or.inl ⟨?hg404, ?hy404⟩) hH0 ?rest404
                case hi404 => (simp only [List.getElem?_toArray, List.getElem?_cons_succ, List.getElem?_cons_zero]; rfl)
                case hn404 => kernel_rfl
                case hf404 => kernel_rfl
                case hr404 => kernel_rfl
                case hg404 => rfl
                case hy404 => (intro w hSw; (try dsimp only at hSw); go_simp; first | done | with_reducible rfl)
                case hq404 => exact fun _ _ _ h => h
                try dsimp only [Act.put]
                refine wpAnyH_take (i := 4) (oi := ?oi405) (v := ?vv405) ?hi405 ?hn405 ?hf405 ?hr405 ?hq405 (Or.inl ⟨?hg405, ?hy405⟩) hH0 ?rest405
                case hi405 => (simp only [List.getElem?_toArray, List.getElem?_cons_succ, List.getElem?_cons_zero]; rfl)
                case hn405 => kernel_rfl
                case hf405 => kernel_rfl
                case hr405 => kernel_rfl
                case hg405 => rfl
                case hy405 => (intro w hSw; (try dsimp only at hSw); go_simp; first | done | with_reducible rfl)
                case hq405 => exact fun _ _ _ h => h
                try dsimp only [Act.put]
                refine wpAnyH_take (i := 5) (oi := ?oi406) (v := ?vv406) ?hi406 ?hn406 ?hf406 ?hr406 ?hq406 (Or.inl ⟨?hg406, ?hy406⟩) hH0 ?rest406
                case hi406 => (simp only [List.getElem?_toArray, List.getElem?_cons_succ, List.getElem?_cons_zero]; rfl)
                case hn406 => kernel_rfl
                case hf406 => kernel_rfl
                case hr406 => kernel_rfl
                case hg406 => rfl
                case hy406 => (intro w hSw; (try dsimp only at hSw); go_simp; first | done | with_reducible rfl)
                case hq406 => exact fun _ _ _ h => h
                try dsimp only [Act.put]
                refine wpAnyH_take (i := 6) (oi := ?oi407) (v := ?vv407) ?hi407 ?hn407 ?hf407 ?hr407 ?hq407 (Or.inl ⟨?hg407, ?hy407⟩) hH0 ?rest407
                case hi407 => (simp only [List.getElem?_toArray, List.getElem?_cons_succ, List.getElem?_cons_zero]; rfl)
                case hn407 => kernel_rfl
                case hf407 => kernel_rfl
                case hr407 => kernel_rfl
                case hg407 => rfl
                case hy407 => (intro w hSw; (try dsimp only at hSw); go_simp; first | done | with_reducible rfl)
                case hq407 => exact fun _ _ _ h => h
                try dsimp only [Act.put]
                refine wpAnyH_take (i := 7) (oi := ?oi408) (v := ?vv408) ?hi408 ?hn408 ?hf408 ?hr408 ?hq408 (Or.inl ⟨?hg408, ?hy408⟩) hH0 ?rest408
                case hi408 => (simp only [List.getElem?_toArray, List.getElem?_cons_succ, List.getElem?_cons_zero]; rfl)
                case hn408 => kernel_rfl
                case hf408 => kernel_rfl
                case hr408 => kernel_rfl
                case hg408 => rfl
                case hy408 => (intro w hSw; (try dsimp only at hSw); go_simp; first | done | with_reducible rfl)
                case hq408 => exact fun _ _ _ h => h
                try dsimp only [Act.put]
                refine wpAnyH_take (i := 8) (oi := ?oi409) (v := ?vv409) ?hi409 ?hn409 ?hf409 ?hr409 ?hq409 (Or.inl ⟨?hg409, ?hy409⟩) hH0 ?rest409
                case hi409 => (simp only [List.getElem?_toArray, List.getElem?_cons_succ, List.getElem?_cons_zero]; rfl)
                case hn409 => kernel_rfl
                case hf409 => kernel_rfl
                case hr409 => kernel_rfl
                case hg409 => rfl
                case hy409 => (intro w hSw; (try dsimp only at hSw); go_simp; first | done | with_reducible rfl)
                case hq409 => exact fun _ _ _ h => h
                try dsimp only [Act.put]
                refine wpAnyH_take (i := 9) (oi := ?oi410) (v := ?vv410) ?hi410 ?hn410 ?hf410 ?hr410 ?hq410 (Or.inl ⟨?hg410, ?hy410⟩) hH0 ?rest410
                case hi410 => (simp only [List.getElem?_toArray, List.getElem?_cons_succ, List.getElem?_cons_zero]; rfl)
                case hn410 => kernel_rfl
                case hf410 => kernel_rfl
                case hr410 => kernel_rfl
                case hg410 => rfl
                case hy410 => (intro w hSw; (try dsimp only at hSw); go_simp; first | done | with_reducible rfl)
                case hq410 => exact fun _ _ _ h => h
                try dsimp only [Act.put]
                refine wpAnyH_take (i := 10) (oi := ?oi411) (v := ?vv411) ?hi411 ?hn411 ?hf411 ?hr411 ?hq411 (Or.inl ⟨?hg411, ?hy411⟩) hH0 ?rest411
                case hi411 => (simp only [List.getElem?_toArray, List.getElem?_cons_succ, List.getElem?_cons_zero]; rfl)
                case hn411 => kernel_rfl
                case hf411 => kernel_rfl
                case hr411 => kernel_rfl
                case hg411 => rfl
                case hy411 => (intro w hSw; (try dsimp only at hSw); go_simp; first | done | with_reducible rfl)
                case hq411 => exact fun _ _ _ h => h
                try dsimp only [Act.put]
                refine wpAnyH_take (i := 11) (oi := ?oi412) (v := ?vv412) ?hi412 ?hn412 ?hf412 ?hr412 ?hq412 (Or.inl ⟨?hg412, ?hy412⟩) hH0 ?rest412
                case hi412 => (simp only [List.getElem?_toArray, List.getElem?_cons_succ, List.getElem?_cons_zero]; rfl)
                case hn412 => kernel_rfl
                case hf412 => kernel_rfl
                case hr412 => kernel_rfl
                case hg412 => rfl
                case hy412 => (intro w hSw; (try dsimp only at hSw); go_simp; first | done | with_reducible rfl)
                case hq412 => exact fun _ _ _ h => h
                try dsimp only [Act.put]
                refine wpAnyH_take (i := 12) (oi := ?oi413) (v := ?vv413) ?hi413 ?hn413 ?hf413 ?hr413 ?hq413 (Or.inl ⟨?hg413, ?hy413⟩) hH0 ?rest413
                case hi413 => (simp only [List.getElem?_toArray, List.getElem?_cons_succ, List.getElem?_cons_zero]; rfl)
                case hn413 => kernel_rfl
                case hf413 => kernel_rfl
                case hr413 => kernel_rfl
                case hg413 => rfl
                case hy413 => (intro w hSw; (try dsimp only at hSw); go_simp; first | done | with_reducible rfl)
                case hq413 => exact fun _ _ _ h => h
                try dsimp only [Act.put]
                refine held_one 13 rfl (by kernel_rfl) (fun K hK => ?_)
                go_simp
                refine (hM _).mono ?_; rintro e w3 ⟨rfl, hb3⟩
                have hb3' := nx hz.drew hb3
                have nx9 := nx hbw hb3'
                have nx91 := nx hbw1 hb3'
                go_wp2_with fail
                have hH1 : (fun (w' : World) => w'.cell? ⟨g, j, none⟩ = some (.int .i64 x) ∧ w'.cell? ⟨g, j + 1, none⟩ = some (.int .i64 y)) _ := ⟨keep_cell hb3' c1, keep_cell hb3' c2⟩
                refine hK.out (fun (w' : World) => w'.cell? ⟨g, j, none⟩ = some (.int .i64 x) ∧ w'.cell? ⟨g, j + 1, none⟩ = some (.int .i64 y)) _ _ (fun _ h => h) hH1 ?_
                clear hK K
                try dsimp only [Act.put]
                refine wpAnyH_done (by kernel_rfl) ?_ _
                try simp only [List.setIfInBounds_toArray]
                have c1' := keep_cell hb3' c1
                have c2' := keep_cell hb3' c2
                have hz3 := Below.refl w3.heap.size w3
                clear hH0 hH1 hz hM hNA hMT hcall c1 c2 cr hb3 hb3' hbw hbw1
                go_wp2_with fail
                refine wp_region_held_drew (S := (fun (w' : World) => w'.cell? ⟨g, j, none⟩ = some (.int .i64 x) ∧ w'.cell? ⟨g, j + 1, none⟩ = some (.int .i64 y))) (by kernel_rfl) ⟨c1', c2'⟩ (fun hH0 => ?_)
                refine wpAnyH_take (i := 0) (oi := ?oi601) (v := ?vv601) ?hi601 ?hn601 ?hf601 ?hr601 ?hq601 (Or.inl ⟨?hg601, ?hy601⟩) hH0 ?rest601
                case hi601 => (simp only [List.getElem?_toArray, List.getElem?_cons_zero]; rfl)
                case hn601 => kernel_rfl
                case hf601 => kernel_rfl
                case hr601 => kernel_rfl
                case hg601 => rfl
                case hy601 => (intro w hSw; (try dsimp only at hSw); go_simp; first | done | with_reducible rfl)
                case hq601 => exact fun _ _ _ h => h
                try dsimp only [Act.put]
                refine wpAnyH_take (i := 1) (oi := ?oi602) (v := ?vv602) ?hi602 ?hn602 ?hf602 ?hr602 ?hq602 (Or.inl ⟨?hg602, ?hy602⟩) hH0 ?rest602
                case hi602 => (simp only [List.getElem?_toArray, List.getElem?_cons_succ, List.getElem?_cons_zero]; rfl)
                case hn602 => kernel_rfl
                case hf602 => kernel_rfl
                case hr602 => kernel_rfl
                case hg602 => rfl
                case hy602 => (intro w hSw; (try dsimp only at hSw); go_simp; first | done | with_reducible rfl)
                case hq602 => exact fun _ _ _ h => h
                try dsimp only [Act.put]
                refine wpAnyH_take (i := 2) (oi := ?oi603) (v := ?vv603) ?hi603 ?hn603 ?hf603 ?hr603 ?hq603 (Or.inl ⟨?hg603, ?hy603⟩) hH0 ?rest603
                case hi603 => (simp only [List.getElem?_toArray, List.getElem?_cons_succ, List.getElem?_cons_zero]; rfl)
                case hn603 => kernel_rfl
                case hf603 => kernel_rfl
                case hr603 => kernel_rfl
                case hg603 => rfl
                case hy603 => (intro w hSw; (try dsimp only at hSw); go_simp; first | done | with_reducible rfl)
                case hq603 => exact fun _ _ _ h => h
                try dsimp only [Act.put]
                refine wpAnyH_take (i := 3) (oi := ?oi604) (v := ?vv604) ?hi604 ?hn604 ?hf604 ?hr604 ?hq604 (Or.inl ⟨?hg604, ?hy604⟩) hH0 ?rest604
                case hi604 => (simp only [List.getElem?_toArray, List.getElem?_cons_succ, List.getElem?_cons_zero]; rfl)
                case hn604 => kernel_rfl
                case hf604 => kernel_rfl
                case hr604 => kernel_rfl
                case hg604 => rfl
                case hy604 => (intro w hSw; (try dsimp only at hSw); go_simp; first | done | with_reducible rfl)
                case hq604 => exact fun _ _ _ h => h
                try dsimp only [Act.put]
                refine wpAnyH_take (i := 4) (oi := ?oi605) (v := ?vv605) ?hi605 ?hn605 ?hf605 ?hr605 ?hq605 (Or.inl ⟨?hg605, ?hy605⟩) hH0 ?rest605
                case hi605 => (simp only [List.getElem?_toArray, List.getElem?_cons_succ, List.getElem?_cons_zero]; rfl)
                case hn605 => kernel_rfl
                case hf605 => kernel_rfl
                case hr605 => kernel_rfl
                case hg605 => rfl
                case hy605 => (intro w hSw; (try dsimp only at hSw); go_simp; first | done | with_reducible rfl)
                case hq605 => exact fun _ _ _ h => h
                try dsimp only [Act.put]
                refine wpAnyH_take (i := 5) (oi := ?oi606) (v := ?vv606) ?hi606 ?hn606 ?hf606 ?hr606 ?hq606 (Or.inl ⟨?hg606, ?hy606⟩) hH0 ?rest606
                case hi606 => (simp only [List.getElem?_toArray, List.getElem?_cons_succ, List.getElem?_cons_zero]; rfl)
                case hn606 => kernel_rfl
                case hf606 => kernel_rfl
                case hr606 => kernel_rfl
                case hg606 => rfl
                case hy606 => (intro w hSw; (try dsimp only at hSw); go_simp; first | done | with_reducible rfl)
                case hq606 => exact fun _ _ _ h => h
                try dsimp only [Act.put]
                refine wpAnyH_take (i := 6) (oi := ?oi607) (v := ?vv607) ?hi607 ?hn607 ?hf607 ?hr607 ?hq607 (Or.inl ⟨?hg607, ?hy607⟩) hH0 ?rest607
                case hi607 => (simp only [List.getElem?_toArray, List.getElem?_cons_succ, List.getElem?_cons_zero]; rfl)
                case hn607 => kernel_rfl
                case hf607 => kernel_rfl
                case hr607 => kernel_rfl
                case hg607 => rfl
                case hy607 => (intro w hSw; (try dsimp only at hSw); go_simp; first | done | with_reducible rfl)
                case hq607 => exact fun _ _ _ h => h
                try dsimp only [Act.put]
                refine wpAnyH_take (i := 7) (oi := ?oi608) (v := ?vv608) ?hi608 ?hn608 ?hf608 ?hr608 ?hq608 (Or.inl ⟨?hg608, ?hy608⟩) hH0 ?rest608
                case hi608 => (simp only [List.getElem?_toArray, List.getElem?_cons_succ, List.getElem?_cons_zero]; rfl)
                case hn608 => kernel_rfl
                case hf608 => kernel_rfl
                case hr608 => kernel_rfl
                case hg608 => rfl
                case hy608 => (intro w hSw; (try dsimp only at hSw); go_simp; first | done | with_reducible rfl)
                case hq608 => exact fun _ _ _ h => h
                try dsimp only [Act.put]
                refine wpAnyH_take (i := 8) (oi := ?oi609) (v := ?vv609) ?hi609 ?hn609 ?hf609 ?hr609 ?hq609 (Or.inl ⟨?hg609, ?hy609⟩) hH0 ?rest609
                case hi609 => (simp only [List.getElem?_toArray, List.getElem?_cons_succ, List.getElem?_cons_zero]; rfl)
                case hn609 => kernel_rfl
                case hf609 => kernel_rfl
                case hr609 => kernel_rfl
                case hg609 => rfl
                case hy609 => (intro w hSw; (try dsimp only at hSw); go_simp; first | done | with_reducible rfl)
                case hq609 => exact fun _ _ _ h => h
                try dsimp only [Act.put]
                refine wpAnyH_take (i := 9) (oi := ?oi610) (v := ?vv610) ?hi610 ?hn610 ?hf610 ?hr610 ?hq610 (Or.inl ⟨?hg610, ?hy610⟩) hH0 ?rest610
                case hi610 => (simp only [List.getElem?_toArray, List.getElem?_cons_succ, List.getElem?_cons_zero]; rfl)
                case hn610 => kernel_rfl
                case hf610 => kernel_rfl
                case hr610 => kernel_rfl
                case hg610 => rfl
                case hy610 => (intro w hSw; (try dsimp only at hSw); go_simp; first | done | with_reducible rfl)
                case hq610 => exact fun _ _ _ h => h
                try dsimp only [Act.put]
                refine wpAnyH_take (i := 10) (oi := ?oi611) (v := ?vv611) ?hi611 ?hn611 ?hf611 ?hr611 ?hq611 (Or.inl ⟨?hg611, ?hy611⟩) hH0 ?rest611
                case hi611 => (simp only [List.getElem?_toArray, List.getElem?_cons_succ, List.getElem?_cons_zero]; rfl)
                case hn611 => kernel_rfl
                case hf611 => kernel_rfl
                case hr611 => kernel_rfl
                case hg611 => rfl
                case hy611 => (intro w hSw; (try dsimp only at hSw); go_simp; first | done | with_reducible rfl)
                case hq611 => exact fun _ _ _ h => h
                try dsimp only [Act.put]
                refine wpAnyH_take (i := 11) (oi := ?oi612) (v := ?vv612) ?hi612 ?hn612 ?hf612 ?hr612 ?hq612 (Or.inl ⟨?hg612, ?hy612⟩) hH0 ?rest612
                case hi612 => (simp only [List.getElem?_toArray, List.getElem?_cons_succ, List.getElem?_cons_zero]; rfl)
                case hn612 => kernel_rfl
                case hf612 => kernel_rfl
                case hr612 => kernel_rfl
                case hg612 => rfl
                case hy612 => (intro w hSw; (try dsimp only at hSw); go_simp; first | done | with_reducible rfl)
                case hq612 => exact fun _ _ _ h => h
                try dsimp only [Act.put]
                refine wpAnyH_take (i := 12) (oi := ?oi613) (v := ?vv613) ?hi613 ?hn613 ?hf613 ?hr613 ?hq613 (Or.inl ⟨?hg613, ?hy613⟩) hH0 ?rest613
                case hi613 => (simp only [List.getElem?_toArray, List.getElem?_cons_succ, List.getElem?_cons_zero]; rfl)
                case hn613 => kernel_rfl
                case hf613 => kernel_rfl
                case hr613 => kernel_rfl
                case hg613 => rfl
                case hy613 => (intro w hSw; (try dsimp only at hSw); go_simp; first | done | with_reducible rfl)
                case hq613 => exact fun _ _ _ h => h
                try dsimp only [Act.put]
                refine wpAnyH_take (i := 14) (oi := ?oi614) (v := ?vv614) ?hi614 ?hn614 ?hf614 ?hr614 ?hq614 (Or.inl ⟨?hg614, ?hy614⟩) hH0 ?rest614
                case hi614 => (simp only [List.getElem?_toArray, List.getElem?_cons_succ, List.getElem?_cons_zero]; rfl)
                case hn614 => kernel_rfl
                case hf614 => kernel_rfl
                case hr614 => kernel_rfl
                case hg614 => rfl
                case hy614 => (intro w hSw; (try dsimp only at hSw); go_simp; first | done | with_reducible rfl)
                case hq614 => exact fun _ _ _ h => h
                try dsimp only [Act.put]
                refine wpAnyH_take (i := 15) (oi := ?oi615) (v := ?vv615) ?hi615 ?hn615 ?hf615 ?hr615 ?hq615 (Or.inl ⟨?hg615, ?hy615⟩) hH0 ?rest615
                case hi615 => (simp only [List.getElem?_toArray, List.getElem?_cons_succ, List.getElem?_cons_zero]; rfl)
                case hn615 => kernel_rfl
                case hf615 => kernel_rfl
                case hr615 => kernel_rfl
                case hg615 => rfl
                case hy615 => (intro w hSw; (try dsimp only at hSw); go_simp; first | done | with_reducible rfl)
                case hq615 => exact fun _ _ _ h => h
                try dsimp only [Act.put]
                refine wpAnyH_take (i := 16) (oi := ?oi616) (v := ?vv616) ?hi616 ?hn616 ?hf616 ?hr616 ?hq616 (Or.inl ⟨?hg616, ?hy616⟩) hH0 ?rest616
                case hi616 => (simp only [List.getElem?_toArray, List.getElem?_cons_succ, List.getElem?_cons_zero]; rfl)
                case hn616 => kernel_rfl
                case hf616 => kernel_rfl
                case hr616 => kernel_rfl
                case hg616 => rfl
                case hy616 => (intro w hSw; (try dsimp only at hSw); go_simp; first | done | with_reducible rfl)
                case hq616 => exact fun _ _ _ h => h
                try dsimp only [Act.put]
                refine wpAnyH_take (i := 17) (oi := ?oi617) (v := ?vv617) ?hi617 ?hn617 ?hf617 ?hr617 ?hq617 (Or.inl ⟨?hg617, ?hy617⟩) hH0 ?rest617
                case hi617 => (simp only [List.getElem?_toArray, List.getElem?_cons_succ, List.getElem?_cons_zero]; rfl)
                case hn617 => kernel_rfl
                case hf617 => kernel_rfl
                case hr617 => kernel_rfl
                case hg617 => rfl
                case hy617 => (intro w hSw; (try dsimp only at hSw); go_simp; first | done | with_reducible rfl)
                case hq617 => exact fun _ _ _ h => h
                try dsimp only [Act.put]
                refine held_one 13 rfl (by kernel_rfl) (fun K hK => ?_)
                go_simp
                refine (hB _).mono ?_; rintro e w4 ⟨v4, own4, hb4, rfl⟩
                have hb4' := nx hz3.drew hb4
                obtain ⟨a4, l4, c4, rfl⟩ : ∃ a l c, v4 = .slice a l c := by
                  rcases own4.cells with ⟨h, _⟩ | ⟨g4, c4, h, _⟩
                  · exact ⟨_, _, _, h⟩
                  · exact ⟨_, _, _, h⟩
                go_wp2_with fail
                refine hK.out (fun (w' : World) => w'.cell? ⟨g, j, none⟩ = some (.int .i64 x) ∧ w'.cell? ⟨g, j + 1, none⟩ = some (.int .i64 y)) _ _ (fun _ h => h) ⟨keep_cell hb4' c1', keep_cell hb4' c2'⟩ ?_
                clear hK K
                try dsimp only [Act.put]
                have nx4 := nx nx9 hb4'
                have hn0 := HNN.out
                have hcw : ∀ i, i < L.length → w4.cell? ⟨g, i, none⟩ = some (.int .i64 (L.getD i 0)) := fun i hi => (nx4.cell (p := ⟨g, i, none⟩) hg).trans (HC.out i hi)
                have hfr := word_front (cap := j + 2) (j := j) (L := L) (w := w4) (by omega) hcw
                have hbk : SrcV w4 (.slice (some ⟨g, 0, none⟩) (n - (j + 2)) 0) ((L.drop (j + 2)).map (Value.int .i64)) := .inr ⟨⟨g, 0, none⟩, 0, by rw [List.length_map, List.length_drop, hn0], fun i x hi => by rw [List.drop_of_length_le (by omega)] at hi; simp at hi⟩
                have hP := parts3 w4 22 _ _ _ _ _ _ (SrcI.of hfr) (SrcI.of own4.src) (SrcI.of hbk)
                have hbA := nxAlloc (Below.refl w4.heap.size w4) (.cells #[.slice (some ⟨g, 0, none⟩) j (j + 2), .slice a4 l4 c4, (.slice (some ⟨g, 0, none⟩) (n - (j + 2)) 0)] 22 (0, 0))
                have hnA := nx hb4' hbA
                refine held_one 18 rfl (by kernel_rfl) (fun K hK => ?_)
                go_simp
                refine hK.out (fun (w' : World) => w'.cell? ⟨g, j, none⟩ = some (.int .i64 x) ∧ w'.cell? ⟨g, j + 1, none⟩ = some (.int .i64 y)) _ _ (fun _ h => h) ⟨keep_cell hnA c1', keep_cell hnA c2'⟩ ?_
                clear hK K
                try dsimp only [Act.put]
                have hfl9 : [L.take j, b, L.drop (j + 2)].flatten.length ≤ 10000 := by simp; omega
                have hCC := concat_any w4.heap.size 3 _ _ _ hP rfl (by omega) hfl9
                generalize (w4.alloc (.cells #[.slice (some ⟨g, 0, none⟩) j (j + 2), .slice a4 l4 c4, (.slice (some ⟨g, 0, none⟩) (n - (j + 2)) 0)] 22 (0, 0))) = w5 at *
                refine held_one 19 rfl (by kernel_rfl) (fun K hK => ?_)
                go_simp
                refine hCC.mono ?_; rintro e w6 ⟨v6, own6, hb6, rfl⟩
                have hnB := nx hnA hb6
                go_wp2_with fail
                refine hK.out (fun (w' : World) => w'.cell? ⟨g, j, none⟩ = some (.int .i64 x) ∧ w'.cell? ⟨g, j + 1, none⟩ = some (.int .i64 y)) _ _ (fun _ h => h) ⟨keep_cell hnB c1', keep_cell hnB c2'⟩ ?_
                clear hK K
                try dsimp only [Act.put]
                refine wpAnyH_take (i := 20) (oi := ?oi3001) (v := ?vv3001) ?hi3001 ?hn3001 ?hf3001 ?hr3001 ?hq3001 (Or.inl ⟨?hg3001, ?hy3001⟩) (show (fun (w' : World) => w'.cell? ⟨g, j, none⟩ = some (.int .i64 x) ∧ w'.cell? ⟨g, j + 1, none⟩ = some (.int .i64 y)) w6 from ⟨keep_cell hnB c1', keep_cell hnB c2'⟩) ?rest3001
                case hi3001 => (simp only [List.getElem?_toArray, List.getElem?_cons_succ, List.getElem?_cons_zero]; rfl)
                case hn3001 => kernel_rfl
                case hf3001 => kernel_rfl
                case hr3001 => kernel_rfl
                case hg3001 => rfl
                case hy3001 => (intro w hSw; (try dsimp only at hSw); go_simp; first | done | with_reducible rfl)
                case hq3001 => exact fun _ _ _ h => h
                try dsimp only [Act.put]
                refine wpAnyH_take (i := 21) (oi := ?oi3002) (v := ?vv3002) ?hi3002 ?hn3002 ?hf3002 ?hr3002 ?hq3002 (Or.inl ⟨?hg3002, ?hy3002⟩) (show (fun (w' : World) => w'.cell? ⟨g, j, none⟩ = some (.int .i64 x) ∧ w'.cell? ⟨g, j + 1, none⟩ = some (.int .i64 y)) w6 from ⟨keep_cell hnB c1', keep_cell hnB c2'⟩) ?rest3002
                case hi3002 => (simp only [List.getElem?_toArray, List.getElem?_cons_succ, List.getElem?_cons_zero]; rfl)
                case hn3002 => kernel_rfl
                case hf3002 => kernel_rfl
                case hr3002 => kernel_rfl
                case hg3002 => rfl
                case hy3002 => (intro w hSw; (try dsimp only at hSw); go_simp; first | done | with_reducible rfl)
                case hq3002 => exact fun _ _ _ h => h
                try dsimp only [Act.put]
                refine wpAnyH_done (by kernel_rfl) ?_ _
                try simp only [List.setIfInBounds_toArray]
                have nxF := nx nx9 hnB
                have hS5 := (nx nx4 hbA).size
                have hown : OwnI w.heap.size w6 v6 (L.take j ++ (b ++ L.drop (j + 2))) := by
                  have h := own6.mono hS5
                  simpa using h
                clear hP hCC own6 own4 hfr hbk hcw hnB hnA hbA hb6 hb4 hb4' c1' c2' nx4 hz3
                go_wp2_with fail
                go_ret2
                rw [HRS.out]
                exact ⟨nxF, v6, hown, rfl⟩
              · skip
                go_wp2_with fail
                refine wp_region_held_drew (S := (fun (w' : World) => w'.cell? ⟨g, j, none⟩ = some (.int .i64 x) ∧ w'.cell? ⟨g, j + 1, none⟩ = some (.int .i64 y))) (by kernel_rfl) ⟨c1, c2⟩ (fun hH0 => ?_)
                refine wpAnyH_take (i := 0) (oi := ?oi801) (v := ?vv801) ?hi801 ?hn801 ?hf801 ?hr801 ?hq801 (Or.inl ⟨?hg801, ?hy801⟩) hH0 ?rest801
                case hi801 => (simp only [List.getElem?_toArray, List.getElem?_cons_zero]; rfl)
                case hn801 => kernel_rfl
                case hf801 => kernel_rfl
                case hr801 => kernel_rfl
                case hg801 => rfl
                case hy801 => (intro w hSw; (try dsimp only at hSw); go_simp; first | done | with_reducible rfl)
                case hq801 => exact fun _ _ _ h => h
                try dsimp only [Act.put]
                refine wpAnyH_take (i := 1) (oi := ?oi802) (v := ?vv802) ?hi802 ?hn802 ?hf802 ?hr802 ?hq802 (Or.inl ⟨?hg802, ?hy802⟩) hH0 ?rest802
                case hi802 => (simp only [List.getElem?_toArray, List.getElem?_cons_succ, List.getElem?_cons_zero]; rfl)
                case hn802 => kernel_rfl
                case hf802 => kernel_rfl
                case hr802 => kernel_rfl
                case hg802 => rfl
                case hy802 => (intro w hSw; (try dsimp only at hSw); go_simp; first | done | with_reducible rfl)
                case hq802 => exact fun _ _ _ h => h
                try dsimp only [Act.put]
                refine wpAnyH_take (i := 2) (oi := ?oi803) (v := ?vv803) ?hi803 ?hn803 ?hf803 ?hr803 ?hq803 (Or.inl ⟨?hg803, ?hy803⟩) hH0 ?rest803
                case hi803 => (simp only [List.getElem?_toArray, List.getElem?_cons_succ, List.getElem?_cons_zero]; rfl)
                case hn803 => kernel_rfl
                case hf803 => kernel_rfl
                case hr803 => kernel_rfl
                case hg803 => rfl
                case hy803 => (intro w hSw; (try dsimp only at hSw); go_simp; first | done | with_reducible rfl)
                case hq803 => exact fun _ _ _ h => h
                try dsimp only [Act.put]
                refine wpAnyH_take (i := 3) (oi := ?oi804) (v := ?vv804) ?hi804 ?hn804 ?hf804 ?hr804 ?hq804 (Or.inl ⟨?hg804, ?hy804⟩) hH0 ?rest804
                case hi804 => (simp only [List.getElem?_toArray, List.getElem?_cons_succ, List.getElem?_cons_zero]; rfl)
                case hn804 => kernel_rfl
                case hf804 => kernel_rfl
                case hr804 => kernel_rfl
                case hg804 => rfl
                case hy804 => (intro w hSw; (try dsimp only at hSw); go_simp; first | done | with_reducible rfl)
                case hq804 => exact fun _ _ _ h => h
                try dsimp only [Act.put]
                refine wpAnyH_take (i := 4) (oi := ?oi805) (v := ?vv805) ?hi805 ?hn805 ?hf805 ?hr805 ?hq805 (Or.inl ⟨?hg805, ?hy805⟩) hH0 ?rest805
                case hi805 => (simp only [List.getElem?_toArray, List.getElem?_cons_succ, List.getElem?_cons_zero]; rfl)
                case hn805 => kernel_rfl
                case hf805 => kernel_rfl
                case hr805 => kernel_rfl
                case hg805 => rfl
                case hy805 => (intro w hSw; (try dsimp only at hSw); go_simp; first | done | with_reducible rfl)
                case hq805 => exact fun _ _ _ h => h
                try dsimp only [Act.put]
                refine wpAnyH_take (i := 5) (oi := ?oi806) (v := ?vv806) ?hi806 ?hn806 ?hf806 ?hr806 ?hq806 (Or.inl ⟨?hg806, ?hy806⟩) hH0 ?rest806
                case hi806 => (simp only [List.getElem?_toArray, List.getElem?_cons_succ, List.getElem?_cons_zero]; rfl)
                case hn806 => kernel_rfl
                case hf806 => kernel_rfl
                case hr806 => kernel_rfl
                case hg806 => rfl
                case hy806 => (intro w hSw; (try dsimp only at hSw); go_simp; first | done | with_reducible rfl)
                case hq806 => exact fun _ _ _ h => h
                try dsimp only [Act.put]
                refine wpAnyH_take (i := 6) (oi := ?oi807) (v := ?vv807) ?hi807 ?hn807 ?hf807 ?hr807 ?hq807 (Or.inl ⟨?hg807, ?hy807⟩) hH0 ?rest807
                case hi807 => (simp only [List.getElem?_toArray, List.getElem?_cons_succ, List.getElem?_cons_zero]; rfl)
                case hn807 => kernel_rfl
                case hf807 => kernel_rfl
                case hr807 => kernel_rfl
                case hg807 => rfl
                case hy807 => (intro w hSw; (try dsimp only at hSw); go_simp; first | done | with_reducible rfl)
                case hq807 => exact fun _ _ _ h => h
                try dsimp only [Act.put]
                refine wpAnyH_take (i := 7) (oi := ?oi808) (v := ?vv808) ?hi808 ?hn808 ?hf808 ?hr808 ?hq808 (Or.inl ⟨?hg808, ?hy808⟩) hH0 ?rest808
                case hi808 => (simp only [List.getElem?_toArray, List.getElem?_cons_succ, List.getElem?_cons_zero]; rfl)
                case hn808 => kernel_rfl
                case hf808 => kernel_rfl
                case hr808 => kernel_rfl
                case hg808 => rfl
                case hy808 => (intro w hSw; (try dsimp only at hSw); go_simp; first | done | with_reducible rfl)
                case hq808 => exact fun _ _ _ h => h
                try dsimp only [Act.put]
                refine wpAnyH_take (i := 8) (oi := ?oi809) (v := ?vv809) ?hi809 ?hn809 ?hf809 ?hr809 ?hq809 (Or.inl ⟨?hg809, ?hy809⟩) hH0 ?rest809
                case hi809 => (simp only [List.getElem?_toArray, List.getElem?_cons_succ, List.getElem?_cons_zero]; rfl)
                case hn809 => kernel_rfl
                case hf809 => kernel_rfl
                case hr809 => kernel_rfl
                case hg809 => rfl
                case hy809 => (intro w hSw; (try dsimp only at hSw); go_simp; first | done | with_reducible rfl)
                case hq809 => exact fun _ _ _ h => h
                try dsimp only [Act.put]
                refine wpAnyH_take (i := 9) (oi := ?oi810) (v := ?vv810) ?hi810 ?hn810 ?hf810 ?hr810 ?hq810 (Or.inl ⟨?hg810, ?hy810⟩) hH0 ?rest810
                case hi810 => (simp only [List.getElem?_toArray, List.getElem?_cons_succ, List.getElem?_cons_zero]; rfl)
                case hn810 => kernel_rfl
                case hf810 => kernel_rfl
                case hr810 => kernel_rfl
                case hg810 => rfl
                case hy810 => (intro w hSw; (try dsimp only at hSw); go_simp; first | done | with_reducible rfl)
                case hq810 => exact fun _ _ _ h => h
                try dsimp only [Act.put]
                refine wpAnyH_take (i := 10) (oi := ?oi811) (v := ?vv811) ?hi811 ?hn811 ?hf811 ?hr811 ?hq811 (Or.inl ⟨?hg811, ?hy811⟩) hH0 ?rest811
                case hi811 => (simp only [List.getElem?_toArray, List.getElem?_cons_succ, List.getElem?_cons_zero]; rfl)
                case hn811 => kernel_rfl
                case hf811 => kernel_rfl
                case hr811 => kernel_rfl
                case hg811 => rfl
                case hy811 => (intro w hSw; (try dsimp only at hSw); go_simp; first | done | with_reducible rfl)
                case hq811 => exact fun _ _ _ h => h
                try dsimp only [Act.put]
                refine wpAnyH_take (i := 11) (oi := ?oi812) (v := ?vv812) ?hi812 ?hn812 ?hf812 ?hr812 ?hq812 (Or.inl ⟨?hg812, ?hy812⟩) hH0 ?rest812
                case hi812 => (simp only [List.getElem?_toArray, List.getElem?_cons_succ, List.getElem?_cons_zero]; rfl)
                case hn812 => kernel_rfl
                case hf812 => kernel_rfl
                case hr812 => kernel_rfl
                case hg812 => rfl
                case hy812 => (intro w hSw; (try dsimp only at hSw); go_simp; first | done | with_reducible rfl)
                case hq812 => exact fun _ _ _ h => h
                try dsimp only [Act.put]
                refine wpAnyH_take (i := 12) (oi := ?oi813) (v := ?vv813) ?hi813 ?hn813 ?hf813 ?hr813 ?hq813 (Or.inl ⟨?hg813, ?hy813⟩) hH0 ?rest813
                case hi813 => (simp only [List.getElem?_toArray, List.getElem?_cons_succ, List.getElem?_cons_zero]; rfl)
                case hn813 => kernel_rfl
                case hf813 => kernel_rfl
                case hr813 => kernel_rfl
                case hg813 => rfl
                case hy813 => (intro w hSw; (try dsimp only at hSw); go_simp; first | done | with_reducible rfl)
                case hq813 => exact fun _ _ _ h => h
                try dsimp only [Act.put]
                refine held_one 13 rfl (by kernel_rfl) (fun K hK => ?_)
                go_simp
                refine (hM _).mono ?_; rintro e w3 ⟨rfl, hb3⟩
                have hb3' := nx hz.drew hb3
                have nx9 := nx hbw hb3'
                have nx91 := nx hbw1 hb3'
                go_wp2_with fail
                have hH1 : (fun (w' : World) => w'.cell? ⟨g, j, none⟩ = some (.int .i64 x) ∧ w'.cell? ⟨g, j + 1, none⟩ = some (.int .i64 y)) _ := ⟨keep_cell hb3' c1, keep_cell hb3' c2⟩
                refine hK.out (fun (w' : World) => w'.cell? ⟨g, j, none⟩ = some (.int .i64 x) ∧ w'.cell? ⟨g, j + 1, none⟩ = some (.int .i64 y)) _ _ (fun _ h => h) hH1 ?_
                clear hK K
                try dsimp only [Act.put]
                refine wpAnyH_done (by kernel_rfl) ?_ _
                try simp only [List.setIfInBounds_toArray]
                have c1' := keep_cell hb3' c1
                have c2' := keep_cell hb3' c2
                have hz3 := Below.refl w3.heap.size w3
                clear hH0 hH1 hz hM hNA hMT hcall c1 c2 cr hb3 hb3' hbw hbw1
                go_wp2_with fail
                refine wp_region_held_drew (S := (fun (w' : World) => w'.cell? ⟨g, j, none⟩ = some (.int .i64 x) ∧ w'.cell? ⟨g, j + 1, none⟩ = some (.int .i64 y))) (by kernel_rfl) ⟨c1', c2'⟩ (fun hH0 => ?_)
                refine wpAnyH_take (i := 0) (oi := ?oi1001) (v := ?vv1001) ?hi1001 ?hn1001 ?hf1001 ?hr1001 ?hq1001 (Or.inl ⟨?hg1001, ?hy1001⟩) hH0 ?rest1001
                case hi1001 => (simp only [List.getElem?_toArray, List.getElem?_cons_zero]; rfl)
                case hn1001 => kernel_rfl
                case hf1001 => kernel_rfl
                case hr1001 => kernel_rfl
                case hg1001 => rfl
                case hy1001 => (intro w hSw; (try dsimp only at hSw); go_simp; first | done | with_reducible rfl)
                case hq1001 => exact fun _ _ _ h => h
                try dsimp only [Act.put]
                refine wpAnyH_take (i := 1) (oi := ?oi1002) (v := ?vv1002) ?hi1002 ?hn1002 ?hf1002 ?hr1002 ?hq1002 (Or.inl ⟨?hg1002, ?hy1002⟩) hH0 ?rest1002
                case hi1002 => (simp only [List.getElem?_toArray, List.getElem?_cons_succ, List.getElem?_cons_zero]; rfl)
                case hn1002 => kernel_rfl
                case hf1002 => kernel_rfl
                case hr1002 => kernel_rfl
                case hg1002 => rfl
                case hy1002 => (intro w hSw; (try dsimp only at hSw); go_simp; first | done | with_reducible rfl)
                case hq1002 => exact fun _ _ _ h => h
                try dsimp only [Act.put]
                refine wpAnyH_take (i := 2) (oi := ?oi1003) (v := ?vv1003) ?hi1003 ?hn1003 ?hf1003 ?hr1003 ?hq1003 (Or.inl ⟨?hg1003, ?hy1003⟩) hH0 ?rest1003
                case hi1003 => (simp only [List.getElem?_toArray, List.getElem?_cons_succ, List.getElem?_cons_zero]; rfl)
                case hn1003 => kernel_rfl
                case hf1003 => kernel_rfl
                case hr1003 => kernel_rfl
                case hg1003 => rfl
                case hy1003 => (intro w hSw; (try dsimp only at hSw); go_simp; first | done | with_reducible rfl)
                case hq1003 => exact fun _ _ _ h => h
                try dsimp only [Act.put]
                refine wpAnyH_take (i := 3) (oi := ?oi1004) (v := ?vv1004) ?hi1004 ?hn1004 ?hf1004 ?hr1004 ?hq1004 (Or.inl ⟨?hg1004, ?hy1004⟩) hH0 ?rest1004
                case hi1004 => (simp only [List.getElem?_toArray, List.getElem?_cons_succ, List.getElem?_cons_zero]; rfl)
                case hn1004 => kernel_rfl
                case hf1004 => kernel_rfl
                case hr1004 => kernel_rfl
                case hg1004 => rfl
                case hy1004 => (intro w hSw; (try dsimp only at hSw); go_simp; first | done | with_reducible rfl)
                case hq1004 => exact fun _ _ _ h => h
                try dsimp only [Act.put]
                refine wpAnyH_take (i := 4) (oi := ?oi1005) (v := ?vv1005) ?hi1005 ?hn1005 ?hf1005 ?hr1005 ?hq1005 (Or.inl ⟨?hg1005, ?hy1005⟩) hH0 ?rest1005
                case hi1005 => (simp only [List.getElem?_toArray, List.getElem?_cons_succ, List.getElem?_cons_zero]; rfl)
                case hn1005 => kernel_rfl
                case hf1005 => kernel_rfl
                case hr1005 => kernel_rfl
                case hg1005 => rfl
                case hy1005 => (intro w hSw; (try dsimp only at hSw); go_simp; first | done | with_reducible rfl)
                case hq1005 => exact fun _ _ _ h => h
                try dsimp only [Act.put]
                refine wpAnyH_take (i := 5) (oi := ?oi1006) (v := ?vv1006) ?hi1006 ?hn1006 ?hf1006 ?hr1006 ?hq1006 (Or.inl ⟨?hg1006, ?hy1006⟩) hH0 ?rest1006
                case hi1006 => (simp only [List.getElem?_toArray, List.getElem?_cons_succ, List.getElem?_cons_zero]; rfl)
                case hn1006 => kernel_rfl
                case hf1006 => kernel_rfl
                case hr1006 => kernel_rfl
                case hg1006 => rfl
                case hy1006 => (intro w hSw; (try dsimp only at hSw); go_simp; first | done | with_reducible rfl)
                case hq1006 => exact fun _ _ _ h => h
                try dsimp only [Act.put]
                refine wpAnyH_take (i := 6) (oi := ?oi1007) (v := ?vv1007) ?hi1007 ?hn1007 ?hf1007 ?hr1007 ?hq1007 (Or.inl ⟨?hg1007, ?hy1007⟩) hH0 ?rest1007
                case hi1007 => (simp only [List.getElem?_toArray, List.getElem?_cons_succ, List.getElem?_cons_zero]; rfl)
                case hn1007 => kernel_rfl
                case hf1007 => kernel_rfl
                case hr1007 => kernel_rfl
                case hg1007 => rfl
                case hy1007 => (intro w hSw; (try dsimp only at hSw); go_simp; first | done | with_reducible rfl)
                case hq1007 => exact fun _ _ _ h => h
                try dsimp only [Act.put]
                refine wpAnyH_take (i := 7) (oi := ?oi1008) (v := ?vv1008) ?hi1008 ?hn1008 ?hf1008 ?hr1008 ?hq1008 (Or.inl ⟨?hg1008, ?hy1008⟩) hH0 ?rest1008
                case hi1008 => (simp only [List.getElem?_toArray, List.getElem?_cons_succ, List.getElem?_cons_zero]; rfl)
                case hn1008 => kernel_rfl
                case hf1008 => kernel_rfl
                case hr1008 => kernel_rfl
                case hg1008 => rfl
                case hy1008 => (intro w hSw; (try dsimp only at hSw); go_simp; first | done | with_reducible rfl)
                case hq1008 => exact fun _ _ _ h => h
                try dsimp only [Act.put]
                refine wpAnyH_take (i := 8) (oi := ?oi1009) (v := ?vv1009) ?hi1009 ?hn1009 ?hf1009 ?hr1009 ?hq1009 (Or.inl ⟨?hg1009, ?hy1009⟩) hH0 ?rest1009
                case hi1009 => (simp only [List.getElem?_toArray, List.getElem?_cons_succ, List.getElem?_cons_zero]; rfl)
                case hn1009 => kernel_rfl
                case hf1009 => kernel_rfl
                case hr1009 => kernel_rfl
                case hg1009 => rfl
                case hy1009 => (intro w hSw; (try dsimp only at hSw); go_simp; first | done | with_reducible rfl)
                case hq1009 => exact fun _ _ _ h => h
                try dsimp only [Act.put]
                refine wpAnyH_take (i := 9) (oi := ?oi1010) (v := ?vv1010) ?hi1010 ?hn1010 ?hf1010 ?hr1010 ?hq1010 (Or.inl ⟨?hg1010, ?hy1010⟩) hH0 ?rest1010
                case hi1010 => (simp only [List.getElem?_toArray, List.getElem?_cons_succ, List.getElem?_cons_zero]; rfl)
                case hn1010 => kernel_rfl
                case hf1010 => kernel_rfl
                case hr1010 => kernel_rfl
                case hg1010 => rfl
                case hy1010 => (intro w hSw; (try dsimp only at hSw); go_simp; first | done | with_reducible rfl)
                case hq1010 => exact fun _ _ _ h => h
                try dsimp only [Act.put]
                refine wpAnyH_take (i := 10) (oi := ?oi1011) (v := ?vv1011) ?hi1011 ?hn1011 ?hf1011 ?hr1011 ?hq1011 (Or.inl ⟨?hg1011, ?hy1011⟩) hH0 ?rest1011
                case hi1011 => (simp only [List.getElem?_toArray, List.getElem?_cons_succ, List.getElem?_cons_zero]; rfl)
                case hn1011 => kernel_rfl
                case hf1011 => kernel_rfl
                case hr1011 => kernel_rfl
                case hg1011 => rfl
                case hy1011 => (intro w hSw; (try dsimp only at hSw); go_simp; first | done | with_reducible rfl)
                case hq1011 => exact fun _ _ _ h => h
                try dsimp only [Act.put]
                refine wpAnyH_take (i := 11) (oi := ?oi1012) (v := ?vv1012) ?hi1012 ?hn1012 ?hf1012 ?hr1012 ?hq1012 (Or.inl ⟨?hg1012, ?hy1012⟩) hH0 ?rest1012
                case hi1012 => (simp only [List.getElem?_toArray, List.getElem?_cons_succ, List.getElem?_cons_zero]; rfl)
                case hn1012 => kernel_rfl
                case hf1012 => kernel_rfl
                case hr1012 => kernel_rfl
                case hg1012 => rfl
                case hy1012 => (intro w hSw; (try dsimp only at hSw); go_simp; first | done | with_reducible rfl)
                case hq1012 => exact fun _ _ _ h => h
                try dsimp only [Act.put]
                refine wpAnyH_take (i := 12) (oi := ?oi1013) (v := ?vv1013) ?hi1013 ?hn1013 ?hf1013 ?hr1013 ?hq1013 (Or.inl ⟨?hg1013, ?hy1013⟩) hH0 ?rest1013
                case hi1013 => (simp only [List.getElem?_toArray, List.getElem?_cons_succ, List.getElem?_cons_zero]; rfl)
                case hn1013 => kernel_rfl
                case hf1013 => kernel_rfl
                case hr1013 => kernel_rfl
                case hg1013 => rfl
                case hy1013 => (intro w hSw; (try dsimp only at hSw); go_simp; first | done | with_reducible rfl)
                case hq1013 => exact fun _ _ _ h => h
                try dsimp only [Act.put]
                refine wpAnyH_take (i := 14) (oi := ?oi1014) (v := ?vv1014) ?hi1014 ?hn1014 ?hf1014 ?hr1014 ?hq1014 (Or.inl ⟨?hg1014, ?hy1014⟩) hH0 ?rest1014
                case hi1014 => (simp only [List.getElem?_toArray, List.getElem?_cons_succ, List.getElem?_cons_zero]; rfl)
                case hn1014 => kernel_rfl
                case hf1014 => kernel_rfl
                case hr1014 => kernel_rfl
                case hg1014 => rfl
                case hy1014 => (intro w hSw; (try dsimp only at hSw); go_simp; first | done | with_reducible rfl)
                case hq1014 => exact fun _ _ _ h => h
                try dsimp only [Act.put]
                refine wpAnyH_take (i := 15) (oi := ?oi1015) (v := ?vv1015) ?hi1015 ?hn1015 ?hf1015 ?hr1015 ?hq1015 (Or.inl ⟨?hg1015, ?hy1015⟩) hH0 ?rest1015
                case hi1015 => (simp only [List.getElem?_toArray, List.getElem?_cons_succ, List.getElem?_cons_zero]; rfl)
                case hn1015 => kernel_rfl
                case hf1015 => kernel_rfl
                case hr1015 => kernel_rfl
                case hg1015 => rfl
                case hy1015 => (intro w hSw; (try dsimp only at hSw); go_simp; first | done | with_reducible rfl)
                case hq1015 => exact fun _ _ _ h => h
                try dsimp only [Act.put]
                refine wpAnyH_take (i := 16) (oi := ?oi1016) (v := ?vv1016) ?hi1016 ?hn1016 ?hf1016 ?hr1016 ?hq1016 (Or.inl ⟨?hg1016, ?hy1016⟩) hH0 ?rest1016
                case hi1016 => (simp only [List.getElem?_toArray, List.getElem?_cons_succ, List.getElem?_cons_zero]; rfl)
                case hn1016 => kernel_rfl
                case hf1016 => kernel_rfl
                case hr1016 => kernel_rfl
                case hg1016 => rfl
                case hy1016 => (intro w hSw; (try dsimp only at hSw); go_simp; first | done | with_reducible rfl)
                case hq1016 => exact fun _ _ _ h => h
                try dsimp only [Act.put]
                refine wpAnyH_take (i := 17) (oi := ?oi1017) (v := ?vv1017) ?hi1017 ?hn1017 ?hf1017 ?hr1017 ?hq1017 (Or.inl ⟨?hg1017, ?hy1017⟩) hH0 ?rest1017
                case hi1017 => (simp only [List.getElem?_toArray, List.getElem?_cons_succ, List.getElem?_cons_zero]; rfl)
                case hn1017 => kernel_rfl
                case hf1017 => kernel_rfl
                case hr1017 => kernel_rfl
                case hg1017 => rfl
                case hy1017 => (intro w hSw; (try dsimp only at hSw); go_simp; first | done | with_reducible rfl)
                case hq1017 => exact fun _ _ _ h => h
                try dsimp only [Act.put]
                refine held_one 13 rfl (by kernel_rfl) (fun K hK => ?_)
                go_simp
                refine (hB _).mono ?_; rintro e w4 ⟨v4, own4, hb4, rfl⟩
                have hb4' := nx hz3.drew hb4
                obtain ⟨a4, l4, c4, rfl⟩ : ∃ a l c, v4 = .slice a l c := by
                  rcases own4.cells with ⟨h, _⟩ | ⟨g4, c4, h, _⟩
                  · exact ⟨_, _, _, h⟩
                  · exact ⟨_, _, _, h⟩
                go_wp2_with fail
                refine hK.out (fun (w' : World) => w'.cell? ⟨g, j, none⟩ = some (.int .i64 x) ∧ w'.cell? ⟨g, j + 1, none⟩ = some (.int .i64 y)) _ _ (fun _ h => h) ⟨keep_cell hb4' c1', keep_cell hb4' c2'⟩ ?_
                clear hK K
                try dsimp only [Act.put]
                have nx4 := nx nx9 hb4'
                have hn0 := HNN.out
                have hcw : ∀ i, i < L.length → w4.cell? ⟨g, i, none⟩ = some (.int .i64 (L.getD i 0)) := fun i hi => (nx4.cell (p := ⟨g, i, none⟩) hg).trans (HC.out i hi)
                have hfr := word_front (cap := cap) (j := j) (L := L) (w := w4) (by omega) hcw
                have hbk := word_back (cap := cap - (j + 2)) (j := j + 2) (L := L) (w := w4) (by omega) hcw
                rw [HNN.out] at hbk
                have hP := parts3 w4 22 _ _ _ _ _ _ (SrcI.of hfr) (SrcI.of own4.src) (SrcI.of hbk)
                have hbA := nxAlloc (Below.refl w4.heap.size w4) (.cells #[.slice (some ⟨g, 0, none⟩) j (cap), .slice a4 l4 c4, (.slice (some ⟨g, j + 2, none⟩) (n - (j + 2)) (cap - (j + 2)))] 22 (0, 0))
                have hnA := nx hb4' hbA
                refine held_one 18 rfl (by kernel_rfl) (fun K hK => ?_)
                go_simp
                refine hK.out (fun (w' : World) => w'.cell? ⟨g, j, none⟩ = some (.int .i64 x) ∧ w'.cell? ⟨g, j + 1, none⟩ = some (.int .i64 y)) _ _ (fun _ h => h) ⟨keep_cell hnA c1', keep_cell hnA c2'⟩ ?_
                clear hK K
                try dsimp only [Act.put]
                have hfl9 : [L.take j, b, L.drop (j + 2)].flatten.length ≤ 10000 := by simp; omega
                have hCC := concat_any w4.heap.size 3 _ _ _ hP rfl (by omega) hfl9
                generalize (w4.alloc (.cells #[.slice (some ⟨g, 0, none⟩) j (cap), .slice a4 l4 c4, (.slice (some ⟨g, j + 2, none⟩) (n - (j + 2)) (cap - (j + 2)))] 22 (0, 0))) = w5 at *
                refine held_one 19 rfl (by kernel_rfl) (fun K hK => ?_)
                go_simp
                refine hCC.mono ?_; rintro e w6 ⟨v6, own6, hb6, rfl⟩
                have hnB := nx hnA hb6
                go_wp2_with fail
                refine hK.out (fun (w' : World) => w'.cell? ⟨g, j, none⟩ = some (.int .i64 x) ∧ w'.cell? ⟨g, j + 1, none⟩ = some (.int .i64 y)) _ _ (fun _ h => h) ⟨keep_cell hnB c1', keep_cell hnB c2'⟩ ?_
                clear hK K
                try dsimp only [Act.put]
                refine wpAnyH_take (i := 20) (oi := ?oi4001) (v := ?vv4001) ?hi4001 ?hn4001 ?hf4001 ?hr4001 ?hq4001 (Or.inl ⟨?hg4001, ?hy4001⟩) (show (fun (w' : World) => w'.cell? ⟨g, j, none⟩ = some (.int .i64 x) ∧ w'.cell? ⟨g, j + 1, none⟩ = some (.int .i64 y)) w6 from ⟨keep_cell hnB c1', keep_cell hnB c2'⟩) ?rest4001
                case hi4001 => (simp only [List.getElem?_toArray, List.getElem?_cons_succ, List.getElem?_cons_zero]; rfl)
                case hn4001 => kernel_rfl
                case hf4001 => kernel_rfl
                case hr4001 => kernel_rfl
                case hg4001 => rfl
                case hy4001 => (intro w hSw; (try dsimp only at hSw); go_simp; first | done | with_reducible rfl)
                case hq4001 => exact fun _ _ _ h => h
                try dsimp only [Act.put]
                refine wpAnyH_take (i := 21) (oi := ?oi4002) (v := ?vv4002) ?hi4002 ?hn4002 ?hf4002 ?hr4002 ?hq4002 (Or.inl ⟨?hg4002, ?hy4002⟩) (show (fun (w' : World) => w'.cell? ⟨g, j, none⟩ = some (.int .i64 x) ∧ w'.cell? ⟨g, j + 1, none⟩ = some (.int .i64 y)) w6 from ⟨keep_cell hnB c1', keep_cell hnB c2'⟩) ?rest4002
                case hi4002 => (simp only [List.getElem?_toArray, List.getElem?_cons_succ, List.getElem?_cons_zero]; rfl)
                case hn4002 => kernel_rfl
                case hf4002 => kernel_rfl
                case hr4002 => kernel_rfl
                case hg4002 => rfl
                case hy4002 => (intro w hSw; (try dsimp only at hSw); go_simp; first | done | with_reducible rfl)
                case hq4002 => exact fun _ _ _ h => h
                try dsimp only [Act.put]
                refine wpAnyH_done (by kernel_rfl) ?_ _
                try simp only [List.setIfInBounds_toArray]
                have nxF := nx nx9 hnB
                have hS5 := (nx nx4 hbA).size
                have hown : OwnI w.heap.size w6 v6 (L.take j ++ (b ++ L.drop (j + 2))) := by
                  have h := own6.mono hS5
                  simpa using h
                clear hP hCC own6 own4 hfr hbk hcw hnB hnA hbA hb6 hb4 hb4' c1' c2' nx4 hz3
                go_wp2_with fail
                go_ret2
                rw [HRS.out]
                exact ⟨nxF, v6, hown, rfl⟩
          · obtain rfl : k = 5 := by omega
            have HT2 := Lib.hid (HT.out.2 (rule_none hfl.out))
            clear hfl HT
            go_wp2_with fail
            go_roundw
            case rel => exact ⟨j + 1, by omega, by go_num, HT2, hbw, hbw1⟩
            case measure => simp [intOf]; omega
      · have hr := HR.out
        have hst' := hst.out
        rw [List.take_of_length_le (by omega)] at hst'
        rw [hst'] at hr
        have hlt' : ¬ (j : Int) < (n : Int) - 1 := by omega
        clear HR hst hst'
        subst hr
        go_wp2_with fail
        go_ret2
        exact ⟨hbw, rfl⟩
end Go.Proofs.Ytlcepokenaiggab

/-! Dots -/
namespace Go.Proofs.Ytlcepokenaiggab

/-- The index of the leaf n in a text that begins at 'off', or -1. -/
def posFrom : List UInt8 → Nat → Int → Int
  | [], _, _ => -1
  | c :: r, off, n => if c = 46 then (if n = 0 then off else posFrom r (off + 1) (n - 1)) else posFrom r (off + 1) n

theorem posFrom_range : ∀ (l : List UInt8) (off : Nat) (n : Int), posFrom l off n = -1 ∨ (off ≤ posFrom l off n ∧ posFrom l off n < off + l.length) := by
  intro l
  induction l with
  | nil => intro off n; exact .inl rfl
  | cons c r ih =>
    intro off n
    rw [posFrom]
    have h1 := ih (off + 1) n
    have h2 := ih (off + 1) (n - 1)
    simp only [List.length_cons]
    repeat' split
    all_goals omega

theorem posFrom_neg : ∀ (l : List UInt8) (off : Nat) (n : Int), n < 0 → posFrom l off n = -1 := by
  intro l
  induction l with
  | nil => intro off n _; rfl
  | cons c r ih =>
    intro off n h
    rw [posFrom, ih _ _ h, ih _ (n - 1) (by omega)]
    have h0 : ¬ n = 0 := by omega
    simp [h0]

theorem posFrom_big : ∀ (l : List UInt8) (off : Nat) (n : Int), (l.count 46 : Int) ≤ n → posFrom l off n = -1 := by
  intro l
  induction l with
  | nil => intro off n _; rfl
  | cons c r ih =>
    intro off n h
    rw [posFrom]
    rw [List.count_cons] at h
    split
    · next hc => rw [if_neg (by simp [hc] at h; omega)]; exact ih _ _ (by simp [hc] at h; omega)
    · next hc => exact ih _ _ (by simp [hc] at h; omega)

theorem posFrom_in : ∀ (l : List UInt8) (off : Nat) (n : Int), 0 ≤ n → n < (l.count 46 : Int) → off ≤ posFrom l off n := by
  intro l
  induction l with
  | nil => intro off n h k; simp at k; omega
  | cons c r ih =>
    intro off n h k
    rw [posFrom]
    rw [List.count_cons] at k
    split
    · next hc =>
      split
      · omega
      · have := ih (off + 1) (n - 1) (by omega) (by simp [hc] at k; omega); omega
    · next hc => have := ih (off + 1) n h (by simp [hc] at k; omega); omega

theorem text_dots (t : Tr) : t.text.count 46 = t.carets + 1 := by
  induction t with
  | lf => rfl
  | nd l r ihl ihr => simp [Tr.text, Tr.carets, List.count_append, ihl, ihr]; omega

/-- The text of a tree with another text in place of a leaf. -/
def graftS (s : ByteArray) (n : Int) (o : ByteArray) : ByteArray :=
  s.extract 0 (posFrom s.data.toList 0 n).toNat ++ o ++ s.extract ((posFrom s.data.toList 0 n).toNat + 1) s.size

theorem pos_str (t : Tr) (n : Int) : (0 ≤ n ∧ n ≤ t.carets ∧ 0 ≤ posFrom t.str.data.toList 0 n ∧ posFrom t.str.data.toList 0 n < t.str.size) ∨ ((n < 0 ∨ t.carets < n) ∧ posFrom t.str.data.toList 0 n = -1) := by
  rw [Tr.str_list]
  have hr := posFrom_range t.text 0 n
  have hz := t.str_size
  have hl := t.text_len
  have hd := text_dots t
  by_cases h1 : n < 0
  · exact .inr ⟨.inl h1, posFrom_neg _ _ _ h1⟩
  · by_cases h2 : (t.carets : Int) < n
    · exact .inr ⟨.inr h2, posFrom_big _ _ _ (by rw [hd]; omega)⟩
    · have := posFrom_in t.text 0 n (by omega) (by rw [hd]; omega)
      exact .inl (by omega)

theorem graft_size (t : Tr) (n : Int) (o : ByteArray) (h : 0 ≤ posFrom t.str.data.toList 0 n) (k : posFrom t.str.data.toList 0 n < t.str.size) : (graftS t.str n o).size = t.str.size - 1 + o.size := by
  unfold graftS
  simp only [ByteArray.size_append, ByteArray.size_extract]
  omega

end Go.Proofs.Ytlcepokenaiggab

/-! ExpoP -/
namespace Go.Proofs.Ytlcepokenaiggab

/-- Does a text begin with an exposed caret? -/
def expB (l : List UInt8) : Bool := l.take 4 == [40, 46, 46, 41]

/-- The left leaves of the exposed carets of a text, n leaves being in front of it. -/
def exL : List UInt8 → Int → List Int
  | [], _ => []
  | c :: r, n => (if expB (c :: r) then [n] else []) ++ exL r (if c = 46 then n + 1 else n)

theorem exL_length : ∀ (l : List UInt8) (n : Int), (exL l n).length ≤ l.length := by
  intro l
  induction l with
  | nil => intro n; simp [exL]
  | cons c r ih => intro n; have := ih (if c = 46 then n + 1 else n); rw [exL]; simp only [List.length_append, List.length_cons]; split <;> simp <;> omega

/-- What the spec's scan, which looks one byte back, has still to tell at index k. -/
def pend (l : List UInt8) (k : Nat) (n : Int) : List Int := if 0 < k ∧ expB (l.drop (k - 1)) = true then [n] else []

theorem expB_cons {c : UInt8} {r : List UInt8} (h : expB (c :: r) = true) : c = 40 ∧ 3 ≤ r.length := by
  unfold expB at h
  simp only [beq_iff_eq] at h
  have h1 := congrArg List.length h
  have h2 := congrArg List.head? h
  simp at h1 h2
  exact ⟨h2, by omega⟩

theorem exL_step {l r : List UInt8} {k : Nat} {c : UInt8} {n : Int} (h : l.drop k = c :: r) :
    exL (l.drop k) n = pend l (k + 1) (if c = 46 then n + 1 else n) ++ exL (l.drop (k + 1)) (if c = 46 then n + 1 else n) := by
  have hr : l.drop (k + 1) = r := drop_succ h
  rw [hr, h, exL]
  congr 1
  unfold pend
  rw [Nat.add_sub_cancel, h]
  cases hb : expB (c :: r) with
  | false => simp
  | true =>
    have := (expB_cons hb).1
    subst this
    simp

theorem expB_extract (s : ByteArray) (k : Nat) (h : 0 < k) : expB (s.data.toList.drop (k - 1)) = ((s.extract (k - 1) (k + 3)).toList == [40, 46, 46, 41]) := by
  unfold expB
  rw [Lib.extract_toList]
  have : k + 3 - (k - 1) = 4 := by omega
  rw [this]

theorem expB_here (s : ByteArray) (k : Nat) : expB (s.data.toList.drop k) = ((s.data.toList.drop k).take 4 == [40, 46, 46, 41]) := rfl

theorem expB_drop {l : List UInt8} {k : Nat} (h : expB (l.drop k) = true) : k + 4 ≤ l.length := by
  cases hd : l.drop k with
  | nil => rw [hd] at h; simp [expB] at h
  | cons c r =>
    rw [hd] at h
    have := (expB_cons h).2
    have := congrArg List.length hd
    simp at this
    omega

theorem pend_zero (l : List UInt8) (n : Int) : pend l 0 n = [] := by simp [pend]

end Go.Proofs.Ytlcepokenaiggab
