/- Walks: impl.behindFirstRule. -/
import Derived.Test.YtlcepokenaiggabRu5
import Derived.Test.YtlcepokenaiggabRu4
import Derived.Test.YtlcepokenaiggabCat
import Derived.Test.YtlcepokenaiggabHeldW
import Derived.Test.YtlcepokenaiggabTwo1
namespace Go.Proofs.Ytlcepokenaiggab
open Go.RowKit

/-- A word behind the first rule, or none. -/
def StepB (o : Option (List Int)) (w : World) (e : Ending) (w' : World) : Prop :=
  Below w.heap.size w w' ∧ match o with
    | some r => ∃ v', OwnI w.heap.size w' v' r ∧ e = .returned (.tuple #[v', .bool true])
    | none => e = .returned (.tuple #[.slice none 0 0, .bool false])

def ruleT : Nat → TypeId
  | 0 => 44
  | 1 => 45
  | 2 => 46
  | 3 => 47
  | _ => 48
def ruleF : Nat → FuncId
  | 0 => 55
  | 1 => 56
  | 2 => 57
  | 3 => 58
  | _ => 59
theorem ruleV_eq (k : Nat) (h : k < 5) : ruleV k = .iface (ruleT k) (.agg #[]) := by
  match k, h with
  | 0, _ => rfl
  | 1, _ => rfl
  | 2, _ => rfl
  | 3, _ => rfl
  | 4, _ => rfl
theorem changesK_any (k : Nat) (h : k < 5) (x y : Int) (w : World) (h1 : -1000 ≤ x) (h2 : x ≤ 1000) (h3 : -1000 ≤ y) (h4 : y ≤ 1000) : Calls Try.prog (ruleF k) #[.agg #[], .int .i64 x, .int .i64 y] w (Gives (.bool (chI k x y)) w) := by
  match k, h with
  | 0, _ => exact changes0_any x y w h1 h2 h3 h4
  | 1, _ => exact changes1_any x y w h1 h2 h3 h4
  | 2, _ => exact changes2_any x y w h1 h2 h3 h4
  | 3, _ => exact changes3_any x y w h1 h2 h3 h4
  | 4, _ => exact changes4_any x y w h1 h2 h3 h4
theorem behindRuleK_any (k : Nat) (h : k < 5) (x y : Int) (w : World) (h1 : -1000 ≤ x) (h2 : x ≤ 1000) (h3 : -1000 ≤ y) (h4 : y ≤ 1000) : Calls Try.prog 34 #[.iface (ruleT k) (.agg #[]), .int .i64 x, .int .i64 y] w (GivesInts (behI k x y) w) := by
  match k, h with
  | 0, _ => exact behindRule0_any x y w h1 h2 h3 h4
  | 1, _ => exact behindRule1_any x y w h1 h2 h3 h4
  | 2, _ => exact behindRule2_any x y w h1 h2 h3 h4
  | 3, _ => exact behindRule3_any x y w h1 h2 h3 h4
  | 4, _ => exact behindRule4_any x y w h1 h2 h3 h4
theorem nilAhead_rule (k : Nat) (h : k < 5) : ∀ (m : Nat) (w : World), (nilAhead (m + 1) (ruleT k) (.agg #[]) "loop.example/g01161/impl.changes").run Try.prog w = .ok (some false) w := by
  match k, h with
  | 0, _ => exact fun m w => by kernel_rfl
  | 1, _ => exact fun m w => by kernel_rfl
  | 2, _ => exact fun m w => by kernel_rfl
  | 3, _ => exact fun m w => by kernel_rfl
  | 4, _ => exact fun m w => by kernel_rfl
theorem method_rule (k : Nat) (h : k < 5) : ∀ (m : Nat) (w : World), (method (m + 1) (ruleT k) (.agg #[]) "loop.example/g01161/impl.changes").run Try.prog w = .ok (ruleF k, .agg #[]) w := by
  match k, h with
  | 0, _ => exact fun m w => by kernel_rfl
  | 1, _ => exact fun m w => by kernel_rfl
  | 2, _ => exact fun m w => by kernel_rfl
  | 3, _ => exact fun m w => by kernel_rfl
  | 4, _ => exact fun m w => by kernel_rfl
theorem call_rule (k : Nat) (h : k < 5) : ∀ (args : Array Value) (w : World), (callFunc (ruleF k) args).run Try.prog w = .ok (.enter (ruleF k) args) w := by
  match k, h with
  | 0, _ => exact fun m w => by kernel_rfl
  | 1, _ => exact fun m w => by kernel_rfl
  | 2, _ => exact fun m w => by kernel_rfl
  | 3, _ => exact fun m w => by kernel_rfl
  | 4, _ => exact fun m w => by kernel_rfl

set_option maxRecDepth 100000 in
set_option maxHeartbeats 4000000 in
theorem behindFirstRule_any (v : Value) (b1 : Nat) (L : List Int) (w : World) (hv : CellsI b1 w v L) (hn : L.length ≤ 100) (hL : ∀ x ∈ L, -900 ≤ x ∧ x ≤ 900) :
    Calls Try.prog 24 #[v] w (StepB (stepO L) w) := by
  obtain ⟨R, hR⟩ : ∃ R, R = stepO L := ⟨_, rfl⟩
  rw [← hR]
  have HR := Lib.hid hR
  clear hR
  rcases hv with ⟨rfl, rfl⟩ | ⟨g, cap, rfl, _, hg, hc1, hc2, hx, _⟩
  · have hr := HR.out
    rw [show stepO [] = none from rfl] at hr
    subst hr
    go_enter Try.func24, Try.ntmps24
    go_wp2_with fail
    refine (allRules_any _).mono ?_; rintro e w1 ⟨rfl, _, _, hb1⟩
    go_wp2_with fail
    go_loopw [12] (fun i wr => i = .int .i64 0 ∧ wr = w1) (fun _ _ => 0)
    case atStart => exact ⟨rfl, rfl⟩
    case round =>
      obtain ⟨rfl, rfl⟩ := hrel
      go_wp2_with fail
      go_ret2
      exact ⟨hb1, rfl⟩
  · obtain ⟨n, hn0⟩ : ∃ n, L.length = n := ⟨_, rfl⟩
    have HC := Lib.hid hx
    have HL := Lib.hid hL
    rw [hn0] at hc1 hn ⊢
    unfold maxLen at hc2
    obtain ⟨i0, hi, hz0, hz1, hz2⟩ := info_parts info_int
    have HNN := Lib.hid hn0
    have hwn : IntKind.i64.wrap ((n : Int) - 1) = (n : Int) - 1 := by rw [IntKind.wrap_i64]; omega
    clear hx hL hn0
    go_enter Try.func24, Try.ntmps24
    go_wp2_with fail
    refine (allRules_any _).mono ?_; rintro e w1 ⟨rfl, hrc, hgr, hb1⟩
    have HRC := Lib.hid hrc
    clear hrc
    go_wp2_with fail
    go_loopw [12] (fun i wr => ∃ j : Nat, j ≤ n ∧ i = .int .i64 j ∧ Hid (stepO (L.take (j + 1)) = none) ∧ Below w.heap.size w wr ∧ Below w1.heap.size w1 wr) (fun i _ => n - (intOf i).toNat)
    case atStart => exact ⟨0, Nat.zero_le _, rfl, Lib.hid (stepO_small (by rw [List.length_take]; omega)), hb1, Below.refl _ _⟩
    case round =>
      obtain ⟨j, hj, rfl, hst, hbw, hbw1⟩ := hrel
      have hn0 := HNN.out
      by_cases hlt : j + 1 < n
      · have hlt' : (j : Int) < (n : Int) - 1 := by omega
        have hlt2 : (j : Int) < (n : Int) := by omega
        have hlt3 : (j : Int) + 1 < (n : Int) := by omega
        have ht := stepO_take (w := L) (k := j) (by omega) hst.out
        have hlx := HL.out (L.getD j 0) (by simp [show j < L.length by omega])
        have hly := HL.out (L.getD (j + 1) 0) (by simp [show j + 1 < L.length by omega])
        have d1 := HC.out j (by omega)
        have d2 := HC.out (j + 1) (by omega)
        generalize L.getD j 0 = x at *
        generalize L.getD (j + 1) 0 = y at *
        have hwj : IntKind.i64.wrap ((j : Int) + 1) = (j : Int) + 1 := by rw [IntKind.wrap_i64]; omega
        have hj0 : 0 ≤ (j : Int) + 1 := by omega
        have hjt : ((j : Int) + 1).toNat = j + 1 := by omega
        have HT := Lib.hid ht
        clear ht hst hn0
        go_wp2_with fail
        go_loopw [17] (fun i wi => ∃ k : Nat, k ≤ 5 ∧ i = .int .i64 k ∧ Hid (∀ i, i < k → chI i x y = false) ∧ Below w.heap.size w wi ∧ Below w1.heap.size w1 wi) (fun i _ => 5 - (intOf i).toNat)
        case atStart => exact ⟨0, Nat.zero_le _, rfl, Lib.hid (fun i hi => by omega), hbw, hbw1⟩
        case round =>
          clear hbw hbw1
          obtain ⟨k, hk, rfl, hfl, hbw, hbw1⟩ := hrel
          by_cases hk5 : k < 5
          · have hk5' : (k : Int) < 5 := by omega
            have c1 := (hbw.cell (p := ⟨g, j, none⟩) hg).trans d1
            have c2 := (hbw.cell (p := ⟨g, j + 1, none⟩) hg).trans d2
            have cr := (hbw1.cell (p := ⟨w.heap.size, k, none⟩) hgr).trans (HRC.out k hk5)
            rw [ruleV_eq k hk5] at cr
            have hM := fun w => changesK_any k hk5 x y w (by omega) (by omega) (by omega) (by omega)
            have hB := fun w => behindRuleK_any k hk5 x y w (by omega) (by omega) (by omega) (by omega)
            have hNA := nilAhead_rule k hk5
            have hMT := method_rule k hk5
            have hcall := call_rule k hk5
            have hbl : (behI k x y).length ≤ 2 := by unfold behI; split <;> simp
            have hz := Below.refl wr.heap.size wr
            have HF := Lib.hid hfl.out
            have HCS : Hid (chI k x y = true → ruleO x y = some (behI k x y)) := Lib.hid (fun h => rule_some hk5 hfl.out h)
            generalize behI k x y = b at *
            clear hfl
            cases hch : chI k x y with
            | false =>
              rw [hch] at hM
              have HF2 : Hid (∀ i, i < k + 1 → chI i x y = false) := Lib.hid (fun i hi => by
                by_cases hik : i < k
                · exact HF.out i hik
                · obtain rfl : i = k := by omega
                  exact hch)
              clear hch HCS HF hB
              go_wp2_with fail
              refine wp_region_held_drew (S := (fun (w' : World) => w'.cell? ⟨g, j, none⟩ = some (.int .i64 x) ∧ w'.cell? ⟨g, j + 1, none⟩ = some (.int .i64 y))) (by kernel_rfl) ⟨c1, c2⟩ (fun hH0 => ?_)
              refine wpAnyH_take (i := 0) (oi := ?oi201) (v := ?vv201) ?hi201 ?hn201 ?hf201 ?hr201 ?hq201 (Or.inl ⟨?hg201, ?hy201⟩) hH0 ?rest201
              case hi201 => (simp only [List.getElem?_toArray, List.getElem?_cons_zero]; rfl)
              case hn201 => kernel_rfl
              case hf201 => kernel_rfl
              case hr201 => kernel_rfl
              case hg201 => rfl
              case hy201 => (intro w hSw; (try dsimp only at hSw); go_simp; first | done | with_reducible rfl)
              case hq201 => exact fun _ _ _ h => h
              try dsimp only [Act.put]
              refine wpAnyH_take (i := 1) (oi := ?oi202) (v := ?vv202) ?hi202 ?hn202 ?hf202 ?hr202 ?hq202 (Or.inl ⟨?hg202, ?hy202⟩) hH0 ?rest202
              case hi202 => (simp only [List.getElem?_toArray, List.getElem?_cons_succ, List.getElem?_cons_zero]; rfl)
              case hn202 => kernel_rfl
              case hf202 => kernel_rfl
              case hr202 => kernel_rfl
              case hg202 => rfl
              case hy202 => (intro w hSw; (try dsimp only at hSw); go_simp; first | done | with_reducible rfl)
              case hq202 => exact fun _ _ _ h => h
              try dsimp only [Act.put]
              refine wpAnyH_take (i := 2) (oi := ?oi203) (v := ?vv203) ?hi203 ?hn203 ?hf203 ?hr203 ?hq203 (Or.inl ⟨?hg203, ?hy203⟩) hH0 ?rest203
              case hi203 => (simp only [List.getElem?_toArray, List.getElem?_cons_succ, List.getElem?_cons_zero]; rfl)
              case hn203 => kernel_rfl
              case hf203 => kernel_rfl
              case hr203 => kernel_rfl
              case hg203 => rfl
              case hy203 => (intro w hSw; (try dsimp only at hSw); go_simp; first | done | with_reducible rfl)
              case hq203 => exact fun _ _ _ h => h
              try dsimp only [Act.put]
              refine wpAnyH_take (i := 3) (oi := ?oi204) (v := ?vv204) ?hi204 ?hn204 ?hf204 ?hr204 ?hq204 (Or.inl ⟨?hg204, ?hy204⟩) hH0 ?rest204
              case hi204 => (simp only [List.getElem?_toArray, List.getElem?_cons_succ, List.getElem?_cons_zero]; rfl)
              case hn204 => kernel_rfl
              case hf204 => kernel_rfl
              case hr204 => kernel_rfl
              case hg204 => rfl
              case hy204 => (intro w hSw; (try dsimp only at hSw); go_simp; first | done | with_reducible rfl)
              case hq204 => exact fun _ _ _ h => h
              try dsimp only [Act.put]
              refine wpAnyH_take (i := 4) (oi := ?oi205) (v := ?vv205) ?hi205 ?hn205 ?hf205 ?hr205 ?hq205 (Or.inl ⟨?hg205, ?hy205⟩) hH0 ?rest205
              case hi205 => (simp only [List.getElem?_toArray, List.getElem?_cons_succ, List.getElem?_cons_zero]; rfl)
              case hn205 => kernel_rfl
              case hf205 => kernel_rfl
              case hr205 => kernel_rfl
              case hg205 => rfl
              case hy205 => (intro w hSw; (try dsimp only at hSw); go_simp; first | done | with_reducible rfl)
              case hq205 => exact fun _ _ _ h => h
              try dsimp only [Act.put]
              refine wpAnyH_take (i := 5) (oi := ?oi206) (v := ?vv206) ?hi206 ?hn206 ?hf206 ?hr206 ?hq206 (Or.inl ⟨?hg206, ?hy206⟩) hH0 ?rest206
              case hi206 => (simp only [List.getElem?_toArray, List.getElem?_cons_succ, List.getElem?_cons_zero]; rfl)
              case hn206 => kernel_rfl
              case hf206 => kernel_rfl
              case hr206 => kernel_rfl
              case hg206 => rfl
              case hy206 => (intro w hSw; (try dsimp only at hSw); go_simp; first | done | with_reducible rfl)
              case hq206 => exact fun _ _ _ h => h
              try dsimp only [Act.put]
              refine wpAnyH_take (i := 6) (oi := ?oi207) (v := ?vv207) ?hi207 ?hn207 ?hf207 ?hr207 ?hq207 (Or.inl ⟨?hg207, ?hy207⟩) hH0 ?rest207
              case hi207 => (simp only [List.getElem?_toArray, List.getElem?_cons_succ, List.getElem?_cons_zero]; rfl)
              case hn207 => kernel_rfl
              case hf207 => kernel_rfl
              case hr207 => kernel_rfl
              case hg207 => rfl
              case hy207 => (intro w hSw; (try dsimp only at hSw); go_simp; first | done | with_reducible rfl)
              case hq207 => exact fun _ _ _ h => h
              try dsimp only [Act.put]
              refine wpAnyH_take (i := 7) (oi := ?oi208) (v := ?vv208) ?hi208 ?hn208 ?hf208 ?hr208 ?hq208 (Or.inl ⟨?hg208, ?hy208⟩) hH0 ?rest208
              case hi208 => (simp only [List.getElem?_toArray, List.getElem?_cons_succ, List.getElem?_cons_zero]; rfl)
              case hn208 => kernel_rfl
              case hf208 => kernel_rfl
              case hr208 => kernel_rfl
              case hg208 => rfl
              case hy208 => (intro w hSw; (try dsimp only at hSw); go_simp; first | done | with_reducible rfl)
              case hq208 => exact fun _ _ _ h => h
              try dsimp only [Act.put]
              refine wpAnyH_take (i := 8) (oi := ?oi209) (v := ?vv209) ?hi209 ?hn209 ?hf209 ?hr209 ?hq209 (Or.inl ⟨?hg209, ?hy209⟩) hH0 ?rest209
              case hi209 => (simp only [List.getElem?_toArray, List.getElem?_cons_succ, List.getElem?_cons_zero]; rfl)
              case hn209 => kernel_rfl
              case hf209 => kernel_rfl
              case hr209 => kernel_rfl
              case hg209 => rfl
              case hy209 => (intro w hSw; (try dsimp only at hSw); go_simp; first | done | with_reducible rfl)
              case hq209 => exact fun _ _ _ h => h
              try dsimp only [Act.put]
              refine wpAnyH_take (i := 9) (oi := ?oi210) (v := ?vv210) ?hi210 ?hn210 ?hf210 ?hr210 ?hq210 (Or.inl ⟨?hg210, ?hy210⟩) hH0 ?rest210
              case hi210 => (simp only [List.getElem?_toArray, List.getElem?_cons_succ, List.getElem?_cons_zero]; rfl)
              case hn210 => kernel_rfl
              case hf210 => kernel_rfl
              case hr210 => kernel_rfl
              case hg210 => rfl
              case hy210 => (intro w hSw; (try dsimp only at hSw); go_simp; first | done | with_reducible rfl)
              case hq210 => exact fun _ _ _ h => h
              try dsimp only [Act.put]
              refine wpAnyH_take (i := 10) (oi := ?oi211) (v := ?vv211) ?hi211 ?hn211 ?hf211 ?hr211 ?hq211 (Or.inl ⟨?hg211, ?hy211⟩) hH0 ?rest211
              case hi211 => (simp only [List.getElem?_toArray, List.getElem?_cons_succ, List.getElem?_cons_zero]; rfl)
              case hn211 => kernel_rfl
              case hf211 => kernel_rfl
              case hr211 => kernel_rfl
              case hg211 => rfl
              case hy211 => (intro w hSw; (try dsimp only at hSw); go_simp; first | done | with_reducible rfl)
              case hq211 => exact fun _ _ _ h => h
              try dsimp only [Act.put]
              refine wpAnyH_take (i := 11) (oi := ?oi212) (v := ?vv212) ?hi212 ?hn212 ?hf212 ?hr212 ?hq212 (Or.inl ⟨?hg212, ?hy212⟩) hH0 ?rest212
              case hi212 => (simp only [List.getElem?_toArray, List.getElem?_cons_succ, List.getElem?_cons_zero]; rfl)
              case hn212 => kernel_rfl
              case hf212 => kernel_rfl
              case hr212 => kernel_rfl
              case hg212 => rfl
              case hy212 => (intro w hSw; (try dsimp only at hSw); go_simp; first | done | with_reducible rfl)
              case hq212 => exact fun _ _ _ h => h
              try dsimp only [Act.put]
              refine wpAnyH_take (i := 12) (oi := ?oi213) (v := ?vv213) ?hi213 ?hn213 ?hf213 ?hr213 ?hq213 (Or.inl ⟨?hg213, ?hy213⟩) hH0 ?rest213
              case hi213 => (simp only [List.getElem?_toArray, List.getElem?_cons_succ, List.getElem?_cons_zero]; rfl)
              case hn213 => kernel_rfl
              case hf213 => kernel_rfl
              case hr213 => kernel_rfl
              case hg213 => rfl
              case hy213 => (intro w hSw; (try dsimp only at hSw); go_simp; first | done | with_reducible rfl)
              case hq213 => exact fun _ _ _ h => h
              try dsimp only [Act.put]
              refine held_one 13 rfl (by kernel_rfl) (fun K hK => ?_)
              go_simp
              refine (hM _).mono ?_; rintro e w3 ⟨rfl, hb3⟩
              have hb3' := nx hz.drew hb3
              have nx9 := nx hbw hb3'
              have nx91 := nx hbw1 hb3'
              go_wp2_with fail
              have hH1 : (fun (w' : World) => w'.cell? ⟨g, j, none⟩ = some (.int .i64 x) ∧ w'.cell? ⟨g, j + 1, none⟩ = some (.int .i64 y)) _ := ⟨keep_cell hb3' c1, keep_cell hb3' c2⟩
              refine hK.out (fun (w' : World) => w'.cell? ⟨g, j, none⟩ = some (.int .i64 x) ∧ w'.cell? ⟨g, j + 1, none⟩ = some (.int .i64 y)) _ _ (fun _ h => h) hH1 ?_
              clear hK K
              try dsimp only [Act.put]
              refine wpAnyH_done (by kernel_rfl) ?_ _
              try simp only [List.setIfInBounds_toArray]
              clear hH0 hH1 hz hM hNA hMT hcall c1 c2 cr
              go_wp2_with fail
              go_roundw
              case rel => exact ⟨k + 1, by omega, by go_num, HF2, nx9, nx91⟩
              case measure => simp [intOf]; omega
            | true =>
              rw [hch] at hM
              have hres := HT.out.1 _ (HCS.out hch)
              rw [← HR.out] at hres
              have HRS := Lib.hid hres
              clear hch hres HCS HF HT
              have hwj2 : IntKind.i64.wrap ((j : Int) + 2) = (j : Int) + 2 := by rw [IntKind.wrap_i64]; omega
              have hj20 : 0 ≤ (j : Int) + 2 := by omega
              have hj2 : (j : Int) + 2 ≤ (n : Int) := by omega
              have hjc : (j : Int) ≤ (cap : Int) := by omega
              have hnc : (n : Int) ≤ (cap : Int) := by omega
              have hcz : ((j : Int) + 2).toNat = j + 2 := by omega
              have hj22 : (j : Int) ≤ (j : Int) + 2 := by omega
              have hn22 : (j : Int) + 2 ≤ (j : Int) + 2 := by omega
              by_cases hcc : cap = j + 2
              · skip
                go_wp2_with fail
                refine wp_region_held_drew (S := (fun (w' : World) => w'.cell? ⟨g, j, none⟩ = some (.int .i64 x) ∧ w'.cell? ⟨g, j + 1, none⟩ = some (.int .i64 y))) (by kernel_rfl) ⟨c1, c2⟩ (fun hH0 => ?_)
                refine wpAnyH_take (i := 0) (oi := ?oi401) (v := ?vv401) ?hi401 ?hn401 ?hf401 ?hr401 ?hq401 (Or.inl ⟨?hg401, ?hy401⟩) hH0 ?rest401
                case hi401 => (simp only [List.getElem?_toArray, List.getElem?_cons_zero]; rfl)
                case hn401 => kernel_rfl
                case hf401 => kernel_rfl
                case hr401 => kernel_rfl
                case hg401 => rfl
                case hy401 => (intro w hSw; (try dsimp only at hSw); go_simp; first | done | with_reducible rfl)
                case hq401 => exact fun _ _ _ h => h
                try dsimp only [Act.put]
                refine wpAnyH_take (i := 1) (oi := ?oi402) (v := ?vv402) ?hi402 ?hn402 ?hf402 ?hr402 ?hq402 (Or.inl ⟨?hg402, ?hy402⟩) hH0 ?rest402
                case hi402 => (simp only [List.getElem?_toArray, List.getElem?_cons_succ, List.getElem?_cons_zero]; rfl)
                case hn402 => kernel_rfl
                case hf402 => kernel_rfl
                case hr402 => kernel_rfl
                case hg402 => rfl
                case hy402 => (intro w hSw; (try dsimp only at hSw); go_simp; first | done | with_reducible rfl)
                case hq402 => exact fun _ _ _ h => h
                try dsimp only [Act.put]
                refine wpAnyH_take (i := 2) (oi := ?oi403) (v := ?vv403) ?hi403 ?hn403 ?hf403 ?hr403 ?hq403 (Or.inl ⟨?hg403, ?hy403⟩) hH0 ?rest403
                case hi403 => (simp only [List.getElem?_toArray, List.getElem?_cons_succ, List.getElem?_cons_zero]; rfl)
                case hn403 => kernel_rfl
                case hf403 => kernel_rfl
                case hr403 => kernel_rfl
                case hg403 => rfl
                case hy403 => (intro w hSw; (try dsimp only at hSw); go_simp; first | done | with_reducible rfl)
                case hq403 => exact fun _ _ _ h => h
                try dsimp only [Act.put]
                refine wpAnyH_take (i := 3) (oi := ?oi404) (v := ?vv404) ?hi404 ?hn404 ?hf404 ?hr404 ?hq404 (Or.inl ⟨?hg404, ?hy404⟩) hH0 ?rest404
                case hi404 => (simp only [List.getElem?_toArray, List.getElem?_cons_succ, List.getElem?_cons_zero]; rfl)
                case hn404 => kernel_rfl
                case hf404 => kernel_rfl
                case hr404 => kernel_rfl
                case hg404 => rfl
                case hy404 => (intro w hSw; (try dsimp only at hSw); go_simp; first | done | with_reducible rfl)
                case hq404 => exact fun _ _ _ h => h
                try dsimp only [Act.put]
                refine wpAnyH_take (i := 4) (oi := ?oi405) (v := ?vv405) ?hi405 ?hn405 ?hf405 ?hr405 ?hq405 (Or.inl ⟨?hg405, ?hy405⟩) hH0 ?rest405
                case hi405 => (simp only [List.getElem?_toArray, List.getElem?_cons_succ, List.getElem?_cons_zero]; rfl)
                case hn405 => kernel_rfl
                case hf405 => kernel_rfl
                case hr405 => kernel_rfl
                case hg405 => rfl
                case hy405 => (intro w hSw; (try dsimp only at hSw); go_simp; first | done | with_reducible rfl)
                case hq405 => exact fun _ _ _ h => h
                try dsimp only [Act.put]
                refine wpAnyH_take (i := 5) (oi := ?oi406) (v := ?vv406) ?hi406 ?hn406 ?hf406 ?hr406 ?hq406 (Or.inl ⟨?hg406, ?hy406⟩) hH0 ?rest406
                case hi406 => (simp only [List.getElem?_toArray, List.getElem?_cons_succ, List.getElem?_cons_zero]; rfl)
                case hn406 => kernel_rfl
                case hf406 => kernel_rfl
                case hr406 => kernel_rfl
                case hg406 => rfl
                case hy406 => (intro w hSw; (try dsimp only at hSw); go_simp; first | done | with_reducible rfl)
                case hq406 => exact fun _ _ _ h => h
                try dsimp only [Act.put]
                refine wpAnyH_take (i := 6) (oi := ?oi407) (v := ?vv407) ?hi407 ?hn407 ?hf407 ?hr407 ?hq407 (Or.inl ⟨?hg407, ?hy407⟩) hH0 ?rest407
                case hi407 => (simp only [List.getElem?_toArray, List.getElem?_cons_succ, List.getElem?_cons_zero]; rfl)
                case hn407 => kernel_rfl
                case hf407 => kernel_rfl
                case hr407 => kernel_rfl
                case hg407 => rfl
                case hy407 => (intro w hSw; (try dsimp only at hSw); go_simp; first | done | with_reducible rfl)
                case hq407 => exact fun _ _ _ h => h
                try dsimp only [Act.put]
                refine wpAnyH_take (i := 7) (oi := ?oi408) (v := ?vv408) ?hi408 ?hn408 ?hf408 ?hr408 ?hq408 (Or.inl ⟨?hg408, ?hy408⟩) hH0 ?rest408
                case hi408 => (simp only [List.getElem?_toArray, List.getElem?_cons_succ, List.getElem?_cons_zero]; rfl)
                case hn408 => kernel_rfl
                case hf408 => kernel_rfl
                case hr408 => kernel_rfl
                case hg408 => rfl
                case hy408 => (intro w hSw; (try dsimp only at hSw); go_simp; first | done | with_reducible rfl)
                case hq408 => exact fun _ _ _ h => h
                try dsimp only [Act.put]
                refine wpAnyH_take (i := 8) (oi := ?oi409) (v := ?vv409) ?hi409 ?hn409 ?hf409 ?hr409 ?hq409 (Or.inl ⟨?hg409, ?hy409⟩) hH0 ?rest409
                case hi409 => (simp only [List.getElem?_toArray, List.getElem?_cons_succ, List.getElem?_cons_zero]; rfl)
                case hn409 => kernel_rfl
                case hf409 => kernel_rfl
                case hr409 => kernel_rfl
                case hg409 => rfl
                case hy409 => (intro w hSw; (try dsimp only at hSw); go_simp; first | done | with_reducible rfl)
                case hq409 => exact fun _ _ _ h => h
                try dsimp only [Act.put]
                refine wpAnyH_take (i := 9) (oi := ?oi410) (v := ?vv410) ?hi410 ?hn410 ?hf410 ?hr410 ?hq410 (Or.inl ⟨?hg410, ?hy410⟩) hH0 ?rest410
                case hi410 => (simp only [List.getElem?_toArray, List.getElem?_cons_succ, List.getElem?_cons_zero]; rfl)
                case hn410 => kernel_rfl
                case hf410 => kernel_rfl
                case hr410 => kernel_rfl
                case hg410 => rfl
                case hy410 => (intro w hSw; (try dsimp only at hSw); go_simp; first | done | with_reducible rfl)
                case hq410 => exact fun _ _ _ h => h
                try dsimp only [Act.put]
                refine wpAnyH_take (i := 10) (oi := ?oi411) (v := ?vv411) ?hi411 ?hn411 ?hf411 ?hr411 ?hq411 (Or.inl ⟨?hg411, ?hy411⟩) hH0 ?rest411
                case hi411 => (simp only [List.getElem?_toArray, List.getElem?_cons_succ, List.getElem?_cons_zero]; rfl)
                case hn411 => kernel_rfl
                case hf411 => kernel_rfl
                case hr411 => kernel_rfl
                case hg411 => rfl
                case hy411 => (intro w hSw; (try dsimp only at hSw); go_simp; first | done | with_reducible rfl)
                case hq411 => exact fun _ _ _ h => h
                try dsimp only [Act.put]
                refine wpAnyH_take (i := 11) (oi := ?oi412) (v := ?vv412) ?hi412 ?hn412 ?hf412 ?hr412 ?hq412 (Or.inl ⟨?hg412, ?hy412⟩) hH0 ?rest412
                case hi412 => (simp only [List.getElem?_toArray, List.getElem?_cons_succ, List.getElem?_cons_zero]; rfl)
                case hn412 => kernel_rfl
                case hf412 => kernel_rfl
                case hr412 => kernel_rfl
                case hg412 => rfl
                case hy412 => (intro w hSw; (try dsimp only at hSw); go_simp; first | done | with_reducible rfl)
                case hq412 => exact fun _ _ _ h => h
                try dsimp only [Act.put]
                refine wpAnyH_take (i := 12) (oi := ?oi413) (v := ?vv413) ?hi413 ?hn413 ?hf413 ?hr413 ?hq413 (Or.inl ⟨?hg413, ?hy413⟩) hH0 ?rest413
                case hi413 => (simp only [List.getElem?_toArray, List.getElem?_cons_succ, List.getElem?_cons_zero]; rfl)
                case hn413 => kernel_rfl
                case hf413 => kernel_rfl
                case hr413 => kernel_rfl
                case hg413 => rfl
                case hy413 => (intro w hSw; (try dsimp only at hSw); go_simp; first | done | with_reducible rfl)
                case hq413 => exact fun _ _ _ h => h
                try dsimp only [Act.put]
                refine held_one 13 rfl (by kernel_rfl) (fun K hK => ?_)
                go_simp
                refine (hM _).mono ?_; rintro e w3 ⟨rfl, hb3⟩
                have hb3' := nx hz.drew hb3
                have nx9 := nx hbw hb3'
                have nx91 := nx hbw1 hb3'
                go_wp2_with fail
                have hH1 : (fun (w' : World) => w'.cell? ⟨g, j, none⟩ = some (.int .i64 x) ∧ w'.cell? ⟨g, j + 1, none⟩ = some (.int .i64 y)) _ := ⟨keep_cell hb3' c1, keep_cell hb3' c2⟩
                refine hK.out (fun (w' : World) => w'.cell? ⟨g, j, none⟩ = some (.int .i64 x) ∧ w'.cell? ⟨g, j + 1, none⟩ = some (.int .i64 y)) _ _ (fun _ h => h) hH1 ?_
                clear hK K
                try dsimp only [Act.put]
                refine wpAnyH_done (by kernel_rfl) ?_ _
                try simp only [List.setIfInBounds_toArray]
                have c1' := keep_cell hb3' c1
                have c2' := keep_cell hb3' c2
                have hz3 := Below.refl w3.heap.size w3
                clear hH0 hH1 hz hM hNA hMT hcall c1 c2 cr hb3 hb3' hbw hbw1
                go_wp2_with fail
                refine wp_region_held_drew (S := (fun (w' : World) => w'.cell? ⟨g, j, none⟩ = some (.int .i64 x) ∧ w'.cell? ⟨g, j + 1, none⟩ = some (.int .i64 y))) (by kernel_rfl) ⟨c1', c2'⟩ (fun hH0 => ?_)
                refine wpAnyH_take (i := 0) (oi := ?oi601) (v := ?vv601) ?hi601 ?hn601 ?hf601 ?hr601 ?hq601 (Or.inl ⟨?hg601, ?hy601⟩) hH0 ?rest601
                case hi601 => (simp only [List.getElem?_toArray, List.getElem?_cons_zero]; rfl)
                case hn601 => kernel_rfl
                case hf601 => kernel_rfl
                case hr601 => kernel_rfl
                case hg601 => rfl
                case hy601 => (intro w hSw; (try dsimp only at hSw); go_simp; first | done | with_reducible rfl)
                case hq601 => exact fun _ _ _ h => h
                try dsimp only [Act.put]
                refine wpAnyH_take (i := 1) (oi := ?oi602) (v := ?vv602) ?hi602 ?hn602 ?hf602 ?hr602 ?hq602 (Or.inl ⟨?hg602, ?hy602⟩) hH0 ?rest602
                case hi602 => (simp only [List.getElem?_toArray, List.getElem?_cons_succ, List.getElem?_cons_zero]; rfl)
                case hn602 => kernel_rfl
                case hf602 => kernel_rfl
                case hr602 => kernel_rfl
                case hg602 => rfl
                case hy602 => (intro w hSw; (try dsimp only at hSw); go_simp; first | done | with_reducible rfl)
                case hq602 => exact fun _ _ _ h => h
                try dsimp only [Act.put]
                refine wpAnyH_take (i := 2) (oi := ?oi603) (v := ?vv603) ?hi603 ?hn603 ?hf603 ?hr603 ?hq603 (Or.inl ⟨?hg603, ?hy603⟩) hH0 ?rest603
                case hi603 => (simp only [List.getElem?_toArray, List.getElem?_cons_succ, List.getElem?_cons_zero]; rfl)
                case hn603 => kernel_rfl
                case hf603 => kernel_rfl
                case hr603 => kernel_rfl
                case hg603 => rfl
                case hy603 => (intro w hSw; (try dsimp only at hSw); go_simp; first | done | with_reducible rfl)
                case hq603 => exact fun _ _ _ h => h
                try dsimp only [Act.put]
                refine wpAnyH_take (i := 3) (oi := ?oi604) (v := ?vv604) ?hi604 ?hn604 ?hf604 ?hr604 ?hq604 (Or.inl ⟨?hg604, ?hy604⟩) hH0 ?rest604
                case hi604 => (simp only [List.getElem?_toArray, List.getElem?_cons_succ, List.getElem?_cons_zero]; rfl)
                case hn604 => kernel_rfl
                case hf604 => kernel_rfl
                case hr604 => kernel_rfl
                case hg604 => rfl
                case hy604 => (intro w hSw; (try dsimp only at hSw); go_simp; first | done | with_reducible rfl)
                case hq604 => exact fun _ _ _ h => h
                try dsimp only [Act.put]
                refine wpAnyH_take (i := 4) (oi := ?oi605) (v := ?vv605) ?hi605 ?hn605 ?hf605 ?hr605 ?hq605 (Or.inl ⟨?hg605, ?hy605⟩) hH0 ?rest605
                case hi605 => (simp only [List.getElem?_toArray, List.getElem?_cons_succ, List.getElem?_cons_zero]; rfl)
                case hn605 => kernel_rfl
                case hf605 => kernel_rfl
                case hr605 => kernel_rfl
                case hg605 => rfl
                case hy605 => (intro w hSw; (try dsimp only at hSw); go_simp; first | done | with_reducible rfl)
                case hq605 => exact fun _ _ _ h => h
                try dsimp only [Act.put]
                refine wpAnyH_take (i := 5) (oi := ?oi606) (v := ?vv606) ?hi606 ?hn606 ?hf606 ?hr606 ?hq606 (Or.inl ⟨?hg606, ?hy606⟩) hH0 ?rest606
                case hi606 => (simp only [List.getElem?_toArray, List.getElem?_cons_succ, List.getElem?_cons_zero]; rfl)
                case hn606 => kernel_rfl
                case hf606 => kernel_rfl
                case hr606 => kernel_rfl
                case hg606 => rfl
                case hy606 => (intro w hSw; (try dsimp only at hSw); go_simp; first | done | with_reducible rfl)
                case hq606 => exact fun _ _ _ h => h
                try dsimp only [Act.put]
                refine wpAnyH_take (i := 6) (oi := ?oi607) (v := ?vv607) ?hi607 ?hn607 ?hf607 ?hr607 ?hq607 (Or.inl ⟨?hg607, ?hy607⟩) hH0 ?rest607
                case hi607 => (simp only [List.getElem?_toArray, List.getElem?_cons_succ, List.getElem?_cons_zero]; rfl)
                case hn607 => kernel_rfl
                case hf607 => kernel_rfl
                case hr607 => kernel_rfl
                case hg607 => rfl
                case hy607 => (intro w hSw; (try dsimp only at hSw); go_simp; first | done | with_reducible rfl)
                case hq607 => exact fun _ _ _ h => h
                try dsimp only [Act.put]
                refine wpAnyH_take (i := 7) (oi := ?oi608) (v := ?vv608) ?hi608 ?hn608 ?hf608 ?hr608 ?hq608 (Or.inl ⟨?hg608, ?hy608⟩) hH0 ?rest608
                case hi608 => (simp only [List.getElem?_toArray, List.getElem?_cons_succ, List.getElem?_cons_zero]; rfl)
                case hn608 => kernel_rfl
                case hf608 => kernel_rfl
                case hr608 => kernel_rfl
                case hg608 => rfl
                case hy608 => (intro w hSw; (try dsimp only at hSw); go_simp; first | done | with_reducible rfl)
                case hq608 => exact fun _ _ _ h => h
                try dsimp only [Act.put]
                refine wpAnyH_take (i := 8) (oi := ?oi609) (v := ?vv609) ?hi609 ?hn609 ?hf609 ?hr609 ?hq609 (Or.inl ⟨?hg609, ?hy609⟩) hH0 ?rest609
                case hi609 => (simp only [List.getElem?_toArray, List.getElem?_cons_succ, List.getElem?_cons_zero]; rfl)
                case hn609 => kernel_rfl
                case hf609 => kernel_rfl
                case hr609 => kernel_rfl
                case hg609 => rfl
                case hy609 => (intro w hSw; (try dsimp only at hSw); go_simp; first | done | with_reducible rfl)
                case hq609 => exact fun _ _ _ h => h
                try dsimp only [Act.put]
                refine wpAnyH_take (i := 9) (oi := ?oi610) (v := ?vv610) ?hi610 ?hn610 ?hf610 ?hr610 ?hq610 (Or.inl ⟨?hg610, ?hy610⟩) hH0 ?rest610
                case hi610 => (simp only [List.getElem?_toArray, List.getElem?_cons_succ, List.getElem?_cons_zero]; rfl)
                case hn610 => kernel_rfl
                case hf610 => kernel_rfl
                case hr610 => kernel_rfl
                case hg610 => rfl
                case hy610 => (intro w hSw; (try dsimp only at hSw); go_simp; first | done | with_reducible rfl)
                case hq610 => exact fun _ _ _ h => h
                try dsimp only [Act.put]
                refine wpAnyH_take (i := 10) (oi := ?oi611) (v := ?vv611) ?hi611 ?hn611 ?hf611 ?hr611 ?hq611 (Or.inl ⟨?hg611, ?hy611⟩) hH0 ?rest611
                case hi611 => (simp only [List.getElem?_toArray, List.getElem?_cons_succ, List.getElem?_cons_zero]; rfl)
                case hn611 => kernel_rfl
                case hf611 => kernel_rfl
                case hr611 => kernel_rfl
                case hg611 => rfl
                case hy611 => (intro w hSw; (try dsimp only at hSw); go_simp; first | done | with_reducible rfl)
                case hq611 => exact fun _ _ _ h => h
                try dsimp only [Act.put]
                refine wpAnyH_take (i := 11) (oi := ?oi612) (v := ?vv612) ?hi612 ?hn612 ?hf612 ?hr612 ?hq612 (Or.inl ⟨?hg612, ?hy612⟩) hH0 ?rest612
                case hi612 => (simp only [List.getElem?_toArray, List.getElem?_cons_succ, List.getElem?_cons_zero]; rfl)
                case hn612 => kernel_rfl
                case hf612 => kernel_rfl
                case hr612 => kernel_rfl
                case hg612 => rfl
                case hy612 => (intro w hSw; (try dsimp only at hSw); go_simp; first | done | with_reducible rfl)
                case hq612 => exact fun _ _ _ h => h
                try dsimp only [Act.put]
                refine wpAnyH_take (i := 12) (oi := ?oi613) (v := ?vv613) ?hi613 ?hn613 ?hf613 ?hr613 ?hq613 (Or.inl ⟨?hg613, ?hy613⟩) hH0 ?rest613
                case hi613 => (simp only [List.getElem?_toArray, List.getElem?_cons_succ, List.getElem?_cons_zero]; rfl)
                case hn613 => kernel_rfl
                case hf613 => kernel_rfl
                case hr613 => kernel_rfl
                case hg613 => rfl
                case hy613 => (intro w hSw; (try dsimp only at hSw); go_simp; first | done | with_reducible rfl)
                case hq613 => exact fun _ _ _ h => h
                try dsimp only [Act.put]
                refine wpAnyH_take (i := 14) (oi := ?oi614) (v := ?vv614) ?hi614 ?hn614 ?hf614 ?hr614 ?hq614 (Or.inl ⟨?hg614, ?hy614⟩) hH0 ?rest614
                case hi614 => (simp only [List.getElem?_toArray, List.getElem?_cons_succ, List.getElem?_cons_zero]; rfl)
                case hn614 => kernel_rfl
                case hf614 => kernel_rfl
                case hr614 => kernel_rfl
                case hg614 => rfl
                case hy614 => (intro w hSw; (try dsimp only at hSw); go_simp; first | done | with_reducible rfl)
                case hq614 => exact fun _ _ _ h => h
                try dsimp only [Act.put]
                refine wpAnyH_take (i := 15) (oi := ?oi615) (v := ?vv615) ?hi615 ?hn615 ?hf615 ?hr615 ?hq615 (Or.inl ⟨?hg615, ?hy615⟩) hH0 ?rest615
                case hi615 => (simp only [List.getElem?_toArray, List.getElem?_cons_succ, List.getElem?_cons_zero]; rfl)
                case hn615 => kernel_rfl
                case hf615 => kernel_rfl
                case hr615 => kernel_rfl
                case hg615 => rfl
                case hy615 => (intro w hSw; (try dsimp only at hSw); go_simp; first | done | with_reducible rfl)
                case hq615 => exact fun _ _ _ h => h
                try dsimp only [Act.put]
                refine wpAnyH_take (i := 16) (oi := ?oi616) (v := ?vv616) ?hi616 ?hn616 ?hf616 ?hr616 ?hq616 (Or.inl ⟨?hg616, ?hy616⟩) hH0 ?rest616
                case hi616 => (simp only [List.getElem?_toArray, List.getElem?_cons_succ, List.getElem?_cons_zero]; rfl)
                case hn616 => kernel_rfl
                case hf616 => kernel_rfl
                case hr616 => kernel_rfl
                case hg616 => rfl
                case hy616 => (intro w hSw; (try dsimp only at hSw); go_simp; first | done | with_reducible rfl)
                case hq616 => exact fun _ _ _ h => h
                try dsimp only [Act.put]
                refine wpAnyH_take (i := 17) (oi := ?oi617) (v := ?vv617) ?hi617 ?hn617 ?hf617 ?hr617 ?hq617 (Or.inl ⟨?hg617, ?hy617⟩) hH0 ?rest617
                case hi617 => (simp only [List.getElem?_toArray, List.getElem?_cons_succ, List.getElem?_cons_zero]; rfl)
                case hn617 => kernel_rfl
                case hf617 => kernel_rfl
                case hr617 => kernel_rfl
                case hg617 => rfl
                case hy617 => (intro w hSw; (try dsimp only at hSw); go_simp; first | done | with_reducible rfl)
                case hq617 => exact fun _ _ _ h => h
                try dsimp only [Act.put]
                refine held_one 13 rfl (by kernel_rfl) (fun K hK => ?_)
                go_simp
                refine (hB _).mono ?_; rintro e w4 ⟨v4, own4, hb4, rfl⟩
                have hb4' := nx hz3.drew hb4
                obtain ⟨a4, l4, c4, rfl⟩ : ∃ a l c, v4 = .slice a l c := by
                  rcases own4.cells with ⟨h, _⟩ | ⟨g4, c4, h, _⟩
                  · exact ⟨_, _, _, h⟩
                  · exact ⟨_, _, _, h⟩
                go_wp2_with fail
                refine hK.out (fun (w' : World) => w'.cell? ⟨g, j, none⟩ = some (.int .i64 x) ∧ w'.cell? ⟨g, j + 1, none⟩ = some (.int .i64 y)) _ _ (fun _ h => h) ⟨keep_cell hb4' c1', keep_cell hb4' c2'⟩ ?_
                clear hK K
                try dsimp only [Act.put]
                have nx4 := nx nx9 hb4'
                have hn0 := HNN.out
                have hcw : ∀ i, i < L.length → w4.cell? ⟨g, i, none⟩ = some (.int .i64 (L.getD i 0)) := fun i hi => (nx4.cell (p := ⟨g, i, none⟩) hg).trans (HC.out i hi)
                have hfr := word_front (cap := j + 2) (j := j) (L := L) (w := w4) (by omega) hcw
                have hbk : SrcV w4 (.slice (some ⟨g, 0, none⟩) (n - (j + 2)) 0) ((L.drop (j + 2)).map (Value.int .i64)) := .inr ⟨⟨g, 0, none⟩, 0, by rw [List.length_map, List.length_drop, hn0], fun i x hi => by rw [List.drop_of_length_le (by omega)] at hi; simp at hi⟩
                have hP := parts3 w4 22 _ _ _ _ _ _ (SrcI.of hfr) (SrcI.of own4.src) (SrcI.of hbk)
                have hbA := nxAlloc (Below.refl w4.heap.size w4) (.cells #[.slice (some ⟨g, 0, none⟩) j (j + 2), .slice a4 l4 c4, (.slice (some ⟨g, 0, none⟩) (n - (j + 2)) 0)] 22 (0, 0))
                have hnA := nx hb4' hbA
                refine held_one 18 rfl (by kernel_rfl) (fun K hK => ?_)
                go_simp
                refine hK.out (fun (w' : World) => w'.cell? ⟨g, j, none⟩ = some (.int .i64 x) ∧ w'.cell? ⟨g, j + 1, none⟩ = some (.int .i64 y)) _ _ (fun _ h => h) ⟨keep_cell hnA c1', keep_cell hnA c2'⟩ ?_
                clear hK K
                try dsimp only [Act.put]
                have hfl9 : [L.take j, b, L.drop (j + 2)].flatten.length ≤ 10000 := by simp; omega
                have hCC := concat_any w4.heap.size 3 _ _ _ hP rfl (by omega) hfl9
                generalize (w4.alloc (.cells #[.slice (some ⟨g, 0, none⟩) j (j + 2), .slice a4 l4 c4, (.slice (some ⟨g, 0, none⟩) (n - (j + 2)) 0)] 22 (0, 0))) = w5 at *
                refine held_one 19 rfl (by kernel_rfl) (fun K hK => ?_)
                go_simp
                refine hCC.mono ?_; rintro e w6 ⟨v6, own6, hb6, rfl⟩
                have hnB := nx hnA hb6
                go_wp2_with fail
                refine hK.out (fun (w' : World) => w'.cell? ⟨g, j, none⟩ = some (.int .i64 x) ∧ w'.cell? ⟨g, j + 1, none⟩ = some (.int .i64 y)) _ _ (fun _ h => h) ⟨keep_cell hnB c1', keep_cell hnB c2'⟩ ?_
                clear hK K
                try dsimp only [Act.put]
                refine wpAnyH_take (i := 20) (oi := ?oi3001) (v := ?vv3001) ?hi3001 ?hn3001 ?hf3001 ?hr3001 ?hq3001 (Or.inl ⟨?hg3001, ?hy3001⟩) (show (fun (w' : World) => w'.cell? ⟨g, j, none⟩ = some (.int .i64 x) ∧ w'.cell? ⟨g, j + 1, none⟩ = some (.int .i64 y)) w6 from ⟨keep_cell hnB c1', keep_cell hnB c2'⟩) ?rest3001
                case hi3001 => (simp only [List.getElem?_toArray, List.getElem?_cons_succ, List.getElem?_cons_zero]; rfl)
                case hn3001 => kernel_rfl
                case hf3001 => kernel_rfl
                case hr3001 => kernel_rfl
                case hg3001 => rfl
                case hy3001 => (intro w hSw; (try dsimp only at hSw); go_simp; first | done | with_reducible rfl)
                case hq3001 => exact fun _ _ _ h => h
                try dsimp only [Act.put]
                refine wpAnyH_take (i := 21) (oi := ?oi3002) (v := ?vv3002) ?hi3002 ?hn3002 ?hf3002 ?hr3002 ?hq3002 (Or.inl ⟨?hg3002, ?hy3002⟩) (show (fun (w' : World) => w'.cell? ⟨g, j, none⟩ = some (.int .i64 x) ∧ w'.cell? ⟨g, j + 1, none⟩ = some (.int .i64 y)) w6 from ⟨keep_cell hnB c1', keep_cell hnB c2'⟩) ?rest3002
                case hi3002 => (simp only [List.getElem?_toArray, List.getElem?_cons_succ, List.getElem?_cons_zero]; rfl)
                case hn3002 => kernel_rfl
                case hf3002 => kernel_rfl
                case hr3002 => kernel_rfl
                case hg3002 => rfl
                case hy3002 => (intro w hSw; (try dsimp only at hSw); go_simp; first | done | with_reducible rfl)
                case hq3002 => exact fun _ _ _ h => h
                try dsimp only [Act.put]
                refine wpAnyH_done (by kernel_rfl) ?_ _
                try simp only [List.setIfInBounds_toArray]
                have nxF := nx nx9 hnB
                have hS5 := (nx nx4 hbA).size
                have hown : OwnI w.heap.size w6 v6 (L.take j ++ (b ++ L.drop (j + 2))) := by
                  have h := own6.mono hS5
                  simpa using h
                clear hP hCC own6 own4 hfr hbk hcw hnB hnA hbA hb6 hb4 hb4' c1' c2' nx4 hz3
                go_wp2_with fail
                go_ret2
                rw [HRS.out]
                exact ⟨nxF, v6, hown, rfl⟩
              · skip
                go_wp2_with fail
                refine wp_region_held_drew (S := (fun (w' : World) => w'.cell? ⟨g, j, none⟩ = some (.int .i64 x) ∧ w'.cell? ⟨g, j + 1, none⟩ = some (.int .i64 y))) (by kernel_rfl) ⟨c1, c2⟩ (fun hH0 => ?_)
                refine wpAnyH_take (i := 0) (oi := ?oi801) (v := ?vv801) ?hi801 ?hn801 ?hf801 ?hr801 ?hq801 (Or.inl ⟨?hg801, ?hy801⟩) hH0 ?rest801
                case hi801 => (simp only [List.getElem?_toArray, List.getElem?_cons_zero]; rfl)
                case hn801 => kernel_rfl
                case hf801 => kernel_rfl
                case hr801 => kernel_rfl
                case hg801 => rfl
                case hy801 => (intro w hSw; (try dsimp only at hSw); go_simp; first | done | with_reducible rfl)
                case hq801 => exact fun _ _ _ h => h
                try dsimp only [Act.put]
                refine wpAnyH_take (i := 1) (oi := ?oi802) (v := ?vv802) ?hi802 ?hn802 ?hf802 ?hr802 ?hq802 (Or.inl ⟨?hg802, ?hy802⟩) hH0 ?rest802
                case hi802 => (simp only [List.getElem?_toArray, List.getElem?_cons_succ, List.getElem?_cons_zero]; rfl)
                case hn802 => kernel_rfl
                case hf802 => kernel_rfl
                case hr802 => kernel_rfl
                case hg802 => rfl
                case hy802 => (intro w hSw; (try dsimp only at hSw); go_simp; first | done | with_reducible rfl)
                case hq802 => exact fun _ _ _ h => h
                try dsimp only [Act.put]
                refine wpAnyH_take (i := 2) (oi := ?oi803) (v := ?vv803) ?hi803 ?hn803 ?hf803 ?hr803 ?hq803 (Or.inl ⟨?hg803, ?hy803⟩) hH0 ?rest803
                case hi803 => (simp only [List.getElem?_toArray, List.getElem?_cons_succ, List.getElem?_cons_zero]; rfl)
                case hn803 => kernel_rfl
                case hf803 => kernel_rfl
                case hr803 => kernel_rfl
                case hg803 => rfl
                case hy803 => (intro w hSw; (try dsimp only at hSw); go_simp; first | done | with_reducible rfl)
                case hq803 => exact fun _ _ _ h => h
                try dsimp only [Act.put]
                refine wpAnyH_take (i := 3) (oi := ?oi804) (v := ?vv804) ?hi804 ?hn804 ?hf804 ?hr804 ?hq804 (Or.inl ⟨?hg804, ?hy804⟩) hH0 ?rest804
                case hi804 => (simp only [List.getElem?_toArray, List.getElem?_cons_succ, List.getElem?_cons_zero]; rfl)
                case hn804 => kernel_rfl
                case hf804 => kernel_rfl
                case hr804 => kernel_rfl
                case hg804 => rfl
                case hy804 => (intro w hSw; (try dsimp only at hSw); go_simp; first | done | with_reducible rfl)
                case hq804 => exact fun _ _ _ h => h
                try dsimp only [Act.put]
                refine wpAnyH_take (i := 4) (oi := ?oi805) (v := ?vv805) ?hi805 ?hn805 ?hf805 ?hr805 ?hq805 (Or.inl ⟨?hg805, ?hy805⟩) hH0 ?rest805
                case hi805 => (simp only [List.getElem?_toArray, List.getElem?_cons_succ, List.getElem?_cons_zero]; rfl)
                case hn805 => kernel_rfl
                case hf805 => kernel_rfl
                case hr805 => kernel_rfl
                case hg805 => rfl
                case hy805 => (intro w hSw; (try dsimp only at hSw); go_simp; first | done | with_reducible rfl)
                case hq805 => exact fun _ _ _ h => h
                try dsimp only [Act.put]
                refine wpAnyH_take (i := 5) (oi := ?oi806) (v := ?vv806) ?hi806 ?hn806 ?hf806 ?hr806 ?hq806 (Or.inl ⟨?hg806, ?hy806⟩) hH0 ?rest806
                case hi806 => (simp only [List.getElem?_toArray, List.getElem?_cons_succ, List.getElem?_cons_zero]; rfl)
                case hn806 => kernel_rfl
                case hf806 => kernel_rfl
                case hr806 => kernel_rfl
                case hg806 => rfl
                case hy806 => (intro w hSw; (try dsimp only at hSw); go_simp; first | done | with_reducible rfl)
                case hq806 => exact fun _ _ _ h => h
                try dsimp only [Act.put]
                refine wpAnyH_take (i := 6) (oi := ?oi807) (v := ?vv807) ?hi807 ?hn807 ?hf807 ?hr807 ?hq807 (Or.inl ⟨?hg807, ?hy807⟩) hH0 ?rest807
                case hi807 => (simp only [List.getElem?_toArray, List.getElem?_cons_succ, List.getElem?_cons_zero]; rfl)
                case hn807 => kernel_rfl
                case hf807 => kernel_rfl
                case hr807 => kernel_rfl
                case hg807 => rfl
                case hy807 => (intro w hSw; (try dsimp only at hSw); go_simp; first | done | with_reducible rfl)
                case hq807 => exact fun _ _ _ h => h
                try dsimp only [Act.put]
                refine wpAnyH_take (i := 7) (oi := ?oi808) (v := ?vv808) ?hi808 ?hn808 ?hf808 ?hr808 ?hq808 (Or.inl ⟨?hg808, ?hy808⟩) hH0 ?rest808
                case hi808 => (simp only [List.getElem?_toArray, List.getElem?_cons_succ, List.getElem?_cons_zero]; rfl)
                case hn808 => kernel_rfl
                case hf808 => kernel_rfl
                case hr808 => kernel_rfl
                case hg808 => rfl
                case hy808 => (intro w hSw; (try dsimp only at hSw); go_simp; first | done | with_reducible rfl)
                case hq808 => exact fun _ _ _ h => h
                try dsimp only [Act.put]
                refine wpAnyH_take (i := 8) (oi := ?oi809) (v := ?vv809) ?hi809 ?hn809 ?hf809 ?hr809 ?hq809 (Or.inl ⟨?hg809, ?hy809⟩) hH0 ?rest809
                case hi809 => (simp only [List.getElem?_toArray, List.getElem?_cons_succ, List.getElem?_cons_zero]; rfl)
                case hn809 => kernel_rfl
                case hf809 => kernel_rfl
                case hr809 => kernel_rfl
                case hg809 => rfl
                case hy809 => (intro w hSw; (try dsimp only at hSw); go_simp; first | done | with_reducible rfl)
                case hq809 => exact fun _ _ _ h => h
                try dsimp only [Act.put]
                refine wpAnyH_take (i := 9) (oi := ?oi810) (v := ?vv810) ?hi810 ?hn810 ?hf810 ?hr810 ?hq810 (Or.inl ⟨?hg810, ?hy810⟩) hH0 ?rest810
                case hi810 => (simp only [List.getElem?_toArray, List.getElem?_cons_succ, List.getElem?_cons_zero]; rfl)
                case hn810 => kernel_rfl
                case hf810 => kernel_rfl
                case hr810 => kernel_rfl
                case hg810 => rfl
                case hy810 => (intro w hSw; (try dsimp only at hSw); go_simp; first | done | with_reducible rfl)
                case hq810 => exact fun _ _ _ h => h
                try dsimp only [Act.put]
                refine wpAnyH_take (i := 10) (oi := ?oi811) (v := ?vv811) ?hi811 ?hn811 ?hf811 ?hr811 ?hq811 (Or.inl ⟨?hg811, ?hy811⟩) hH0 ?rest811
                case hi811 => (simp only [List.getElem?_toArray, List.getElem?_cons_succ, List.getElem?_cons_zero]; rfl)
                case hn811 => kernel_rfl
                case hf811 => kernel_rfl
                case hr811 => kernel_rfl
                case hg811 => rfl
                case hy811 => (intro w hSw; (try dsimp only at hSw); go_simp; first | done | with_reducible rfl)
                case hq811 => exact fun _ _ _ h => h
                try dsimp only [Act.put]
                refine wpAnyH_take (i := 11) (oi := ?oi812) (v := ?vv812) ?hi812 ?hn812 ?hf812 ?hr812 ?hq812 (Or.inl ⟨?hg812, ?hy812⟩) hH0 ?rest812
                case hi812 => (simp only [List.getElem?_toArray, List.getElem?_cons_succ, List.getElem?_cons_zero]; rfl)
                case hn812 => kernel_rfl
                case hf812 => kernel_rfl
                case hr812 => kernel_rfl
                case hg812 => rfl
                case hy812 => (intro w hSw; (try dsimp only at hSw); go_simp; first | done | with_reducible rfl)
                case hq812 => exact fun _ _ _ h => h
                try dsimp only [Act.put]
                refine wpAnyH_take (i := 12) (oi := ?oi813) (v := ?vv813) ?hi813 ?hn813 ?hf813 ?hr813 ?hq813 (Or.inl ⟨?hg813, ?hy813⟩) hH0 ?rest813
                case hi813 => (simp only [List.getElem?_toArray, List.getElem?_cons_succ, List.getElem?_cons_zero]; rfl)
                case hn813 => kernel_rfl
                case hf813 => kernel_rfl
                case hr813 => kernel_rfl
                case hg813 => rfl
                case hy813 => (intro w hSw; (try dsimp only at hSw); go_simp; first | done | with_reducible rfl)
                case hq813 => exact fun _ _ _ h => h
                try dsimp only [Act.put]
                refine held_one 13 rfl (by kernel_rfl) (fun K hK => ?_)
                go_simp
                refine (hM _).mono ?_; rintro e w3 ⟨rfl, hb3⟩
                have hb3' := nx hz.drew hb3
                have nx9 := nx hbw hb3'
                have nx91 := nx hbw1 hb3'
                go_wp2_with fail
                have hH1 : (fun (w' : World) => w'.cell? ⟨g, j, none⟩ = some (.int .i64 x) ∧ w'.cell? ⟨g, j + 1, none⟩ = some (.int .i64 y)) _ := ⟨keep_cell hb3' c1, keep_cell hb3' c2⟩
                refine hK.out (fun (w' : World) => w'.cell? ⟨g, j, none⟩ = some (.int .i64 x) ∧ w'.cell? ⟨g, j + 1, none⟩ = some (.int .i64 y)) _ _ (fun _ h => h) hH1 ?_
                clear hK K
                try dsimp only [Act.put]
                refine wpAnyH_done (by kernel_rfl) ?_ _
                try simp only [List.setIfInBounds_toArray]
                have c1' := keep_cell hb3' c1
                have c2' := keep_cell hb3' c2
                have hz3 := Below.refl w3.heap.size w3
                clear hH0 hH1 hz hM hNA hMT hcall c1 c2 cr hb3 hb3' hbw hbw1
                go_wp2_with fail
                refine wp_region_held_drew (S := (fun (w' : World) => w'.cell? ⟨g, j, none⟩ = some (.int .i64 x) ∧ w'.cell? ⟨g, j + 1, none⟩ = some (.int .i64 y))) (by kernel_rfl) ⟨c1', c2'⟩ (fun hH0 => ?_)
                refine wpAnyH_take (i := 0) (oi := ?oi1001) (v := ?vv1001) ?hi1001 ?hn1001 ?hf1001 ?hr1001 ?hq1001 (Or.inl ⟨?hg1001, ?hy1001⟩) hH0 ?rest1001
                case hi1001 => (simp only [List.getElem?_toArray, List.getElem?_cons_zero]; rfl)
                case hn1001 => kernel_rfl
                case hf1001 => kernel_rfl
                case hr1001 => kernel_rfl
                case hg1001 => rfl
                case hy1001 => (intro w hSw; (try dsimp only at hSw); go_simp; first | done | with_reducible rfl)
                case hq1001 => exact fun _ _ _ h => h
                try dsimp only [Act.put]
                refine wpAnyH_take (i := 1) (oi := ?oi1002) (v := ?vv1002) ?hi1002 ?hn1002 ?hf1002 ?hr1002 ?hq1002 (Or.inl ⟨?hg1002, ?hy1002⟩) hH0 ?rest1002
                case hi1002 => (simp only [List.getElem?_toArray, List.getElem?_cons_succ, List.getElem?_cons_zero]; rfl)
                case hn1002 => kernel_rfl
                case hf1002 => kernel_rfl
                case hr1002 => kernel_rfl
                case hg1002 => rfl
                case hy1002 => (intro w hSw; (try dsimp only at hSw); go_simp; first | done | with_reducible rfl)
                case hq1002 => exact fun _ _ _ h => h
                try dsimp only [Act.put]
                refine wpAnyH_take (i := 2) (oi := ?oi1003) (v := ?vv1003) ?hi1003 ?hn1003 ?hf1003 ?hr1003 ?hq1003 (Or.inl ⟨?hg1003, ?hy1003⟩) hH0 ?rest1003
                case hi1003 => (simp only [List.getElem?_toArray, List.getElem?_cons_succ, List.getElem?_cons_zero]; rfl)
                case hn1003 => kernel_rfl
                case hf1003 => kernel_rfl
                case hr1003 => kernel_rfl
                case hg1003 => rfl
                case hy1003 => (intro w hSw; (try dsimp only at hSw); go_simp; first | done | with_reducible rfl)
                case hq1003 => exact fun _ _ _ h => h
                try dsimp only [Act.put]
                refine wpAnyH_take (i := 3) (oi := ?oi1004) (v := ?vv1004) ?hi1004 ?hn1004 ?hf1004 ?hr1004 ?hq1004 (Or.inl ⟨?hg1004, ?hy1004⟩) hH0 ?rest1004
                case hi1004 => (simp only [List.getElem?_toArray, List.getElem?_cons_succ, List.getElem?_cons_zero]; rfl)
                case hn1004 => kernel_rfl
                case hf1004 => kernel_rfl
                case hr1004 => kernel_rfl
                case hg1004 => rfl
                case hy1004 => (intro w hSw; (try dsimp only at hSw); go_simp; first | done | with_reducible rfl)
                case hq1004 => exact fun _ _ _ h => h
                try dsimp only [Act.put]
                refine wpAnyH_take (i := 4) (oi := ?oi1005) (v := ?vv1005) ?hi1005 ?hn1005 ?hf1005 ?hr1005 ?hq1005 (Or.inl ⟨?hg1005, ?hy1005⟩) hH0 ?rest1005
                case hi1005 => (simp only [List.getElem?_toArray, List.getElem?_cons_succ, List.getElem?_cons_zero]; rfl)
                case hn1005 => kernel_rfl
                case hf1005 => kernel_rfl
                case hr1005 => kernel_rfl
                case hg1005 => rfl
                case hy1005 => (intro w hSw; (try dsimp only at hSw); go_simp; first | done | with_reducible rfl)
                case hq1005 => exact fun _ _ _ h => h
                try dsimp only [Act.put]
                refine wpAnyH_take (i := 5) (oi := ?oi1006) (v := ?vv1006) ?hi1006 ?hn1006 ?hf1006 ?hr1006 ?hq1006 (Or.inl ⟨?hg1006, ?hy1006⟩) hH0 ?rest1006
                case hi1006 => (simp only [List.getElem?_toArray, List.getElem?_cons_succ, List.getElem?_cons_zero]; rfl)
                case hn1006 => kernel_rfl
                case hf1006 => kernel_rfl
                case hr1006 => kernel_rfl
                case hg1006 => rfl
                case hy1006 => (intro w hSw; (try dsimp only at hSw); go_simp; first | done | with_reducible rfl)
                case hq1006 => exact fun _ _ _ h => h
                try dsimp only [Act.put]
                refine wpAnyH_take (i := 6) (oi := ?oi1007) (v := ?vv1007) ?hi1007 ?hn1007 ?hf1007 ?hr1007 ?hq1007 (Or.inl ⟨?hg1007, ?hy1007⟩) hH0 ?rest1007
                case hi1007 => (simp only [List.getElem?_toArray, List.getElem?_cons_succ, List.getElem?_cons_zero]; rfl)
                case hn1007 => kernel_rfl
                case hf1007 => kernel_rfl
                case hr1007 => kernel_rfl
                case hg1007 => rfl
                case hy1007 => (intro w hSw; (try dsimp only at hSw); go_simp; first | done | with_reducible rfl)
                case hq1007 => exact fun _ _ _ h => h
                try dsimp only [Act.put]
                refine wpAnyH_take (i := 7) (oi := ?oi1008) (v := ?vv1008) ?hi1008 ?hn1008 ?hf1008 ?hr1008 ?hq1008 (Or.inl ⟨?hg1008, ?hy1008⟩) hH0 ?rest1008
                case hi1008 => (simp only [List.getElem?_toArray, List.getElem?_cons_succ, List.getElem?_cons_zero]; rfl)
                case hn1008 => kernel_rfl
                case hf1008 => kernel_rfl
                case hr1008 => kernel_rfl
                case hg1008 => rfl
                case hy1008 => (intro w hSw; (try dsimp only at hSw); go_simp; first | done | with_reducible rfl)
                case hq1008 => exact fun _ _ _ h => h
                try dsimp only [Act.put]
                refine wpAnyH_take (i := 8) (oi := ?oi1009) (v := ?vv1009) ?hi1009 ?hn1009 ?hf1009 ?hr1009 ?hq1009 (Or.inl ⟨?hg1009, ?hy1009⟩) hH0 ?rest1009
                case hi1009 => (simp only [List.getElem?_toArray, List.getElem?_cons_succ, List.getElem?_cons_zero]; rfl)
                case hn1009 => kernel_rfl
                case hf1009 => kernel_rfl
                case hr1009 => kernel_rfl
                case hg1009 => rfl
                case hy1009 => (intro w hSw; (try dsimp only at hSw); go_simp; first | done | with_reducible rfl)
                case hq1009 => exact fun _ _ _ h => h
                try dsimp only [Act.put]
                refine wpAnyH_take (i := 9) (oi := ?oi1010) (v := ?vv1010) ?hi1010 ?hn1010 ?hf1010 ?hr1010 ?hq1010 (Or.inl ⟨?hg1010, ?hy1010⟩) hH0 ?rest1010
                case hi1010 => (simp only [List.getElem?_toArray, List.getElem?_cons_succ, List.getElem?_cons_zero]; rfl)
                case hn1010 => kernel_rfl
                case hf1010 => kernel_rfl
                case hr1010 => kernel_rfl
                case hg1010 => rfl
                case hy1010 => (intro w hSw; (try dsimp only at hSw); go_simp; first | done | with_reducible rfl)
                case hq1010 => exact fun _ _ _ h => h
                try dsimp only [Act.put]
                refine wpAnyH_take (i := 10) (oi := ?oi1011) (v := ?vv1011) ?hi1011 ?hn1011 ?hf1011 ?hr1011 ?hq1011 (Or.inl ⟨?hg1011, ?hy1011⟩) hH0 ?rest1011
                case hi1011 => (simp only [List.getElem?_toArray, List.getElem?_cons_succ, List.getElem?_cons_zero]; rfl)
                case hn1011 => kernel_rfl
                case hf1011 => kernel_rfl
                case hr1011 => kernel_rfl
                case hg1011 => rfl
                case hy1011 => (intro w hSw; (try dsimp only at hSw); go_simp; first | done | with_reducible rfl)
                case hq1011 => exact fun _ _ _ h => h
                try dsimp only [Act.put]
                refine wpAnyH_take (i := 11) (oi := ?oi1012) (v := ?vv1012) ?hi1012 ?hn1012 ?hf1012 ?hr1012 ?hq1012 (Or.inl ⟨?hg1012, ?hy1012⟩) hH0 ?rest1012
                case hi1012 => (simp only [List.getElem?_toArray, List.getElem?_cons_succ, List.getElem?_cons_zero]; rfl)
                case hn1012 => kernel_rfl
                case hf1012 => kernel_rfl
                case hr1012 => kernel_rfl
                case hg1012 => rfl
                case hy1012 => (intro w hSw; (try dsimp only at hSw); go_simp; first | done | with_reducible rfl)
                case hq1012 => exact fun _ _ _ h => h
                try dsimp only [Act.put]
                refine wpAnyH_take (i := 12) (oi := ?oi1013) (v := ?vv1013) ?hi1013 ?hn1013 ?hf1013 ?hr1013 ?hq1013 (Or.inl ⟨?hg1013, ?hy1013⟩) hH0 ?rest1013
                case hi1013 => (simp only [List.getElem?_toArray, List.getElem?_cons_succ, List.getElem?_cons_zero]; rfl)
                case hn1013 => kernel_rfl
                case hf1013 => kernel_rfl
                case hr1013 => kernel_rfl
                case hg1013 => rfl
                case hy1013 => (intro w hSw; (try dsimp only at hSw); go_simp; first | done | with_reducible rfl)
                case hq1013 => exact fun _ _ _ h => h
                try dsimp only [Act.put]
                refine wpAnyH_take (i := 14) (oi := ?oi1014) (v := ?vv1014) ?hi1014 ?hn1014 ?hf1014 ?hr1014 ?hq1014 (Or.inl ⟨?hg1014, ?hy1014⟩) hH0 ?rest1014
                case hi1014 => (simp only [List.getElem?_toArray, List.getElem?_cons_succ, List.getElem?_cons_zero]; rfl)
                case hn1014 => kernel_rfl
                case hf1014 => kernel_rfl
                case hr1014 => kernel_rfl
                case hg1014 => rfl
                case hy1014 => (intro w hSw; (try dsimp only at hSw); go_simp; first | done | with_reducible rfl)
                case hq1014 => exact fun _ _ _ h => h
                try dsimp only [Act.put]
                refine wpAnyH_take (i := 15) (oi := ?oi1015) (v := ?vv1015) ?hi1015 ?hn1015 ?hf1015 ?hr1015 ?hq1015 (Or.inl ⟨?hg1015, ?hy1015⟩) hH0 ?rest1015
                case hi1015 => (simp only [List.getElem?_toArray, List.getElem?_cons_succ, List.getElem?_cons_zero]; rfl)
                case hn1015 => kernel_rfl
                case hf1015 => kernel_rfl
                case hr1015 => kernel_rfl
                case hg1015 => rfl
                case hy1015 => (intro w hSw; (try dsimp only at hSw); go_simp; first | done | with_reducible rfl)
                case hq1015 => exact fun _ _ _ h => h
                try dsimp only [Act.put]
                refine wpAnyH_take (i := 16) (oi := ?oi1016) (v := ?vv1016) ?hi1016 ?hn1016 ?hf1016 ?hr1016 ?hq1016 (Or.inl ⟨?hg1016, ?hy1016⟩) hH0 ?rest1016
                case hi1016 => (simp only [List.getElem?_toArray, List.getElem?_cons_succ, List.getElem?_cons_zero]; rfl)
                case hn1016 => kernel_rfl
                case hf1016 => kernel_rfl
                case hr1016 => kernel_rfl
                case hg1016 => rfl
                case hy1016 => (intro w hSw; (try dsimp only at hSw); go_simp; first | done | with_reducible rfl)
                case hq1016 => exact fun _ _ _ h => h
                try dsimp only [Act.put]
                refine wpAnyH_take (i := 17) (oi := ?oi1017) (v := ?vv1017) ?hi1017 ?hn1017 ?hf1017 ?hr1017 ?hq1017 (Or.inl ⟨?hg1017, ?hy1017⟩) hH0 ?rest1017
                case hi1017 => (simp only [List.getElem?_toArray, List.getElem?_cons_succ, List.getElem?_cons_zero]; rfl)
                case hn1017 => kernel_rfl
                case hf1017 => kernel_rfl
                case hr1017 => kernel_rfl
                case hg1017 => rfl
                case hy1017 => (intro w hSw; (try dsimp only at hSw); go_simp; first | done | with_reducible rfl)
                case hq1017 => exact fun _ _ _ h => h
                try dsimp only [Act.put]
                refine held_one 13 rfl (by kernel_rfl) (fun K hK => ?_)
                go_simp
                refine (hB _).mono ?_; rintro e w4 ⟨v4, own4, hb4, rfl⟩
                have hb4' := nx hz3.drew hb4
                obtain ⟨a4, l4, c4, rfl⟩ : ∃ a l c, v4 = .slice a l c := by
                  rcases own4.cells with ⟨h, _⟩ | ⟨g4, c4, h, _⟩
                  · exact ⟨_, _, _, h⟩
                  · exact ⟨_, _, _, h⟩
                go_wp2_with fail
                refine hK.out (fun (w' : World) => w'.cell? ⟨g, j, none⟩ = some (.int .i64 x) ∧ w'.cell? ⟨g, j + 1, none⟩ = some (.int .i64 y)) _ _ (fun _ h => h) ⟨keep_cell hb4' c1', keep_cell hb4' c2'⟩ ?_
                clear hK K
                try dsimp only [Act.put]
                have nx4 := nx nx9 hb4'
                have hn0 := HNN.out
                have hcw : ∀ i, i < L.length → w4.cell? ⟨g, i, none⟩ = some (.int .i64 (L.getD i 0)) := fun i hi => (nx4.cell (p := ⟨g, i, none⟩) hg).trans (HC.out i hi)
                have hfr := word_front (cap := cap) (j := j) (L := L) (w := w4) (by omega) hcw
                have hbk := word_back (cap := cap - (j + 2)) (j := j + 2) (L := L) (w := w4) (by omega) hcw
                rw [HNN.out] at hbk
                have hP := parts3 w4 22 _ _ _ _ _ _ (SrcI.of hfr) (SrcI.of own4.src) (SrcI.of hbk)
                have hbA := nxAlloc (Below.refl w4.heap.size w4) (.cells #[.slice (some ⟨g, 0, none⟩) j (cap), .slice a4 l4 c4, (.slice (some ⟨g, j + 2, none⟩) (n - (j + 2)) (cap - (j + 2)))] 22 (0, 0))
                have hnA := nx hb4' hbA
                refine held_one 18 rfl (by kernel_rfl) (fun K hK => ?_)
                go_simp
                refine hK.out (fun (w' : World) => w'.cell? ⟨g, j, none⟩ = some (.int .i64 x) ∧ w'.cell? ⟨g, j + 1, none⟩ = some (.int .i64 y)) _ _ (fun _ h => h) ⟨keep_cell hnA c1', keep_cell hnA c2'⟩ ?_
                clear hK K
                try dsimp only [Act.put]
                have hfl9 : [L.take j, b, L.drop (j + 2)].flatten.length ≤ 10000 := by simp; omega
                have hCC := concat_any w4.heap.size 3 _ _ _ hP rfl (by omega) hfl9
                generalize (w4.alloc (.cells #[.slice (some ⟨g, 0, none⟩) j (cap), .slice a4 l4 c4, (.slice (some ⟨g, j + 2, none⟩) (n - (j + 2)) (cap - (j + 2)))] 22 (0, 0))) = w5 at *
                refine held_one 19 rfl (by kernel_rfl) (fun K hK => ?_)
                go_simp
                refine hCC.mono ?_; rintro e w6 ⟨v6, own6, hb6, rfl⟩
                have hnB := nx hnA hb6
                go_wp2_with fail
                refine hK.out (fun (w' : World) => w'.cell? ⟨g, j, none⟩ = some (.int .i64 x) ∧ w'.cell? ⟨g, j + 1, none⟩ = some (.int .i64 y)) _ _ (fun _ h => h) ⟨keep_cell hnB c1', keep_cell hnB c2'⟩ ?_
                clear hK K
                try dsimp only [Act.put]
                refine wpAnyH_take (i := 20) (oi := ?oi4001) (v := ?vv4001) ?hi4001 ?hn4001 ?hf4001 ?hr4001 ?hq4001 (Or.inl ⟨?hg4001, ?hy4001⟩) (show (fun (w' : World) => w'.cell? ⟨g, j, none⟩ = some (.int .i64 x) ∧ w'.cell? ⟨g, j + 1, none⟩ = some (.int .i64 y)) w6 from ⟨keep_cell hnB c1', keep_cell hnB c2'⟩) ?rest4001
                case hi4001 => (simp only [List.getElem?_toArray, List.getElem?_cons_succ, List.getElem?_cons_zero]; rfl)
                case hn4001 => kernel_rfl
                case hf4001 => kernel_rfl
                case hr4001 => kernel_rfl
                case hg4001 => rfl
                case hy4001 => (intro w hSw; (try dsimp only at hSw); go_simp; first | done | with_reducible rfl)
                case hq4001 => exact fun _ _ _ h => h
                try dsimp only [Act.put]
                refine wpAnyH_take (i := 21) (oi := ?oi4002) (v := ?vv4002) ?hi4002 ?hn4002 ?hf4002 ?hr4002 ?hq4002 (Or.inl ⟨?hg4002, ?hy4002⟩) (show (fun (w' : World) => w'.cell? ⟨g, j, none⟩ = some (.int .i64 x) ∧ w'.cell? ⟨g, j + 1, none⟩ = some (.int .i64 y)) w6 from ⟨keep_cell hnB c1', keep_cell hnB c2'⟩) ?rest4002
                case hi4002 => (simp only [List.getElem?_toArray, List.getElem?_cons_succ, List.getElem?_cons_zero]; rfl)
                case hn4002 => kernel_rfl
                case hf4002 => kernel_rfl
                case hr4002 => kernel_rfl
                case hg4002 => rfl
                case hy4002 => (intro w hSw; (try dsimp only at hSw); go_simp; first | done | with_reducible rfl)
                case hq4002 => exact fun _ _ _ h => h
                try dsimp only [Act.put]
                refine wpAnyH_done (by kernel_rfl) ?_ _
                try simp only [List.setIfInBounds_toArray]
                have nxF := nx nx9 hnB
                have hS5 := (nx nx4 hbA).size
                have hown : OwnI w.heap.size w6 v6 (L.take j ++ (b ++ L.drop (j + 2))) := by
                  have h := own6.mono hS5
                  simpa using h
                clear hP hCC own6 own4 hfr hbk hcw hnB hnA hbA hb6 hb4 hb4' c1' c2' nx4 hz3
                go_wp2_with fail
                go_ret2
                rw [HRS.out]
                exact ⟨nxF, v6, hown, rfl⟩
          · obtain rfl : k = 5 := by omega
            have HT2 := Lib.hid (HT.out.2 (rule_none hfl.out))
            clear hfl HT
            go_wp2_with fail
            go_roundw
            case rel => exact ⟨j + 1, by omega, by go_num, HT2, hbw, hbw1⟩
            case measure => simp [intOf]; omega
      · have hr := HR.out
        have hst' := hst.out
        rw [List.take_of_length_le (by omega)] at hst'
        rw [hst'] at hr
        have hlt' : ¬ (j : Int) < (n : Int) - 1 := by omega
        clear HR hst hst'
        subst hr
        go_wp2_with fail
        go_ret2
        exact ⟨hbw, rfl⟩
end Go.Proofs.Ytlcepokenaiggab
