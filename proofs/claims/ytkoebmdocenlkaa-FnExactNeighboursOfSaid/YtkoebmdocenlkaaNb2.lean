/- Walks: spec.brNear. -/
import Derived.Test.YtkoebmdocenlkaaNb1
import Derived.Test.YtkoebmdocenlkaaPairK
namespace Go.Proofs.Ytkoebmdocenlkaa
open Go.RowKit

/-- The texts in order behind i of both kinds of turns, and j of the next kind. -/
def kindB (i : Nat) : Bool := i == 1
def accT (t : Tr) : Nat → List ByteArray
  | 0 => []
  | i + 1 => insAll (turnL (kindB i) t (t.spots (kindB i) ⟨#[]⟩)) (accT t i)
theorem accT_two (t : Tr) : accT t 2 = nearT t := by
  show insAll (turnL true t _) (insAll (turnL false t _) []) = _
  unfold nearT reachT
  rw [insAll_append]
  rfl
def accJ (t : Tr) (i j : Nat) : List ByteArray := insAll ((turnL (kindB i) t (t.spots (kindB i) ⟨#[]⟩)).take j) (accT t i)
theorem accJ_zero (t : Tr) (i : Nat) : accJ t i 0 = accT t i := rfl
theorem accJ_all (t : Tr) (i : Nat) {j : Nat} (h : (t.spots (kindB i) ⟨#[]⟩).length ≤ j) : accJ t i j = accT t (i + 1) := by
  unfold accJ
  rw [List.take_of_length_le (by rw [turnL_len]; exact h)]; rfl
theorem accJ_succ (t : Tr) (i : Nat) {j : Nat} {a : ByteArray} {u : Tr} (h : (t.spots (kindB i) ⟨#[]⟩)[j]? = some a) (hu : t.rotAt (kindB i) a.data.toList = some u) : accJ t i (j + 1) = insB u.str (accJ t i j) := by
  unfold accJ
  have hj := (List.getElem?_eq_some_iff.1 h).1
  have hj' : j < (turnL (kindB i) t (t.spots (kindB i) ⟨#[]⟩)).length := by rw [turnL_len]; exact hj
  rw [List.take_succ_eq_append_getElem hj', insAll_append]
  have e9 : (turnL (kindB i) t (t.spots (kindB i) ⟨#[]⟩))[j]? = some u.str := by
    unfold turnL
    rw [List.getElem?_map, h]
    simp [hu]
  have e := (List.getElem?_eq_some_iff.1 e9).2
  rw [e]; rfl
theorem accT_len (t : Tr) (i : Nat) : (accT t i).length ≤ i * t.carets := by
  induction i with
  | zero => simp [accT]
  | succ i ih =>
    have := spots_len (k := kindB i) t ⟨#[]⟩
    show (insAll _ _).length ≤ _
    rw [insAll_length, turnL_len, Nat.succ_mul]; omega
theorem accJ_len (t : Tr) (i j : Nat) : (accJ t i j).length ≤ (i + 1) * t.carets := by
  have h1 := accT_len t i
  have h2 := spots_len (k := kindB i) t ⟨#[]⟩
  unfold accJ
  rw [insAll_length, List.length_take, turnL_len, Nat.succ_mul]; omega
theorem insB_ne (x : ByteArray) (l : List ByteArray) : insB x l = [] → False := by
  intro h
  have := insB_length x l
  rw [h] at this; simp at this
theorem ins_own {base : Nat} {w : World} {v : Value} {x : ByteArray} {ss : List ByteArray} {f n : Nat} (hf : f = frontB x ss) (hn : n = ss.length + 1) (h : w.ownsRow base 9 1 v n (((ss.take f).map Value.string ++ [Value.string x]) ++ (ss.drop f).map Value.string)) : OwnS base w v (insB x ss) := by
  unfold OwnS
  rw [insB_length, ← hn]
  unfold insB
  rw [← hf, List.map_append, List.map_append]
  exact h

set_option maxRecDepth 100000 in
set_option maxHeartbeats 2000000 in
theorem brNear_any (t : Tr) (w : World) (ht : t.carets ≤ 8) :
    Calls Try.prog 61 #[.string t.str] w (GivesOwn (nearT t) w) := by
  obtain ⟨i0, hi, hz0, hz1, hz2⟩ := info_parts info_str
  have hz : (⟨#[]⟩ : ByteArray).size = 0 := rfl
  have hPl : ∀ (k : Bool) (w : World), Calls Try.prog 53 #[.string t.str, .string ⟨#[]⟩, .bool k] w (GivesOwn (t.spots k ⟨#[]⟩) w) := fun k w => brPlaces_any k t ⟨#[]⟩ w (by omega) (by omega)
  have hAt : ∀ (k : Bool) (a : ByteArray) (u : Tr), a ∈ t.spots k ⟨#[]⟩ → t.rotAt k a.data.toList = some u → ∀ w, Calls Try.prog 81 #[.string t.str, .string a, .bool k] w (fun e w' => Below w.heap.size w w' ∧ e = .returned (.tuple #[.string u.str, .bool true])) := by
    intro k a u ha hu w
    have hsz := spots_size (k := k) t ⟨#[]⟩ a ha
    have h9 := brAt_any k _ t a w rfl (by omega) (by rw [← Lib.size_eq]; omega)
    rw [hu] at h9
    exact h9.mono fun e w' ⟨v, h2, h3, h4⟩ => ⟨h3, by rw [h4, h2]⟩
  have HAT := Lib.hid hAt
  clear hz hAt
  go_enter Try.func61, Try.ntmps61
  go_wp2_with fail
  have hb0 := nxAlloc (Below.refl w.heap.size w) (.cells #[.bool false, .bool true] 4 (0, 0))
  have hA0 := heap_alloc_at w (.cells #[.bool false, .bool true] 4 (0, 0))
  generalize w.alloc (.cells #[.bool false, .bool true] 4 (0, 0)) = w0 at *
  have hbl : ∀ i, i < 2 → w0.cell? ⟨w.heap.size, i, none⟩ = some (.bool (kindB i)) := by
    intro i hi
    have h9 := two_cells hA0
    match i, hi with
    | 0, _ => exact h9.1
    | 1, _ => exact h9.2
  have hgl : w.heap.size < w0.heap.size := lt_of_block hA0
  have HBL := Lib.hid hbl
  clear hbl hA0
  try go_wp2_with fail
  go_loopw [3, 14] (fun ov iv wr => ∃ (i : Nat) (ss : List ByteArray), iv = .int .i64 i ∧ i ≤ 2 ∧ OwnS w0.heap.size wr ov ss ∧ (ss = [] → ov = .slice none 0 0) ∧ Hid (ss = accT t i) ∧ Below w0.heap.size w0 wr) (fun _ iv _ => 2 - (intOf iv).toNat)
  case atStart => exact ⟨0, [], rfl, by omega, OwnS.nil _ _, fun _ => rfl, rfl, Below.refl _ _⟩
  case round =>
    obtain ⟨i, ss, rfl, hi2, hown, hnil, he, hbw⟩ := hrel
    by_cases hlt : i < 2
    · have hlt' : (i : Int) < 2 := by omega
      have c1 : wr.cell? ⟨w.heap.size, i, none⟩ = some (.bool (kindB i)) := (hbw.cell (p := ⟨w.heap.size, i, none⟩) hgl).trans (HBL.out i hlt)
      have hPk := fun w => hPl (kindB i) w
      have hLn := spots_len (k := kindB i) t ⟨#[]⟩
      have hmem := Lib.hid (fun a (h : a ∈ t.spots (kindB i) ⟨#[]⟩) => spots_mem0 h)
      have hjz := accJ_zero t i
      have hja := Lib.hid (fun j h => accJ_all t i (j := j) h)
      have hjs := Lib.hid (fun j a u h k => accJ_succ t i (j := j) (a := a) (u := u) h k)
      have hjl := Lib.hid (fun j => accJ_len t i j)
      have HAK := Lib.hid (fun a u h k w => HAT.out (kindB i) a u h k w)
      generalize kindB i = kb at *
      generalize t.spots kb ⟨#[]⟩ = L at *
      go_wp2_with fail
      refine (hPk _).mono ?_; rintro e w1 ⟨v1, own1, hb1, rfl⟩
      replace hown := hown.keep hb1
      have hbw1 := nx hbw hb1
      replace own1 := own1.mono hbw.size
      obtain ⟨oaP, cP, hvP, hPrd⟩ : ∃ oa c, v1 = .slice oa L.length c ∧ ∀ j, j < L.length → ∃ g, oa = some ⟨g, 0, none⟩ ∧ g < w1.heap.size ∧ w1.cell? ⟨g, j, none⟩ = some (.string (L.getD j ⟨#[]⟩)) := by
        obtain ⟨oa, c, h1, _, _, h4⟩ := own1.cells.form0
        exact ⟨oa, c, h1, fun j hj => by obtain ⟨g, k1, _, k3, k4⟩ := h4 j hj; exact ⟨g, k1, k3, k4⟩⟩
      obtain ⟨n, hn⟩ : ∃ n, n = L.length := ⟨_, rfl⟩
      rw [← hn] at hvP hLn hPrd
      have HN := Lib.hid hn
      have HPR := Lib.hid hPrd
      have hee : Hid (ss = accJ t i 0) := by show _ = _; rw [hjz]; exact he.out
      clear own1 hPk hPrd hn he hbw hb1 hjz
      subst hvP
      go_wp2_with fail
      go_loopw [3, 22] (fun ov jv w2 => ∃ (j : Nat) (ss : List ByteArray), jv = .int .i64 j ∧ j ≤ n ∧ OwnS w0.heap.size w2 ov ss ∧ (ss = [] → ov = .slice none 0 0) ∧ Hid (ss = accJ t i j) ∧ Below w1.heap.size w1 w2) (fun _ jv _ => n - (intOf jv).toNat)
      case atStart => exact ⟨0, ss, rfl, Nat.zero_le _, hown, hnil, hee, Below.refl _ _⟩
      case round =>
        clear hown hnil hee
        obtain ⟨j, sj, rfl, hj, hown, hnil, he, hbw⟩ := hrel
        by_cases hlj : j < n
        · have hlj' : (j : Int) < (n : Int) := by omega
          obtain ⟨gP, rfl, hgP, cP1⟩ := HPR.out j hlj
          have cP2 := (hbw.cell (p := ⟨gP, j, none⟩) hgP).trans cP1
          have hLj : L[j]? = some (L.getD j ⟨#[]⟩) := by
            have : j < L.length := by have := HN.out; omega
            simp [List.getElem?_eq_getElem this]
          obtain ⟨u, hu⟩ := hmem.out (L.getD j ⟨#[]⟩) (List.mem_of_getElem? hLj)
          have hAu := HAK.out _ u (List.mem_of_getElem? hLj) hu
          have hnext := hjs.out j _ u hLj hu
          rw [← he.out] at hnext
          have hsl : sj.length ≤ 24 := by
            have h9 := hjl.out j
            rw [← he.out] at h9
            have : (i + 1) * t.carets ≤ 2 * 8 := Nat.mul_le_mul (by omega) ht
            omega
          have HX := Lib.hid hnext
          generalize L.getD j ⟨#[]⟩ = a at *
          generalize hX : u.str = X at *
          have HXS := Lib.hid hX
          clear hnext hLj hu cP1 he hX
          go_wp2_with fail
          refine (hAu _).mono ?_; rintro e w3 ⟨hb3, rfl⟩
          replace hown := hown.keep hb3
          have hbw3 := nx hbw hb3
          clear hAu cP2 hbw hb3
          obtain ⟨f, hf⟩ : ∃ f, f = frontB X sj := ⟨_, rfl⟩
          have hfl : f ≤ sj.length := by rw [hf]; exact frontB_le X sj
          have hlow := Lib.hid (fun q (h : q < f) => frontB_lt (x := X) (l := sj) (k := q) (by omega))
          have hat := Lib.hid (fun (h : f < sj.length) => by
            have h9 := frontB_at (x := X) (l := sj) (by omega)
            rw [← hf] at h9
            exact h9)
          have HF := Lib.hid hf
          clear hf
          by_cases hs0 : sj = []
          · subst hs0
            obtain rfl := hnil rfl
            obtain rfl : f = 0 := by simpa using hfl
            go_wp2_with fail
            go_loop [10] (fun kv => kv = .int .i64 0) (fun _ => 0)
            case atStart => rfl
            case round =>
              obtain rfl := hrel
              have hE := ownsRow_empty w3 9
              have hb4 := nxAlloc (Below.refl w3.heap.size w3) (.cells #[] 9 (0, 0))
              have hsrc : ∀ w, SrcV w (.slice none 0 0) [] := fun w => .inl ⟨rfl, rfl⟩
              go_wp2_with (at_builtin; refine wpList_appSrc rfl _ _ 25 rfl w3.heap.size 9 i0 (.string ⟨#[]⟩) 16 Try.underlying25 hi hz0 hz1 hz2 rfl _ 0 [] rfl hE _ _ rfl (hsrc _) (fun u hu => by simp at hu) (by unfold maxLen; simp) (by simp) hb4.size ?_; intro v5 w5 o5 b5 n5)
              have own5 : w5.ownsRow w3.heap.size 9 1 v5 0 [] := by simpa using o5
              have hb5 := hb4.trans b5
              have hsz5 := hb5.size
              clear o5 b5 n5 hE hb4
              try go_wp2_with fail
              refine wp_region_held_drew (S := (fun (_ : World) => True)) (by kernel_rfl) trivial (fun hH0 => ?_)
              refine wpAnyH_take (i := 0) (oi := ?oi1401) (v := ?vv1401) ?hi1401 ?hn1401 ?hf1401 ?hr1401 ?hq1401 (Or.inl ⟨?hg1401, ?hy1401⟩) hH0 ?rest1401
              case hi1401 => (simp only [List.getElem?_toArray, List.getElem?_cons_zero]; rfl)
              case hn1401 => kernel_rfl
              case hf1401 => kernel_rfl
              case hr1401 => kernel_rfl
              case hg1401 => rfl
              case hy1401 => (intro w hSw; (try dsimp only at hSw); go_simp; first | done | with_reducible rfl)
              case hq1401 => exact fun _ _ _ h => h
              try dsimp only [Act.put]
              refine wpAnyH_take (i := 1) (oi := ?oi1402) (v := ?vv1402) ?hi1402 ?hn1402 ?hf1402 ?hr1402 ?hq1402 (Or.inl ⟨?hg1402, ?hy1402⟩) hH0 ?rest1402
              case hi1402 => (simp only [List.getElem?_toArray, List.getElem?_cons_succ, List.getElem?_cons_zero]; rfl)
              case hn1402 => kernel_rfl
              case hf1402 => kernel_rfl
              case hr1402 => kernel_rfl
              case hg1402 => rfl
              case hy1402 => (intro w hSw; (try dsimp only at hSw); go_simp; first | done | with_reducible rfl)
              case hq1402 => exact fun _ _ _ h => h
              try dsimp only [Act.put]
              refine wpAnyH_take (i := 4) (oi := ?oi1403) (v := ?vv1403) ?hi1403 ?hn1403 ?hf1403 ?hr1403 ?hq1403 (Or.inl ⟨?hg1403, ?hy1403⟩) hH0 ?rest1403
              case hi1403 => (simp only [List.getElem?_toArray, List.getElem?_cons_succ, List.getElem?_cons_zero]; rfl)
              case hn1403 => kernel_rfl
              case hf1403 => kernel_rfl
              case hr1403 => kernel_rfl
              case hg1403 => rfl
              case hy1403 => (intro w hSw; (try dsimp only at hSw); go_simp; first | done | with_reducible rfl)
              case hq1403 => exact fun _ _ _ h => h
              try dsimp only [Act.put]
              refine wpAnyH_take (i := 5) (oi := ?oi1404) (v := ?vv1404) ?hi1404 ?hn1404 ?hf1404 ?hr1404 ?hq1404 (Or.inl ⟨?hg1404, ?hy1404⟩) hH0 ?rest1404
              case hi1404 => (simp only [List.getElem?_toArray, List.getElem?_cons_succ, List.getElem?_cons_zero]; rfl)
              case hn1404 => kernel_rfl
              case hf1404 => kernel_rfl
              case hr1404 => kernel_rfl
              case hg1404 => rfl
              case hy1404 => (intro w hSw; (try dsimp only at hSw); go_simp; first | done | with_reducible rfl)
              case hq1404 => exact fun _ _ _ h => h
              try dsimp only [Act.put]
              refine wpAnyH_take (i := 6) (oi := ?oi1405) (v := ?vv1405) ?hi1405 ?hn1405 ?hf1405 ?hr1405 ?hq1405 (Or.inl ⟨?hg1405, ?hy1405⟩) hH0 ?rest1405
              case hi1405 => (simp only [List.getElem?_toArray, List.getElem?_cons_succ, List.getElem?_cons_zero]; rfl)
              case hn1405 => kernel_rfl
              case hf1405 => kernel_rfl
              case hr1405 => kernel_rfl
              case hg1405 => rfl
              case hy1405 => (intro w hSw; (try dsimp only at hSw); go_simp; first | done | with_reducible rfl)
              case hq1405 => exact fun _ _ _ h => h
              try dsimp only [Act.put]
              refine held_one 2 rfl (by kernel_rfl) (fun K hK => ?_)
              go_simp
              refine (fun (H : ∀ W : World, (Below w5.heap.size w5 W ∧ W.cell? ⟨w5.heap.size, 0, none⟩ = some (.string X)) → K _ W) => H _ ?hHx4) (fun W6 hW6 => ?mainx4)
              case hHx4 => exact ⟨nxAlloc (Below.refl w5.heap.size w5).drew (.cells #[.string X] 9 (0, 0)), cell_newB w5.drew #[.string X] 9 0 rfl⟩
              case mainx4 =>
              refine hK.out (fun (_ : World) => True) _ _ (fun _ _ => trivial) trivial ?_
              clear hK K
              try dsimp only [Act.put]
              have hb6 := hb5.trans (hW6.1.mono hsz5)
              have own6 := ownsRow_keep own5 hW6.1
              refine held_one 3 rfl (by kernel_rfl) (fun K hK => ?_)
              refine step_append_src rfl _ _ 25 rfl w3.heap.size 9 i0 (.string ⟨#[]⟩) 16 Try.underlying25 hi hz0 hz1 hz2 rfl _ _ _ rfl own6 ⟨w5.heap.size, 0, none⟩ 1 1 [.string X] rfl rfl (fun j u hj => by
                match j, hj with
                | 0, hj => simp at hj; subst hj; exact hW6.2
                | j + 1, hj => simp at hj) (oneS [X]) (by first | (unfold maxLen; simp; done) | (unfold maxLen; simp; omega)) (by first | (simp; done) | (simp; omega)) hb6.size ?_
              intro v7 w7 own7 hg7
              have hb7 := hb6.grown hg7 hb6.size (fun k hk => ownsRow_ge own6 k hk)
              refine hK.out (fun (_ : World) => True) _ _ (fun _ _ => trivial) trivial ?_
              clear hK K own6 hg7 hW6 hb6 own5
              try dsimp only [Act.put]
              refine held_one 7 rfl (by kernel_rfl) (fun K hK => ?_)
              refine step_append_none rfl _ _ 25 rfl w3.heap.size 9 i0 Try.underlying25 hi _ _ _ rfl own7 rfl ?_
              refine hK.out (fun (_ : World) => True) _ _ (fun _ _ => trivial) trivial ?_
              clear hK K
              try dsimp only [Act.put]
              have hHU : (fun (_ : World) => True) w7 := trivial
              refine wpAnyH_take (i := 8) (oi := ?oi1601) (v := ?vv1601) ?hi1601 ?hn1601 ?hf1601 ?hr1601 ?hq1601 (Or.inl ⟨?hg1601, ?hy1601⟩) hHU ?rest1601
              case hi1601 => (simp only [List.getElem?_toArray, List.getElem?_cons_succ, List.getElem?_cons_zero]; rfl)
              case hn1601 => kernel_rfl
              case hf1601 => kernel_rfl
              case hr1601 => kernel_rfl
              case hg1601 => rfl
              case hy1601 => (intro w hSw; (try dsimp only at hSw); go_simp; first | done | with_reducible rfl)
              case hq1601 => exact fun _ _ _ h => h
              try dsimp only [Act.put]
              refine wpAnyH_done (by kernel_rfl) ?_ _
              simp only [List.setIfInBounds_toArray]
              have hins := ins_own (w := w7) (base := w3.heap.size) (v := v7) (x := X) (ss := []) (f := 0) rfl (n := 1) rfl (by simpa using own7)
              replace hins := (hins.mono hbw3.size).mono hbw1.size
              have hbw8 : Below w1.heap.size w1 w7 := hbw3.trans (hb7.mono hbw3.size)
              clear own7 hb7
              go_wp2_with fail
              go_roundw
              case rel => exact ⟨j + 1, _, by go_num, by omega, hins, fun h => (insB_ne _ _ h).elim, HX.out.symm, hbw8⟩
              case measure => simp [intOf]; omega
          · obtain ⟨g, cap, rfl⟩ := hown.shape (by rcases sj with _ | ⟨x, l⟩; exact absurd rfl hs0; simp)
            have hcc : sj.length ≤ cap ∧ cap ≤ maxLen ∧ g < w3.heap.size ∧ ∀ q, q < sj.length → w3.cell? ⟨g, q, none⟩ = some (.string (sj.getD q ⟨#[]⟩)) := by
              rcases hown.cells with ⟨h9, _⟩ | ⟨g8, c8, h9, _, h11, h12, h13, h14, _⟩
              · cases h9
              · cases h9; exact ⟨h12, h13, h11, h14⟩
            obtain ⟨hcap, hcap9, hgw, hrd⟩ := hcc
            unfold maxLen at hcap9
            have HRD := Lib.hid hrd
            have hrow : Hid (w3.ownsRow w0.heap.size 9 1 (.slice (some ⟨g, 0, none⟩) sj.length cap) sj.length (sj.map Value.string)) := hown
            obtain ⟨m, hm⟩ : ∃ m, m = sj.length := ⟨_, rfl⟩
            rw [← hm] at hcap hfl hsl hrow ⊢
            have HM := Lib.hid hm
            clear hrd hown hnil hm
            go_wp2_with fail
            go_loop [10] (fun kv => ∃ q : Nat, kv = .int .i64 q ∧ q ≤ f) (fun kv => f - (intOf kv).toNat)
            case atStart => exact ⟨0, rfl, Nat.zero_le _⟩
            case round =>
              obtain ⟨q, rfl, hq⟩ := hrel
              by_cases hqf : q < f
              · have hqm : (q : Int) < (m : Int) := by omega
                have cq := HRD.out q (by have := HM.out; omega)
                have hless : Go.Op.bytesLess (sj.getD q ⟨#[]⟩).toList X.toList = true := by rw [less_eq]; simpa using hlow.out q hqf
                have hqm2 : q < m := by omega
                generalize sj.getD q ⟨#[]⟩ = y at *
                go_wp2_with fail
                go_round
                case rel => exact ⟨q + 1, by go_num, by omega⟩
                case measure => simp [intOf]; omega
              · obtain rfl : q = f := by omega
                by_cases hqm : q < m
                · have hqm2 : (q : Int) < (m : Int) := by omega
                  have cq := HRD.out q (by have := HM.out; omega)
                  have hless : Go.Op.bytesLess (sj.getD q ⟨#[]⟩).toList X.toList = false := by
                    rw [less_eq]
                    simpa using hat.out (by have := HM.out; omega)
                  generalize sj.getD q ⟨#[]⟩ = y at *
                  have hcq : ¬ cap = q := by omega
                  have hE := ownsRow_empty w3 9
                  have hb4 := nxAlloc (Below.refl w3.heap.size w3) (.cells #[] 9 (0, 0))
                  have hsrc := (src_take hrow.out q (by omega) cap).keep hb4
                  have hone : ∀ u ∈ (sj.map Value.string).take q, u.oneCell' = true := fun u hu => oneS sj u (List.mem_of_mem_take hu)
                  have hyl : ((sj.map Value.string).take q).length = q := by rw [List.length_take, List.length_map]; have := HM.out; omega
                  go_wp2_with (at_builtin; refine wpList_appSrc rfl _ _ 25 rfl w3.heap.size 9 i0 (.string ⟨#[]⟩) 16 Try.underlying25 hi hz0 hz1 hz2 rfl _ 0 [] rfl hE _ _ rfl hsrc hone (by rw [hyl]; unfold maxLen; omega) (by rw [hyl]; omega) hb4.size ?_; intro v5 w5 o5 b5 n5)
                  have own5 : w5.ownsRow w3.heap.size 9 1 v5 q ((sj.map Value.string).take q) := by
                    have h9 := o5
                    rw [hyl] at h9
                    simpa using h9
                  have hb5 := hb4.trans b5
                  have hsz5 := hb5.size
                  clear o5 b5 n5 hE hsrc hone hyl hb4
                  try go_wp2_with fail
                  refine wp_region_held_drew (S := (fun (_ : World) => True)) (by kernel_rfl) trivial (fun hH0 => ?_)
                  refine wpAnyH_take (i := 0) (oi := ?oi601) (v := ?vv601) ?hi601 ?hn601 ?hf601 ?hr601 ?hq601 (Or.inl ⟨?hg601, ?hy601⟩) hH0 ?rest601
                  case hi601 => (simp only [List.getElem?_toArray, List.getElem?_cons_zero]; rfl)
                  case hn601 => kernel_rfl
                  case hf601 => kernel_rfl
                  case hr601 => kernel_rfl
                  case hg601 => rfl
                  case hy601 => (intro w hSw; (try dsimp only at hSw); go_simp; first | done | with_reducible rfl)
                  case hq601 => exact fun _ _ _ h => h
                  try dsimp only [Act.put]
                  refine wpAnyH_take (i := 1) (oi := ?oi602) (v := ?vv602) ?hi602 ?hn602 ?hf602 ?hr602 ?hq602 (Or.inl ⟨?hg602, ?hy602⟩) hH0 ?rest602
                  case hi602 => (simp only [List.getElem?_toArray, List.getElem?_cons_succ, List.getElem?_cons_zero]; rfl)
                  case hn602 => kernel_rfl
                  case hf602 => kernel_rfl
                  case hr602 => kernel_rfl
                  case hg602 => rfl
                  case hy602 => (intro w hSw; (try dsimp only at hSw); go_simp; first | done | with_reducible rfl)
                  case hq602 => exact fun _ _ _ h => h
                  try dsimp only [Act.put]
                  refine wpAnyH_take (i := 4) (oi := ?oi603) (v := ?vv603) ?hi603 ?hn603 ?hf603 ?hr603 ?hq603 (Or.inl ⟨?hg603, ?hy603⟩) hH0 ?rest603
                  case hi603 => (simp only [List.getElem?_toArray, List.getElem?_cons_succ, List.getElem?_cons_zero]; rfl)
                  case hn603 => kernel_rfl
                  case hf603 => kernel_rfl
                  case hr603 => kernel_rfl
                  case hg603 => rfl
                  case hy603 => (intro w hSw; (try dsimp only at hSw); go_simp; first | done | with_reducible rfl)
                  case hq603 => exact fun _ _ _ h => h
                  try dsimp only [Act.put]
                  refine wpAnyH_take (i := 5) (oi := ?oi604) (v := ?vv604) ?hi604 ?hn604 ?hf604 ?hr604 ?hq604 (Or.inl ⟨?hg604, ?hy604⟩) hH0 ?rest604
                  case hi604 => (simp only [List.getElem?_toArray, List.getElem?_cons_succ, List.getElem?_cons_zero]; rfl)
                  case hn604 => kernel_rfl
                  case hf604 => kernel_rfl
                  case hr604 => kernel_rfl
                  case hg604 => rfl
                  case hy604 => (intro w hSw; (try dsimp only at hSw); go_simp; first | done | with_reducible rfl)
                  case hq604 => exact fun _ _ _ h => h
                  try dsimp only [Act.put]
                  refine wpAnyH_take (i := 6) (oi := ?oi605) (v := ?vv605) ?hi605 ?hn605 ?hf605 ?hr605 ?hq605 (Or.inl ⟨?hg605, ?hy605⟩) hH0 ?rest605
                  case hi605 => (simp only [List.getElem?_toArray, List.getElem?_cons_succ, List.getElem?_cons_zero]; rfl)
                  case hn605 => kernel_rfl
                  case hf605 => kernel_rfl
                  case hr605 => kernel_rfl
                  case hg605 => rfl
                  case hy605 => (intro w hSw; (try dsimp only at hSw); go_simp; first | done | with_reducible rfl)
                  case hq605 => exact fun _ _ _ h => h
                  try dsimp only [Act.put]
                  refine held_one 2 rfl (by kernel_rfl) (fun K hK => ?_)
                  go_simp
                  refine (fun (H : ∀ W : World, (Below w5.heap.size w5 W ∧ W.cell? ⟨w5.heap.size, 0, none⟩ = some (.string X)) → K _ W) => H _ ?hHx3) (fun W6 hW6 => ?mainx3)
                  case hHx3 => exact ⟨nxAlloc (Below.refl w5.heap.size w5).drew (.cells #[.string X] 9 (0, 0)), cell_newB w5.drew #[.string X] 9 0 rfl⟩
                  case mainx3 =>
                  refine hK.out (fun (_ : World) => True) _ _ (fun _ _ => trivial) trivial ?_
                  clear hK K
                  try dsimp only [Act.put]
                  have hb6 := hb5.trans (hW6.1.mono hsz5)
                  have own6 := ownsRow_keep own5 hW6.1
                  refine held_one 3 rfl (by kernel_rfl) (fun K hK => ?_)
                  refine step_append_src rfl _ _ 25 rfl w3.heap.size 9 i0 (.string ⟨#[]⟩) 16 Try.underlying25 hi hz0 hz1 hz2 rfl _ _ _ rfl own6 ⟨w5.heap.size, 0, none⟩ 1 1 [.string X] rfl rfl (fun j u hj => by
                    match j, hj with
                    | 0, hj => simp at hj; subst hj; exact hW6.2
                    | j + 1, hj => simp at hj) (oneS [X]) (by first | (unfold maxLen; simp; done) | (unfold maxLen; simp; omega)) (by first | (simp; done) | (simp; omega)) hb6.size ?_
                  intro v7 w7 own7 hg7
                  have hb7 := hb6.grown hg7 hb6.size (fun k hk => ownsRow_ge own6 k hk)
                  refine hK.out (fun (_ : World) => True) _ _ (fun _ _ => trivial) trivial ?_
                  clear hK K own6 hg7 hW6 hb6 own5
                  try dsimp only [Act.put]
                  have hyl : ((sj.map Value.string).drop q).length = m - q := by rw [List.length_drop, List.length_map]; have := HM.out; omega
                  have hrow7 := ownsRow_keep hrow.out hb7
                  have hcell : ∀ j u, ((sj.map Value.string).drop q)[j]? = some u → w7.cell? ((⟨g, q, none⟩ : Addr).add j) = some u := by
                    intro j u hj
                    rw [List.getElem?_drop] at hj
                    have hlt := (List.getElem?_eq_some_iff.1 hj).1
                    rw [List.length_map] at hlt
                    have e9 : (⟨g, q, none⟩ : Addr).add j = ⟨g, q + j, none⟩ := by
                      unfold Addr.add
                      split
                      · next h => rw [h]; simp
                      · rfl
                    rw [e9, World.ownsRow.cellAt hrow7 (q + j) (by have := HM.out; omega), hj]
                  have hone : ∀ u ∈ (sj.map Value.string).drop q, u.oneCell' = true := fun u hu => oneS sj u (List.mem_of_mem_drop hu)
                  refine held_one 7 rfl (by kernel_rfl) (fun K hK => ?_)
                  refine step_append_src rfl _ _ 25 rfl w3.heap.size 9 i0 (.string ⟨#[]⟩) 16 Try.underlying25 hi hz0 hz1 hz2 rfl _ _ _ rfl own7 ⟨g, q, none⟩ (cap - q) (m - q) ((sj.map Value.string).drop q) hyl rfl hcell hone (by rw [hyl]; unfold maxLen; simp; omega) (by rw [hyl]; simp; omega) hb7.size ?_
                  intro v8 w8 own8 hg8
                  have hb8 := hb7.grown hg8 hb7.size (fun k hk => ownsRow_ge own7 k hk)
                  refine hK.out (fun (_ : World) => True) _ _ (fun _ _ => trivial) trivial ?_
                  clear hK K hg8 own7 hb7 hrow7 hcell hone
                  try dsimp only [Act.put]
                  have hHU : (fun (_ : World) => True) w8 := trivial
                  refine wpAnyH_take (i := 8) (oi := ?oi801) (v := ?vv801) ?hi801 ?hn801 ?hf801 ?hr801 ?hq801 (Or.inl ⟨?hg801, ?hy801⟩) hHU ?rest801
                  case hi801 => (simp only [List.getElem?_toArray, List.getElem?_cons_succ, List.getElem?_cons_zero]; rfl)
                  case hn801 => kernel_rfl
                  case hf801 => kernel_rfl
                  case hr801 => kernel_rfl
                  case hg801 => rfl
                  case hy801 => (intro w hSw; (try dsimp only at hSw); go_simp; first | done | with_reducible rfl)
                  case hq801 => exact fun _ _ _ h => h
                  try dsimp only [Act.put]
                  refine wpAnyH_done (by kernel_rfl) ?_ _
                  simp only [List.setIfInBounds_toArray]
                  have hins := ins_own (w := w8) (base := w3.heap.size) (v := v8) (x := X) (ss := sj) (f := q) HF.out (n := q + [Value.string X].length + ((sj.map Value.string).drop q).length) (by rw [hyl]; have := HM.out; simp; omega) (by
                    have h9 := own8
                    rw [List.map_take, List.map_drop]
                    exact h9)
                  replace hins := (hins.mono hbw3.size).mono hbw1.size
                  have hbw8 : Below w1.heap.size w1 w8 := hbw3.trans (hb8.mono hbw3.size)
                  clear own8 hb8 hyl
                  go_wp2_with fail
                  go_roundw
                  case rel => exact ⟨j + 1, _, by go_num, by omega, hins, fun h => (insB_ne _ _ h).elim, HX.out.symm, hbw8⟩
                  case measure => simp [intOf]; omega
                · have hqm9 : q = m := by omega
                  subst hqm9
                  by_cases hcq : cap = q
                  · have hcq9 : q = cap := hcq.symm
                    subst hcq9
                    clear hcq
                    have hE := ownsRow_empty w3 9
                    have hb4 := nxAlloc (Below.refl w3.heap.size w3) (.cells #[] 9 (0, 0))
                    have hsrc := (src_take hrow.out q (by omega) q).keep hb4
                    have hone : ∀ u ∈ (sj.map Value.string).take q, u.oneCell' = true := fun u hu => oneS sj u (List.mem_of_mem_take hu)
                    have hyl : ((sj.map Value.string).take q).length = q := by rw [List.length_take, List.length_map]; have := HM.out; omega
                    go_wp2_with (at_builtin; refine wpList_appSrc rfl _ _ 25 rfl w3.heap.size 9 i0 (.string ⟨#[]⟩) 16 Try.underlying25 hi hz0 hz1 hz2 rfl _ 0 [] rfl hE _ _ rfl hsrc hone (by rw [hyl]; unfold maxLen; omega) (by rw [hyl]; omega) hb4.size ?_; intro v5 w5 o5 b5 n5)
                    have own5 : w5.ownsRow w3.heap.size 9 1 v5 q ((sj.map Value.string).take q) := by
                      have h9 := o5
                      rw [hyl] at h9
                      simpa using h9
                    have hb5 := hb4.trans b5
                    have hsz5 := hb5.size
                    clear o5 b5 n5 hE hsrc hone hyl hb4
                    try go_wp2_with fail
                    refine wp_region_held_drew (S := (fun (_ : World) => True)) (by kernel_rfl) trivial (fun hH0 => ?_)
                    refine wpAnyH_take (i := 0) (oi := ?oi201) (v := ?vv201) ?hi201 ?hn201 ?hf201 ?hr201 ?hq201 (Or.inl ⟨?hg201, ?hy201⟩) hH0 ?rest201
                    case hi201 => (simp only [List.getElem?_toArray, List.getElem?_cons_zero]; rfl)
                    case hn201 => kernel_rfl
                    case hf201 => kernel_rfl
                    case hr201 => kernel_rfl
                    case hg201 => rfl
                    case hy201 => (intro w hSw; (try dsimp only at hSw); go_simp; first | done | with_reducible rfl)
                    case hq201 => exact fun _ _ _ h => h
                    try dsimp only [Act.put]
                    refine wpAnyH_take (i := 1) (oi := ?oi202) (v := ?vv202) ?hi202 ?hn202 ?hf202 ?hr202 ?hq202 (Or.inl ⟨?hg202, ?hy202⟩) hH0 ?rest202
                    case hi202 => (simp only [List.getElem?_toArray, List.getElem?_cons_succ, List.getElem?_cons_zero]; rfl)
                    case hn202 => kernel_rfl
                    case hf202 => kernel_rfl
                    case hr202 => kernel_rfl
                    case hg202 => rfl
                    case hy202 => (intro w hSw; (try dsimp only at hSw); go_simp; first | done | with_reducible rfl)
                    case hq202 => exact fun _ _ _ h => h
                    try dsimp only [Act.put]
                    refine wpAnyH_take (i := 4) (oi := ?oi203) (v := ?vv203) ?hi203 ?hn203 ?hf203 ?hr203 ?hq203 (Or.inl ⟨?hg203, ?hy203⟩) hH0 ?rest203
                    case hi203 => (simp only [List.getElem?_toArray, List.getElem?_cons_succ, List.getElem?_cons_zero]; rfl)
                    case hn203 => kernel_rfl
                    case hf203 => kernel_rfl
                    case hr203 => kernel_rfl
                    case hg203 => rfl
                    case hy203 => (intro w hSw; (try dsimp only at hSw); go_simp; first | done | with_reducible rfl)
                    case hq203 => exact fun _ _ _ h => h
                    try dsimp only [Act.put]
                    refine wpAnyH_take (i := 5) (oi := ?oi204) (v := ?vv204) ?hi204 ?hn204 ?hf204 ?hr204 ?hq204 (Or.inl ⟨?hg204, ?hy204⟩) hH0 ?rest204
                    case hi204 => (simp only [List.getElem?_toArray, List.getElem?_cons_succ, List.getElem?_cons_zero]; rfl)
                    case hn204 => kernel_rfl
                    case hf204 => kernel_rfl
                    case hr204 => kernel_rfl
                    case hg204 => rfl
                    case hy204 => (intro w hSw; (try dsimp only at hSw); go_simp; first | done | with_reducible rfl)
                    case hq204 => exact fun _ _ _ h => h
                    try dsimp only [Act.put]
                    refine wpAnyH_take (i := 6) (oi := ?oi205) (v := ?vv205) ?hi205 ?hn205 ?hf205 ?hr205 ?hq205 (Or.inl ⟨?hg205, ?hy205⟩) hH0 ?rest205
                    case hi205 => (simp only [List.getElem?_toArray, List.getElem?_cons_succ, List.getElem?_cons_zero]; rfl)
                    case hn205 => kernel_rfl
                    case hf205 => kernel_rfl
                    case hr205 => kernel_rfl
                    case hg205 => rfl
                    case hy205 => (intro w hSw; (try dsimp only at hSw); go_simp; first | done | with_reducible rfl)
                    case hq205 => exact fun _ _ _ h => h
                    try dsimp only [Act.put]
                    refine held_one 2 rfl (by kernel_rfl) (fun K hK => ?_)
                    go_simp
                    refine (fun (H : ∀ W : World, (Below w5.heap.size w5 W ∧ W.cell? ⟨w5.heap.size, 0, none⟩ = some (.string X)) → K _ W) => H _ ?hHx1) (fun W6 hW6 => ?mainx1)
                    case hHx1 => exact ⟨nxAlloc (Below.refl w5.heap.size w5).drew (.cells #[.string X] 9 (0, 0)), cell_newB w5.drew #[.string X] 9 0 rfl⟩
                    case mainx1 =>
                    refine hK.out (fun (_ : World) => True) _ _ (fun _ _ => trivial) trivial ?_
                    clear hK K
                    try dsimp only [Act.put]
                    have hb6 := hb5.trans (hW6.1.mono hsz5)
                    have own6 := ownsRow_keep own5 hW6.1
                    refine held_one 3 rfl (by kernel_rfl) (fun K hK => ?_)
                    refine step_append_src rfl _ _ 25 rfl w3.heap.size 9 i0 (.string ⟨#[]⟩) 16 Try.underlying25 hi hz0 hz1 hz2 rfl _ _ _ rfl own6 ⟨w5.heap.size, 0, none⟩ 1 1 [.string X] rfl rfl (fun j u hj => by
                      match j, hj with
                      | 0, hj => simp at hj; subst hj; exact hW6.2
                      | j + 1, hj => simp at hj) (oneS [X]) (by first | (unfold maxLen; simp; done) | (unfold maxLen; simp; omega)) (by first | (simp; done) | (simp; omega)) hb6.size ?_
                    intro v7 w7 own7 hg7
                    have hb7 := hb6.grown hg7 hb6.size (fun k hk => ownsRow_ge own6 k hk)
                    refine hK.out (fun (_ : World) => True) _ _ (fun _ _ => trivial) trivial ?_
                    clear hK K own6 hg7 hW6 hb6 own5
                    try dsimp only [Act.put]
                    have hyl : ((sj.map Value.string).drop q).length = 0 := by rw [List.length_drop, List.length_map]; have := HM.out; omega
                    have hrow7 := ownsRow_keep hrow.out hb7
                    have hcell : ∀ j u, ((sj.map Value.string).drop q)[j]? = some u → w7.cell? ((⟨g, 0, none⟩ : Addr).add j) = some u := by
                      intro j u hj
                      rw [List.length_eq_zero_iff.1 hyl] at hj
                      simp at hj
                    have hone : ∀ u ∈ (sj.map Value.string).drop q, u.oneCell' = true := fun u hu => oneS sj u (List.mem_of_mem_drop hu)
                    refine held_one 7 rfl (by kernel_rfl) (fun K hK => ?_)
                    refine step_append_src rfl _ _ 25 rfl w3.heap.size 9 i0 (.string ⟨#[]⟩) 16 Try.underlying25 hi hz0 hz1 hz2 rfl _ _ _ rfl own7 ⟨g, 0, none⟩ (0) (0) ((sj.map Value.string).drop q) hyl rfl hcell hone (by rw [hyl]; unfold maxLen; simp; omega) (by rw [hyl]; simp; omega) hb7.size ?_
                    intro v8 w8 own8 hg8
                    have hb8 := hb7.grown hg8 hb7.size (fun k hk => ownsRow_ge own7 k hk)
                    refine hK.out (fun (_ : World) => True) _ _ (fun _ _ => trivial) trivial ?_
                    clear hK K hg8 own7 hb7 hrow7 hcell hone
                    try dsimp only [Act.put]
                    have hHU : (fun (_ : World) => True) w8 := trivial
                    refine wpAnyH_take (i := 8) (oi := ?oi1001) (v := ?vv1001) ?hi1001 ?hn1001 ?hf1001 ?hr1001 ?hq1001 (Or.inl ⟨?hg1001, ?hy1001⟩) hHU ?rest1001
                    case hi1001 => (simp only [List.getElem?_toArray, List.getElem?_cons_succ, List.getElem?_cons_zero]; rfl)
                    case hn1001 => kernel_rfl
                    case hf1001 => kernel_rfl
                    case hr1001 => kernel_rfl
                    case hg1001 => rfl
                    case hy1001 => (intro w hSw; (try dsimp only at hSw); go_simp; first | done | with_reducible rfl)
                    case hq1001 => exact fun _ _ _ h => h
                    try dsimp only [Act.put]
                    refine wpAnyH_done (by kernel_rfl) ?_ _
                    simp only [List.setIfInBounds_toArray]
                    have hins := ins_own (w := w8) (base := w3.heap.size) (v := v8) (x := X) (ss := sj) (f := q) HF.out (n := q + [Value.string X].length + ((sj.map Value.string).drop q).length) (by rw [hyl]; have := HM.out; simp; omega) (by
                      have h9 := own8
                      rw [List.map_take, List.map_drop]
                      exact h9)
                    replace hins := (hins.mono hbw3.size).mono hbw1.size
                    have hbw8 : Below w1.heap.size w1 w8 := hbw3.trans (hb8.mono hbw3.size)
                    clear own8 hb8 hyl
                    go_wp2_with fail
                    go_roundw
                    case rel => exact ⟨j + 1, _, by go_num, by omega, hins, fun h => (insB_ne _ _ h).elim, HX.out.symm, hbw8⟩
                    case measure => simp [intOf]; omega
                  · have hq99 := hcq
                    have hE := ownsRow_empty w3 9
                    have hb4 := nxAlloc (Below.refl w3.heap.size w3) (.cells #[] 9 (0, 0))
                    have hsrc := (src_take hrow.out q (by omega) cap).keep hb4
                    have hone : ∀ u ∈ (sj.map Value.string).take q, u.oneCell' = true := fun u hu => oneS sj u (List.mem_of_mem_take hu)
                    have hyl : ((sj.map Value.string).take q).length = q := by rw [List.length_take, List.length_map]; have := HM.out; omega
                    go_wp2_with (at_builtin; refine wpList_appSrc rfl _ _ 25 rfl w3.heap.size 9 i0 (.string ⟨#[]⟩) 16 Try.underlying25 hi hz0 hz1 hz2 rfl _ 0 [] rfl hE _ _ rfl hsrc hone (by rw [hyl]; unfold maxLen; omega) (by rw [hyl]; omega) hb4.size ?_; intro v5 w5 o5 b5 n5)
                    have own5 : w5.ownsRow w3.heap.size 9 1 v5 q ((sj.map Value.string).take q) := by
                      have h9 := o5
                      rw [hyl] at h9
                      simpa using h9
                    have hb5 := hb4.trans b5
                    have hsz5 := hb5.size
                    clear o5 b5 n5 hE hsrc hone hyl hb4
                    try go_wp2_with fail
                    refine wp_region_held_drew (S := (fun (_ : World) => True)) (by kernel_rfl) trivial (fun hH0 => ?_)
                    refine wpAnyH_take (i := 0) (oi := ?oi401) (v := ?vv401) ?hi401 ?hn401 ?hf401 ?hr401 ?hq401 (Or.inl ⟨?hg401, ?hy401⟩) hH0 ?rest401
                    case hi401 => (simp only [List.getElem?_toArray, List.getElem?_cons_zero]; rfl)
                    case hn401 => kernel_rfl
                    case hf401 => kernel_rfl
                    case hr401 => kernel_rfl
                    case hg401 => rfl
                    case hy401 => (intro w hSw; (try dsimp only at hSw); go_simp; first | done | with_reducible rfl)
                    case hq401 => exact fun _ _ _ h => h
                    try dsimp only [Act.put]
                    refine wpAnyH_take (i := 1) (oi := ?oi402) (v := ?vv402) ?hi402 ?hn402 ?hf402 ?hr402 ?hq402 (Or.inl ⟨?hg402, ?hy402⟩) hH0 ?rest402
                    case hi402 => (simp only [List.getElem?_toArray, List.getElem?_cons_succ, List.getElem?_cons_zero]; rfl)
                    case hn402 => kernel_rfl
                    case hf402 => kernel_rfl
                    case hr402 => kernel_rfl
                    case hg402 => rfl
                    case hy402 => (intro w hSw; (try dsimp only at hSw); go_simp; first | done | with_reducible rfl)
                    case hq402 => exact fun _ _ _ h => h
                    try dsimp only [Act.put]
                    refine wpAnyH_take (i := 4) (oi := ?oi403) (v := ?vv403) ?hi403 ?hn403 ?hf403 ?hr403 ?hq403 (Or.inl ⟨?hg403, ?hy403⟩) hH0 ?rest403
                    case hi403 => (simp only [List.getElem?_toArray, List.getElem?_cons_succ, List.getElem?_cons_zero]; rfl)
                    case hn403 => kernel_rfl
                    case hf403 => kernel_rfl
                    case hr403 => kernel_rfl
                    case hg403 => rfl
                    case hy403 => (intro w hSw; (try dsimp only at hSw); go_simp; first | done | with_reducible rfl)
                    case hq403 => exact fun _ _ _ h => h
                    try dsimp only [Act.put]
                    refine wpAnyH_take (i := 5) (oi := ?oi404) (v := ?vv404) ?hi404 ?hn404 ?hf404 ?hr404 ?hq404 (Or.inl ⟨?hg404, ?hy404⟩) hH0 ?rest404
                    case hi404 => (simp only [List.getElem?_toArray, List.getElem?_cons_succ, List.getElem?_cons_zero]; rfl)
                    case hn404 => kernel_rfl
                    case hf404 => kernel_rfl
                    case hr404 => kernel_rfl
                    case hg404 => rfl
                    case hy404 => (intro w hSw; (try dsimp only at hSw); go_simp; first | done | with_reducible rfl)
                    case hq404 => exact fun _ _ _ h => h
                    try dsimp only [Act.put]
                    refine wpAnyH_take (i := 6) (oi := ?oi405) (v := ?vv405) ?hi405 ?hn405 ?hf405 ?hr405 ?hq405 (Or.inl ⟨?hg405, ?hy405⟩) hH0 ?rest405
                    case hi405 => (simp only [List.getElem?_toArray, List.getElem?_cons_succ, List.getElem?_cons_zero]; rfl)
                    case hn405 => kernel_rfl
                    case hf405 => kernel_rfl
                    case hr405 => kernel_rfl
                    case hg405 => rfl
                    case hy405 => (intro w hSw; (try dsimp only at hSw); go_simp; first | done | with_reducible rfl)
                    case hq405 => exact fun _ _ _ h => h
                    try dsimp only [Act.put]
                    refine held_one 2 rfl (by kernel_rfl) (fun K hK => ?_)
                    go_simp
                    refine (fun (H : ∀ W : World, (Below w5.heap.size w5 W ∧ W.cell? ⟨w5.heap.size, 0, none⟩ = some (.string X)) → K _ W) => H _ ?hHx2) (fun W6 hW6 => ?mainx2)
                    case hHx2 => exact ⟨nxAlloc (Below.refl w5.heap.size w5).drew (.cells #[.string X] 9 (0, 0)), cell_newB w5.drew #[.string X] 9 0 rfl⟩
                    case mainx2 =>
                    refine hK.out (fun (_ : World) => True) _ _ (fun _ _ => trivial) trivial ?_
                    clear hK K
                    try dsimp only [Act.put]
                    have hb6 := hb5.trans (hW6.1.mono hsz5)
                    have own6 := ownsRow_keep own5 hW6.1
                    refine held_one 3 rfl (by kernel_rfl) (fun K hK => ?_)
                    refine step_append_src rfl _ _ 25 rfl w3.heap.size 9 i0 (.string ⟨#[]⟩) 16 Try.underlying25 hi hz0 hz1 hz2 rfl _ _ _ rfl own6 ⟨w5.heap.size, 0, none⟩ 1 1 [.string X] rfl rfl (fun j u hj => by
                      match j, hj with
                      | 0, hj => simp at hj; subst hj; exact hW6.2
                      | j + 1, hj => simp at hj) (oneS [X]) (by first | (unfold maxLen; simp; done) | (unfold maxLen; simp; omega)) (by first | (simp; done) | (simp; omega)) hb6.size ?_
                    intro v7 w7 own7 hg7
                    have hb7 := hb6.grown hg7 hb6.size (fun k hk => ownsRow_ge own6 k hk)
                    refine hK.out (fun (_ : World) => True) _ _ (fun _ _ => trivial) trivial ?_
                    clear hK K own6 hg7 hW6 hb6 own5
                    try dsimp only [Act.put]
                    have hyl : ((sj.map Value.string).drop q).length = 0 := by rw [List.length_drop, List.length_map]; have := HM.out; omega
                    have hrow7 := ownsRow_keep hrow.out hb7
                    have hcell : ∀ j u, ((sj.map Value.string).drop q)[j]? = some u → w7.cell? ((⟨g, q, none⟩ : Addr).add j) = some u := by
                      intro j u hj
                      rw [List.length_eq_zero_iff.1 hyl] at hj
                      simp at hj
                    have hone : ∀ u ∈ (sj.map Value.string).drop q, u.oneCell' = true := fun u hu => oneS sj u (List.mem_of_mem_drop hu)
                    refine held_one 7 rfl (by kernel_rfl) (fun K hK => ?_)
                    refine step_append_src rfl _ _ 25 rfl w3.heap.size 9 i0 (.string ⟨#[]⟩) 16 Try.underlying25 hi hz0 hz1 hz2 rfl _ _ _ rfl own7 ⟨g, q, none⟩ (cap - q) (0) ((sj.map Value.string).drop q) hyl rfl hcell hone (by rw [hyl]; unfold maxLen; simp; omega) (by rw [hyl]; simp; omega) hb7.size ?_
                    intro v8 w8 own8 hg8
                    have hb8 := hb7.grown hg8 hb7.size (fun k hk => ownsRow_ge own7 k hk)
                    refine hK.out (fun (_ : World) => True) _ _ (fun _ _ => trivial) trivial ?_
                    clear hK K hg8 own7 hb7 hrow7 hcell hone
                    try dsimp only [Act.put]
                    have hHU : (fun (_ : World) => True) w8 := trivial
                    refine wpAnyH_take (i := 8) (oi := ?oi1201) (v := ?vv1201) ?hi1201 ?hn1201 ?hf1201 ?hr1201 ?hq1201 (Or.inl ⟨?hg1201, ?hy1201⟩) hHU ?rest1201
                    case hi1201 => (simp only [List.getElem?_toArray, List.getElem?_cons_succ, List.getElem?_cons_zero]; rfl)
                    case hn1201 => kernel_rfl
                    case hf1201 => kernel_rfl
                    case hr1201 => kernel_rfl
                    case hg1201 => rfl
                    case hy1201 => (intro w hSw; (try dsimp only at hSw); go_simp; first | done | with_reducible rfl)
                    case hq1201 => exact fun _ _ _ h => h
                    try dsimp only [Act.put]
                    refine wpAnyH_done (by kernel_rfl) ?_ _
                    simp only [List.setIfInBounds_toArray]
                    have hins := ins_own (w := w8) (base := w3.heap.size) (v := v8) (x := X) (ss := sj) (f := q) HF.out (n := q + [Value.string X].length + ((sj.map Value.string).drop q).length) (by rw [hyl]; have := HM.out; simp; omega) (by
                      have h9 := own8
                      rw [List.map_take, List.map_drop]
                      exact h9)
                    replace hins := (hins.mono hbw3.size).mono hbw1.size
                    have hbw8 : Below w1.heap.size w1 w8 := hbw3.trans (hb8.mono hbw3.size)
                    clear own8 hb8 hyl
                    go_wp2_with fail
                    go_roundw
                    case rel => exact ⟨j + 1, _, by go_num, by omega, hins, fun h => (insB_ne _ _ h).elim, HX.out.symm, hbw8⟩
                    case measure => simp [intOf]; omega
        · obtain rfl : j = n := by omega
          have hfin : Hid (sj = accT t (i + 1)) := by
            show _ = _
            rw [he.out]
            exact hja.out j (by have := HN.out; omega)
          have hbwE := nx hbw1 hbw
          clear he hbw
          go_wp2_with fail
          go_roundw
          case rel => exact ⟨i + 1, sj, by go_num, by omega, hown, hnil, hfin, hbwE⟩
          case measure => simp [intOf]; omega
    · obtain rfl : i = 2 := by omega
      have hfin : Hid (ss = nearT t) := by show _ = _; rw [he.out, accT_two]
      clear he
      go_wp2_with fail
      go_ret
      exact ⟨_, by rw [← hfin.out]; exact hown.mono hb0.size, nx hb0 hbw, rfl⟩
end Go.Proofs.Ytkoebmdocenlkaa
