/- Texts that the claim needs, part 3. -/
import Derived.Test.YtllnfbenaeeloaaMgRotationDistance1
import Derived.Maps.AppendAt
import Derived.Sort.KeysCollected
import Derived.Deep.AppendLies
import Derived.WalkKit
import Derived.Lib.Bytealg
import Derived.Deep.RegionHeld3
/-! Nb2 -/
namespace Go.Proofs.Ytllnfbenaeeloaa
open Go.RowKit

/-- The texts in order behind i of both kinds of turns, and j of the next kind. -/
def kindB (i : Nat) : Bool := i == 1
def accT (t : Tr) : Nat → List ByteArray
  | 0 => []
  | i + 1 => insAll (turnL (kindB i) t (t.spots (kindB i) ⟨#[]⟩)) (accT t i)
theorem accT_two (t : Tr) : accT t 2 = nearT t := by
  show insAll (turnL true t _) (insAll (turnL false t _) []) = _
  unfold nearT reachT
  rw [insAll_append]
  rfl
def accJ (t : Tr) (i j : Nat) : List ByteArray := insAll ((turnL (kindB i) t (t.spots (kindB i) ⟨#[]⟩)).take j) (accT t i)
theorem accJ_zero (t : Tr) (i : Nat) : accJ t i 0 = accT t i := rfl
theorem accJ_all (t : Tr) (i : Nat) {j : Nat} (h : (t.spots (kindB i) ⟨#[]⟩).length ≤ j) : accJ t i j = accT t (i + 1) := by
  unfold accJ
  rw [List.take_of_length_le (by rw [turnL_len]; exact h)]; rfl
theorem accJ_succ (t : Tr) (i : Nat) {j : Nat} {a : ByteArray} {u : Tr} (h : (t.spots (kindB i) ⟨#[]⟩)[j]? = some a) (hu : t.rotAt (kindB i) a.data.toList = some u) : accJ t i (j + 1) = insB u.str (accJ t i j) := by
  unfold accJ
  have hj := (List.getElem?_eq_some_iff.1 h).1
  have hj' : j < (turnL (kindB i) t (t.spots (kindB i) ⟨#[]⟩)).length := by rw [turnL_len]; exact hj
  rw [List.take_succ_eq_append_getElem hj', insAll_append]
  have e9 : (turnL (kindB i) t (t.spots (kindB i) ⟨#[]⟩))[j]? = some u.str := by
    unfold turnL
    rw [List.getElem?_map, h]
    simp [hu]
  have e := (List.getElem?_eq_some_iff.1 e9).2
  rw [e]; rfl
theorem accT_len (t : Tr) (i : Nat) : (accT t i).length ≤ i * t.carets := by
  induction i with
  | zero => simp [accT]
  | succ i ih =>
    have := spots_len (k := kindB i) t ⟨#[]⟩
    show (insAll _ _).length ≤ _
    rw [insAll_length, turnL_len, Nat.succ_mul]; omega
theorem accJ_len (t : Tr) (i j : Nat) : (accJ t i j).length ≤ (i + 1) * t.carets := by
  have h1 := accT_len t i
  have h2 := spots_len (k := kindB i) t ⟨#[]⟩
  unfold accJ
  rw [insAll_length, List.length_take, turnL_len, Nat.succ_mul]; omega
theorem insB_ne (x : ByteArray) (l : List ByteArray) : insB x l = [] → False := by
  intro h
  have := insB_length x l
  rw [h] at this; simp at this
theorem ins_own {base : Nat} {w : World} {v : Value} {x : ByteArray} {ss : List ByteArray} {f n : Nat} (hf : f = frontB x ss) (hn : n = ss.length + 1) (h : w.ownsRow base 9 1 v n (((ss.take f).map Value.string ++ [Value.string x]) ++ (ss.drop f).map Value.string)) : OwnS base w v (insB x ss) := by
  unfold OwnS
  rw [insB_length, ← hn]
  unfold insB
  rw [← hf, List.map_append, List.map_append]
  exact h

set_option maxRecDepth 100000 in
set_option maxHeartbeats 2000000 in
theorem brNear_any (t : Tr) (w : World) (ht : t.carets ≤ 8) :
    Calls Try.prog 39 #[.string t.str] w (GivesOwn (nearT t) w) := by
  obtain ⟨i0, hi, hz0, hz1, hz2⟩ := info_parts info_str
  have hz : (⟨#[]⟩ : ByteArray).size = 0 := rfl
  have hPl : ∀ (k : Bool) (w : World), Calls Try.prog 62 #[.string t.str, .string ⟨#[]⟩, .bool k] w (GivesOwn (t.spots k ⟨#[]⟩) w) := fun k w => brPlaces_any k t ⟨#[]⟩ w (by omega) (by omega)
  have hAt : ∀ (k : Bool) (a : ByteArray) (u : Tr), a ∈ t.spots k ⟨#[]⟩ → t.rotAt k a.data.toList = some u → ∀ w, Calls Try.prog 63 #[.string t.str, .string a, .bool k] w (fun e w' => Below w.heap.size w w' ∧ e = .returned (.tuple #[.string u.str, .bool true])) := by
    intro k a u ha hu w
    have hsz := spots_size (k := k) t ⟨#[]⟩ a ha
    have h9 := brAt_any k _ t a w rfl (by omega) (by rw [← Lib.size_eq]; omega)
    rw [hu] at h9
    exact h9.mono fun e w' ⟨v, h2, h3, h4⟩ => ⟨h3, by rw [h4, h2]⟩
  have HAT := Lib.hid hAt
  clear hz hAt
  go_enter Try.func39, Try.ntmps39
  go_wp2_with fail
  have hb0 := nxAlloc (Below.refl w.heap.size w) (.cells #[.bool false, .bool true] 4 (0, 0))
  have hA0 := heap_alloc_at w (.cells #[.bool false, .bool true] 4 (0, 0))
  generalize w.alloc (.cells #[.bool false, .bool true] 4 (0, 0)) = w0 at *
  have hbl : ∀ i, i < 2 → w0.cell? ⟨w.heap.size, i, none⟩ = some (.bool (kindB i)) := by
    intro i hi
    have h9 := two_cells hA0
    match i, hi with
    | 0, _ => exact h9.1
    | 1, _ => exact h9.2
  have hgl : w.heap.size < w0.heap.size := lt_of_block hA0
  have HBL := Lib.hid hbl
  clear hbl hA0
  try go_wp2_with fail
  go_loopw [3, 14] (fun ov iv wr => ∃ (i : Nat) (ss : List ByteArray), iv = .int .i64 i ∧ i ≤ 2 ∧ OwnS w0.heap.size wr ov ss ∧ (ss = [] → ov = .slice none 0 0) ∧ Hid (ss = accT t i) ∧ Below w0.heap.size w0 wr) (fun _ iv _ => 2 - (intOf iv).toNat)
  case atStart => exact ⟨0, [], rfl, by omega, OwnS.nil _ _, fun _ => rfl, rfl, Below.refl _ _⟩
  case round =>
    obtain ⟨i, ss, rfl, hi2, hown, hnil, he, hbw⟩ := hrel
    by_cases hlt : i < 2
    · have hlt' : (i : Int) < 2 := by omega
      have c1 : wr.cell? ⟨w.heap.size, i, none⟩ = some (.bool (kindB i)) := (hbw.cell (p := ⟨w.heap.size, i, none⟩) hgl).trans (HBL.out i hlt)
      have hPk := fun w => hPl (kindB i) w
      have hLn := spots_len (k := kindB i) t ⟨#[]⟩
      have hmem := Lib.hid (fun a (h : a ∈ t.spots (kindB i) ⟨#[]⟩) => spots_mem0 h)
      have hjz := accJ_zero t i
      have hja := Lib.hid (fun j h => accJ_all t i (j := j) h)
      have hjs := Lib.hid (fun j a u h k => accJ_succ t i (j := j) (a := a) (u := u) h k)
      have hjl := Lib.hid (fun j => accJ_len t i j)
      have HAK := Lib.hid (fun a u h k w => HAT.out (kindB i) a u h k w)
      generalize kindB i = kb at *
      generalize t.spots kb ⟨#[]⟩ = L at *
      go_wp2_with fail
      refine (hPk _).mono ?_; rintro e w1 ⟨v1, own1, hb1, rfl⟩
      replace hown := hown.keep hb1
      have hbw1 := nx hbw hb1
      replace own1 := own1.mono hbw.size
      obtain ⟨oaP, cP, hvP, hPrd⟩ : ∃ oa c, v1 = .slice oa L.length c ∧ ∀ j, j < L.length → ∃ g, oa = some ⟨g, 0, none⟩ ∧ g < w1.heap.size ∧ w1.cell? ⟨g, j, none⟩ = some (.string (L.getD j ⟨#[]⟩)) := by
        obtain ⟨oa, c, h1, _, _, h4⟩ := own1.cells.form0
        exact ⟨oa, c, h1, fun j hj => by obtain ⟨g, k1, _, k3, k4⟩ := h4 j hj; exact ⟨g, k1, k3, k4⟩⟩
      obtain ⟨n, hn⟩ : ∃ n, n = L.length := ⟨_, rfl⟩
      rw [← hn] at hvP hLn hPrd
      have HN := Lib.hid hn
      have HPR := Lib.hid hPrd
      have hee : Hid (ss = accJ t i 0) := by show _ = _; rw [hjz]; exact he.out
      clear own1 hPk hPrd hn he hbw hb1 hjz
      subst hvP
      go_wp2_with fail
      go_loopw [3, 22] (fun ov jv w2 => ∃ (j : Nat) (ss : List ByteArray), jv = .int .i64 j ∧ j ≤ n ∧ OwnS w0.heap.size w2 ov ss ∧ (ss = [] → ov = .slice none 0 0) ∧ Hid (ss = accJ t i j) ∧ Below w1.heap.size w1 w2) (fun _ jv _ => n - (intOf jv).toNat)
      case atStart => exact ⟨0, ss, rfl, Nat.zero_le _, hown, hnil, hee, Below.refl _ _⟩
      case round =>
        clear hown hnil hee
        obtain ⟨j, sj, rfl, hj, hown, hnil, he, hbw⟩ := hrel
        by_cases hlj : j < n
        · have hlj' : (j : Int) < (n : Int) := by omega
          obtain ⟨gP, rfl, hgP, cP1⟩ := HPR.out j hlj
          have cP2 := (hbw.cell (p := ⟨gP, j, none⟩) hgP).trans cP1
          have hLj : L[j]? = some (L.getD j ⟨#[]⟩) := by
            have : j < L.length := by have := HN.out; omega
            simp [List.getElem?_eq_getElem this]
          obtain ⟨u, hu⟩ := hmem.out (L.getD j ⟨#[]⟩) (List.mem_of_getElem? hLj)
          have hAu := HAK.out _ u (List.mem_of_getElem? hLj) hu
          have hnext := hjs.out j _ u hLj hu
          rw [← he.out] at hnext
          have hsl : sj.length ≤ 24 := by
            have h9 := hjl.out j
            rw [← he.out] at h9
            have : (i + 1) * t.carets ≤ 2 * 8 := Nat.mul_le_mul (by omega) ht
            omega
          have HX := Lib.hid hnext
          generalize L.getD j ⟨#[]⟩ = a at *
          generalize hX : u.str = X at *
          have HXS := Lib.hid hX
          clear hnext hLj hu cP1 he hX
          go_wp2_with fail
          refine (hAu _).mono ?_; rintro e w3 ⟨hb3, rfl⟩
          replace hown := hown.keep hb3
          have hbw3 := nx hbw hb3
          clear hAu cP2 hbw hb3
          obtain ⟨f, hf⟩ : ∃ f, f = frontB X sj := ⟨_, rfl⟩
          have hfl : f ≤ sj.length := by rw [hf]; exact frontB_le X sj
          have hlow := Lib.hid (fun q (h : q < f) => frontB_lt (x := X) (l := sj) (k := q) (by omega))
          have hat := Lib.hid (fun (h : f < sj.length) => by
            have h9 := frontB_at (x := X) (l := sj) (by omega)
            rw [← hf] at h9
            exact h9)
          have HF := Lib.hid hf
          clear hf
          by_cases hs0 : sj = []
          · subst hs0
            obtain rfl := hnil rfl
            obtain rfl : f = 0 := by simpa using hfl
            go_wp2_with fail
            go_loop [10] (fun kv => kv = .int .i64 0) (fun _ => 0)
            case atStart => rfl
            case round =>
              obtain rfl := hrel
              have hE := ownsRow_empty w3 9
              have hb4 := nxAlloc (Below.refl w3.heap.size w3) (.cells #[] 9 (0, 0))
              have hsrc : ∀ w, SrcV w (.slice none 0 0) [] := fun w => .inl ⟨rfl, rfl⟩
              go_wp2_with (at_builtin; refine wpList_appSrc rfl _ _ 49 rfl w3.heap.size 9 i0 (.string ⟨#[]⟩) 16 Try.underlying49 hi hz0 hz1 hz2 rfl _ 0 [] rfl hE _ _ rfl (hsrc _) (fun u hu => by simp at hu) (by unfold maxLen; simp) (by simp) hb4.size ?_; intro v5 w5 o5 b5 n5)
              have own5 : w5.ownsRow w3.heap.size 9 1 v5 0 [] := by simpa using o5
              have hb5 := hb4.trans b5
              have hsz5 := hb5.size
              clear o5 b5 n5 hE hb4
              try go_wp2_with fail
              refine wp_region_held_drew (S := (fun (_ : World) => True)) (by kernel_rfl) trivial (fun hH0 => ?_)
              refine wpAnyH_take (i := 0) (oi := ?oi1401) (v := ?vv1401) ?hi1401 ?hn1401 ?hf1401 ?hr1401 ?hq1401 (Or.inl ⟨?hg1401, ?hy1401⟩) hH0 ?rest1401
              case hi1401 => (simp only [List.getElem?_toArray, List.getElem?_cons_zero]; rfl)
              case hn1401 => kernel_rfl
              case hf1401 => kernel_rfl
              case hr1401 => kernel_rfl
              case hg1401 => rfl
              case hy1401 => (intro w hSw; (try dsimp only at hSw); go_simp; first | done | with_reducible rfl)
              case hq1401 => exact fun _ _ _ h => h
              try dsimp only [Act.put]
              refine wpAnyH_take (i := 1) (oi := ?oi1402) (v := ?vv1402) ?hi1402 ?hn1402 ?hf1402 ?hr1402 ?hq1402 (Or.inl ⟨?hg1402, ?hy1402⟩) hH0 ?rest1402
              case hi1402 => (simp only [List.getElem?_toArray, List.getElem?_cons_succ, List.getElem?_cons_zero]; rfl)
              case hn1402 => kernel_rfl
              case hf1402 => kernel_rfl
              case hr1402 => kernel_rfl
              case hg1402 => rfl
              case hy1402 => (intro w hSw; (try dsimp only at hSw); go_simp; first | done | with_reducible rfl)
              case hq1402 => exact fun _ _ _ h => h
              try dsimp only [Act.put]
              refine wpAnyH_take (i := 4) (oi := ?oi1403) (v := ?vv1403) ?hi1403 ?hn1403 ?hf1403 ?hr1403 ?hq1403 (Or.inl ⟨?hg1403, ?hy1403⟩) hH0 ?rest1403
              case hi1403 => (simp only [List.getElem?_toArray, List.getElem?_cons_succ, List.getElem?_cons_zero]; rfl)
              case hn1403 => kernel_rfl
              case hf1403 => kernel_rfl
              case hr1403 => kernel_rfl
              case hg1403 => rfl
              case hy1403 => (intro w hSw; (try dsimp only at hSw); go_simp; first | done | with_reducible rfl)
              case hq1403 => exact fun _ _ _ h => h
              try dsimp only [Act.put]
              refine wpAnyH_take (i := 5) (oi := ?oi1404) (v := ?vv1404) ?hi1404 ?hn1404 ?hf1404 ?hr1404 ?hq1404 (Or.inl ⟨?hg1404, ?hy1404⟩) hH0 ?rest1404
              case hi1404 => (simp only [List.getElem?_toArray, List.getElem?_cons_succ, List.getElem?_cons_zero]; rfl)
              case hn1404 => kernel_rfl
              case hf1404 => kernel_rfl
              case hr1404 => kernel_rfl
              case hg1404 => rfl
              case hy1404 => (intro w hSw; (try dsimp only at hSw); go_simp; first | done | with_reducible rfl)
              case hq1404 => exact fun _ _ _ h => h
              try dsimp only [Act.put]
              refine wpAnyH_take (i := 6) (oi := ?oi1405) (v := ?vv1405) ?hi1405 ?hn1405 ?hf1405 ?hr1405 ?hq1405 (Or.inl ⟨?hg1405, ?hy1405⟩) hH0 ?rest1405
              case hi1405 => (simp only [List.getElem?_toArray, List.getElem?_cons_succ, List.getElem?_cons_zero]; rfl)
              case hn1405 => kernel_rfl
              case hf1405 => kernel_rfl
              case hr1405 => kernel_rfl
              case hg1405 => rfl
              case hy1405 => (intro w hSw; (try dsimp only at hSw); go_simp; first | done | with_reducible rfl)
              case hq1405 => exact fun _ _ _ h => h
              try dsimp only [Act.put]
              refine held_one 2 rfl (by kernel_rfl) (fun K hK => ?_)
              go_simp
              refine (fun (H : ∀ W : World, (Below w5.heap.size w5 W ∧ W.cell? ⟨w5.heap.size, 0, none⟩ = some (.string X)) → K _ W) => H _ ?hHx4) (fun W6 hW6 => ?mainx4)
              case hHx4 => exact ⟨nxAlloc (Below.refl w5.heap.size w5).drew (.cells #[.string X] 9 (0, 0)), cell_newB w5.drew #[.string X] 9 0 rfl⟩
              case mainx4 =>
              refine hK.out (fun (_ : World) => True) _ _ (fun _ _ => trivial) trivial ?_
              clear hK K
              try dsimp only [Act.put]
              have hb6 := hb5.trans (hW6.1.mono hsz5)
              have own6 := ownsRow_keep own5 hW6.1
              refine held_one 3 rfl (by kernel_rfl) (fun K hK => ?_)
              refine step_append_src rfl _ _ 49 rfl w3.heap.size 9 i0 (.string ⟨#[]⟩) 16 Try.underlying49 hi hz0 hz1 hz2 rfl _ _ _ rfl own6 ⟨w5.heap.size, 0, none⟩ 1 1 [.string X] rfl rfl (fun j u hj => by
                match j, hj with
                | 0, hj => simp at hj; subst hj; exact hW6.2
                | j + 1, hj => simp at hj) (oneS [X]) (by first | (unfold maxLen; simp; done) | (unfold maxLen; simp; omega)) (by first | (simp; done) | (simp; omega)) hb6.size ?_
              intro v7 w7 own7 hg7
              have hb7 := hb6.grown hg7 hb6.size (fun k hk => ownsRow_ge own6 k hk)
              refine hK.out (fun (_ : World) => True) _ _ (fun _ _ => trivial) trivial ?_
              clear hK K own6 hg7 hW6 hb6 own5
              try dsimp only [Act.put]
              refine held_one 7 rfl (by kernel_rfl) (fun K hK => ?_)
              refine step_append_none rfl _ _ 49 rfl w3.heap.size 9 i0 Try.underlying49 hi _ _ _ rfl own7 rfl ?_
              refine hK.out (fun (_ : World) => True) _ _ (fun _ _ => trivial) trivial ?_
              clear hK K
              try dsimp only [Act.put]
              have hHU : (fun (_ : World) => True) w7 := trivial
              refine wpAnyH_take (i := 8) (oi := ?oi1601) (v := ?vv1601) ?hi1601 ?hn1601 ?hf1601 ?hr1601 ?hq1601 (Or.inl ⟨?hg1601, ?hy1601⟩) hHU ?rest1601
              case hi1601 => (simp only [List.getElem?_toArray, List.getElem?_cons_succ, List.getElem?_cons_zero]; rfl)
              case hn1601 => kernel_rfl
              case hf1601 => kernel_rfl
              case hr1601 => kernel_rfl
              case hg1601 => rfl
              case hy1601 => (intro w hSw; (try dsimp only at hSw); go_simp; first | done | with_reducible rfl)
              case hq1601 => exact fun _ _ _ h => h
              try dsimp only [Act.put]
              refine wpAnyH_done (by kernel_rfl) ?_ _
              simp only [List.setIfInBounds_toArray]
              have hins := ins_own (w := w7) (base := w3.heap.size) (v := v7) (x := X) (ss := []) (f := 0) rfl (n := 1) rfl (by simpa using own7)
              replace hins := (hins.mono hbw3.size).mono hbw1.size
              have hbw8 : Below w1.heap.size w1 w7 := hbw3.trans (hb7.mono hbw3.size)
              clear own7 hb7
              go_wp2_with fail
              go_roundw
              case rel => exact ⟨j + 1, _, by go_num, by omega, hins, fun h => (insB_ne _ _ h).elim, HX.out.symm, hbw8⟩
              case measure => simp [intOf]; omega
          · obtain ⟨g, cap, rfl⟩ := hown.shape (by rcases sj with _ | ⟨x, l⟩; exact absurd rfl hs0; simp)
            have hcc : sj.length ≤ cap ∧ cap ≤ maxLen ∧ g < w3.heap.size ∧ ∀ q, q < sj.length → w3.cell? ⟨g, q, none⟩ = some (.string (sj.getD q ⟨#[]⟩)) := by
              rcases hown.cells with ⟨h9, _⟩ | ⟨g8, c8, h9, _, h11, h12, h13, h14, _⟩
              · cases h9
              · cases h9; exact ⟨h12, h13, h11, h14⟩
            obtain ⟨hcap, hcap9, hgw, hrd⟩ := hcc
            unfold maxLen at hcap9
            have HRD := Lib.hid hrd
            have hrow : Hid (w3.ownsRow w0.heap.size 9 1 (.slice (some ⟨g, 0, none⟩) sj.length cap) sj.length (sj.map Value.string)) := hown
            obtain ⟨m, hm⟩ : ∃ m, m = sj.length := ⟨_, rfl⟩
            rw [← hm] at hcap hfl hsl hrow ⊢
            have HM := Lib.hid hm
            clear hrd hown hnil hm
            go_wp2_with fail
            go_loop [10] (fun kv => ∃ q : Nat, kv = .int .i64 q ∧ q ≤ f) (fun kv => f - (intOf kv).toNat)
            case atStart => exact ⟨0, rfl, Nat.zero_le _⟩
            case round =>
              obtain ⟨q, rfl, hq⟩ := hrel
              by_cases hqf : q < f
              · have hqm : (q : Int) < (m : Int) := by omega
                have cq := HRD.out q (by have := HM.out; omega)
                have hless : Go.Op.bytesLess (sj.getD q ⟨#[]⟩).toList X.toList = true := by rw [less_eq]; simpa using hlow.out q hqf
                have hqm2 : q < m := by omega
                generalize sj.getD q ⟨#[]⟩ = y at *
                go_wp2_with fail
                go_round
                case rel => exact ⟨q + 1, by go_num, by omega⟩
                case measure => simp [intOf]; omega
              · obtain rfl : q = f := by omega
                by_cases hqm : q < m
                · have hqm2 : (q : Int) < (m : Int) := by omega
                  have cq := HRD.out q (by have := HM.out; omega)
                  have hless : Go.Op.bytesLess (sj.getD q ⟨#[]⟩).toList X.toList = false := by
                    rw [less_eq]
                    simpa using hat.out (by have := HM.out; omega)
                  generalize sj.getD q ⟨#[]⟩ = y at *
                  have hcq : ¬ cap = q := by omega
                  have hE := ownsRow_empty w3 9
                  have hb4 := nxAlloc (Below.refl w3.heap.size w3) (.cells #[] 9 (0, 0))
                  have hsrc := (src_take hrow.out q (by omega) cap).keep hb4
                  have hone : ∀ u ∈ (sj.map Value.string).take q, u.oneCell' = true := fun u hu => oneS sj u (List.mem_of_mem_take hu)
                  have hyl : ((sj.map Value.string).take q).length = q := by rw [List.length_take, List.length_map]; have := HM.out; omega
                  go_wp2_with (at_builtin; refine wpList_appSrc rfl _ _ 49 rfl w3.heap.size 9 i0 (.string ⟨#[]⟩) 16 Try.underlying49 hi hz0 hz1 hz2 rfl _ 0 [] rfl hE _ _ rfl hsrc hone (by rw [hyl]; unfold maxLen; omega) (by rw [hyl]; omega) hb4.size ?_; intro v5 w5 o5 b5 n5)
                  have own5 : w5.ownsRow w3.heap.size 9 1 v5 q ((sj.map Value.string).take q) := by
                    have h9 := o5
                    rw [hyl] at h9
                    simpa using h9
                  have hb5 := hb4.trans b5
                  have hsz5 := hb5.size
                  clear o5 b5 n5 hE hsrc hone hyl hb4
                  try go_wp2_with fail
                  refine wp_region_held_drew (S := (fun (_ : World) => True)) (by kernel_rfl) trivial (fun hH0 => ?_)
                  refine wpAnyH_take (i := 0) (oi := ?oi601) (v := ?vv601) ?hi601 ?hn601 ?hf601 ?hr601 ?hq601 (Or.inl ⟨?hg601, ?hy601⟩) hH0 ?rest601
                  case hi601 => (simp only [List.getElem?_toArray, List.getElem?_cons_zero]; rfl)
                  case hn601 => kernel_rfl
                  case hf601 => kernel_rfl
                  case hr601 => kernel_rfl
                  case hg601 => rfl
                  case hy601 => (intro w hSw; (try dsimp only at hSw); go_simp; first | done | with_reducible rfl)
                  case hq601 => exact fun _ _ _ h => h
                  try dsimp only [Act.put]
                  refine wpAnyH_take (i := 1) (oi := ?oi602) (v := ?vv602) ?hi602 ?hn602 ?hf602 ?hr602 ?hq602 (Or.inl ⟨?hg602, ?hy602⟩) hH0 ?rest602
                  case hi602 => (simp only [List.getElem?_toArray, List.getElem?_cons_succ, List.getElem?_cons_zero]; rfl)
                  case hn602 => kernel_rfl
                  case hf602 => kernel_rfl
                  case hr602 => kernel_rfl
                  case hg602 => rfl
                  case hy602 => (intro w hSw; (try dsimp only at hSw); go_simp; first | done | with_reducible rfl)
                  case hq602 => exact fun _ _ _ h => h
                  try dsimp only [Act.put]
                  refine wpAnyH_take (i := 4) (oi := ?oi603) (v := ?vv603) ?hi603 ?hn603 ?hf603 ?hr603 ?hq603 (Or.inl ⟨?hg603, ?hy603⟩) hH0 ?rest603
                  case hi603 => (simp only [List.getElem?_toArray, List.getElem?_cons_succ, List.getElem?_cons_zero]; rfl)
                  case hn603 => kernel_rfl
                  case hf603 => kernel_rfl
                  case hr603 => kernel_rfl
                  case hg603 => rfl
                  case hy603 => (intro w hSw; (try dsimp only at hSw); go_simp; first | done | with_reducible rfl)
                  case hq603 => exact fun _ _ _ h => h
                  try dsimp only [Act.put]
                  refine wpAnyH_take (i := 5) (oi := ?oi604) (v := ?vv604) ?hi604 ?hn604 ?hf604 ?hr604 ?hq604 (Or.inl ⟨?hg604, ?hy604⟩) hH0 ?rest604
                  case hi604 => (simp only [List.getElem?_toArray, List.getElem?_cons_succ, List.getElem?_cons_zero]; rfl)
                  case hn604 => kernel_rfl
                  case hf604 => kernel_rfl
                  case hr604 => kernel_rfl
                  case hg604 => rfl
                  case hy604 => (intro w hSw; (try dsimp only at hSw); go_simp; first | done | with_reducible rfl)
                  case hq604 => exact fun _ _ _ h => h
                  try dsimp only [Act.put]
                  refine wpAnyH_take (i := 6) (oi := ?oi605) (v := ?vv605) ?hi605 ?hn605 ?hf605 ?hr605 ?hq605 (Or.inl ⟨?hg605, ?hy605⟩) hH0 ?rest605
                  case hi605 => (simp only [List.getElem?_toArray, List.getElem?_cons_succ, List.getElem?_cons_zero]; rfl)
                  case hn605 => kernel_rfl
                  case hf605 => kernel_rfl
                  case hr605 => kernel_rfl
                  case hg605 => rfl
                  case hy605 => (intro w hSw; (try dsimp only at hSw); go_simp; first | done | with_reducible rfl)
                  case hq605 => exact fun _ _ _ h => h
                  try dsimp only [Act.put]
                  refine held_one 2 rfl (by kernel_rfl) (fun K hK => ?_)
                  go_simp
                  refine (fun (H : ∀ W : World, (Below w5.heap.size w5 W ∧ W.cell? ⟨w5.heap.size, 0, none⟩ = some (.string X)) → K _ W) => H _ ?hHx3) (fun W6 hW6 => ?mainx3)
                  case hHx3 => exact ⟨nxAlloc (Below.refl w5.heap.size w5).drew (.cells #[.string X] 9 (0, 0)), cell_newB w5.drew #[.string X] 9 0 rfl⟩
                  case mainx3 =>
                  refine hK.out (fun (_ : World) => True) _ _ (fun _ _ => trivial) trivial ?_
                  clear hK K
                  try dsimp only [Act.put]
                  have hb6 := hb5.trans (hW6.1.mono hsz5)
                  have own6 := ownsRow_keep own5 hW6.1
                  refine held_one 3 rfl (by kernel_rfl) (fun K hK => ?_)
                  refine step_append_src rfl _ _ 49 rfl w3.heap.size 9 i0 (.string ⟨#[]⟩) 16 Try.underlying49 hi hz0 hz1 hz2 rfl _ _ _ rfl own6 ⟨w5.heap.size, 0, none⟩ 1 1 [.string X] rfl rfl (fun j u hj => by
                    match j, hj with
                    | 0, hj => simp at hj; subst hj; exact hW6.2
                    | j + 1, hj => simp at hj) (oneS [X]) (by first | (unfold maxLen; simp; done) | (unfold maxLen; simp; omega)) (by first | (simp; done) | (simp; omega)) hb6.size ?_
                  intro v7 w7 own7 hg7
                  have hb7 := hb6.grown hg7 hb6.size (fun k hk => ownsRow_ge own6 k hk)
                  refine hK.out (fun (_ : World) => True) _ _ (fun _ _ => trivial) trivial ?_
                  clear hK K own6 hg7 hW6 hb6 own5
                  try dsimp only [Act.put]
                  have hyl : ((sj.map Value.string).drop q).length = m - q := by rw [List.length_drop, List.length_map]; have := HM.out; omega
                  have hrow7 := ownsRow_keep hrow.out hb7
                  have hcell : ∀ j u, ((sj.map Value.string).drop q)[j]? = some u → w7.cell? ((⟨g, q, none⟩ : Addr).add j) = some u := by
                    intro j u hj
                    rw [List.getElem?_drop] at hj
                    have hlt := (List.getElem?_eq_some_iff.1 hj).1
                    rw [List.length_map] at hlt
                    have e9 : (⟨g, q, none⟩ : Addr).add j = ⟨g, q + j, none⟩ := by
                      unfold Addr.add
                      split
                      · next h => rw [h]; simp
                      · rfl
                    rw [e9, World.ownsRow.cellAt hrow7 (q + j) (by have := HM.out; omega), hj]
                  have hone : ∀ u ∈ (sj.map Value.string).drop q, u.oneCell' = true := fun u hu => oneS sj u (List.mem_of_mem_drop hu)
                  refine held_one 7 rfl (by kernel_rfl) (fun K hK => ?_)
                  refine step_append_src rfl _ _ 49 rfl w3.heap.size 9 i0 (.string ⟨#[]⟩) 16 Try.underlying49 hi hz0 hz1 hz2 rfl _ _ _ rfl own7 ⟨g, q, none⟩ (cap - q) (m - q) ((sj.map Value.string).drop q) hyl rfl hcell hone (by rw [hyl]; unfold maxLen; simp; omega) (by rw [hyl]; simp; omega) hb7.size ?_
                  intro v8 w8 own8 hg8
                  have hb8 := hb7.grown hg8 hb7.size (fun k hk => ownsRow_ge own7 k hk)
                  refine hK.out (fun (_ : World) => True) _ _ (fun _ _ => trivial) trivial ?_
                  clear hK K hg8 own7 hb7 hrow7 hcell hone
                  try dsimp only [Act.put]
                  have hHU : (fun (_ : World) => True) w8 := trivial
                  refine wpAnyH_take (i := 8) (oi := ?oi801) (v := ?vv801) ?hi801 ?hn801 ?hf801 ?hr801 ?hq801 (Or.inl ⟨?hg801, ?hy801⟩) hHU ?rest801
                  case hi801 => (simp only [List.getElem?_toArray, List.getElem?_cons_succ, List.getElem?_cons_zero]; rfl)
                  case hn801 => kernel_rfl
                  case hf801 => kernel_rfl
                  case hr801 => kernel_rfl
                  case hg801 => rfl
                  case hy801 => (intro w hSw; (try dsimp only at hSw); go_simp; first | done | with_reducible rfl)
                  case hq801 => exact fun _ _ _ h => h
                  try dsimp only [Act.put]
                  refine wpAnyH_done (by kernel_rfl) ?_ _
                  simp only [List.setIfInBounds_toArray]
                  have hins := ins_own (w := w8) (base := w3.heap.size) (v := v8) (x := X) (ss := sj) (f := q) HF.out (n := q + [Value.string X].length + ((sj.map Value.string).drop q).length) (by rw [hyl]; have := HM.out; simp; omega) (by
                    have h9 := own8
                    rw [List.map_take, List.map_drop]
                    exact h9)
                  replace hins := (hins.mono hbw3.size).mono hbw1.size
                  have hbw8 : Below w1.heap.size w1 w8 := hbw3.trans (hb8.mono hbw3.size)
                  clear own8 hb8 hyl
                  go_wp2_with fail
                  go_roundw
                  case rel => exact ⟨j + 1, _, by go_num, by omega, hins, fun h => (insB_ne _ _ h).elim, HX.out.symm, hbw8⟩
                  case measure => simp [intOf]; omega
                · have hqm9 : q = m := by omega
                  subst hqm9
                  by_cases hcq : cap = q
                  · have hcq9 : q = cap := hcq.symm
                    subst hcq9
                    clear hcq
                    have hE := ownsRow_empty w3 9
                    have hb4 := nxAlloc (Below.refl w3.heap.size w3) (.cells #[] 9 (0, 0))
                    have hsrc := (src_take hrow.out q (by omega) q).keep hb4
                    have hone : ∀ u ∈ (sj.map Value.string).take q, u.oneCell' = true := fun u hu => oneS sj u (List.mem_of_mem_take hu)
                    have hyl : ((sj.map Value.string).take q).length = q := by rw [List.length_take, List.length_map]; have := HM.out; omega
                    go_wp2_with (at_builtin; refine wpList_appSrc rfl _ _ 49 rfl w3.heap.size 9 i0 (.string ⟨#[]⟩) 16 Try.underlying49 hi hz0 hz1 hz2 rfl _ 0 [] rfl hE _ _ rfl hsrc hone (by rw [hyl]; unfold maxLen; omega) (by rw [hyl]; omega) hb4.size ?_; intro v5 w5 o5 b5 n5)
                    have own5 : w5.ownsRow w3.heap.size 9 1 v5 q ((sj.map Value.string).take q) := by
                      have h9 := o5
                      rw [hyl] at h9
                      simpa using h9
                    have hb5 := hb4.trans b5
                    have hsz5 := hb5.size
                    clear o5 b5 n5 hE hsrc hone hyl hb4
                    try go_wp2_with fail
                    refine wp_region_held_drew (S := (fun (_ : World) => True)) (by kernel_rfl) trivial (fun hH0 => ?_)
                    refine wpAnyH_take (i := 0) (oi := ?oi201) (v := ?vv201) ?hi201 ?hn201 ?hf201 ?hr201 ?hq201 (Or.inl ⟨?hg201, ?hy201⟩) hH0 ?rest201
                    case hi201 => (simp only [List.getElem?_toArray, List.getElem?_cons_zero]; rfl)
                    case hn201 => kernel_rfl
                    case hf201 => kernel_rfl
                    case hr201 => kernel_rfl
                    case hg201 => rfl
                    case hy201 => (intro w hSw; (try dsimp only at hSw); go_simp; first | done | with_reducible rfl)
                    case hq201 => exact fun _ _ _ h => h
                    try dsimp only [Act.put]
                    refine wpAnyH_take (i := 1) (oi := ?oi202) (v := ?vv202) ?hi202 ?hn202 ?hf202 ?hr202 ?hq202 (Or.inl ⟨?hg202, ?hy202⟩) hH0 ?rest202
                    case hi202 => (simp only [List.getElem?_toArray, List.getElem?_cons_succ, List.getElem?_cons_zero]; rfl)
                    case hn202 => kernel_rfl
                    case hf202 => kernel_rfl
                    case hr202 => kernel_rfl
                    case hg202 => rfl
                    case hy202 => (intro w hSw; (try dsimp only at hSw); go_simp; first | done | with_reducible rfl)
                    case hq202 => exact fun _ _ _ h => h
                    try dsimp only [Act.put]
                    refine wpAnyH_take (i := 4) (oi := ?oi203) (v := ?vv203) ?hi203 ?hn203 ?hf203 ?hr203 ?hq203 (Or.inl ⟨?hg203, ?hy203⟩) hH0 ?rest203
                    case hi203 => (simp only [List.getElem?_toArray, List.getElem?_cons_succ, List.getElem?_cons_zero]; rfl)
                    case hn203 => kernel_rfl
                    case hf203 => kernel_rfl
                    case hr203 => kernel_rfl
                    case hg203 => rfl
                    case hy203 => (intro w hSw; (try dsimp only at hSw); go_simp; first | done | with_reducible rfl)
                    case hq203 => exact fun _ _ _ h => h
                    try dsimp only [Act.put]
                    refine wpAnyH_take (i := 5) (oi := ?oi204) (v := ?vv204) ?hi204 ?hn204 ?hf204 ?hr204 ?hq204 (Or.inl ⟨?hg204, ?hy204⟩) hH0 ?rest204
                    case hi204 => (simp only [List.getElem?_toArray, List.getElem?_cons_succ, List.getElem?_cons_zero]; rfl)
                    case hn204 => kernel_rfl
                    case hf204 => kernel_rfl
                    case hr204 => kernel_rfl
                    case hg204 => rfl
                    case hy204 => (intro w hSw; (try dsimp only at hSw); go_simp; first | done | with_reducible rfl)
                    case hq204 => exact fun _ _ _ h => h
                    try dsimp only [Act.put]
                    refine wpAnyH_take (i := 6) (oi := ?oi205) (v := ?vv205) ?hi205 ?hn205 ?hf205 ?hr205 ?hq205 (Or.inl ⟨?hg205, ?hy205⟩) hH0 ?rest205
                    case hi205 => (simp only [List.getElem?_toArray, List.getElem?_cons_succ, List.getElem?_cons_zero]; rfl)
                    case hn205 => kernel_rfl
                    case hf205 => kernel_rfl
                    case hr205 => kernel_rfl
                    case hg205 => rfl
                    case hy205 => (intro w hSw; (try dsimp only at hSw); go_simp; first | done | with_reducible rfl)
                    case hq205 => exact fun _ _ _ h => h
                    try dsimp only [Act.put]
                    refine held_one 2 rfl (by kernel_rfl) (fun K hK => ?_)
                    go_simp
                    refine (fun (H : ∀ W : World, (Below w5.heap.size w5 W ∧ W.cell? ⟨w5.heap.size, 0, none⟩ = some (.string X)) → K _ W) => H _ ?hHx1) (fun W6 hW6 => ?mainx1)
                    case hHx1 => exact ⟨nxAlloc (Below.refl w5.heap.size w5).drew (.cells #[.string X] 9 (0, 0)), cell_newB w5.drew #[.string X] 9 0 rfl⟩
                    case mainx1 =>
                    refine hK.out (fun (_ : World) => True) _ _ (fun _ _ => trivial) trivial ?_
                    clear hK K
                    try dsimp only [Act.put]
                    have hb6 := hb5.trans (hW6.1.mono hsz5)
                    have own6 := ownsRow_keep own5 hW6.1
                    refine held_one 3 rfl (by kernel_rfl) (fun K hK => ?_)
                    refine step_append_src rfl _ _ 49 rfl w3.heap.size 9 i0 (.string ⟨#[]⟩) 16 Try.underlying49 hi hz0 hz1 hz2 rfl _ _ _ rfl own6 ⟨w5.heap.size, 0, none⟩ 1 1 [.string X] rfl rfl (fun j u hj => by
                      match j, hj with
                      | 0, hj => simp at hj; subst hj; exact hW6.2
                      | j + 1, hj => simp at hj) (oneS [X]) (by first | (unfold maxLen; simp; done) | (unfold maxLen; simp; omega)) (by first | (simp; done) | (simp; omega)) hb6.size ?_
                    intro v7 w7 own7 hg7
                    have hb7 := hb6.grown hg7 hb6.size (fun k hk => ownsRow_ge own6 k hk)
                    refine hK.out (fun (_ : World) => True) _ _ (fun _ _ => trivial) trivial ?_
                    clear hK K own6 hg7 hW6 hb6 own5
                    try dsimp only [Act.put]
                    have hyl : ((sj.map Value.string).drop q).length = 0 := by rw [List.length_drop, List.length_map]; have := HM.out; omega
                    have hrow7 := ownsRow_keep hrow.out hb7
                    have hcell : ∀ j u, ((sj.map Value.string).drop q)[j]? = some u → w7.cell? ((⟨g, 0, none⟩ : Addr).add j) = some u := by
                      intro j u hj
                      rw [List.length_eq_zero_iff.1 hyl] at hj
                      simp at hj
                    have hone : ∀ u ∈ (sj.map Value.string).drop q, u.oneCell' = true := fun u hu => oneS sj u (List.mem_of_mem_drop hu)
                    refine held_one 7 rfl (by kernel_rfl) (fun K hK => ?_)
                    refine step_append_src rfl _ _ 49 rfl w3.heap.size 9 i0 (.string ⟨#[]⟩) 16 Try.underlying49 hi hz0 hz1 hz2 rfl _ _ _ rfl own7 ⟨g, 0, none⟩ (0) (0) ((sj.map Value.string).drop q) hyl rfl hcell hone (by rw [hyl]; unfold maxLen; simp; omega) (by rw [hyl]; simp; omega) hb7.size ?_
                    intro v8 w8 own8 hg8
                    have hb8 := hb7.grown hg8 hb7.size (fun k hk => ownsRow_ge own7 k hk)
                    refine hK.out (fun (_ : World) => True) _ _ (fun _ _ => trivial) trivial ?_
                    clear hK K hg8 own7 hb7 hrow7 hcell hone
                    try dsimp only [Act.put]
                    have hHU : (fun (_ : World) => True) w8 := trivial
                    refine wpAnyH_take (i := 8) (oi := ?oi1001) (v := ?vv1001) ?hi1001 ?hn1001 ?hf1001 ?hr1001 ?hq1001 (Or.inl ⟨?hg1001, ?hy1001⟩) hHU ?rest1001
                    case hi1001 => (simp only [List.getElem?_toArray, List.getElem?_cons_succ, List.getElem?_cons_zero]; rfl)
                    case hn1001 => kernel_rfl
                    case hf1001 => kernel_rfl
                    case hr1001 => kernel_rfl
                    case hg1001 => rfl
                    case hy1001 => (intro w hSw; (try dsimp only at hSw); go_simp; first | done | with_reducible rfl)
                    case hq1001 => exact fun _ _ _ h => h
                    try dsimp only [Act.put]
                    refine wpAnyH_done (by kernel_rfl) ?_ _
                    simp only [List.setIfInBounds_toArray]
                    have hins := ins_own (w := w8) (base := w3.heap.size) (v := v8) (x := X) (ss := sj) (f := q) HF.out (n := q + [Value.string X].length + ((sj.map Value.string).drop q).length) (by rw [hyl]; have := HM.out; simp; omega) (by
                      have h9 := own8
                      rw [List.map_take, List.map_drop]
                      exact h9)
                    replace hins := (hins.mono hbw3.size).mono hbw1.size
                    have hbw8 : Below w1.heap.size w1 w8 := hbw3.trans (hb8.mono hbw3.size)
                    clear own8 hb8 hyl
                    go_wp2_with fail
                    go_roundw
                    case rel => exact ⟨j + 1, _, by go_num, by omega, hins, fun h => (insB_ne _ _ h).elim, HX.out.symm, hbw8⟩
                    case measure => simp [intOf]; omega
                  · have hq99 := hcq
                    have hE := ownsRow_empty w3 9
                    have hb4 := nxAlloc (Below.refl w3.heap.size w3) (.cells #[] 9 (0, 0))
                    have hsrc := (src_take hrow.out q (by omega) cap).keep hb4
                    have hone : ∀ u ∈ (sj.map Value.string).take q, u.oneCell' = true := fun u hu => oneS sj u (List.mem_of_mem_take hu)
                    have hyl : ((sj.map Value.string).take q).length = q := by rw [List.length_take, List.length_map]; have := HM.out; omega
                    go_wp2_with (at_builtin; refine wpList_appSrc rfl _ _ 49 rfl w3.heap.size 9 i0 (.string ⟨#[]⟩) 16 Try.underlying49 hi hz0 hz1 hz2 rfl _ 0 [] rfl hE _ _ rfl hsrc hone (by rw [hyl]; unfold maxLen; omega) (by rw [hyl]; omega) hb4.size ?_; intro v5 w5 o5 b5 n5)
                    have own5 : w5.ownsRow w3.heap.size 9 1 v5 q ((sj.map Value.string).take q) := by
                      have h9 := o5
                      rw [hyl] at h9
                      simpa using h9
                    have hb5 := hb4.trans b5
                    have hsz5 := hb5.size
                    clear o5 b5 n5 hE hsrc hone hyl hb4
                    try go_wp2_with fail
                    refine wp_region_held_drew (S := (fun (_ : World) => True)) (by kernel_rfl) trivial (fun hH0 => ?_)
                    refine wpAnyH_take (i := 0) (oi := ?oi401) (v := ?vv401) ?hi401 ?hn401 ?hf401 ?hr401 ?hq401 (Or.inl ⟨?hg401, ?hy401⟩) hH0 ?rest401
                    case hi401 => (simp only [List.getElem?_toArray, List.getElem?_cons_zero]; rfl)
                    case hn401 => kernel_rfl
                    case hf401 => kernel_rfl
                    case hr401 => kernel_rfl
                    case hg401 => rfl
                    case hy401 => (intro w hSw; (try dsimp only at hSw); go_simp; first | done | with_reducible rfl)
                    case hq401 => exact fun _ _ _ h => h
                    try dsimp only [Act.put]
                    refine wpAnyH_take (i := 1) (oi := ?oi402) (v := ?vv402) ?hi402 ?hn402 ?hf402 ?hr402 ?hq402 (Or.inl ⟨?hg402, ?hy402⟩) hH0 ?rest402
                    case hi402 => (simp only [List.getElem?_toArray, List.getElem?_cons_succ, List.getElem?_cons_zero]; rfl)
                    case hn402 => kernel_rfl
                    case hf402 => kernel_rfl
                    case hr402 => kernel_rfl
                    case hg402 => rfl
                    case hy402 => (intro w hSw; (try dsimp only at hSw); go_simp; first | done | with_reducible rfl)
                    case hq402 => exact fun _ _ _ h => h
                    try dsimp only [Act.put]
                    refine wpAnyH_take (i := 4) (oi := ?oi403) (v := ?vv403) ?hi403 ?hn403 ?hf403 ?hr403 ?hq403 (Or.inl ⟨?hg403, ?hy403⟩) hH0 ?rest403
                    case hi403 => (simp only [List.getElem?_toArray, List.getElem?_cons_succ, List.getElem?_cons_zero]; rfl)
                    case hn403 => kernel_rfl
                    case hf403 => kernel_rfl
                    case hr403 => kernel_rfl
                    case hg403 => rfl
                    case hy403 => (intro w hSw; (try dsimp only at hSw); go_simp; first | done | with_reducible rfl)
                    case hq403 => exact fun _ _ _ h => h
                    try dsimp only [Act.put]
                    refine wpAnyH_take (i := 5) (oi := ?oi404) (v := ?vv404) ?hi404 ?hn404 ?hf404 ?hr404 ?hq404 (Or.inl ⟨?hg404, ?hy404⟩) hH0 ?rest404
                    case hi404 => (simp only [List.getElem?_toArray, List.getElem?_cons_succ, List.getElem?_cons_zero]; rfl)
                    case hn404 => kernel_rfl
                    case hf404 => kernel_rfl
                    case hr404 => kernel_rfl
                    case hg404 => rfl
                    case hy404 => (intro w hSw; (try dsimp only at hSw); go_simp; first | done | with_reducible rfl)
                    case hq404 => exact fun _ _ _ h => h
                    try dsimp only [Act.put]
                    refine wpAnyH_take (i := 6) (oi := ?oi405) (v := ?vv405) ?hi405 ?hn405 ?hf405 ?hr405 ?hq405 (Or.inl ⟨?hg405, ?hy405⟩) hH0 ?rest405
                    case hi405 => (simp only [List.getElem?_toArray, List.getElem?_cons_succ, List.getElem?_cons_zero]; rfl)
                    case hn405 => kernel_rfl
                    case hf405 => kernel_rfl
                    case hr405 => kernel_rfl
                    case hg405 => rfl
                    case hy405 => (intro w hSw; (try dsimp only at hSw); go_simp; first | done | with_reducible rfl)
                    case hq405 => exact fun _ _ _ h => h
                    try dsimp only [Act.put]
                    refine held_one 2 rfl (by kernel_rfl) (fun K hK => ?_)
                    go_simp
                    refine (fun (H : ∀ W : World, (Below w5.heap.size w5 W ∧ W.cell? ⟨w5.heap.size, 0, none⟩ = some (.string X)) → K _ W) => H _ ?hHx2) (fun W6 hW6 => ?mainx2)
                    case hHx2 => exact ⟨nxAlloc (Below.refl w5.heap.size w5).drew (.cells #[.string X] 9 (0, 0)), cell_newB w5.drew #[.string X] 9 0 rfl⟩
                    case mainx2 =>
                    refine hK.out (fun (_ : World) => True) _ _ (fun _ _ => trivial) trivial ?_
                    clear hK K
                    try dsimp only [Act.put]
                    have hb6 := hb5.trans (hW6.1.mono hsz5)
                    have own6 := ownsRow_keep own5 hW6.1
                    refine held_one 3 rfl (by kernel_rfl) (fun K hK => ?_)
                    refine step_append_src rfl _ _ 49 rfl w3.heap.size 9 i0 (.string ⟨#[]⟩) 16 Try.underlying49 hi hz0 hz1 hz2 rfl _ _ _ rfl own6 ⟨w5.heap.size, 0, none⟩ 1 1 [.string X] rfl rfl (fun j u hj => by
                      match j, hj with
                      | 0, hj => simp at hj; subst hj; exact hW6.2
                      | j + 1, hj => simp at hj) (oneS [X]) (by first | (unfold maxLen; simp; done) | (unfold maxLen; simp; omega)) (by first | (simp; done) | (simp; omega)) hb6.size ?_
                    intro v7 w7 own7 hg7
                    have hb7 := hb6.grown hg7 hb6.size (fun k hk => ownsRow_ge own6 k hk)
                    refine hK.out (fun (_ : World) => True) _ _ (fun _ _ => trivial) trivial ?_
                    clear hK K own6 hg7 hW6 hb6 own5
                    try dsimp only [Act.put]
                    have hyl : ((sj.map Value.string).drop q).length = 0 := by rw [List.length_drop, List.length_map]; have := HM.out; omega
                    have hrow7 := ownsRow_keep hrow.out hb7
                    have hcell : ∀ j u, ((sj.map Value.string).drop q)[j]? = some u → w7.cell? ((⟨g, q, none⟩ : Addr).add j) = some u := by
                      intro j u hj
                      rw [List.length_eq_zero_iff.1 hyl] at hj
                      simp at hj
                    have hone : ∀ u ∈ (sj.map Value.string).drop q, u.oneCell' = true := fun u hu => oneS sj u (List.mem_of_mem_drop hu)
                    refine held_one 7 rfl (by kernel_rfl) (fun K hK => ?_)
                    refine step_append_src rfl _ _ 49 rfl w3.heap.size 9 i0 (.string ⟨#[]⟩) 16 Try.underlying49 hi hz0 hz1 hz2 rfl _ _ _ rfl own7 ⟨g, q, none⟩ (cap - q) (0) ((sj.map Value.string).drop q) hyl rfl hcell hone (by rw [hyl]; unfold maxLen; simp; omega) (by rw [hyl]; simp; omega) hb7.size ?_
                    intro v8 w8 own8 hg8
                    have hb8 := hb7.grown hg8 hb7.size (fun k hk => ownsRow_ge own7 k hk)
                    refine hK.out (fun (_ : World) => True) _ _ (fun _ _ => trivial) trivial ?_
                    clear hK K hg8 own7 hb7 hrow7 hcell hone
                    try dsimp only [Act.put]
                    have hHU : (fun (_ : World) => True) w8 := trivial
                    refine wpAnyH_take (i := 8) (oi := ?oi1201) (v := ?vv1201) ?hi1201 ?hn1201 ?hf1201 ?hr1201 ?hq1201 (Or.inl ⟨?hg1201, ?hy1201⟩) hHU ?rest1201
                    case hi1201 => (simp only [List.getElem?_toArray, List.getElem?_cons_succ, List.getElem?_cons_zero]; rfl)
                    case hn1201 => kernel_rfl
                    case hf1201 => kernel_rfl
                    case hr1201 => kernel_rfl
                    case hg1201 => rfl
                    case hy1201 => (intro w hSw; (try dsimp only at hSw); go_simp; first | done | with_reducible rfl)
                    case hq1201 => exact fun _ _ _ h => h
                    try dsimp only [Act.put]
                    refine wpAnyH_done (by kernel_rfl) ?_ _
                    simp only [List.setIfInBounds_toArray]
                    have hins := ins_own (w := w8) (base := w3.heap.size) (v := v8) (x := X) (ss := sj) (f := q) HF.out (n := q + [Value.string X].length + ((sj.map Value.string).drop q).length) (by rw [hyl]; have := HM.out; simp; omega) (by
                      have h9 := own8
                      rw [List.map_take, List.map_drop]
                      exact h9)
                    replace hins := (hins.mono hbw3.size).mono hbw1.size
                    have hbw8 : Below w1.heap.size w1 w8 := hbw3.trans (hb8.mono hbw3.size)
                    clear own8 hb8 hyl
                    go_wp2_with fail
                    go_roundw
                    case rel => exact ⟨j + 1, _, by go_num, by omega, hins, fun h => (insB_ne _ _ h).elim, HX.out.symm, hbw8⟩
                    case measure => simp [intOf]; omega
        · obtain rfl : j = n := by omega
          have hfin : Hid (sj = accT t (i + 1)) := by
            show _ = _
            rw [he.out]
            exact hja.out j (by have := HN.out; omega)
          have hbwE := nx hbw1 hbw
          clear he hbw
          go_wp2_with fail
          go_roundw
          case rel => exact ⟨i + 1, sj, by go_num, by omega, hown, hnil, hfin, hbwE⟩
          case measure => simp [intOf]; omega
    · obtain rfl : i = 2 := by omega
      have hfin : Hid (ss = nearT t) := by show _ = _; rw [he.out, accT_two]
      clear he
      go_wp2_with fail
      go_ret
      exact ⟨_, by rw [← hfin.out]; exact hown.mono hb0.size, nx hb0 hbw, rfl⟩
end Go.Proofs.Ytllnfbenaeeloaa

/-! Pl2 -/
namespace Go.Proofs.Ytllnfbenaeeloaa
open Go.RowKit

set_option maxRecDepth 100000 in
set_option maxHeartbeats 4000000 in
theorem placesFrom_any (k : Bool) (t : Tr) : ∀ (b : Nat) (here : ByteArray) (w : World), NodeAt w t b → t.carets ≤ 60 → here.size + t.carets ≤ 1000 →
    Calls Try.prog 95 #[.pointer (some ⟨b, 0, none⟩), .string here, .func (Fn.func (turnF k)) #[] #[]] w (GivesOwn (t.spots k here) w) := by
  obtain ⟨i0, hi, hz0, hz1, hz2⟩ := info_parts info_str
  have hcall := turn_call k
  induction t with
  | lf =>
    intro b here w hn ht hh
    have H := Lib.hid hn
    clear hn
    generalize turnF k = fk at *
    go_enter Try.func95, Try.ntmps95
    go_wp2_with fail
    refine (isLeaf_any .lf b _ H.out).mono ?_; rintro e w1 ⟨rfl, rfl⟩
    simp only [Tr.isLf]
    go_wp2_with fail
    go_ret
    exact ⟨_, OwnS.nil _ _, Below.refl _ _, rfl⟩
  | nd l r ihl ihr =>
    intro b here w hn ht hh
    have ht' : l.carets + r.carets + 1 ≤ 60 := ht
    have hh' : here.size + (l.carets + r.carets + 1) ≤ 1000 := hh
    have ll := spots_len (k := k) l (here ++ ⟨#[48]⟩)
    have lr := spots_len (k := k) r (here ++ ⟨#[49]⟩)
    have hC : (Tr.nd l r).spots k here = (Tr.nd l r).here1 k here ++ (l.spots k (here ++ ⟨#[48]⟩) ++ r.spots k (here ++ ⟨#[49]⟩)) := rfl
    have s0 : (here ++ (⟨#[48]⟩ : ByteArray)).size = here.size + 1 := ByteArray.size_append
    have s1 : (here ++ (⟨#[49]⟩ : ByteArray)).size = here.size + 1 := ByteArray.size_append
    have hR := turn_any k (.nd l r) b w hn
    have H := Lib.hid hn
    have HLT := hn.lt
    obtain ⟨bl, br, h, hl, hr⟩ := hn
    have h1 := two_left h
    have h2 := two_right h
    have HL := Lib.hid hl
    have HR := Lib.hid hr
    have jl := fun w hx => ihl bl (here ++ ⟨#[48]⟩) w hx (by omega) (by omega)
    have jr := fun w hx => ihr br (here ++ ⟨#[49]⟩) w hx (by omega) (by omega)
    rw [hC]
    generalize l.spots k (here ++ ⟨#[48]⟩) = L1 at *
    generalize r.spots k (here ++ ⟨#[49]⟩) = L2 at *
    have hz9 : here.size ≤ 1000 := by omega
    have hz3 : (9223372036854775807 < here.size + 1) = False := eq_false (by omega)
    have h1n : L1.length ≤ 60 := by omega
    have h2n : L2.length ≤ 60 := by omega
    have hb0 := Below.refl w.heap.size w
    clear ihl ihr s0 s1 ll lr hC h hl hr
    cases hg : ((Tr.nd l r).rot k) with
    | none =>
      rw [here1_no (by rw [hg]; rfl), List.nil_append]
      rw [hg] at hR
      have hR' : Calls Try.prog (turnF k) #[.pointer (some ⟨b, 0, none⟩)] w (fun e w' => Below w.heap.size w w' ∧ e = .returned (.pointer none)) := hR
      clear hR hg
      generalize turnF k = fk at *
      go_enter Try.func95, Try.ntmps95
      go_wp2_with fail
      refine (isLeaf_any (.nd l r) b _ H.out).mono ?_; rintro e w1 ⟨rfl, rfl⟩
      simp only [Tr.isLf]
      go_wp2_with fail
      refine hR'.mono ?_; rintro e w2 ⟨hb2x, rfl⟩
      clear hR'
      have SR0 : Hid (SrcT w2 (Value.slice none 0 0) []) := ⟨.inl ⟨rfl, rfl⟩, none, 0, rfl⟩
      go_wp2_with fail
      have cc := keep_two hb2x HLT ⟨h1, h2⟩
      have hbd := hb2x.drew
      refine wp_region_held_drew (S := (fun (w' : World) => (w'.cell? ⟨b, 0, none⟩ = some (.pointer (some ⟨bl, 0, none⟩)) ∧ w'.cell? ⟨b, 1, none⟩ = some (.pointer (some ⟨br, 0, none⟩))) ∧ Below w.heap.size w w')) (by kernel_rfl) ⟨cc, hb2x.drew⟩ (fun hH0 => ?_)
      refine wpAnyH_take (i := 0) (oi := ?oi201) (v := ?vv201) ?hi201 ?hn201 ?hf201 ?hr201 ?hq201 (Or.inl ⟨?hg201, ?hy201⟩) hH0 ?rest201
      case hi201 => (simp only [List.getElem?_toArray, List.getElem?_cons_zero]; rfl)
      case hn201 => kernel_rfl
      case hf201 => kernel_rfl
      case hr201 => kernel_rfl
      case hg201 => rfl
      case hy201 => (intro w hSw; (try dsimp only at hSw); go_simp; first | done | with_reducible rfl)
      case hq201 => exact fun _ _ _ h => h
      try dsimp only [Act.put]
      refine wpAnyH_take (i := 1) (oi := ?oi202) (v := ?vv202) ?hi202 ?hn202 ?hf202 ?hr202 ?hq202 (Or.inl ⟨?hg202, ?hy202⟩) hH0 ?rest202
      case hi202 => (simp only [List.getElem?_toArray, List.getElem?_cons_succ, List.getElem?_cons_zero]; rfl)
      case hn202 => kernel_rfl
      case hf202 => kernel_rfl
      case hr202 => kernel_rfl
      case hg202 => rfl
      case hy202 => (intro w hSw; (try dsimp only at hSw); go_simp; first | done | with_reducible rfl)
      case hq202 => exact fun _ _ _ h => h
      try dsimp only [Act.put]
      refine wpAnyH_take (i := 2) (oi := ?oi203) (v := ?vv203) ?hi203 ?hn203 ?hf203 ?hr203 ?hq203 (Or.inl ⟨?hg203, ?hy203⟩) hH0 ?rest203
      case hi203 => (simp only [List.getElem?_toArray, List.getElem?_cons_succ, List.getElem?_cons_zero]; rfl)
      case hn203 => kernel_rfl
      case hf203 => kernel_rfl
      case hr203 => kernel_rfl
      case hg203 => rfl
      case hy203 => (intro w hSw; (try dsimp only at hSw); go_simp; first | done | with_reducible rfl)
      case hq203 => exact fun _ _ _ h => h
      try dsimp only [Act.put]
      refine wpAnyH_take (i := 3) (oi := ?oi204) (v := ?vv204) ?hi204 ?hn204 ?hf204 ?hr204 ?hq204 (Or.inl ⟨?hg204, ?hy204⟩) hH0 ?rest204
      case hi204 => (simp only [List.getElem?_toArray, List.getElem?_cons_succ, List.getElem?_cons_zero]; rfl)
      case hn204 => kernel_rfl
      case hf204 => kernel_rfl
      case hr204 => kernel_rfl
      case hg204 => rfl
      case hy204 => (intro w hSw; (try dsimp only at hSw); go_simp; first | done | with_reducible rfl)
      case hq204 => exact fun _ _ _ h => h
      try dsimp only [Act.put]
      refine wpAnyH_take (i := 4) (oi := ?oi205) (v := ?vv205) ?hi205 ?hn205 ?hf205 ?hr205 ?hq205 (Or.inl ⟨?hg205, ?hy205⟩) hH0 ?rest205
      case hi205 => (simp only [List.getElem?_toArray, List.getElem?_cons_succ, List.getElem?_cons_zero]; rfl)
      case hn205 => kernel_rfl
      case hf205 => kernel_rfl
      case hr205 => kernel_rfl
      case hg205 => rfl
      case hy205 => (intro w hSw; (try dsimp only at hSw); go_simp; first | done | with_reducible rfl)
      case hq205 => exact fun _ _ _ h => h
      try dsimp only [Act.put]
      refine wpAnyH_take (i := 5) (oi := ?oi206) (v := ?vv206) ?hi206 ?hn206 ?hf206 ?hr206 ?hq206 (Or.inl ⟨?hg206, ?hy206⟩) hH0 ?rest206
      case hi206 => (simp only [List.getElem?_toArray, List.getElem?_cons_succ, List.getElem?_cons_zero]; rfl)
      case hn206 => kernel_rfl
      case hf206 => kernel_rfl
      case hr206 => kernel_rfl
      case hg206 => rfl
      case hy206 => (intro w hSw; (try dsimp only at hSw); go_simp; first | done | with_reducible rfl)
      case hq206 => exact fun _ _ _ h => h
      try dsimp only [Act.put]
      refine wpAnyH_take (i := 6) (oi := ?oi207) (v := ?vv207) ?hi207 ?hn207 ?hf207 ?hr207 ?hq207 (Or.inl ⟨?hg207, ?hy207⟩) hH0 ?rest207
      case hi207 => (simp only [List.getElem?_toArray, List.getElem?_cons_succ, List.getElem?_cons_zero]; rfl)
      case hn207 => kernel_rfl
      case hf207 => kernel_rfl
      case hr207 => kernel_rfl
      case hg207 => rfl
      case hy207 => (intro w hSw; (try dsimp only at hSw); go_simp; first | done | with_reducible rfl)
      case hq207 => exact fun _ _ _ h => h
      try dsimp only [Act.put]
      refine wpAnyH_take (i := 7) (oi := ?oi208) (v := ?vv208) ?hi208 ?hn208 ?hf208 ?hr208 ?hq208 (Or.inl ⟨?hg208, ?hy208⟩) hH0 ?rest208
      case hi208 => (simp only [List.getElem?_toArray, List.getElem?_cons_succ, List.getElem?_cons_zero]; rfl)
      case hn208 => kernel_rfl
      case hf208 => kernel_rfl
      case hr208 => kernel_rfl
      case hg208 => rfl
      case hy208 => (intro w hSw; (try dsimp only at hSw); go_simp; first | done | with_reducible rfl)
      case hq208 => exact fun _ _ _ h => h
      try dsimp only [Act.put]
      refine wpAnyH_take (i := 9) (oi := ?oi209) (v := ?vv209) ?hi209 ?hn209 ?hf209 ?hr209 ?hq209 (Or.inl ⟨?hg209, ?hy209⟩) hH0 ?rest209
      case hi209 => (simp only [List.getElem?_toArray, List.getElem?_cons_succ, List.getElem?_cons_zero]; rfl)
      case hn209 => kernel_rfl
      case hf209 => kernel_rfl
      case hr209 => kernel_rfl
      case hg209 => rfl
      case hy209 => (intro w hSw; (try dsimp only at hSw); go_simp; first | done | with_reducible rfl)
      case hq209 => exact fun _ _ _ h => h
      try dsimp only [Act.put]
      refine wpAnyH_take (i := 10) (oi := ?oi210) (v := ?vv210) ?hi210 ?hn210 ?hf210 ?hr210 ?hq210 (Or.inl ⟨?hg210, ?hy210⟩) hH0 ?rest210
      case hi210 => (simp only [List.getElem?_toArray, List.getElem?_cons_succ, List.getElem?_cons_zero]; rfl)
      case hn210 => kernel_rfl
      case hf210 => kernel_rfl
      case hr210 => kernel_rfl
      case hg210 => rfl
      case hy210 => (intro w hSw; (try dsimp only at hSw); go_simp; first | done | with_reducible rfl)
      case hq210 => exact fun _ _ _ h => h
      try dsimp only [Act.put]
      refine wpAnyH_take (i := 11) (oi := ?oi211) (v := ?vv211) ?hi211 ?hn211 ?hf211 ?hr211 ?hq211 (Or.inl ⟨?hg211, ?hy211⟩) hH0 ?rest211
      case hi211 => (simp only [List.getElem?_toArray, List.getElem?_cons_succ, List.getElem?_cons_zero]; rfl)
      case hn211 => kernel_rfl
      case hf211 => kernel_rfl
      case hr211 => kernel_rfl
      case hg211 => rfl
      case hy211 => (intro w hSw; (try dsimp only at hSw); go_simp; first | done | with_reducible rfl)
      case hq211 => exact fun _ _ _ h => h
      try dsimp only [Act.put]
      refine wpAnyH_take (i := 12) (oi := ?oi212) (v := ?vv212) ?hi212 ?hn212 ?hf212 ?hr212 ?hq212 (Or.inl ⟨?hg212, ?hy212⟩) hH0 ?rest212
      case hi212 => (simp only [List.getElem?_toArray, List.getElem?_cons_succ, List.getElem?_cons_zero]; rfl)
      case hn212 => kernel_rfl
      case hf212 => kernel_rfl
      case hr212 => kernel_rfl
      case hg212 => rfl
      case hy212 => (intro w hSw; (try dsimp only at hSw); go_simp; first | done | with_reducible rfl)
      case hq212 => exact fun _ _ _ h => h
      try dsimp only [Act.put]
      refine wpAnyH_take (i := 13) (oi := ?oi213) (v := ?vv213) ?hi213 ?hn213 ?hf213 ?hr213 ?hq213 (Or.inl ⟨?hg213, ?hy213⟩) hH0 ?rest213
      case hi213 => (simp only [List.getElem?_toArray, List.getElem?_cons_succ, List.getElem?_cons_zero]; rfl)
      case hn213 => kernel_rfl
      case hf213 => kernel_rfl
      case hr213 => kernel_rfl
      case hg213 => rfl
      case hy213 => (intro w hSw; (try dsimp only at hSw); go_simp; first | done | with_reducible rfl)
      case hq213 => exact fun _ _ _ h => h
      try dsimp only [Act.put]
      refine wpAnyH_take (i := 14) (oi := ?oi214) (v := ?vv214) ?hi214 ?hn214 ?hf214 ?hr214 ?hq214 (Or.inl ⟨?hg214, ?hy214⟩) hH0 ?rest214
      case hi214 => (simp only [List.getElem?_toArray, List.getElem?_cons_succ, List.getElem?_cons_zero]; rfl)
      case hn214 => kernel_rfl
      case hf214 => kernel_rfl
      case hr214 => kernel_rfl
      case hg214 => rfl
      case hy214 => (intro w hSw; (try dsimp only at hSw); go_simp; first | done | with_reducible rfl)
      case hq214 => exact fun _ _ _ h => h
      try dsimp only [Act.put]
      refine wpAnyH_take (i := 15) (oi := ?oi215) (v := ?vv215) ?hi215 ?hn215 ?hf215 ?hr215 ?hq215 (Or.inl ⟨?hg215, ?hy215⟩) hH0 ?rest215
      case hi215 => (simp only [List.getElem?_toArray, List.getElem?_cons_succ, List.getElem?_cons_zero]; rfl)
      case hn215 => kernel_rfl
      case hf215 => kernel_rfl
      case hr215 => kernel_rfl
      case hg215 => rfl
      case hy215 => (intro w hSw; (try dsimp only at hSw); go_simp; first | done | with_reducible rfl)
      case hq215 => exact fun _ _ _ h => h
      try dsimp only [Act.put]
      refine held_one 8 rfl (by kernel_rfl) (fun K hK => ?_)
      go_simp
      refine (jl _ (HL.out.keep hbd)).mono ?_; rintro e W1 ⟨v1, own1, hb1, rfl⟩
      obtain ⟨oa1, c1, rfl, src1⟩ := own1.srcT
      have SR1 := Lib.hid src1
      generalize hn1 : L1.length = n1 at *
      have HN1 := Lib.hid hn1
      clear hn1 src1 own1
      go_wp2_with fail
      have hH1 : (fun (w' : World) => ((w'.cell? ⟨b, 0, none⟩ = some (.pointer (some ⟨bl, 0, none⟩)) ∧ w'.cell? ⟨b, 1, none⟩ = some (.pointer (some ⟨br, 0, none⟩))) ∧ Below w.heap.size w w') ∧ Below W1.heap.size W1 w') W1 := ⟨⟨keep_two (nx hbd hb1) HLT ⟨h1, h2⟩, nx hbd hb1⟩, Below.refl _ _⟩
      refine hK.out (fun (w' : World) => ((w'.cell? ⟨b, 0, none⟩ = some (.pointer (some ⟨bl, 0, none⟩)) ∧ w'.cell? ⟨b, 1, none⟩ = some (.pointer (some ⟨br, 0, none⟩))) ∧ Below w.heap.size w w') ∧ Below W1.heap.size W1 w') _ _ (fun _ h => h.1) hH1 ?_
      clear hK K
      try dsimp only [Act.put]
      refine held_one 16 rfl (by kernel_rfl) (fun K hK => ?_)
      go_simp
      refine (jr _ (HR.out.keep hH1.1.2)).mono ?_; rintro e W2 ⟨v2, own2, hb2, rfl⟩
      obtain ⟨oa2, c2, rfl, src2⟩ := own2.srcT
      have SR2 := Lib.hid src2
      generalize hn2 : L2.length = n2 at *
      have HN2 := Lib.hid hn2
      clear hn2 src2 own2
      go_wp2_with fail
      have hH2 : (fun (w' : World) => (((w'.cell? ⟨b, 0, none⟩ = some (.pointer (some ⟨bl, 0, none⟩)) ∧ w'.cell? ⟨b, 1, none⟩ = some (.pointer (some ⟨br, 0, none⟩))) ∧ Below w.heap.size w w') ∧ Below W1.heap.size W1 w') ∧ Below W2.heap.size W2 w') W2 := ⟨⟨⟨keep_two (nx hH1.1.2 hb2) HLT ⟨h1, h2⟩, nx hH1.1.2 hb2⟩, hb2⟩, Below.refl _ _⟩
      refine hK.out (fun (w' : World) => (((w'.cell? ⟨b, 0, none⟩ = some (.pointer (some ⟨bl, 0, none⟩)) ∧ w'.cell? ⟨b, 1, none⟩ = some (.pointer (some ⟨br, 0, none⟩))) ∧ Below w.heap.size w w') ∧ Below W1.heap.size W1 w') ∧ Below W2.heap.size W2 w') _ _ (fun _ h => h.1) hH2 ?_
      clear hK K
      try dsimp only [Act.put]
      refine held_one 17 rfl (by kernel_rfl) (fun K hK => ?_)
      go_simp
      refine (fun (H : ∀ W : World, (fun (w' : World) => ((((w'.cell? ⟨b, 0, none⟩ = some (.pointer (some ⟨bl, 0, none⟩)) ∧ w'.cell? ⟨b, 1, none⟩ = some (.pointer (some ⟨br, 0, none⟩))) ∧ Below w.heap.size w w') ∧ Below W1.heap.size W1 w') ∧ Below W2.heap.size W2 w') ∧ (w'.cell? ⟨W2.heap.size, 0, none⟩ = some (.slice none 0 0) ∧ w'.cell? ⟨W2.heap.size, 1, none⟩ = some (.slice oa1 n1 c1) ∧ w'.cell? ⟨W2.heap.size, 2, none⟩ = some (.slice oa2 n2 c2))) W → K _ W) => H _ ?hH901) (fun W901 hW901 => ?main901)
      case hH901 => exact ⟨⟨⟨⟨keep_two (nxAlloc hH2.1.1.2 (.cells #[.slice none 0 0, .slice oa1 n1 c1, .slice oa2 n2 c2] 49 (0, 0))) HLT ⟨h1, h2⟩, nxAlloc hH2.1.1.2 (.cells #[.slice none 0 0, .slice oa1 n1 c1, .slice oa2 n2 c2] 49 (0, 0))⟩, nxAlloc hH2.1.2 (.cells #[.slice none 0 0, .slice oa1 n1 c1, .slice oa2 n2 c2] 49 (0, 0))⟩, nxAlloc (Below.refl _ _) (.cells #[.slice none 0 0, .slice oa1 n1 c1, .slice oa2 n2 c2] 49 (0, 0))⟩, cell_newB _ _ _ 0 rfl, cell_newB _ _ _ 1 rfl, cell_newB _ _ _ 2 rfl⟩
      case main901 =>
      refine hK.out (fun (w' : World) => ((((w'.cell? ⟨b, 0, none⟩ = some (.pointer (some ⟨bl, 0, none⟩)) ∧ w'.cell? ⟨b, 1, none⟩ = some (.pointer (some ⟨br, 0, none⟩))) ∧ Below w.heap.size w w') ∧ Below W1.heap.size W1 w') ∧ Below W2.heap.size W2 w') ∧ (w'.cell? ⟨W2.heap.size, 0, none⟩ = some (.slice none 0 0) ∧ w'.cell? ⟨W2.heap.size, 1, none⟩ = some (.slice oa1 n1 c1) ∧ w'.cell? ⟨W2.heap.size, 2, none⟩ = some (.slice oa2 n2 c2))) _ _ (fun _ h => h.1) hW901 ?_
      clear hK K
      try dsimp only [Act.put]
      have hPt : PartsS W901 W2.heap.size [.slice none 0 0, .slice oa1 n1 c1, .slice oa2 n2 c2] [([] : List ByteArray), L1, L2] := by
        refine ⟨World.block_lt_of_cell? W901 _ hW901.2.1, rfl, fun i hi => ?_⟩
        match i, hi with
        | 0, _ => exact ⟨hW901.2.1, SR0.out.keep (nx (nx (nx (Below.refl _ _).drew hb1) hb2) hW901.1.2)⟩
        | 1, _ => exact ⟨hW901.2.2.1, SR1.out.keep hW901.1.1.2⟩
        | 2, _ => exact ⟨hW901.2.2.2, SR2.out.keep hW901.1.2⟩
      refine held_one 18 rfl (by kernel_rfl) (fun K hK => ?_)
      go_simp
      refine (concatS_any W2.heap.size 3 _ _ W901 hPt rfl (by omega) (by
        have e1 := HN1.out
        have e2 := HN2.out
        simp; omega)).mono ?_; rintro e W5 ⟨v5, own5, hb5, rfl⟩
      go_wp2_with fail
      have hH5 : (fun (w' : World) => ((((w'.cell? ⟨b, 0, none⟩ = some (.pointer (some ⟨bl, 0, none⟩)) ∧ w'.cell? ⟨b, 1, none⟩ = some (.pointer (some ⟨br, 0, none⟩))) ∧ Below w.heap.size w w') ∧ Below W1.heap.size W1 w') ∧ Below W2.heap.size W2 w') ∧ (w'.cell? ⟨W2.heap.size, 0, none⟩ = some (.slice none 0 0) ∧ w'.cell? ⟨W2.heap.size, 1, none⟩ = some (.slice oa1 n1 c1) ∧ w'.cell? ⟨W2.heap.size, 2, none⟩ = some (.slice oa2 n2 c2))) W5 := ⟨⟨⟨⟨keep_two (nx hW901.1.1.1.2 hb5) HLT ⟨h1, h2⟩, nx hW901.1.1.1.2 hb5⟩, nx hW901.1.1.2 hb5⟩, nx hW901.1.2 hb5⟩, keep_cell hb5 hW901.2.1, keep_cell hb5 hW901.2.2.1, keep_cell hb5 hW901.2.2.2⟩
      refine hK.out (fun (w' : World) => ((((w'.cell? ⟨b, 0, none⟩ = some (.pointer (some ⟨bl, 0, none⟩)) ∧ w'.cell? ⟨b, 1, none⟩ = some (.pointer (some ⟨br, 0, none⟩))) ∧ Below w.heap.size w w') ∧ Below W1.heap.size W1 w') ∧ Below W2.heap.size W2 w') ∧ (w'.cell? ⟨W2.heap.size, 0, none⟩ = some (.slice none 0 0) ∧ w'.cell? ⟨W2.heap.size, 1, none⟩ = some (.slice oa1 n1 c1) ∧ w'.cell? ⟨W2.heap.size, 2, none⟩ = some (.slice oa2 n2 c2))) _ _ (fun _ h => h) hH5 ?_
      clear hK K
      try dsimp only [Act.put]
      refine wpAnyH_take (i := 19) (oi := ?oi401) (v := ?vv401) ?hi401 ?hn401 ?hf401 ?hr401 ?hq401 (Or.inl ⟨?hg401, ?hy401⟩) hH5 ?rest401
      case hi401 => (simp only [List.getElem?_toArray, List.getElem?_cons_succ, List.getElem?_cons_zero]; rfl)
      case hn401 => kernel_rfl
      case hf401 => kernel_rfl
      case hr401 => kernel_rfl
      case hg401 => rfl
      case hy401 => (intro w hSw; (try dsimp only at hSw); go_simp; first | done | with_reducible rfl)
      case hq401 => exact fun _ _ _ h => h
      try dsimp only [Act.put]
      refine wpAnyH_done (by kernel_rfl) ?_ _
      simp only [List.setIfInBounds_toArray, List.set_cons_zero, List.set_cons_succ]
      go_wp2_with fail
      go_ret
      exact ⟨v5, by
        have h9 := own5
        simp only [List.flatten_cons, List.flatten_nil, List.append_nil] at h9
        exact (by simpa using h9 : OwnS W901.heap.size W5 v5 (L1 ++ L2)).mono (hW901.1.1.1.2.size), hH5.1.1.1.2, rfl⟩
    | some u =>
      rw [here1_yes (by rw [hg]; rfl)]
      rw [hg] at hR
      have hR' : Calls Try.prog (turnF k) #[.pointer (some ⟨b, 0, none⟩)] w (fun e w' => ∃ bx, Below w.heap.size w w' ∧ e = .returned (.pointer (some ⟨bx, 0, none⟩))) := hR.mono fun e w' ⟨bx, _, h2, h3⟩ => ⟨bx, h2, h3⟩
      clear hR hg
      generalize turnF k = fk at *
      go_enter Try.func95, Try.ntmps95
      go_wp2_with fail
      refine (isLeaf_any (.nd l r) b _ H.out).mono ?_; rintro e w1 ⟨rfl, rfl⟩
      simp only [Tr.isLf]
      go_wp2_with fail
      refine hR'.mono ?_; rintro e w2 ⟨bx, hb2x, rfl⟩
      clear hR'
      have hown : w2.ownsRow w.heap.size 9 1 (.slice none 0 0) 0 [] := World.ownsRow_nil _ _ _ _
      go_wp2_with (at_builtin; refine wpList_append_own _ rfl _ _ 49 rfl w.heap.size 9 i0 (.string ⟨#[]⟩) 1 16 Try.underlying49 hi hz0 hz1 hz2 rfl (by decide) _ _ _ rfl (hown.alloc _) ⟨w2.heap.size, 0, none⟩ 1 1 [.string here] rfl rfl (new1 _ _ _) (oneS [here]) (by unfold maxLen; omega) (by omega) (size_al hb2x _) ?_; intro v' w9 hown' hgrow hnn)
      have hbw9 := below_app hb2x hown (Nat.le_refl _) hgrow
      have own9 : OwnS w.heap.size w9 v' ([] ++ [here]) := OwnS.app (A := []) (B := [here]) hown'
      rw [List.nil_append] at own9
      obtain ⟨oa0, c0, hv0, src0⟩ := own9.srcT
      have hv0' : v' = .slice oa0 1 c0 := hv0
      subst hv0'
      have SR0 := Lib.hid src0
      clear hown hown' hgrow hnn hb2x own9 src0 hv0
      go_wp2_with fail
      have cc := keep_two hbw9 HLT ⟨h1, h2⟩
      have hbd := hbw9.drew
      refine wp_region_held_drew (S := (fun (w' : World) => (w'.cell? ⟨b, 0, none⟩ = some (.pointer (some ⟨bl, 0, none⟩)) ∧ w'.cell? ⟨b, 1, none⟩ = some (.pointer (some ⟨br, 0, none⟩))) ∧ Below w.heap.size w w')) (by kernel_rfl) ⟨cc, hbw9.drew⟩ (fun hH0 => ?_)
      refine wpAnyH_take (i := 0) (oi := ?oi601) (v := ?vv601) ?hi601 ?hn601 ?hf601 ?hr601 ?hq601 (Or.inl ⟨?hg601, ?hy601⟩) hH0 ?rest601
      case hi601 => (simp only [List.getElem?_toArray, List.getElem?_cons_zero]; rfl)
      case hn601 => kernel_rfl
      case hf601 => kernel_rfl
      case hr601 => kernel_rfl
      case hg601 => rfl
      case hy601 => (intro w hSw; (try dsimp only at hSw); go_simp; first | done | with_reducible rfl)
      case hq601 => exact fun _ _ _ h => h
      try dsimp only [Act.put]
      refine wpAnyH_take (i := 1) (oi := ?oi602) (v := ?vv602) ?hi602 ?hn602 ?hf602 ?hr602 ?hq602 (Or.inl ⟨?hg602, ?hy602⟩) hH0 ?rest602
      case hi602 => (simp only [List.getElem?_toArray, List.getElem?_cons_succ, List.getElem?_cons_zero]; rfl)
      case hn602 => kernel_rfl
      case hf602 => kernel_rfl
      case hr602 => kernel_rfl
      case hg602 => rfl
      case hy602 => (intro w hSw; (try dsimp only at hSw); go_simp; first | done | with_reducible rfl)
      case hq602 => exact fun _ _ _ h => h
      try dsimp only [Act.put]
      refine wpAnyH_take (i := 2) (oi := ?oi603) (v := ?vv603) ?hi603 ?hn603 ?hf603 ?hr603 ?hq603 (Or.inl ⟨?hg603, ?hy603⟩) hH0 ?rest603
      case hi603 => (simp only [List.getElem?_toArray, List.getElem?_cons_succ, List.getElem?_cons_zero]; rfl)
      case hn603 => kernel_rfl
      case hf603 => kernel_rfl
      case hr603 => kernel_rfl
      case hg603 => rfl
      case hy603 => (intro w hSw; (try dsimp only at hSw); go_simp; first | done | with_reducible rfl)
      case hq603 => exact fun _ _ _ h => h
      try dsimp only [Act.put]
      refine wpAnyH_take (i := 3) (oi := ?oi604) (v := ?vv604) ?hi604 ?hn604 ?hf604 ?hr604 ?hq604 (Or.inl ⟨?hg604, ?hy604⟩) hH0 ?rest604
      case hi604 => (simp only [List.getElem?_toArray, List.getElem?_cons_succ, List.getElem?_cons_zero]; rfl)
      case hn604 => kernel_rfl
      case hf604 => kernel_rfl
      case hr604 => kernel_rfl
      case hg604 => rfl
      case hy604 => (intro w hSw; (try dsimp only at hSw); go_simp; first | done | with_reducible rfl)
      case hq604 => exact fun _ _ _ h => h
      try dsimp only [Act.put]
      refine wpAnyH_take (i := 4) (oi := ?oi605) (v := ?vv605) ?hi605 ?hn605 ?hf605 ?hr605 ?hq605 (Or.inl ⟨?hg605, ?hy605⟩) hH0 ?rest605
      case hi605 => (simp only [List.getElem?_toArray, List.getElem?_cons_succ, List.getElem?_cons_zero]; rfl)
      case hn605 => kernel_rfl
      case hf605 => kernel_rfl
      case hr605 => kernel_rfl
      case hg605 => rfl
      case hy605 => (intro w hSw; (try dsimp only at hSw); go_simp; first | done | with_reducible rfl)
      case hq605 => exact fun _ _ _ h => h
      try dsimp only [Act.put]
      refine wpAnyH_take (i := 5) (oi := ?oi606) (v := ?vv606) ?hi606 ?hn606 ?hf606 ?hr606 ?hq606 (Or.inl ⟨?hg606, ?hy606⟩) hH0 ?rest606
      case hi606 => (simp only [List.getElem?_toArray, List.getElem?_cons_succ, List.getElem?_cons_zero]; rfl)
      case hn606 => kernel_rfl
      case hf606 => kernel_rfl
      case hr606 => kernel_rfl
      case hg606 => rfl
      case hy606 => (intro w hSw; (try dsimp only at hSw); go_simp; first | done | with_reducible rfl)
      case hq606 => exact fun _ _ _ h => h
      try dsimp only [Act.put]
      refine wpAnyH_take (i := 6) (oi := ?oi607) (v := ?vv607) ?hi607 ?hn607 ?hf607 ?hr607 ?hq607 (Or.inl ⟨?hg607, ?hy607⟩) hH0 ?rest607
      case hi607 => (simp only [List.getElem?_toArray, List.getElem?_cons_succ, List.getElem?_cons_zero]; rfl)
      case hn607 => kernel_rfl
      case hf607 => kernel_rfl
      case hr607 => kernel_rfl
      case hg607 => rfl
      case hy607 => (intro w hSw; (try dsimp only at hSw); go_simp; first | done | with_reducible rfl)
      case hq607 => exact fun _ _ _ h => h
      try dsimp only [Act.put]
      refine wpAnyH_take (i := 7) (oi := ?oi608) (v := ?vv608) ?hi608 ?hn608 ?hf608 ?hr608 ?hq608 (Or.inl ⟨?hg608, ?hy608⟩) hH0 ?rest608
      case hi608 => (simp only [List.getElem?_toArray, List.getElem?_cons_succ, List.getElem?_cons_zero]; rfl)
      case hn608 => kernel_rfl
      case hf608 => kernel_rfl
      case hr608 => kernel_rfl
      case hg608 => rfl
      case hy608 => (intro w hSw; (try dsimp only at hSw); go_simp; first | done | with_reducible rfl)
      case hq608 => exact fun _ _ _ h => h
      try dsimp only [Act.put]
      refine wpAnyH_take (i := 9) (oi := ?oi609) (v := ?vv609) ?hi609 ?hn609 ?hf609 ?hr609 ?hq609 (Or.inl ⟨?hg609, ?hy609⟩) hH0 ?rest609
      case hi609 => (simp only [List.getElem?_toArray, List.getElem?_cons_succ, List.getElem?_cons_zero]; rfl)
      case hn609 => kernel_rfl
      case hf609 => kernel_rfl
      case hr609 => kernel_rfl
      case hg609 => rfl
      case hy609 => (intro w hSw; (try dsimp only at hSw); go_simp; first | done | with_reducible rfl)
      case hq609 => exact fun _ _ _ h => h
      try dsimp only [Act.put]
      refine wpAnyH_take (i := 10) (oi := ?oi610) (v := ?vv610) ?hi610 ?hn610 ?hf610 ?hr610 ?hq610 (Or.inl ⟨?hg610, ?hy610⟩) hH0 ?rest610
      case hi610 => (simp only [List.getElem?_toArray, List.getElem?_cons_succ, List.getElem?_cons_zero]; rfl)
      case hn610 => kernel_rfl
      case hf610 => kernel_rfl
      case hr610 => kernel_rfl
      case hg610 => rfl
      case hy610 => (intro w hSw; (try dsimp only at hSw); go_simp; first | done | with_reducible rfl)
      case hq610 => exact fun _ _ _ h => h
      try dsimp only [Act.put]
      refine wpAnyH_take (i := 11) (oi := ?oi611) (v := ?vv611) ?hi611 ?hn611 ?hf611 ?hr611 ?hq611 (Or.inl ⟨?hg611, ?hy611⟩) hH0 ?rest611
      case hi611 => (simp only [List.getElem?_toArray, List.getElem?_cons_succ, List.getElem?_cons_zero]; rfl)
      case hn611 => kernel_rfl
      case hf611 => kernel_rfl
      case hr611 => kernel_rfl
      case hg611 => rfl
      case hy611 => (intro w hSw; (try dsimp only at hSw); go_simp; first | done | with_reducible rfl)
      case hq611 => exact fun _ _ _ h => h
      try dsimp only [Act.put]
      refine wpAnyH_take (i := 12) (oi := ?oi612) (v := ?vv612) ?hi612 ?hn612 ?hf612 ?hr612 ?hq612 (Or.inl ⟨?hg612, ?hy612⟩) hH0 ?rest612
      case hi612 => (simp only [List.getElem?_toArray, List.getElem?_cons_succ, List.getElem?_cons_zero]; rfl)
      case hn612 => kernel_rfl
      case hf612 => kernel_rfl
      case hr612 => kernel_rfl
      case hg612 => rfl
      case hy612 => (intro w hSw; (try dsimp only at hSw); go_simp; first | done | with_reducible rfl)
      case hq612 => exact fun _ _ _ h => h
      try dsimp only [Act.put]
      refine wpAnyH_take (i := 13) (oi := ?oi613) (v := ?vv613) ?hi613 ?hn613 ?hf613 ?hr613 ?hq613 (Or.inl ⟨?hg613, ?hy613⟩) hH0 ?rest613
      case hi613 => (simp only [List.getElem?_toArray, List.getElem?_cons_succ, List.getElem?_cons_zero]; rfl)
      case hn613 => kernel_rfl
      case hf613 => kernel_rfl
      case hr613 => kernel_rfl
      case hg613 => rfl
      case hy613 => (intro w hSw; (try dsimp only at hSw); go_simp; first | done | with_reducible rfl)
      case hq613 => exact fun _ _ _ h => h
      try dsimp only [Act.put]
      refine wpAnyH_take (i := 14) (oi := ?oi614) (v := ?vv614) ?hi614 ?hn614 ?hf614 ?hr614 ?hq614 (Or.inl ⟨?hg614, ?hy614⟩) hH0 ?rest614
      case hi614 => (simp only [List.getElem?_toArray, List.getElem?_cons_succ, List.getElem?_cons_zero]; rfl)
      case hn614 => kernel_rfl
      case hf614 => kernel_rfl
      case hr614 => kernel_rfl
      case hg614 => rfl
      case hy614 => (intro w hSw; (try dsimp only at hSw); go_simp; first | done | with_reducible rfl)
      case hq614 => exact fun _ _ _ h => h
      try dsimp only [Act.put]
      refine wpAnyH_take (i := 15) (oi := ?oi615) (v := ?vv615) ?hi615 ?hn615 ?hf615 ?hr615 ?hq615 (Or.inl ⟨?hg615, ?hy615⟩) hH0 ?rest615
      case hi615 => (simp only [List.getElem?_toArray, List.getElem?_cons_succ, List.getElem?_cons_zero]; rfl)
      case hn615 => kernel_rfl
      case hf615 => kernel_rfl
      case hr615 => kernel_rfl
      case hg615 => rfl
      case hy615 => (intro w hSw; (try dsimp only at hSw); go_simp; first | done | with_reducible rfl)
      case hq615 => exact fun _ _ _ h => h
      try dsimp only [Act.put]
      refine held_one 8 rfl (by kernel_rfl) (fun K hK => ?_)
      go_simp
      refine (jl _ (HL.out.keep hbd)).mono ?_; rintro e W1 ⟨v1, own1, hb1, rfl⟩
      obtain ⟨oa1, c1, rfl, src1⟩ := own1.srcT
      have SR1 := Lib.hid src1
      generalize hn1 : L1.length = n1 at *
      have HN1 := Lib.hid hn1
      clear hn1 src1 own1
      go_wp2_with fail
      have hH1 : (fun (w' : World) => ((w'.cell? ⟨b, 0, none⟩ = some (.pointer (some ⟨bl, 0, none⟩)) ∧ w'.cell? ⟨b, 1, none⟩ = some (.pointer (some ⟨br, 0, none⟩))) ∧ Below w.heap.size w w') ∧ Below W1.heap.size W1 w') W1 := ⟨⟨keep_two (nx hbd hb1) HLT ⟨h1, h2⟩, nx hbd hb1⟩, Below.refl _ _⟩
      refine hK.out (fun (w' : World) => ((w'.cell? ⟨b, 0, none⟩ = some (.pointer (some ⟨bl, 0, none⟩)) ∧ w'.cell? ⟨b, 1, none⟩ = some (.pointer (some ⟨br, 0, none⟩))) ∧ Below w.heap.size w w') ∧ Below W1.heap.size W1 w') _ _ (fun _ h => h.1) hH1 ?_
      clear hK K
      try dsimp only [Act.put]
      refine held_one 16 rfl (by kernel_rfl) (fun K hK => ?_)
      go_simp
      refine (jr _ (HR.out.keep hH1.1.2)).mono ?_; rintro e W2 ⟨v2, own2, hb2, rfl⟩
      obtain ⟨oa2, c2, rfl, src2⟩ := own2.srcT
      have SR2 := Lib.hid src2
      generalize hn2 : L2.length = n2 at *
      have HN2 := Lib.hid hn2
      clear hn2 src2 own2
      go_wp2_with fail
      have hH2 : (fun (w' : World) => (((w'.cell? ⟨b, 0, none⟩ = some (.pointer (some ⟨bl, 0, none⟩)) ∧ w'.cell? ⟨b, 1, none⟩ = some (.pointer (some ⟨br, 0, none⟩))) ∧ Below w.heap.size w w') ∧ Below W1.heap.size W1 w') ∧ Below W2.heap.size W2 w') W2 := ⟨⟨⟨keep_two (nx hH1.1.2 hb2) HLT ⟨h1, h2⟩, nx hH1.1.2 hb2⟩, hb2⟩, Below.refl _ _⟩
      refine hK.out (fun (w' : World) => (((w'.cell? ⟨b, 0, none⟩ = some (.pointer (some ⟨bl, 0, none⟩)) ∧ w'.cell? ⟨b, 1, none⟩ = some (.pointer (some ⟨br, 0, none⟩))) ∧ Below w.heap.size w w') ∧ Below W1.heap.size W1 w') ∧ Below W2.heap.size W2 w') _ _ (fun _ h => h.1) hH2 ?_
      clear hK K
      try dsimp only [Act.put]
      refine held_one 17 rfl (by kernel_rfl) (fun K hK => ?_)
      go_simp
      refine (fun (H : ∀ W : World, (fun (w' : World) => ((((w'.cell? ⟨b, 0, none⟩ = some (.pointer (some ⟨bl, 0, none⟩)) ∧ w'.cell? ⟨b, 1, none⟩ = some (.pointer (some ⟨br, 0, none⟩))) ∧ Below w.heap.size w w') ∧ Below W1.heap.size W1 w') ∧ Below W2.heap.size W2 w') ∧ (w'.cell? ⟨W2.heap.size, 0, none⟩ = some (.slice oa0 1 c0) ∧ w'.cell? ⟨W2.heap.size, 1, none⟩ = some (.slice oa1 n1 c1) ∧ w'.cell? ⟨W2.heap.size, 2, none⟩ = some (.slice oa2 n2 c2))) W → K _ W) => H _ ?hH902) (fun W902 hW902 => ?main902)
      case hH902 => exact ⟨⟨⟨⟨keep_two (nxAlloc hH2.1.1.2 (.cells #[.slice oa0 1 c0, .slice oa1 n1 c1, .slice oa2 n2 c2] 49 (0, 0))) HLT ⟨h1, h2⟩, nxAlloc hH2.1.1.2 (.cells #[.slice oa0 1 c0, .slice oa1 n1 c1, .slice oa2 n2 c2] 49 (0, 0))⟩, nxAlloc hH2.1.2 (.cells #[.slice oa0 1 c0, .slice oa1 n1 c1, .slice oa2 n2 c2] 49 (0, 0))⟩, nxAlloc (Below.refl _ _) (.cells #[.slice oa0 1 c0, .slice oa1 n1 c1, .slice oa2 n2 c2] 49 (0, 0))⟩, cell_newB _ _ _ 0 rfl, cell_newB _ _ _ 1 rfl, cell_newB _ _ _ 2 rfl⟩
      case main902 =>
      refine hK.out (fun (w' : World) => ((((w'.cell? ⟨b, 0, none⟩ = some (.pointer (some ⟨bl, 0, none⟩)) ∧ w'.cell? ⟨b, 1, none⟩ = some (.pointer (some ⟨br, 0, none⟩))) ∧ Below w.heap.size w w') ∧ Below W1.heap.size W1 w') ∧ Below W2.heap.size W2 w') ∧ (w'.cell? ⟨W2.heap.size, 0, none⟩ = some (.slice oa0 1 c0) ∧ w'.cell? ⟨W2.heap.size, 1, none⟩ = some (.slice oa1 n1 c1) ∧ w'.cell? ⟨W2.heap.size, 2, none⟩ = some (.slice oa2 n2 c2))) _ _ (fun _ h => h.1) hW902 ?_
      clear hK K
      try dsimp only [Act.put]
      have hPt : PartsS W902 W2.heap.size [.slice oa0 1 c0, .slice oa1 n1 c1, .slice oa2 n2 c2] [[here], L1, L2] := by
        refine ⟨World.block_lt_of_cell? W902 _ hW902.2.1, rfl, fun i hi => ?_⟩
        match i, hi with
        | 0, _ => exact ⟨hW902.2.1, SR0.out.keep (nx (nx (nx (Below.refl _ _).drew hb1) hb2) hW902.1.2)⟩
        | 1, _ => exact ⟨hW902.2.2.1, SR1.out.keep hW902.1.1.2⟩
        | 2, _ => exact ⟨hW902.2.2.2, SR2.out.keep hW902.1.2⟩
      refine held_one 18 rfl (by kernel_rfl) (fun K hK => ?_)
      go_simp
      refine (concatS_any W2.heap.size 3 _ _ W902 hPt rfl (by omega) (by
        have e1 := HN1.out
        have e2 := HN2.out
        simp; omega)).mono ?_; rintro e W5 ⟨v5, own5, hb5, rfl⟩
      go_wp2_with fail
      have hH5 : (fun (w' : World) => ((((w'.cell? ⟨b, 0, none⟩ = some (.pointer (some ⟨bl, 0, none⟩)) ∧ w'.cell? ⟨b, 1, none⟩ = some (.pointer (some ⟨br, 0, none⟩))) ∧ Below w.heap.size w w') ∧ Below W1.heap.size W1 w') ∧ Below W2.heap.size W2 w') ∧ (w'.cell? ⟨W2.heap.size, 0, none⟩ = some (.slice oa0 1 c0) ∧ w'.cell? ⟨W2.heap.size, 1, none⟩ = some (.slice oa1 n1 c1) ∧ w'.cell? ⟨W2.heap.size, 2, none⟩ = some (.slice oa2 n2 c2))) W5 := ⟨⟨⟨⟨keep_two (nx hW902.1.1.1.2 hb5) HLT ⟨h1, h2⟩, nx hW902.1.1.1.2 hb5⟩, nx hW902.1.1.2 hb5⟩, nx hW902.1.2 hb5⟩, keep_cell hb5 hW902.2.1, keep_cell hb5 hW902.2.2.1, keep_cell hb5 hW902.2.2.2⟩
      refine hK.out (fun (w' : World) => ((((w'.cell? ⟨b, 0, none⟩ = some (.pointer (some ⟨bl, 0, none⟩)) ∧ w'.cell? ⟨b, 1, none⟩ = some (.pointer (some ⟨br, 0, none⟩))) ∧ Below w.heap.size w w') ∧ Below W1.heap.size W1 w') ∧ Below W2.heap.size W2 w') ∧ (w'.cell? ⟨W2.heap.size, 0, none⟩ = some (.slice oa0 1 c0) ∧ w'.cell? ⟨W2.heap.size, 1, none⟩ = some (.slice oa1 n1 c1) ∧ w'.cell? ⟨W2.heap.size, 2, none⟩ = some (.slice oa2 n2 c2))) _ _ (fun _ h => h) hH5 ?_
      clear hK K
      try dsimp only [Act.put]
      refine wpAnyH_take (i := 19) (oi := ?oi801) (v := ?vv801) ?hi801 ?hn801 ?hf801 ?hr801 ?hq801 (Or.inl ⟨?hg801, ?hy801⟩) hH5 ?rest801
      case hi801 => (simp only [List.getElem?_toArray, List.getElem?_cons_succ, List.getElem?_cons_zero]; rfl)
      case hn801 => kernel_rfl
      case hf801 => kernel_rfl
      case hr801 => kernel_rfl
      case hg801 => rfl
      case hy801 => (intro w hSw; (try dsimp only at hSw); go_simp; first | done | with_reducible rfl)
      case hq801 => exact fun _ _ _ h => h
      try dsimp only [Act.put]
      refine wpAnyH_done (by kernel_rfl) ?_ _
      simp only [List.setIfInBounds_toArray, List.set_cons_zero, List.set_cons_succ]
      go_wp2_with fail
      go_ret
      exact ⟨v5, by
        have h9 := own5
        simp only [List.flatten_cons, List.flatten_nil, List.append_nil] at h9
        exact (by simpa using h9 : OwnS W902.heap.size W5 v5 ([here] ++ (L1 ++ L2))).mono (hW902.1.1.1.2.size), hH5.1.1.1.2, rfl⟩
end Go.Proofs.Ytllnfbenaeeloaa

/-! Nb4 -/
namespace Go.Proofs.Ytllnfbenaeeloaa
open Go.RowKit

def preT (t : Tr) : Nat → List ByteArray
  | 0 => []
  | i + 1 => preT t i ++ turnL (kindB i) t (t.spots (kindB i) ⟨#[]⟩)
theorem preT_two (t : Tr) : preT t 2 = reachT t := by
  show ([] ++ _) ++ _ = _
  rw [List.nil_append]; rfl
theorem preT_len (t : Tr) (i : Nat) : (preT t i).length ≤ i * t.carets := by
  induction i with
  | zero => simp [preT]
  | succ i ih =>
    have := spots_len (k := kindB i) t ⟨#[]⟩
    show (preT t i ++ _).length ≤ _
    rw [List.length_append, turnL_len, Nat.succ_mul]; omega
theorem turnL_get (k : Bool) (t : Tr) (L : List ByteArray) {j : Nat} {a : ByteArray} {u : Tr} (h : L[j]? = some a) (hu : t.rotAt k a.data.toList = some u) : (turnL k t L).take (j + 1) = (turnL k t L).take j ++ [u.str] := by
  have hj := (List.getElem?_eq_some_iff.1 h).1
  rw [List.take_succ_eq_append_getElem (by rw [turnL_len]; exact hj)]
  congr 1
  have e9 : (turnL k t L)[j]? = some u.str := by
    unfold turnL
    rw [List.getElem?_map, h]
    simp [hu]
  rw [(List.getElem?_eq_some_iff.1 e9).2]
def FarC (g : Nat) (v : Value) : Prop := v.ownBlock ≠ some g

set_option maxRecDepth 100000 in
set_option maxHeartbeats 2000000 in
theorem neighbours_any (t : Tr) (b : Nat) (w : World) (hn : NodeAt w t b) (ht : t.carets ≤ 8) :
    Calls Try.prog 67 #[.pointer (some ⟨b, 0, none⟩)] w (GivesOwn (nearT t) w) := by
  obtain ⟨i0, hi, hz0, hz1, hz2⟩ := info_parts info_str
  have hz : (⟨#[]⟩ : ByteArray).size = 0 := rfl
  have H := Lib.hid hn
  have hPl : ∀ (k : Bool) (w : World), NodeAt w t b → Calls Try.prog 95 #[.pointer (some ⟨b, 0, none⟩), .string ⟨#[]⟩, .func (Fn.func (turnF k)) #[] #[]] w (GivesOwn (t.spots k ⟨#[]⟩) w) := fun k w h => placesFrom_any k t b ⟨#[]⟩ w h (by omega) (by omega)
  have hAt : ∀ (k : Bool) (a : ByteArray) (u : Tr), a ∈ t.spots k ⟨#[]⟩ → t.rotAt k a.data.toList = some u → ∀ w, NodeAt w t b → Calls Try.prog 96 #[.pointer (some ⟨b, 0, none⟩), .string a, .func (Fn.func (turnF k)) #[] #[]] w (fun e w' => ∃ d, NodeAt w' u d ∧ Below w.heap.size w w' ∧ e = .returned (.pointer (some ⟨d, 0, none⟩))) := by
    intro k a u ha hu w h
    have hsz := spots_size (k := k) t ⟨#[]⟩ a ha
    have h9 := turnedAt_any k _ t b a w rfl h (by rw [← Lib.size_eq]; omega)
    rw [hu] at h9
    exact h9
  have HAT := Lib.hid hAt
  have hc2 : 2 * t.carets ≤ 16 := by omega
  clear hz hAt hn
  go_enter Try.func67, Try.ntmps67
  go_wp2_with fail
  have hb0 := nxAlloc (Below.refl w.heap.size w) (.cells #[.func (Fn.func (turnF false)) #[] #[], .func (Fn.func (turnF true)) #[] #[]] 116 (0, 0))
  have hA0 := heap_alloc_at w (.cells #[.func (Fn.func (turnF false)) #[] #[], .func (Fn.func (turnF true)) #[] #[]] 116 (0, 0))
  have hW : ∃ w0, w0 = w.alloc (.cells #[.func (Fn.func (turnF false)) #[] #[], .func (Fn.func (turnF true)) #[] #[]] 116 (0, 0)) := ⟨_, rfl⟩
  obtain ⟨w0, hw0⟩ := hW
  rw [← hw0] at hb0 hA0
  have hw0' : w.alloc (.cells #[.func (Fn.func 93) #[] #[], .func (Fn.func 94) #[] #[]] 116 (0, 0)) = w0 := hw0.symm
  try rw [hw0']
  clear hw0 hw0'
  have hbl : ∀ i, i < 2 → w0.cell? ⟨w.heap.size, i, none⟩ = some (.func (Fn.func (turnF (kindB i))) #[] #[]) := by
    intro i hi
    have h9 := two_cells hA0
    match i, hi with
    | 0, _ => exact h9.1
    | 1, _ => exact h9.2
  have hgl : w.heap.size < w0.heap.size := lt_of_block hA0
  have HBL := Lib.hid hbl
  have HN0 := Lib.hid (H.out.keep hb0)
  clear hbl hA0
  try go_wp2_with fail
  go_loopw [3, 10] (fun ov iv wr => ∃ (i : Nat) (ss : List ByteArray), iv = .int .i64 i ∧ i ≤ 2 ∧ OwnS w0.heap.size wr ov ss ∧ Hid (ss = preT t i) ∧ Below w0.heap.size w0 wr) (fun _ iv _ => 2 - (intOf iv).toNat)
  case atStart => exact ⟨0, [], rfl, by omega, OwnS.nil _ _, rfl, Below.refl _ _⟩
  case round =>
    obtain ⟨i, ss, rfl, hi2, hown, he, hbw⟩ := hrel
    by_cases hlt : i < 2
    · have hlt' : (i : Int) < 2 := by omega
      have c1 : wr.cell? ⟨w.heap.size, i, none⟩ = some (.func (Fn.func (turnF (kindB i))) #[] #[]) := (hbw.cell (p := ⟨w.heap.size, i, none⟩) hgl).trans (HBL.out i hlt)
      have hPk := hPl (kindB i) _ (HN0.out.keep hbw)
      have hLn := spots_len (k := kindB i) t ⟨#[]⟩
      have hmem := Lib.hid (fun a (h : a ∈ t.spots (kindB i) ⟨#[]⟩) => spots_mem0 h)
      have hpl9 := preT_len t i
      have hps := Lib.hid (show preT t (i + 1) = preT t i ++ turnL (kindB i) t (t.spots (kindB i) ⟨#[]⟩) from rfl)
      have HAK := Lib.hid (fun a u h k w => HAT.out (kindB i) a u h k w)
      have hsl0 : ss.length ≤ 16 := by
        rw [he.out]
        have : i * t.carets ≤ 2 * 8 := Nat.mul_le_mul (by omega) ht
        omega
      generalize kindB i = kb at *
      generalize hfk : turnF kb = fk at *
      clear hfk
      generalize t.spots kb ⟨#[]⟩ = L at *
      go_wp2_with fail
      refine hPk.mono ?_; rintro e w1 ⟨v1, own1, hb1, rfl⟩
      have hlt1 := fun k hk => (World.ownsRow.lt hown k hk).2
      replace hown := hown.keep hb1
      have hbw1 := nx hbw hb1
      obtain ⟨n, hn⟩ : ∃ n, n = L.length := ⟨_, rfl⟩
      have HN := Lib.hid hn
      obtain ⟨oaP, cP, hvP, hcP, hcP9, hPrd⟩ := own1.cells.form0
      rw [← hn] at hvP hLn hcP
      have hgp : ∀ g, oaP = some ⟨g, 0, none⟩ → 0 < n → wr.heap.size ≤ g ∧ g < w1.heap.size := by
        intro g hg h0
        obtain ⟨g', k1, k2, k3, _⟩ := hPrd 0 (by omega)
        rw [k1] at hg
        injection hg with hg
        injection hg with hg
        subst hg
        exact ⟨k2, k3⟩
      have hfar0 : ∀ g, oaP = some ⟨g, 0, none⟩ → 0 < n → FarC g u3 := by
        intro g hg h0 e
        have h8 := (hgp g hg h0).1
        have h9 := hlt1 g e
        omega
      have HPR := Lib.hid hPrd
      have HGP := Lib.hid hgp
      have HFA := Lib.hid hfar0
      unfold maxLen at hcP9
      have hnn9 : (n : Int) ≤ 9223372036854775807 := by omega
      clear own1 hPk hPrd hn hb1 hlt1 hgp hfar0 hcP hcP9
      subst hvP
      go_wp2_with fail
      go_loopw [3, 18] (fun ov jv w2 => ∃ (j : Nat) (sj : List ByteArray), jv = .int .i64 j ∧ j ≤ n ∧ OwnS w0.heap.size w2 ov sj ∧ Hid (sj = ss ++ (turnL kb t L).take j) ∧ Hid (∀ g, oaP = some ⟨g, 0, none⟩ → 0 < n → FarC g ov ∧ w2.heap[g]? = w1.heap[g]?) ∧ w1.heap.size ≤ w2.heap.size ∧ Below w0.heap.size w0 w2) (fun _ jv _ => n - (intOf jv).toNat)
      case atStart => exact ⟨0, ss, rfl, Nat.zero_le _, hown, by show ss = _; simp, fun g hg h0 => ⟨HFA.out g hg h0, rfl⟩, Nat.le_refl _, hbw1⟩
      case round =>
        clear hown
        obtain ⟨j, sj, rfl, hj, hown, hej, hfr, hszw, hbw⟩ := hrel
        have hsl : sj.length ≤ 40 := by
          rw [hej.out, List.length_append, List.length_take, turnL_len]
          have := HN.out
          omega
        by_cases hlj : j < n
        · have hlj' : (j : Int) < (n : Int) := by omega
          obtain ⟨gP, rfl, _, hgP, cP1⟩ := HPR.out j (by have := HN.out; omega)
          obtain ⟨hfr1, hsame⟩ := hfr.out gP rfl (by omega)
          have cP2 : wr.cell? ⟨gP, j, none⟩ = some (.string (L.getD j ⟨#[]⟩)) := by
            rw [World.cell?_of_block hsame]; exact cP1
          have hLj : L[j]? = some (L.getD j ⟨#[]⟩) := by
            have : j < L.length := by have := HN.out; omega
            simp [List.getElem?_eq_getElem this]
          obtain ⟨u, hu⟩ := hmem.out (L.getD j ⟨#[]⟩) (List.mem_of_getElem? hLj)
          have hAu := HAK.out _ u (List.mem_of_getElem? hLj) hu _ (HN0.out.keep hbw)
          have hnext : sj ++ [u.str] = ss ++ (turnL kb t L).take (j + 1) := by
            rw [turnL_get kb t L hLj hu, hej.out, List.append_assoc]
          have hcu := rotAt_carets _ hu
          have hu9 : u.carets ≤ 1000 := by omega
          have HX := Lib.hid hnext
          have HSA := Lib.hid hsame
          generalize L.getD j ⟨#[]⟩ = a at *
          unfold OwnS at hown
          clear hnext hLj hu cP1 hej hfr hcu hsame
          go_wp2_with fail
          refine hAu.mono ?_; rintro e w3 ⟨d, hnd, hb3, rfl⟩
          clear hAu cP2
          go_wp2_with fail
          refine (text_any u d _ hnd hu9).mono ?_; rintro e w4 ⟨rfl, dd, hw4⟩
          have hb4 : Below w3.heap.size w3 w4 := by rw [hw4]; exact drewB (Below.refl _ _) _
          clear hw4 hnd
          have hb24 := nx hb3 hb4
          replace hown := ownsRow_keep hown hb24
          have hbw4 := nx hbw hb24
          generalize hX : u.str = X at *
          have HXS := Lib.hid hX
          clear hX hb3 hb4
          go_wp2_with (at_builtin; refine wpList_append_own_at _ rfl _ _ 49 rfl w0.heap.size 9 i0 (.string ⟨#[]⟩) 1 16 Try.underlying49 hi hz0 hz1 hz2 rfl (by decide) _ _ _ rfl (hown.alloc _) ⟨w4.heap.size, 0, none⟩ 1 1 [.string X] rfl rfl (new1 _ _ _) (oneS [X]) (by unfold maxLen; omega) (by omega) (size_al hbw4 _) ?_; intro v' w9 hown' hgrow hnn hat)
          have hbw9 := below_app hbw4 hown (Nat.le_refl _) hgrow
          have hown1 : OwnS w0.heap.size w9 v' (sj ++ [X]) := OwnS.app (B := [X]) hown'
          have hsa : (w4.alloc (.cells #[.string X] 9)).heap.size = w4.heap.size + 1 := by simp
          have hs24 := hb24.size
          have hnew : Hid (∀ g, (some ⟨gP, 0, none⟩ : Option Addr) = some ⟨g, 0, none⟩ → 0 < n → FarC g v' ∧ w9.heap[g]? = w1.heap[g]?) := by
            intro g hg h0
            injection hg with hg
            injection hg with hg
            subst hg
            refine ⟨fun e => ?_, ?_⟩
            · rcases hat with h9 | h9
              · exact hfr1 (h9.symm.trans e)
              · rw [h9] at e; injection e with e; omega
            · rw [hgrow.block gP (by omega) (fun e => hfr1 e.symm)]
              rw [← HSA.out]
              rw [(nxAlloc (Below.refl w4.heap.size w4) (.cells #[.string X] 9)).block gP (by omega)]
              exact hb24.block gP (by omega)
          have hsz9 : w1.heap.size ≤ w9.heap.size := by have := hgrow.size; omega
          clear hown hown' hgrow hnn hat hfr1 hbw hbw4 hb24 hsa
          go_wp2_with fail
          go_roundw
          case rel => exact ⟨j + 1, _, by go_num, by omega, hown1, HX, hnew, hsz9, hbw9⟩
          case measure => simp [intOf]; omega
        · obtain rfl : j = n := by omega
          have hfin : Hid (sj = preT t (i + 1)) := by
            show _ = _
            rw [hej.out, hps.out, ← he.out, List.take_of_length_le (by rw [turnL_len]; have := HN.out; omega)]
          clear hej hfr he
          go_wp2_with fail
          go_roundw
          case rel => exact ⟨i + 1, sj, by go_num, by omega, hown, hfin, hbw⟩
          case measure => simp [intOf]; omega
    · obtain rfl : i = 2 := by omega
      have hsl0 : ss.length ≤ 16 := by
        rw [he.out]
        have := preT_len t 2
        omega
      have hSO := fun w h => sort_any w0.heap.size u3 ss w (by omega) h
      have hfin : Hid (insAll ss [] = nearT t) := by show _ = _; rw [he.out, preT_two]; rfl
      have hgb := ownsRow_ge hown
      clear he
      go_wp2_with fail
      refine (hSO _ hown).mono ?_; rintro e w5 ⟨rfl, own5, hg5⟩
      have hbw5 := hbw.grown hg5 hbw.size hgb
      go_wp2_with fail
      go_ret
      exact ⟨_, by rw [← hfin.out]; exact own5.mono hb0.size, nx hb0 hbw5, rfl⟩
end Go.Proofs.Ytllnfbenaeeloaa

/-! CountP -/
namespace Go.Proofs.Ytllnfbenaeeloaa

/-- p choose k, step by step. -/
def chM (p : Nat) : Nat → Nat
  | 0 => 1
  | k + 1 => chM p k * (p - k) / (k + 1)

/-- How many lists of t trees have c carets together. -/
def listsN (t c : Nat) : Nat := chM (2 * c + t) c * t / (2 * c + t)

/-- How many trees have k carets. -/
def catN : Nat → Nat
  | 0 => 1
  | k + 1 => catN k * 2 * (2 * k + 1) / (k + 2)

theorem chM_le (p : Nat) (hp : p ≤ 40) : ∀ k, k ≤ 8 → chM p k ≤ 40 ^ k := by
  intro k
  induction k with
  | zero => intro _; simp [chM]
  | succ k ih =>
    intro h
    have h1 := ih (by omega)
    rw [chM, Nat.pow_succ]
    refine Nat.le_trans (Nat.div_le_self _ _) ?_
    exact Nat.mul_le_mul h1 (by omega)

theorem chM_bd (p k : Nat) (hp : p ≤ 40) (hk : k ≤ 8) : chM p k ≤ 6553600000000 := by
  have h1 := chM_le p hp k hk
  have h2 : 40 ^ k ≤ 40 ^ 8 := Nat.pow_le_pow_right (by omega) hk
  have h3 : (40 : Nat) ^ 8 = 6553600000000 := by decide
  omega

theorem catN_bd : ∀ k, k ≤ 8 → catN k ≤ 1430 := by decide
theorem lists_cat : ∀ k, k ≤ 8 → listsN 1 k = catN k := by decide

end Go.Proofs.Ytllnfbenaeeloaa

/-! OrdP -/
namespace Go.Proofs.Ytllnfbenaeeloaa
open Go.Op (bytesLess)

namespace Tr
def eqB : Tr → Tr → Bool
  | lf, lf => true
  | nd l r, nd p q => l.eqB p && r.eqB q
  | _, _ => false
/-- The order of texts, read off the trees. -/
def lt : Tr → Tr → Bool
  | lf, _ => false
  | nd _ _, lf => true
  | nd l r, nd p q => l.lt p || (l.eqB p && r.lt q)
end Tr

theorem eqB_iff (t : Tr) : ∀ u : Tr, t.eqB u = true ↔ t = u := by
  induction t with
  | lf => intro u; cases u <;> simp [Tr.eqB]
  | nd l r ihl ihr => intro u; cases u with
    | lf => simp [Tr.eqB]
    | nd p q => simp [Tr.eqB, ihl, ihr]
theorem eqB_self (t : Tr) : t.eqB t = true := (eqB_iff t t).2 rfl
theorem lt_irrefl (t : Tr) : t.lt t = false := by
  induction t with
  | lf => rfl
  | nd l r ihl ihr => simp [Tr.lt, ihl, ihr]

theorem bytesLess_text (t : Tr) : ∀ (u : Tr) (q q' : List UInt8), bytesLess (t.text ++ q) (u.text ++ q') = (t.lt u || (t.eqB u && bytesLess q q')) := by
  induction t with
  | lf =>
    intro u q q'
    cases u with
    | lf => simp [Tr.text, bytesLess, Tr.lt, Tr.eqB]
    | nd a b => simp [Tr.text, bytesLess, Tr.lt, Tr.eqB]
  | nd l r ihl ihr =>
    intro u q q'
    cases u with
    | lf => simp [Tr.text, bytesLess, Tr.lt, Tr.eqB]
    | nd a b =>
      have e1 : (Tr.nd l r).text ++ q = 40 :: (l.text ++ (r.text ++ (41 :: q))) := by simp [Tr.text]
      have e2 : (Tr.nd a b).text ++ q' = 40 :: (a.text ++ (b.text ++ (41 :: q'))) := by simp [Tr.text]
      rw [e1, e2, bytesLess, ihl, ihr, bytesLess]
      simp only [Tr.lt, Tr.eqB]
      cases l.lt a <;> cases l.eqB a <;> cases r.lt b <;> cases r.eqB b <;> simp

theorem bytesLess_str (t u : Tr) : bytesLess t.str.toList u.str.toList = t.lt u := by
  have := bytesLess_text t u [] []
  rw [Lib.toList_data, Lib.toList_data, Tr.str_list, Tr.str_list]
  simpa [bytesLess] using this

/-! Lists of trees: m trees with c carets together, in the order of their texts. -/

/-- The order of lists of as many trees. -/
def ltL : List Tr → List Tr → Bool
  | t :: ts, u :: us => t.lt u || (t.eqB u && ltL ts us)
  | _, _ => false

def mkNd : List Tr → List Tr
  | l :: r :: ts => .nd l r :: ts
  | ts => ts

/-- All lists of m trees with c carets together, in order (fuel: 2 c + m). -/
def enumF : Nat → Nat → Nat → List (List Tr)
  | 0, _, c => if c = 0 then [[]] else []
  | k + 1, m, c =>
    if m = 0 then (if c = 0 then [[]] else [])
    else (if c = 0 then [] else (enumF k (m + 1) (c - 1)).map mkNd) ++ (enumF k (m - 1) c).map (.lf :: ·)

theorem mem_enumF (k : Nat) : ∀ (m c : Nat) (ts : List Tr), 2 * c + m ≤ k → (ts ∈ enumF k m c ↔ ts.length = m ∧ (ts.map Tr.carets).sum = c) := by
  induction k with
  | zero =>
    intro m c ts h
    obtain ⟨rfl, rfl⟩ : m = 0 ∧ c = 0 := by omega
    simp [enumF]
    intro h; subst h; rfl
  | succ k ih =>
    intro m c ts h
    rw [enumF]
    by_cases hm : m = 0
    · subst hm
      rw [if_pos rfl]
      by_cases hc : c = 0
      · subst hc
        simp
        intro h; subst h; rfl
      · rw [if_neg hc]
        simp
        intro h; subst h; simp; omega
    · rw [if_neg hm, List.mem_append]
      constructor
      · rintro (h1 | h1)
        · by_cases hc : c = 0
          · simp [hc] at h1
          · rw [if_neg hc, List.mem_map] at h1
            obtain ⟨us, h2, rfl⟩ := h1
            rw [ih _ _ _ (by omega)] at h2
            match us, h2 with
            | [], h2 => simp at h2
            | [_], h2 => simp at h2; omega
            | l :: r :: us, h2 => simp [mkNd, Tr.carets] at h2 ⊢; omega
        · rw [List.mem_map] at h1
          obtain ⟨us, h2, rfl⟩ := h1
          rw [ih _ _ _ (by omega)] at h2
          simp [Tr.carets]; omega
      · rintro ⟨h1, h2⟩
        match ts, h1, h2 with
        | [], h1, h2 => simp at h1; omega
        | .lf :: ts, h1, h2 =>
          right
          rw [List.mem_map]
          refine ⟨ts, ?_, rfl⟩
          rw [ih _ _ _ (by omega)]
          simp [Tr.carets] at h1 h2; omega
        | .nd l r :: ts, h1, h2 =>
          left
          simp [Tr.carets] at h1 h2
          rw [if_neg (by omega), List.mem_map]
          refine ⟨l :: r :: ts, ?_, rfl⟩
          rw [ih _ _ _ (by omega)]
          simp; omega

theorem ltL_mkNd {ts us : List Tr} (h1 : 2 ≤ ts.length) (h2 : 2 ≤ us.length) : ltL (mkNd ts) (mkNd us) = ltL ts us := by
  match ts, us, h1, h2 with
  | l :: r :: ts, p :: q :: us, _, _ =>
    simp only [mkNd, ltL, Tr.lt, Tr.eqB]
    cases l.lt p <;> cases l.eqB p <;> cases r.lt q <;> cases r.eqB q <;> simp

theorem enumF_sorted (k : Nat) : ∀ (m c : Nat), 2 * c + m ≤ k → (enumF k m c).Pairwise (fun a b => ltL a b = true) := by
  induction k with
  | zero => intro m c h; rw [enumF]; split <;> simp
  | succ k ih =>
    intro m c h
    rw [enumF]
    split
    · split <;> simp
    · next hm =>
      rw [List.pairwise_append]
      refine ⟨?_, ?_, ?_⟩
      · split
        · simp
        · rw [List.pairwise_map]
          refine (ih (m + 1) (c - 1) (by omega)).imp_of_mem ?_
          intro a b ha hb hab
          rw [mem_enumF k _ _ _ (by omega)] at ha hb
          rw [ltL_mkNd (by omega) (by omega)]; exact hab
      · rw [List.pairwise_map]
        refine (ih (m - 1) c (by omega)).imp ?_
        intro a b hab
        simp [ltL, Tr.lt, Tr.eqB, hab]
      · intro a ha b hb
        split at ha
        · simp at ha
        · rw [List.mem_map] at ha hb
          obtain ⟨us, h1, rfl⟩ := ha
          obtain ⟨vs, h2, rfl⟩ := hb
          rw [mem_enumF k _ _ _ (by omega)] at h1
          match us, h1 with
          | [], h1 => simp at h1
          | [_], h1 => simp at h1; omega
          | l :: r :: us, _ => simp [mkNd, ltL, Tr.lt]

/-- All trees with n carets, in order. -/
def treesN (n : Nat) : List Tr := (enumF (2 * n + 1) 1 n).map fun ts => ts.headD .lf

theorem mem_treesN (n : Nat) (t : Tr) : t ∈ treesN n ↔ t.carets = n := by
  unfold treesN
  rw [List.mem_map]
  constructor
  · rintro ⟨ts, h, rfl⟩
    rw [mem_enumF _ _ _ _ (by omega)] at h
    match ts, h with
    | [t], h => simpa using h.2
  · intro h
    refine ⟨[t], ?_, rfl⟩
    rw [mem_enumF _ _ _ _ (by omega)]
    simpa using h

theorem treesN_sorted (n : Nat) : (treesN n).Pairwise (fun a b => a.lt b = true) := by
  unfold treesN
  rw [List.pairwise_map]
  refine (enumF_sorted (2 * n + 1) 1 n (by omega)).imp_of_mem ?_
  intro a b ha hb hab
  rw [mem_enumF _ _ _ _ (by omega)] at ha hb
  match a, b, ha, hb with
  | [a], [b], _, _ => simpa [ltL] using hab

theorem treesN_nodup (n : Nat) : (treesN n).Nodup := by
  refine (treesN_sorted n).imp ?_
  intro a b h e
  subst e
  rw [lt_irrefl] at h
  simp at h

/-! Counting. -/
theorem listsN_rec : ∀ c, c ≤ 8 → ∀ m, m ≤ 17 → 2 * c + m ≤ 18 → listsN (m + 1) c = (if c = 0 then 0 else listsN (m + 2) (c - 1)) + (if m = 0 then (if c = 0 then 1 else 0) else listsN m c) := by decide

theorem enumF_length (k : Nat) : ∀ (m c : Nat), 2 * c + m ≤ k → c ≤ 8 → 2 * c + m ≤ 18 → (enumF k m c).length = if m = 0 then (if c = 0 then 1 else 0) else listsN m c := by
  induction k with
  | zero =>
    intro m c h _ _
    obtain ⟨rfl, rfl⟩ : m = 0 ∧ c = 0 := by omega
    rfl
  | succ k ih =>
    intro m c h h8 h18
    rw [enumF]
    by_cases hm : m = 0
    · subst hm; simp only [if_true]; split <;> rfl
    · rw [if_neg hm, if_neg hm]
      obtain ⟨m', rfl⟩ : ∃ m', m = m' + 1 := ⟨m - 1, by omega⟩
      have hr := listsN_rec c h8 m' (by omega) (by omega)
      rw [hr, List.length_append, List.length_map]
      have h2 := ih m' c (by omega) h8 (by omega)
      have e : m' + 1 - 1 = m' := by omega
      rw [e, h2]
      congr 1
      split
      · rfl
      · next hc =>
        rw [List.length_map, ih (m' + 1 + 1) (c - 1) (by omega) (by omega) (by omega), if_neg (by omega)]

theorem treesN_length (n : Nat) (h : n ≤ 8) : (treesN n).length = listsN 1 n := by
  unfold treesN
  rw [List.length_map, enumF_length _ _ _ (by omega) h (by omega)]
  rfl

theorem enumF_fuel (k : Nat) : ∀ (j m c : Nat), 2 * c + m ≤ k → 2 * c + m ≤ j → enumF k m c = enumF j m c := by
  induction k with
  | zero =>
    intro j m c h1 h2
    obtain ⟨rfl, rfl⟩ : m = 0 ∧ c = 0 := by omega
    cases j <;> rfl
  | succ k ih =>
    intro j m c h1 h2
    cases j with
    | zero =>
      obtain ⟨rfl, rfl⟩ : m = 0 ∧ c = 0 := by omega
      rfl
    | succ j =>
      rw [enumF, enumF]
      split
      · rfl
      · rw [ih j (m - 1) c (by omega) (by omega)]
        split
        · rfl
        · rw [ih j (m + 1) (c - 1) (by omega) (by omega)]

/-- All lists of m trees with c carets together, in order. -/
def enum (m c : Nat) : List (List Tr) := enumF (2 * c + m) m c
theorem enum_rec {m c : Nat} (h : 1 ≤ m) : enum m c = (if c = 0 then [] else (enum (m + 1) (c - 1)).map mkNd) ++ (enum (m - 1) c).map (.lf :: ·) := by
  unfold enum
  obtain ⟨k, hk⟩ : ∃ k, 2 * c + m = k + 1 := ⟨2 * c + m - 1, by omega⟩
  rw [hk, enumF, if_neg (by omega), enumF_fuel k (2 * c + (m - 1)) (m - 1) c (by omega) (by omega)]
  split
  · rfl
  · rw [enumF_fuel k (2 * (c - 1) + (m + 1)) (m + 1) (c - 1) (by omega) (by omega)]
theorem mem_enum {m c : Nat} {ts : List Tr} : ts ∈ enum m c ↔ ts.length = m ∧ (ts.map Tr.carets).sum = c := mem_enumF _ _ _ _ (Nat.le_refl _)
theorem enum_length {m c : Nat} (h8 : c ≤ 8) (h : 2 * c + m ≤ 18) (hm : 1 ≤ m) : (enum m c).length = listsN m c := by
  unfold enum
  rw [enumF_length _ _ _ (Nat.le_refl _) h8 h, if_neg (by omega)]
theorem enum_zero : enum 0 0 = [[]] := rfl

/-! The walk by ranks: where a list of trees is. -/

/-- How many lists have a caret first. -/
def frontN (m c : Nat) : Nat := if c = 0 then 0 else listsN (m + 1) (c - 1)

theorem front_length {m c : Nat} (h8 : c ≤ 8) (h : 2 * c + m ≤ 18) : (if c = 0 then [] else (enum (m + 1) (c - 1)).map mkNd).length = frontN m c := by
  unfold frontN
  split
  · rfl
  · rw [List.length_map, enum_length (by omega) (by omega) (by omega)]

/-- The first tree of the list with rank r, and where the rest is: trees, carets, rank. -/
def nextF : Nat → Nat → Nat → Nat → Tr × Nat × Nat × Nat
  | 0, m, c, r => (.lf, m, c, r)
  | k + 1, m, c, r =>
    if frontN m c ≤ r then (.lf, m - 1, c, r - frontN m c)
    else (.nd (nextF k (m + 1) (c - 1) r).1 (nextF k (nextF k (m + 1) (c - 1) r).2.1 (nextF k (m + 1) (c - 1) r).2.2.1 (nextF k (m + 1) (c - 1) r).2.2.2).1,
      (nextF k (nextF k (m + 1) (c - 1) r).2.1 (nextF k (m + 1) (c - 1) r).2.2.1 (nextF k (m + 1) (c - 1) r).2.2.2).2)

theorem nextF_get (k : Nat) : ∀ (m c r : Nat) (us : List Tr), 2 * c + m ≤ k → 1 ≤ m → c ≤ 8 → 2 * c + m ≤ 18 → (enum m c)[r]? = some us →
    ∃ ts, us = (nextF k m c r).1 :: ts ∧ (nextF k m c r).2.1 + 1 = m ∧ (nextF k m c r).2.2.1 + (nextF k m c r).1.carets = c ∧ (enum (m - 1) (nextF k m c r).2.2.1)[(nextF k m c r).2.2.2]? = some ts := by
  induction k with
  | zero => intro m c r us h h1; omega
  | succ k ih =>
    intro m c r us hk hm h8 h18 hget
    have hl := front_length (m := m) h8 h18
    rw [enum_rec hm] at hget
    rw [nextF]
    by_cases hf : frontN m c ≤ r
    · rw [if_pos hf]
      rw [List.getElem?_append_right (by omega), hl, List.getElem?_map] at hget
      cases h0 : (enum (m - 1) c)[r - frontN m c]? with
      | none => rw [h0] at hget; simp at hget
      | some ts =>
        rw [h0] at hget
        simp at hget
        exact ⟨ts, hget.symm, by show m - 1 + 1 = m; omega, by simp [Tr.carets], rfl⟩
    · rw [if_neg hf]
      rw [List.getElem?_append_left (by omega)] at hget
      have hc : ¬ c = 0 := by intro h; rw [if_pos h] at hget; simp at hget
      rw [if_neg hc, List.getElem?_map] at hget
      cases h0 : (enum (m + 1) (c - 1))[r]? with
      | none => rw [h0] at hget; simp at hget
      | some vs =>
        rw [h0] at hget
        simp at hget
        obtain ⟨ts1, e1, s1, s2, s3⟩ := ih (m + 1) (c - 1) r vs (by omega) (by omega) (by omega) (by omega) h0
        have hm1 : (nextF k (m + 1) (c - 1) r).2.1 = m := by omega
        obtain ⟨ts2, e2, q1, q2, q3⟩ := ih m (nextF k (m + 1) (c - 1) r).2.2.1 (nextF k (m + 1) (c - 1) r).2.2.2 ts1 (by omega) hm (by omega) (by omega) s3
        rw [hm1]
        refine ⟨ts2, ?_, q1, ?_, q3⟩
        · rw [← hget, e1, e2]; rfl
        · simp only [Tr.carets]; omega

/-- The tree with n carets and the rank r. -/
def treeAt (n r : Nat) : Tr := (nextF (2 * n + 1) 1 n r).1
theorem treesN_get (n r : Nat) (hn : n ≤ 8) (hr : r < listsN 1 n) : (treesN n)[r]? = some (treeAt n r) := by
  have hlen := enum_length (m := 1) hn (by omega) (Nat.le_refl _)
  have hx : r < (enum 1 n).length := by omega
  obtain ⟨ts, e, _, _, _⟩ := nextF_get (2 * n + 1) 1 n r _ (by omega) (Nat.le_refl _) hn (by omega) (List.getElem?_eq_getElem hx)
  unfold treesN
  show ((enum 1 n).map _)[r]? = _
  rw [List.getElem?_map, List.getElem?_eq_getElem hx, e]
  rfl
theorem treesN_eq (n : Nat) (hn : n ≤ 8) : treesN n = (List.range (listsN 1 n)).map (treeAt n) := by
  apply List.ext_getElem?
  intro r
  by_cases hr : r < listsN 1 n
  · rw [treesN_get n r hn hr, List.getElem?_map, List.getElem?_range hr]
    rfl
  · rw [List.getElem?_eq_none (by rw [treesN_length n hn]; omega), List.getElem?_eq_none (by simp; omega)]

/-- Where a walk along a tree ends: trees, carets, rank. -/
def rkT : Tr → Nat × Nat × Nat → Nat × Nat × Nat
  | .lf, s => (s.1 - 1, s.2.1, s.2.2 + frontN s.1 s.2.1)
  | .nd l r, s => rkT r (rkT l (s.1 + 1, s.2.1 - 1, s.2.2))

theorem rkT_get (t : Tr) : ∀ (m c r i : Nat) (ts : List Tr), 1 ≤ m → c ≤ 8 → 2 * c + m ≤ 18 → t.carets ≤ c → (enum (m - 1) (c - t.carets))[i]? = some ts →
    ∃ d, rkT t (m, c, r) = (m - 1, c - t.carets, r + d) ∧ (enum m c)[d + i]? = some (t :: ts) := by
  induction t with
  | lf =>
    intro m c r i ts hm h8 h18 ht hget
    refine ⟨frontN m c, rfl, ?_⟩
    have hl := front_length (m := m) h8 h18
    rw [enum_rec hm, List.getElem?_append_right (by omega), hl, Nat.add_sub_cancel_left, List.getElem?_map]
    have : (enum (m - 1) c)[i]? = some ts := hget
    rw [this]; rfl
  | nd l r ihl ihr =>
    intro m c x i ts hm h8 h18 ht hget
    simp only [Tr.carets] at ht hget ⊢
    have e1 : c - 1 - l.carets - r.carets = c - (l.carets + r.carets + 1) := by omega
    have h2 := fun x => ihr m (c - 1 - l.carets) x i ts hm (by omega) (by omega) (by omega) (by rw [e1]; exact hget)
    obtain ⟨d0, _, g0⟩ := h2 0
    obtain ⟨d1, f1, g1⟩ := ihl (m + 1) (c - 1) x (d0 + i) (r :: ts) (by omega) (by omega) (by omega) (by omega) (by rw [Nat.add_sub_cancel]; exact g0)
    obtain ⟨d2, f2, g2⟩ := h2 (x + d1)
    have hd : d2 + i = d0 + i := by
      have hn : (enum m (c - 1 - l.carets)).Nodup := by
        refine (enumF_sorted _ m (c - 1 - l.carets) (Nat.le_refl _)).imp ?_
        intro a b h e
        subst e
        have : ∀ a : List Tr, ltL a a = false := by
          intro a; induction a with
          | nil => rfl
          | cons t ts ih => simp [ltL, lt_irrefl, ih]
        rw [this] at h; simp at h
      have hx := List.getElem?_eq_some_iff.1 g2
      have hy := List.getElem?_eq_some_iff.1 g0
      exact (List.getElem_inj hn).1 (hx.2.trans hy.2.symm)
    refine ⟨d1 + d2, ?_, ?_⟩
    · rw [rkT]
      show rkT r (rkT l (m + 1, c - 1, x)) = _
      rw [f1, Nat.add_sub_cancel, f2, e1, Nat.add_assoc x d1 d2]
    · have hl := front_length (m := m) h8 h18
      have hlt := (List.getElem?_eq_some_iff.1 g1).1
      rw [enum_length (by omega) (by omega) (by omega)] at hlt
      have hfr : frontN m c = listsN (m + 1) (c - 1) := by unfold frontN; rw [if_neg (by omega)]
      rw [enum_rec hm, List.getElem?_append_left (by rw [hl]; omega), if_neg (by omega), List.getElem?_map]
      have e2 : d1 + d2 + i = d1 + (d0 + i) := by omega
      rw [e2, g1]; rfl

/-- The rank of a tree. -/
def rankT (t : Tr) : Nat := (rkT t (1, t.carets, 0)).2.2
theorem rankT_get (t : Tr) (h : t.carets ≤ 8) : (treesN t.carets)[rankT t]? = some t := by
  obtain ⟨d, f, g⟩ := rkT_get t 1 t.carets 0 0 [] (Nat.le_refl _) h (by omega) (Nat.le_refl _) (by rw [Nat.sub_self, Nat.sub_self, enum_zero]; rfl)
  have : rankT t = d := by unfold rankT; rw [f]; simp
  rw [this]
  unfold treesN
  show ((enum 1 t.carets).map _)[d]? = _
  rw [List.getElem?_map]
  have g' : (enum 1 t.carets)[d]? = some [t] := g
  rw [g']; rfl

/-- In a sorted list as many are less than one as are in front of it. -/
theorem countP_sorted {l : List Tr} (h : l.Pairwise (fun a b => a.lt b = true)) {i : Nat} {t : Tr} (hi : l[i]? = some t) : l.countP (fun u => u.lt t) = i := by
  induction l generalizing i with
  | nil => simp at hi
  | cons a l ih =>
    rw [List.pairwise_cons] at h
    cases i with
    | zero =>
      simp at hi
      subst hi
      rw [List.countP_cons_of_neg (by rw [lt_irrefl]; simp)]
      rw [List.countP_eq_zero]
      intro b hb hba
      have := h.1 b hb
      have asym : ∀ x y : Tr, x.lt y = true → y.lt x = true → False := by
        intro x
        induction x with
        | lf => intro y h; simp [Tr.lt] at h
        | nd l r ihl ihr =>
          intro y h1 h2
          cases y with
          | lf => simp [Tr.lt] at h2
          | nd p q =>
            simp [Tr.lt, eqB_iff] at h1 h2
            rcases h1 with h1 | ⟨rfl, h1⟩
            · rcases h2 with h2 | ⟨rfl, h2⟩
              · exact ihl _ h1 h2
              · rw [lt_irrefl] at h1; simp at h1
            · rcases h2 with h2 | ⟨_, h2⟩
              · rw [lt_irrefl] at h2; simp at h2
              · exact ihr _ h1 h2
      exact asym _ _ this hba
    | succ i =>
      have hi' : l[i]? = some t := by simpa using hi
      have hm : t ∈ l := List.mem_of_getElem? hi'
      have := ih h.2 hi'
      rw [List.countP_cons_of_pos (by exact h.1 t hm), this]

theorem lt_total (t : Tr) : ∀ u : Tr, t.lt u = true ∨ t = u ∨ u.lt t = true := by
  induction t with
  | lf => intro u; cases u with
    | lf => exact .inr (.inl rfl)
    | nd p q => exact .inr (.inr rfl)
  | nd l r ihl ihr =>
    intro u
    cases u with
    | lf => exact .inl rfl
    | nd p q =>
      simp only [Tr.lt, Bool.or_eq_true, Bool.and_eq_true, eqB_iff]
      rcases ihl p with h | rfl | h
      · exact .inl (.inl h)
      · rcases ihr q with h | rfl | h
        · exact .inl (.inr ⟨rfl, h⟩)
        · exact .inr (.inl rfl)
        · exact .inr (.inr (.inr ⟨rfl, h⟩))
      · exact .inr (.inr (.inl h))

/-! The spec's list, before it is sorted. -/
/-- All trees with n + 1 carets, by the carets of the left side. -/
def rawT (n : Nat) : List Tr := (List.range (n + 1)).flatMap fun i => (treesN i).flatMap fun l => (treesN (n - i)).map fun r => .nd l r

theorem mem_rawT (n : Nat) (t : Tr) : t ∈ rawT n ↔ t.carets = n + 1 := by
  unfold rawT
  simp only [List.mem_flatMap, List.mem_range, List.mem_map, mem_treesN]
  constructor
  · rintro ⟨i, hi, l, rfl, r, hr, rfl⟩
    simp [Tr.carets]; omega
  · intro h
    cases t with
    | lf => simp [Tr.carets] at h
    | nd l r =>
      simp [Tr.carets] at h
      exact ⟨l.carets, by omega, l, rfl, r, by omega, rfl⟩

theorem nodup_flatMap {α β : Type} {l : List α} {f : α → List β} (h1 : ∀ x ∈ l, (f x).Nodup) (h2 : l.Pairwise (fun x y => ∀ b, b ∈ f x → b ∈ f y → False)) : (l.flatMap f).Nodup := by
  induction l with
  | nil => simp
  | cons a l ih =>
    rw [List.pairwise_cons] at h2
    rw [List.flatMap_cons, List.nodup_append]
    refine ⟨h1 a (by simp), ih (fun x hx => h1 x (by simp [hx])) h2.2, ?_⟩
    intro b hb c hc e
    subst e
    rw [List.mem_flatMap] at hc
    obtain ⟨y, hy, hby⟩ := hc
    exact h2.1 y hy b hb hby

theorem rawT_nodup (n : Nat) : (rawT n).Nodup := by
  unfold rawT
  refine nodup_flatMap ?_ ?_
  · intro i _
    refine nodup_flatMap ?_ ?_
    · intro l _
      rw [List.nodup_iff_pairwise_ne, List.pairwise_map]
      refine (treesN_nodup _).imp ?_
      intro a b hne e
      injection e with e1 e2
      exact hne e2
    · refine (treesN_nodup i).imp ?_
      intro l l' hne b h1 h2
      simp only [List.mem_map] at h1 h2
      obtain ⟨r, _, rfl⟩ := h1
      obtain ⟨r', _, e⟩ := h2
      injection e with e1 e2
      exact hne e1.symm
  · refine List.nodup_range.imp ?_
    intro i j hne b h1 h2
    simp only [List.mem_flatMap, List.mem_map, mem_treesN] at h1 h2
    obtain ⟨l, hl, r, _, rfl⟩ := h1
    obtain ⟨l', hl', r', _, e⟩ := h2
    injection e with e1 e2
    subst e1
    exact hne (hl.symm.trans hl')

/-- Whatever is sorted and holds the same trees is the list in order. -/
theorem sorted_eq {n : Nat} {l : List Tr} (hs : l.Pairwise (fun a b => a.lt b = true)) (hp : List.Perm l (rawT n)) : l = treesN (n + 1) := by
  have h1 : List.Perm l (treesN (n + 1)) := by
    refine hp.trans ((List.perm_ext_iff_of_nodup (rawT_nodup n) (treesN_nodup _)).2 ?_)
    intro t
    rw [mem_rawT, mem_treesN]
  refine List.Perm.eq_of_pairwise ?_ hs (treesN_sorted _) h1
  intro a b _ _ hab hba
  exfalso
  have := countP_sorted (l := [a, b]) (i := 1) (t := b) (by simpa using hab) rfl
  have h2 := countP_sorted (l := [b, a]) (i := 1) (t := a) (by simpa using hba) rfl
  have h3 := countP_sorted (l := [a, b]) (i := 0) (t := a) (by simpa using hab) rfl
  simp [lt_irrefl, hba] at h3
end Go.Proofs.Ytllnfbenaeeloaa

/-! Di1 -/
namespace Go.Proofs.Ytllnfbenaeeloaa
open Go.RowKit Go.Maps

theorem law_str : Keyed Try.prog 9 := string_keyed Try.underlying9
theorem zero_bool (w : World) : (zeroValue 4).run Try.prog w = .ok (.bool false) w := by kernel_rfl
/-- What the text of a tree reads as, as a key. -/
def litT (t : Tr) : Lit := .string t.str.data.toList
theorem litT_inj {t u : Tr} (h : litT t = litT u) : t = u := by
  unfold litT at h
  injection h with h
  exact (Tr.text_inj (r := []) (q := []) (by simpa [Tr.str] using h)).1
def setT (S : Tr → Prop) (x : Lit) : Prop := ∃ t, S t ∧ x = litT t
theorem setT_iff {S : Tr → Prop} {t : Tr} : setT S (litT t) ↔ S t := ⟨fun ⟨_, hu, e⟩ => litT_inj e ▸ hu, fun h => ⟨t, h, rfl⟩⟩
theorem key_tree {t : Tr} (h : t.carets ≤ 8) : keyOf Try.prog 9 (.string t.str) = some (litT t) := by
  have := t.str_size
  exact Go.WideMaps.keyOf_string_mk Try.underlying9 (by unfold maxLen; omega)
theorem key_inv : ∀ key kl, keyOf Try.prog 9 key = some kl → ∃ x, key = Value.string x := by
  intro key kl h
  obtain ⟨x, rfl, _⟩ := Maps.keyOf_str Try.underlying9 h
  exact ⟨_, rfl⟩
theorem key_of {x : ByteArray} {kl : Lit} (h : keyOf Try.prog 9 (.string x) = some kl) : kl = .string x.data.toList := by
  obtain ⟨y, e, rfl, _⟩ := Maps.keyOf_str Try.underlying9 h
  have e2 : x = ⟨y.toArray⟩ := by simpa [encStr] using e
  rw [e2]
theorem treesN_sm5 {k : Nat} (h : k ≤ 5) : (treesN k).length ≤ 42 := by
  rw [treesN_length k (by omega)]
  have h9 : k = 0 ∨ k = 1 ∨ k = 2 ∨ k = 3 ∨ k = 4 ∨ k = 5 := by omega
  clear h
  rcases h9 with rfl | rfl | rfl | rfl | rfl | rfl <;> decide +kernel
/-- A map of trees with so many carets. -/
def SetT (w : World) (b n : Nat) (S : Tr → Prop) : Prop := SetM Try.prog 9 4 w b n (setT S)
theorem SetT.small {w : World} {b n k : Nat} {S : Tr → Prop} (h : SetT w b n S) (hk : k ≤ 5) (hS : ∀ t, S t → t.carets = k) : SetT w b 42 S := by
  have h1 := SetM.tight h law_str (L := (treesN k).map litT) (by rintro x ⟨t, ht, rfl⟩; exact List.mem_map_of_mem ((mem_treesN k t).2 (hS t ht)))
  rw [List.length_map] at h1
  exact h1.mono (treesN_sm5 hk)
theorem SetT.congr {w : World} {b n : Nat} {S T : Tr → Prop} (h : SetT w b n S) (hT : ∀ t, S t ↔ T t) : SetT w b n T :=
  SetM.congr h fun _ => ⟨fun ⟨t, ht, e⟩ => ⟨t, (hT t).1 ht, e⟩, fun ⟨t, ht, e⟩ => ⟨t, (hT t).2 ht, e⟩⟩
def GivesT (S : Tr → Prop) (w : World) (e : Ending) (w' : World) : Prop := ∃ b, w.heap.size ≤ b ∧ SetT w' b 42 S ∧ Below w.heap.size w w' ∧ e = .returned (.map (some b))

set_option maxRecDepth 100000 in
set_option maxHeartbeats 2000000 in
theorem turnedOnce_any (k : Nat) (hk : k ≤ 5) (S : Tr → Prop) (hS : ∀ t, S t → t.carets = k) (b : Nat) (w : World) (h : SetT w b 42 S) :
    Calls Try.prog 42 #[.map (some b)] w (GivesT (fun u => ∃ t, S t ∧ Turn t u) w) := by
  have hmm := @run_makeMap Try.prog
  have hlt := h.lt
  have HH := Lib.hid h
  clear h
  go_enter Try.func42, Try.ntmps42
  go_wp2_with (first | (at_range; refine wpList_range_set rfl _ 62 rfl law_str Try.underlying62 rfl (SetM.alloc HH.out (.map #[] 0)) ?_; intro w0 cnt hr0 hg0 hs0) | go_in)
  go_frame
  have hb0 : Below w.heap.size w w0 := (nxAlloc (Below.refl _ _) (.map #[] 0)).grown hg0 (by simp) (fun k hk => by cases hk)
  have hm0 : SetT w0 w.heap.size 0 (fun _ => False) := (SetM.congr (SetM.made Try.prog 9 4 w) (fun _ => ⟨fun h => h.elim, fun ⟨_, ht, _⟩ => ht.elim⟩)).kept hg0 (by simp)
  have e1 : (w.alloc (.map #[] 0)).heap.size = w.heap.size + 1 := by simp
  clear hs0 hg0 hmm
  generalize (w.alloc (.map #[] 0)).heap.size = r at *
  have hr1 : w.heap.size < r := by omega
  clear e1
  go_loopw [4] (fun _ wr => ∃ (cnt : Nat) (L : Lit → Prop), SetR Try.prog 9 4 wr b r 42 cnt (setT S) L ∧ SetT wr w.heap.size 42 (fun u => ∃ t, S t ∧ ¬ L (litT t) ∧ Turn t u) ∧ Below w.heap.size w wr) (fun _ wr => wr.rangeLeft b r)
  case atStart => exact ⟨cnt, _, hr0, (SetM.mono (SetT.congr hm0 (by intro u; constructor; exact fun h => h.elim; rintro ⟨t, h1, h2, _⟩; exact h2 (setT_iff.2 h1))) (by omega)), hb0⟩
  case round =>
    clear hr0 hm0 hb0
    obtain ⟨cnt2, L, hR, hM, hbw⟩ := hrel
    have HR := Lib.hid hR
    go_wp2_with (first | (at_next; refine wpList_next_set rfl _ rfl law_str Try.underlying4 Value.string key_inv rfl hR ?_ ?_) | go_in)
    · intro hL0
      have hfin : SetT wr w.heap.size 42 (fun u => ∃ t, S t ∧ Turn t u) := hM.congr (by intro u; constructor; rintro ⟨t, h1, _, h2⟩; exact ⟨t, h1, h2⟩; rintro ⟨t, h1, h2⟩; exact ⟨t, h1, hL0 _, h2⟩)
      have HF := Lib.hid hfin
      clear hR hM HR hfin
      go_wp2_with fail
      go_ret
      exact ⟨w.heap.size, Nat.le_refl _, HF.out, hbw, rfl⟩
    · intro x kl w1 cnt1 hkey hLk hR1 hlt1 hg1 hs1 hen
      obtain rfl := key_of hkey
      obtain ⟨t, ht, hx⟩ := SetR.sub law_str hR _ hLk
      obtain rfl : x = t.str := ba_ext (by unfold litT at hx; injection hx)
      have htc := hS t ht
      have hbw1 : Below w.heap.size w w1 := hbw.grown hg1 (by have := hbw.size; omega) (fun k hk => by cases hk; omega)
      have hM1 : SetT w1 w.heap.size 42 _ := SetM.kept hM hg1 (by simp; omega)
      clear hs1 hg1 hM hbw hR hkey hx
      have T := fun w => treeOf_any t w (by omega)
      have N := fun b w h => neighbours_any t b w h (by omega)
      have hnl : (nearL t).map Tr.str = nearT t := nearL_str (by omega)
      have hnc : ∀ u, u ∈ nearL t ↔ Turn t u := fun u => nearL_mem (by omega)
      have hnn := nearL_len t
      rw [← hnl] at N
      clear hnl
      generalize nearL t = us at *
      have HT := Lib.hid ht
      have HN := Lib.hid hnc
      clear hnc ht
      go_wp2_with fail
      refine (T _).mono ?_; rintro e w2 ⟨b2, hn2, hb2, rfl⟩
      have HNo := Lib.hid hn2
      have hR2 := SetR.below hR1 hb2
      have hM2 : SetT w2 w.heap.size 42 _ := SetM.below hM1 hb2
      have hbw2 := nx hbw1 hb2
      clear hn2 hR1 hM1 hbw1 hb2
      go_wp2_with fail
      refine (N b2 _ HNo.out).mono ?_; rintro e w3 ⟨v, own, hb3, rfl⟩
      have hR3 := SetR.below hR2 hb3
      have hM3 : SetT w3 w.heap.size 42 _ := SetM.below hM2 hb3
      have hbw3 := nx hbw2 hb3
      have hgB : ∀ g, v.ownBlock = some g → w.heap.size < g := fun g hg => by have := (World.ownsRow.lt (show w3.ownsRow _ _ _ _ _ _ from own) g hg).1; have := hbw2.size; have := SetM.lt hM2; omega
      obtain ⟨n, hn⟩ : ∃ n, n = us.length := ⟨_, rfl⟩
      have hform : ∃ oa cap, v = .slice oa n cap ∧ n ≤ 16 ∧ ∀ j, j < n → ∃ g, oa = some ⟨g, 0, none⟩ ∧ w.heap.size < g ∧ g < w3.heap.size ∧ w3.cell? ⟨g, j, none⟩ = some (.string (us.getD j .lf).str) := by
        rcases own.cells with ⟨h1, h0⟩ | ⟨g, cap, rfl, hgb, hg, q1, q2, hc, _⟩
        · have h9 : us = [] := by simpa using h0
          rw [h9] at hn
          exact ⟨none, 0, by rw [h1, hn]; rfl, by rw [hn]; simp, fun j hj => by rw [hn] at hj; simp at hj⟩
        · rw [List.length_map, ← hn] at q1 hc
          unfold maxLen at q2
          refine ⟨_, cap, by rw [List.length_map, ← hn], by omega, fun j hj => ⟨g, rfl, hgB g rfl, hg, ?_⟩⟩
          rw [hc j hj]
          have : j < us.length := by omega
          simp [List.getD_eq_getElem?_getD, this]
      obtain ⟨oa, cap, rfl, hn63, hc⟩ := hform
      have HC := Lib.hid hc
      have HLN := Lib.hid hn
      clear own hR2 hM2 hbw2 hb3 hgB hc hn T N HNo
      go_wp2_with fail
      go_loopw [6, 18] (fun _ c wr => ∃ j : Nat, j ≤ n ∧ c = .int .i64 j ∧ SetR Try.prog 9 4 wr b r 42 cnt1 (setT S) (fun z => L z ∧ z ≠ litT t) ∧ SetT wr w.heap.size (42 + j) (fun u => (∃ t, S t ∧ ¬ L (litT t) ∧ Turn t u) ∨ u ∈ us.take j) ∧ Below w.heap.size w wr ∧ w3.heap.size ≤ wr.heap.size ∧ ∀ g, w.heap.size < g → g < w3.heap.size → wr.heap[g]? = w3.heap[g]?) (fun _ c _ => n - (intOf c).toNat)
      case atStart => exact ⟨0, Nat.zero_le _, rfl, hR3, hM3.congr (by intro u; simp), hbw3, Nat.le_refl _, fun _ _ _ => rfl⟩
      case round =>
        clear hR3 hM3 hbw3
        obtain ⟨j, hj, rfl, hR4, hM4, hbw4, hsz4, hfar⟩ := hrel
        by_cases hjn : j < n
        · have hjn' : (j : Int) < (n : Int) := by omega
          obtain ⟨g, rfl, hg1, hg2, hcj⟩ := HC.out j hjn
          have c1 : wr.cell? ⟨g, j, none⟩ = some (.string (us.getD j .lf).str) := (World.cell?_of_block (a := ⟨g, j, none⟩) (hfar g hg1 hg2)).trans hcj
          have hju : j < us.length := by rw [← HLN.out]; exact hjn
          have hmem : us.getD j .lf ∈ us := by rw [List.getD_eq_getElem?_getD, List.getElem?_eq_getElem hju]; exact List.getElem_mem hju
          have htk : us.take (j + 1) = us.take j ++ [us.getD j .lf] := by rw [List.take_succ_eq_append_getElem hju]; simp [hju]
          have huc := ((HN.out _).1 hmem).carets
          have HTK := Lib.hid htk
          obtain ⟨u, hu⟩ : ∃ u, u = us.getD j .lf := ⟨_, rfl⟩
          rw [← hu] at c1 huc
          have HU := Lib.hid hu
          have hku := key_tree (t := u) (by omega)
          have HM := Lib.hid hM4
          clear hcj hmem htk hu hju hM4
          go_wp2_with (first | (at_mapUpdate; go_loud (refine wpList_put_set rfl _ _ _ 62 rfl law_str Try.underlying62 Try.underlying4 rfl HM.out (by unfold maxLen; omega) _ _ rfl rfl hku ?_); intro w9 hm9 hg9) | go_in)
          have hR9 := SetR.kept hR4 hg9 (by simp; omega) (by simp; omega)
          have hM9 : SetT w9 w.heap.size (42 + (j + 1)) (fun u => (∃ t, S t ∧ ¬ L (litT t) ∧ Turn t u) ∨ u ∈ us.take (j + 1)) := SetM.congr hm9 (by
            intro x
            rw [HTK.out, ← HU.out]
            constructor
            · rintro (⟨t', h1, e⟩ | e)
              · exact ⟨t', h1.imp id (fun h => List.mem_append_left _ h), e⟩
              · exact ⟨u, Or.inr (by simp), e⟩
            · rintro ⟨t', h1 | h1, e⟩
              · exact Or.inl ⟨t', Or.inl h1, e⟩
              · rcases List.mem_append.1 h1 with h1 | h1
                · exact Or.inl ⟨t', Or.inr h1, e⟩
                · simp at h1; subst h1; exact Or.inr e)
          have hbw9 : Below w.heap.size w w9 := hbw4.grown hg9 hbw4.size (fun k hk => by cases hk; exact Nat.le_refl _)
          have hfar9 : ∀ g, w.heap.size < g → g < w3.heap.size → w9.heap[g]? = w3.heap[g]? := fun g hg hg3 => (hg9.block g (by omega) (by simp; omega)).trans (hfar g hg hg3)
          have hsz9 := Nat.le_trans hsz4 hg9.size
          go_roundw
          case rel => exact ⟨j + 1, by omega, by go_num, hR9, hM9, hbw9, hsz9, hfar9⟩
          case measure => simp [intOf]; omega
        · obtain rfl : j = n := by omega
          have hfin : SetT wr w.heap.size 42 (fun u => ∃ t', S t' ∧ ¬ (L (litT t') ∧ litT t' ≠ litT t) ∧ Turn t' u) := SetT.small (k := k) (SetT.congr hM4 (by
            intro u
            rw [HLN.out, List.take_length, HN.out]
            constructor
            · rintro (⟨t', h1, h2, h3⟩ | h3)
              · exact ⟨t', h1, fun h => h2 h.1, h3⟩
              · exact ⟨t, HT.out, fun h => h.2 rfl, h3⟩
            · rintro ⟨t', h1, h2, h3⟩
              by_cases e : t' = t
              · subst e; exact Or.inr h3
              · exact Or.inl ⟨t', h1, fun h => h2 ⟨h, fun h9 => e (litT_inj h9)⟩, h3⟩)) hk (by rintro u ⟨t', h1, _, h3⟩; rw [h3.carets, hS t' h1])
          have HF := Lib.hid hfin
          clear hM4 hfin hfar
          go_wp2_with fail
          go_roundw
          case rel => exact ⟨cnt1, _, hR4, HF.out, hbw4⟩
          case measure => rw [hR4.left_eq, HR.out.left_eq]; omega
end Go.Proofs.Ytllnfbenaeeloaa

/-! Ch1 -/
namespace Go.Proofs.Ytllnfbenaeeloaa
open Go.RowKit

theorem one_facts {w : World} {g : Nat} {u : Value} {t : TypeId} (h : w.heap[g]? = some (.cells #[u] t (0, 0))) : w.cell? ⟨g, 0, none⟩ = some u ∧ w.frozen? ⟨g, 0, none⟩ = false ∧ g < w.heap.size := by
  refine ⟨by simp [World.cell?, h], by simp [World.frozen?, h], lt_of_block h⟩
theorem set_oneB {w : World} {g : Nat} {u : Value} (u' : Value) {t : TypeId} (h : w.heap[g]? = some (.cells #[u] t (0, 0))) : (w.setCell ⟨g, 0, none⟩ u').heap[g]? = some (.cells #[u'] t (0, 0)) := Joins.block_setCell h u'

/-- What next hands back. -/
def NextP (o : Option Tr) (w : World) (e : Ending) (w' : World) : Prop :=
  match o with
  | some u => ∃ b, NodeAt w' u b ∧ Below w.heap.size w w' ∧ e = .returned (.tuple #[.agg #[.pointer (some ⟨b, 0, none⟩)], .bool true])
  | none => Below w.heap.size w w' ∧ e = .returned (.tuple #[.agg #[.pointer none], .bool false])

theorem NodeAt.grown {w w' : World} {row : Option Nat} (hg : w.grownBy w' row) : ∀ {t : Tr} {b : Nat}, NodeAt w t b → (∀ k, row = some k → ∀ u v, w.heap[k]? ≠ some (.cells #[u, v] 128 (0, 0))) → NodeAt w' t b := by
  intro t
  induction t with
  | lf =>
    intro b h hr
    have h' : w.heap[b]? = some (.cells #[.pointer none, .pointer none] 128 (0, 0)) := h
    exact (hg.block b (lt_of_block h') (fun e => hr b e.symm _ _ h')).trans h'
  | nd l r ihl ihr =>
    intro b h hr
    obtain ⟨bl, br, h, h1, h2⟩ := h
    exact ⟨bl, br, (hg.block b (lt_of_block h) (fun e => hr b e.symm _ _ h)).trans h, ihl h1 hr, ihr h2 hr⟩
theorem setOne_grown {w : World} {g : Nat} {u : Value} (u' : Value) {t : TypeId} (h : w.heap[g]? = some (.cells #[u] t (0, 0))) : w.grownBy (w.setCell ⟨g, 0, none⟩ u') (some g) := by
  exact (World.ownsRow.stored (base := 0) (e := t) (size := 1) (n := 1) (cap := 1) (xs := [u]) ⟨rfl, .inr ⟨g, 1, #[u], rfl, Nat.zero_le _, h, Nat.le_refl _, by unfold maxLen; omega, rfl, rfl⟩⟩ 0 u').2

end Go.Proofs.Ytllnfbenaeeloaa

/-! Ch2 -/
namespace Go.Proofs.Ytllnfbenaeeloaa
open Go.RowKit

def ptrB (b : Nat) : Value := .pointer (some ⟨b, 0, none⟩)
theorem onePtrB (bs : List Nat) : ∀ u ∈ bs.map ptrB, u.oneCell' = true := by
  intro u hu
  obtain ⟨x, _, rfl⟩ := List.mem_map.1 hu
  rfl
/-- The nodes of a list of trees. -/
def NodesL (w : World) : List Tr → List Nat → Prop
  | [], [] => True
  | t :: ts, b :: bs => NodeAt w t b ∧ NodesL w ts bs
  | _, _ => False
theorem NodesL.keep {w w' : World} (hb : Below w.heap.size w w') : ∀ {ts : List Tr} {bs : List Nat}, NodesL w ts bs → NodesL w' ts bs := by
  intro ts
  induction ts with
  | nil => intro bs h; cases bs with | nil => trivial | cons b bs => exact h.elim
  | cons t ts ih => intro bs h; cases bs with | nil => exact h.elim | cons b bs => exact ⟨h.1.keep hb, ih h.2⟩
theorem NodesL.len {w : World} : ∀ {ts : List Tr} {bs : List Nat}, NodesL w ts bs → bs.length = ts.length := by
  intro ts
  induction ts with
  | nil => intro bs h; cases bs with | nil => rfl | cons b bs => exact h.elim
  | cons t ts ih => intro bs h; cases bs with | nil => exact h.elim | cons b bs => simp [ih h.2]
theorem NodesL.get {w : World} : ∀ {ts : List Tr} {bs : List Nat}, NodesL w ts bs → ∀ i, i < ts.length → NodeAt w (ts.getD i .lf) (bs.getD i 0) := by
  intro ts
  induction ts with
  | nil => intro bs h i hi; simp at hi
  | cons t ts ih =>
    intro bs h i hi
    cases bs with
    | nil => exact h.elim
    | cons b bs =>
      cases i with
      | zero => simpa using h.1
      | succ i => simpa using ih h.2 i (by simp at hi; omega)
theorem NodesL.grown {w w' : World} {row : Option Nat} (hg : w.grownBy w' row) (hr : ∀ k, row = some k → ∀ u v, w.heap[k]? ≠ some (.cells #[u, v] 128 (0, 0))) : ∀ {ts : List Tr} {bs : List Nat}, NodesL w ts bs → NodesL w' ts bs := by
  intro ts
  induction ts with
  | nil => intro bs h; cases bs with | nil => trivial | cons b bs => exact h.elim
  | cons t ts ih => intro bs h; cases bs with | nil => exact h.elim | cons b bs => exact ⟨h.1.grown hg hr, ih h.2⟩
theorem wpList_appSrcG {P : Program} {w : World} {ops : Array Oper} {rest : List Oper} {o : Oper} {a : Act} {Q : Exit → Act → World → Prop} (hgd : o.guard = none) (s x : Operand) (t : TypeId)
    (ho : o.op = .call { callee := .builtin .append, args := #[s, x], argTypes := #[t, t] })
    (base : Nat) (e : TypeId) (i : TypeInfo) (z : Value) (bytes : Nat) (ht : P.underlying t = some (.slice e)) (hi : P.info? e = some i) (hz : i.zero = some z)
    (hsize : i.size = 1) (hby : i.bytes = bytes) (hzs : z.cells.size = 1)
    (v : Value) (n : Nat) (xs : List Value) (hs : a.eval s = v) (hown : w.ownsRow base e 1 v n xs)
    (u : Value) (ys : List Value) (hx : a.eval x = u) (hsrc : SrcV w u ys) (h1 : ∀ y ∈ ys, y.oneCell' = true)
    (h63 : n + ys.length ≤ maxLen) (hbytes : (n + ys.length) * bytes ≤ 140737488355328) (hbase : base ≤ w.heap.size)
    (h : ∀ v' w', w'.ownsRow base e 1 v' (n + ys.length) (xs ++ ys) → w.grownBy w' v.ownBlock → wpList P ops Q rest (a.put o.dst v') w') : wpList P ops Q (o :: rest) a w := by
  rcases hsrc with ⟨rfl, rfl⟩ | ⟨ad, c, rfl, hc⟩
  · refine wpList_append_own_none hgd s x t ho base e i 1 ht hi v n xs hs hown hx ?_
    exact h v w (by simpa using hown) ⟨rfl, rfl, rfl, Nat.le_refl _, fun _ _ _ => rfl⟩
  · refine wpList_append_own w hgd s x t ho base e i z 1 bytes ht hi hz hsize hby hzs (by decide) v n xs hs hown ad ys.length c ys hx (by simp) hc h1 h63 hbytes hbase ?_
    intro v' w' hown' hg hn
    exact h v' w' hown' hg
theorem chain65 {t : Tr} (h : t.carets ≤ 8) : (chainT t).length ≤ 65 ∧ 1 ≤ (chainT t).length := by
  have h1 := chainT_len t
  have h2 : t.carets * t.carets ≤ 8 * 8 := Nat.mul_le_mul h h
  omega
end Go.Proofs.Ytllnfbenaeeloaa

/-! Ch3 -/
namespace Go.Proofs.Ytllnfbenaeeloaa
open Go.RowKit

def CellsL (w : World) (v : Value) (bs : List Nat) : Prop :=
  ∃ oa cap, v = .slice oa bs.length cap ∧ (bs.length : Int) ≤ 9223372036854775807 ∧ ∀ i, i < bs.length → ∃ g, oa = some ⟨g, 0, none⟩ ∧ g < w.heap.size ∧ w.cell? ⟨g, i, none⟩ = some (ptrB (bs.getD i 0))
theorem CellsL.keep {w w' : World} {v : Value} {bs : List Nat} (h : CellsL w v bs) (hb : Below w.heap.size w w') : CellsL w' v bs := by
  obtain ⟨oa, cap, h1, h2, h3⟩ := h
  refine ⟨oa, cap, h1, h2, fun i hi => ?_⟩
  obtain ⟨g, k1, k2, k3⟩ := h3 i hi
  exact ⟨g, k1, Nat.lt_of_lt_of_le k2 hb.size, (hb.cell (p := ⟨g, i, none⟩) k2).trans k3⟩
theorem enter_text (args : Array Value) (w : World) : (callFunc 97 args).run Try.prog w = .ok (.enter 97 args) w := by kernel_rfl
def strL (ts : List Tr) : List ByteArray := ts.map Tr.str
theorem strL_length (ts : List Tr) : (strL ts).length = ts.length := List.length_map _

end Go.Proofs.Ytllnfbenaeeloaa

/-! Ch4 -/
namespace Go.Proofs.Ytllnfbenaeeloaa
open Go.RowKit

def accK (ps : List (List Tr)) (k : Nat) : List ByteArray := (ps.take k).foldl (fun acc p => acc.take (acc.length - 1) ++ strL p) []
theorem accK_zero (ps : List (List Tr)) : accK ps 0 = [] := rfl
theorem accK_succ {ps : List (List Tr)} {k : Nat} (h : k < ps.length) : accK ps (k + 1) = (accK ps k).take ((accK ps k).length - 1) ++ strL (ps.getD k []) := by
  unfold accK
  rw [List.take_succ_eq_append_getElem h, List.foldl_append]
  simp [h]
theorem accK_len {ps : List (List Tr)} (hp : ∀ p ∈ ps, p.length ≤ 65) : ∀ k, k ≤ ps.length → (accK ps k).length ≤ 65 * k := by
  intro k
  induction k with
  | zero => intro _; simp [accK_zero]
  | succ k ih =>
    intro hk
    have h1 := ih (by omega)
    have h2 := hp (ps.getD k []) (by rw [List.getD_eq_getElem?_getD, List.getElem?_eq_getElem hk]; exact List.getElem_mem _)
    rw [accK_succ (by omega), List.length_append, strL_length, List.length_take]
    omega
theorem accK_pos {ps : List (List Tr)} (hp : ∀ p ∈ ps, 1 ≤ p.length) : ∀ k, 1 ≤ k → k ≤ ps.length → 1 ≤ (accK ps k).length := by
  intro k h1 hk
  obtain ⟨j, rfl⟩ : ∃ j, k = j + 1 := ⟨k - 1, by omega⟩
  have h2 := hp (ps.getD j []) (by rw [List.getD_eq_getElem?_getD, List.getElem?_eq_getElem (by omega)]; exact List.getElem_mem _)
  rw [accK_succ (by omega), List.length_append, strL_length]
  omega
/-- Parts of a chain, in a row of their own. -/
def PartsL (w : World) (g : Nat) (us : List Value) (ps : List (List Tr)) : Prop :=
  ∀ i, i < ps.length → w.cell? ⟨g, i, none⟩ = some (us.getD i undef) ∧ ∃ bs, CellsL w (us.getD i undef) bs ∧ NodesL w (ps.getD i []) bs
theorem PartsL.keep {w w' : World} {g : Nat} {us : List Value} {ps : List (List Tr)} (h : PartsL w g us ps) (hb : Below w.heap.size w w') : PartsL w' g us ps := by
  intro i hi
  obtain ⟨h1, bs, h2, h3⟩ := h i hi
  exact ⟨(hb.cell (p := ⟨g, i, none⟩) (World.block_lt_of_cell? w _ h1)).trans h1, bs, h2.keep hb, h3.keep hb⟩
theorem ownsRow_cut {w : World} {base g cap n : Nat} {e : TypeId} {xs : List Value} (h : w.ownsRow base e 1 (.slice (some ⟨g, 0, none⟩) n cap) n xs) (k : Nat) (hk : k ≤ n) : w.ownsRow base e 1 (.slice (some ⟨g, 0, none⟩) k cap) k (xs.take k) := by
  obtain ⟨h1, h2⟩ := h
  rcases h2 with ⟨h0, _⟩ | ⟨g', cap', cur, hv, hg, hh, hn, hcap, hsz, htake⟩
  · cases h0
  · cases hv
    refine ⟨by rw [List.length_take]; omega, .inr ⟨g, cap, cur, rfl, hg, hh, by omega, hcap, hsz, ?_⟩⟩
    rw [← htake, List.take_take, Nat.mul_one, Nat.mul_one, Nat.min_eq_left hk]

end Go.Proofs.Ytllnfbenaeeloaa

/-! Ch5 -/
namespace Go.Proofs.Ytllnfbenaeeloaa
open Go.RowKit

def lwV (v : Value) : Nat := match v with
  | .string s => match treeOf s with
    | some t => t.lw
    | none => 0
  | _ => 0
theorem lwV_str {t : Tr} (h : t.carets ≤ 8) : lwV (.string t.str) = t.lw := by
  show (match treeOf t.str with | some t => t.lw | none => 0) = t.lw
  rw [treeOf_str t h]
theorem chainT_head (t : Tr) : chainT t = t :: (chainT t).tail := by
  cases h : nextT t with
  | none => rw [chainT_none h]; rfl
  | some u => rw [chainT_some h]; rfl
theorem strL_append (a b : List Tr) : strL (a ++ b) = strL a ++ strL b := List.map_append ..

end Go.Proofs.Ytllnfbenaeeloaa

/-! RvP -/
namespace Go.Proofs.Ytllnfbenaeeloaa
def revI (L : List Nat) (i : Nat) : List Nat := (List.range L.length).map fun p => if p < i ∨ L.length - i ≤ p then L.getD (L.length - 1 - p) 0 else L.getD p 0
theorem revI_length (L : List Nat) (i : Nat) : (revI L i).length = L.length := by simp [revI]
theorem revI_getD (L : List Nat) (i : Nat) {p : Nat} (h : p < L.length) : (revI L i).getD p 0 = if p < i ∨ L.length - i ≤ p then L.getD (L.length - 1 - p) 0 else L.getD p 0 := by
  simp [revI, List.getD_eq_getElem?_getD, h]
theorem revI_zero (L : List Nat) : revI L 0 = L := by
  apply List.ext_getElem (by simp [revI])
  intro p h1 h2
  simp [revI, h2]
  intro h; omega
theorem revI_end (L : List Nat) {i : Nat} (h : L.length ≤ 2 * i + 1) : revI L i = L.reverse := by
  apply List.ext_getElem (by simp [revI])
  intro p h1 h2
  have hp : p < L.length := by simpa using h2
  rw [List.getElem_reverse]
  simp only [revI, List.getElem_map, List.getElem_range]
  split
  · rw [List.getD_eq_getElem?_getD, List.getElem?_eq_getElem (by omega)]; rfl
  · next hn =>
    have e : L.length - 1 - p = p := by omega
    rw [List.getD_eq_getElem?_getD, List.getElem?_eq_getElem hp, Option.getD_some]
    congr 1
    omega
theorem revI_step (L : List Nat) {i : Nat} (h : 2 * i + 1 < L.length) : ((revI L i).set i ((revI L i).getD (L.length - 1 - i) 0)).set (L.length - 1 - i) ((revI L i).getD i 0) = revI L (i + 1) := by
  have e1 := revI_getD L i (p := i) (by omega)
  have e2 := revI_getD L i (p := L.length - 1 - i) (by omega)
  rw [if_neg (by omega)] at e1 e2
  rw [e1, e2]
  apply List.ext_getElem (by simp [revI])
  intro p h1 h2
  have hp : p < L.length := by simpa [revI] using h2
  rw [List.getElem_set, List.getElem_set]
  simp only [revI, List.getElem_map, List.getElem_range]
  by_cases hj : L.length - 1 - i = p
  · rw [if_pos hj, if_pos (by omega)]
    congr 1; omega
  · rw [if_neg hj]
    by_cases hi : i = p
    · rw [if_pos hi, if_pos (by omega)]
      subst hi; rfl
    · rw [if_neg hi]
      by_cases hx : p < i ∨ L.length - i ≤ p
      · rw [if_pos hx, if_pos (by omega)]
      · rw [if_neg hx, if_neg (by omega)]
end Go.Proofs.Ytllnfbenaeeloaa

/-! Ch6 -/
namespace Go.Proofs.Ytllnfbenaeeloaa
open Go.RowKit

theorem grown_transB {a b c : World} {r : Option Nat} (h : a.grownBy b r) (k : b.grownBy c r) : a.grownBy c r :=
  ⟨k.os.trans h.os, k.tape.trans h.tape, k.output.trans h.output, Nat.le_trans h.size k.size, fun i hi hn => (k.block i (Nat.lt_of_lt_of_le hi h.size) hn).trans (h.block i hi hn)⟩
theorem ptrs_set (L : List Nat) (i x : Nat) : (L.map ptrB).set i (ptrB x) = (L.set i x).map ptrB := by rw [List.map_set]
end Go.Proofs.Ytllnfbenaeeloaa

/-! Count -/
namespace Go.Proofs.Ytllnfbenaeeloaa
open Go.RowKit

set_option maxHeartbeats 1000000 in
set_option maxRecDepth 100000 in
theorem count_any (s : ByteArray) (w : World) :
    Calls Try.prog 65 #[.string s, .string ⟨#[40]⟩] w fun e w' => e = .returned (.int .i64 (Lib.countByte s.data.toList 40 : Nat)) ∧ w = w' := by
  go_enter Try.func65, Try.ntmps65
  go_wp2
  rw [run_callFunc_extern Try.func90 (by kernel_rfl) (by kernel_rfl) (by kernel_rfl) (e := Extern.BytealgCount.count) (by kernel_rfl), Lib.run_countString]
  simp only [Result.andThen]
  rw [Oper.upon_value]
  go_wp2
  go_ret
  exact ⟨rfl, rfl⟩

theorem countCarets_any (t : Tr) (w : World) (_h : t.carets ≤ 1000) :
    Calls Try.prog 41 #[.string t.str] w (Gives (.int .i64 t.carets) w) := by
  have e : Hid (Lib.countByte t.str.data.toList 40 = t.carets) := by rw [show Hid _ = _ from rfl, Tr.str_list, ← text_count]; rfl
  go_enter Try.func41, Try.ntmps41
  go_wp2_with fail
  refine (count_any t.str _).mono ?_; rintro _ w1 ⟨rfl, rfl⟩
  rw [e.out]
  go_wp2_with fail
  go_ret
  exact ⟨rfl, Below.refl _ _⟩
end Go.Proofs.Ytllnfbenaeeloaa

/-! Pair -/
namespace Go.Proofs.Ytllnfbenaeeloaa
open Go.RowKit

/-- A pair of texts as a value. -/
abbrev pv (a b : ByteArray) : Value := .agg #[.string a, .string b]

theorem toPair_any (a b : ByteArray) (w : World) :
    Calls Try.prog 10 #[.agg #[.string a, .string b]] w (Gives (.agg #[.string a, .string b]) w) := by
  go_enter Try.func10, Try.ntmps10
  go_wp2
  refine bodyPost_ret (v := .agg #[.string a, .string b]) (by simp [results, Try.results10, go_sem]) rfl ⟨rfl, ?_⟩
  exact nxAlloc (nxAlloc (nxAlloc (Below.refl _ _) _) _) _

theorem szPair_any (a b : ByteArray) (w : World) (ha : a.size ≤ 9223372036854775807) (hb : b.size ≤ 9223372036854775807) (n : Int) (h0 : 0 ≤ n) (h1 : n ≤ 1048576) :
    Calls Try.prog 8 #[.agg #[.string a, .string b], .int .i64 n] w (Gives (.int .i64 (if (a.size : Int) + b.size ≤ n then n - a.size - b.size else -1)) w) := by
  by_cases h2 : n - a.size < 0
  · rw [if_neg (by omega)]
    go_enter Try.func8, Try.ntmps8
    go_wp2
    go_ret
    exact ⟨rfl, (Below.refl _ _).alloc (Nat.le_refl _) _⟩
  · by_cases h3 : n - a.size - b.size < 0
    · rw [if_neg (by omega)]
      go_enter Try.func8, Try.ntmps8
      go_wp2
      go_ret
      exact ⟨rfl, (Below.refl _ _).alloc (Nat.le_refl _) _⟩
    · rw [if_pos (by omega)]
      go_enter Try.func8, Try.ntmps8
      go_wp2
      go_ret
      exact ⟨rfl, (Below.refl _ _).alloc (Nat.le_refl _) _⟩

theorem pairOf_isSome (a b : ByteArray) (t u : Tr) (ha : treeOf a = some t) (hb : treeOf b = some u) : (pairOf a b).isSome = ((t.carets : Int) == (u.carets : Int)) := by
  unfold pairOf
  rw [ha, hb, Bool.eq_iff_iff, beq_iff_eq]
  by_cases h : t.carets = u.carets
  · simp [h]
  · simp only [h, if_false]; simp; omega

set_option maxRecDepth 100000 in
set_option maxHeartbeats 1000000 in
theorem prGood_any (a b : ByteArray) (w : World) (ha : a.size ≤ 9223372036854775806) (hb : b.size ≤ 9223372036854775806) :
    Calls Try.prog 28 #[.agg #[.string a, .string b]] w (Gives (.bool (pairOf a b).isSome) w) := by
  cases h : treeOf a with
  | none =>
    have e : (pairOf a b).isSome = false := by unfold pairOf; rw [h]; rfl
    rw [e]
    have T := fun w => trIs_no a w ha h
    clear h e
    go_enter Try.func28, Try.ntmps28
    go_wp2_with fail
    go_quiet ((go_at_call 51; with_reducible exact quiet_eq (T _)))
    go_wp2_with fail
    go_ret
    exact ⟨rfl, drewB (nxAlloc (Below.refl _ _) _) _⟩
  | some t =>
    cases k : treeOf b with
    | none =>
      have e : (pairOf a b).isSome = false := by unfold pairOf; rw [h, k]; rfl
      rw [e]
      obtain ⟨rfl, hc⟩ := treeOf_some h
      have T := fun w => trIs_yes t w hc
      have U := fun w => trIs_no b w hb k
      clear h k e
      go_enter Try.func28, Try.ntmps28
      go_wp2_with fail
      go_quiet ((go_at_call 51; first | (with_reducible exact quiet_eq (T _)) | (with_reducible exact quiet_eq (U _))))
      go_wp2_with fail
      go_ret
      exact ⟨rfl, drewB (nxAlloc (Below.refl _ _) _) _⟩
    | some u =>
      rw [pairOf_isSome a b t u h k]
      obtain ⟨rfl, hc⟩ := treeOf_some h
      obtain ⟨rfl, hd⟩ := treeOf_some k
      have T := fun w => trIs_yes t w hc
      have U := fun w => trIs_yes u w hd
      have C := fun w => carets_str t w (by omega)
      have D := fun w => carets_str u w (by omega)
      clear h k
      go_enter Try.func28, Try.ntmps28
      go_wp2_with fail
      go_quiet ((first | (go_at_call 51; first | (with_reducible exact quiet_eq (T _)) | (with_reducible exact quiet_eq (U _))) | (go_at_call 37; first | (with_reducible exact quiet_eq (C _)) | (with_reducible exact quiet_eq (D _)))))
      go_wp2_with fail
      go_ret
      exact ⟨rfl, drewB (nxAlloc (Below.refl _ _) _) _⟩
end Go.Proofs.Ytllnfbenaeeloaa

/-! Mark -/
namespace Go.Proofs.Ytllnfbenaeeloaa
open Go.RowKit

/-- One byte as a text. -/
def oneB (c : Int) : ByteArray := strOfNums [c]
theorem oneB_size (c : Int) : (oneB c).size = 1 := rfl

/-- 'string([]byte{c})'. -/
theorem conv_one (w : World) (c : Int) : (convert 152 9 (.slice (some ⟨w.heap.size, 0, none⟩) 1 1)).run Try.prog (w.alloc (.cells #[.int .u8 c] 5)) = .ok (.string (oneB c)) (w.alloc (.cells #[.int .u8 c] 5)) := by
  refine run_convert_bytes_arg _ 152 5 Try.underlying152 Try.underlying5 w.heap.size 0 1 1 [c] rfl ?_ 9 Try.underlying9
  intro i hi
  obtain rfl : i = 0 := by omega
  have : (w.alloc (.cells #[.int .u8 c] 5)).heap[w.heap.size]? = some (.cells #[.int .u8 c] 5) := by
    show (w.heap.push _)[w.heap.size]? = _
    simp
  exact cell_of_one this

/-- The digits of a number ahead of a text. -/
def digs (j : Nat) (acc : ByteArray) : ByteArray := if 0 < j then digs (j / 10) (oneB (48 + (j : Int) % 10) ++ acc) else acc
termination_by j
decreasing_by omega

def markT (k : Nat) : ByteArray := ⟨#[109]⟩ ++ digs k ⟨#[]⟩

end Go.Proofs.Ytllnfbenaeeloaa
