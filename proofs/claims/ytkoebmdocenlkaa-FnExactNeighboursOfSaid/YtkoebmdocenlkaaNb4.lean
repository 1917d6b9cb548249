/- Walks: (*node).neighbours. -/
import Derived.Test.YtkoebmdocenlkaaNb3
import Derived.Test.YtkoebmdocenlkaaNb2
import Derived.Test.YtkoebmdocenlkaaPl2
import Derived.Maps.AppendAt
namespace Go.Proofs.Ytkoebmdocenlkaa
open Go.RowKit

def preT (t : Tr) : Nat → List ByteArray
  | 0 => []
  | i + 1 => preT t i ++ turnL (kindB i) t (t.spots (kindB i) ⟨#[]⟩)
theorem preT_two (t : Tr) : preT t 2 = reachT t := by
  show ([] ++ _) ++ _ = _
  rw [List.nil_append]; rfl
theorem preT_len (t : Tr) (i : Nat) : (preT t i).length ≤ i * t.carets := by
  induction i with
  | zero => simp [preT]
  | succ i ih =>
    have := spots_len (k := kindB i) t ⟨#[]⟩
    show (preT t i ++ _).length ≤ _
    rw [List.length_append, turnL_len, Nat.succ_mul]; omega
theorem turnL_get (k : Bool) (t : Tr) (L : List ByteArray) {j : Nat} {a : ByteArray} {u : Tr} (h : L[j]? = some a) (hu : t.rotAt k a.data.toList = some u) : (turnL k t L).take (j + 1) = (turnL k t L).take j ++ [u.str] := by
  have hj := (List.getElem?_eq_some_iff.1 h).1
  rw [List.take_succ_eq_append_getElem (by rw [turnL_len]; exact hj)]
  congr 1
  have e9 : (turnL k t L)[j]? = some u.str := by
    unfold turnL
    rw [List.getElem?_map, h]
    simp [hu]
  rw [(List.getElem?_eq_some_iff.1 e9).2]
def FarC (g : Nat) (v : Value) : Prop := v.ownBlock ≠ some g

set_option maxRecDepth 100000 in
set_option maxHeartbeats 2000000 in
theorem neighbours_any (t : Tr) (b : Nat) (w : World) (hn : NodeAt w t b) (ht : t.carets ≤ 8) :
    Calls Try.prog 62 #[.pointer (some ⟨b, 0, none⟩)] w (GivesOwn (nearT t) w) := by
  obtain ⟨i0, hi, hz0, hz1, hz2⟩ := info_parts info_str
  have hz : (⟨#[]⟩ : ByteArray).size = 0 := rfl
  have H := Lib.hid hn
  have hPl : ∀ (k : Bool) (w : World), NodeAt w t b → Calls Try.prog 55 #[.pointer (some ⟨b, 0, none⟩), .string ⟨#[]⟩, .func (Fn.func (turnF k)) #[] #[]] w (GivesOwn (t.spots k ⟨#[]⟩) w) := fun k w h => placesFrom_any k t b ⟨#[]⟩ w h (by omega) (by omega)
  have hAt : ∀ (k : Bool) (a : ByteArray) (u : Tr), a ∈ t.spots k ⟨#[]⟩ → t.rotAt k a.data.toList = some u → ∀ w, NodeAt w t b → Calls Try.prog 82 #[.pointer (some ⟨b, 0, none⟩), .string a, .func (Fn.func (turnF k)) #[] #[]] w (fun e w' => ∃ d, NodeAt w' u d ∧ Below w.heap.size w w' ∧ e = .returned (.pointer (some ⟨d, 0, none⟩))) := by
    intro k a u ha hu w h
    have hsz := spots_size (k := k) t ⟨#[]⟩ a ha
    have h9 := turnedAt_any k _ t b a w rfl h (by rw [← Lib.size_eq]; omega)
    rw [hu] at h9
    exact h9
  have HAT := Lib.hid hAt
  have hc2 : 2 * t.carets ≤ 16 := by omega
  clear hz hAt hn
  go_enter Try.func62, Try.ntmps62
  go_wp2_with fail
  have hb0 := nxAlloc (Below.refl w.heap.size w) (.cells #[.func (Fn.func (turnF false)) #[] #[], .func (Fn.func (turnF true)) #[] #[]] 87 (0, 0))
  have hA0 := heap_alloc_at w (.cells #[.func (Fn.func (turnF false)) #[] #[], .func (Fn.func (turnF true)) #[] #[]] 87 (0, 0))
  have hW : ∃ w0, w0 = w.alloc (.cells #[.func (Fn.func (turnF false)) #[] #[], .func (Fn.func (turnF true)) #[] #[]] 87 (0, 0)) := ⟨_, rfl⟩
  obtain ⟨w0, hw0⟩ := hW
  rw [← hw0] at hb0 hA0
  have hw0' : w.alloc (.cells #[.func (Fn.func 50) #[] #[], .func (Fn.func 51) #[] #[]] 87 (0, 0)) = w0 := hw0.symm
  try rw [hw0']
  clear hw0 hw0'
  have hbl : ∀ i, i < 2 → w0.cell? ⟨w.heap.size, i, none⟩ = some (.func (Fn.func (turnF (kindB i))) #[] #[]) := by
    intro i hi
    have h9 := two_cells hA0
    match i, hi with
    | 0, _ => exact h9.1
    | 1, _ => exact h9.2
  have hgl : w.heap.size < w0.heap.size := lt_of_block hA0
  have HBL := Lib.hid hbl
  have HN0 := Lib.hid (H.out.keep hb0)
  clear hbl hA0
  try go_wp2_with fail
  go_loopw [3, 10] (fun ov iv wr => ∃ (i : Nat) (ss : List ByteArray), iv = .int .i64 i ∧ i ≤ 2 ∧ OwnS w0.heap.size wr ov ss ∧ Hid (ss = preT t i) ∧ Below w0.heap.size w0 wr) (fun _ iv _ => 2 - (intOf iv).toNat)
  case atStart => exact ⟨0, [], rfl, by omega, OwnS.nil _ _, rfl, Below.refl _ _⟩
  case round =>
    obtain ⟨i, ss, rfl, hi2, hown, he, hbw⟩ := hrel
    by_cases hlt : i < 2
    · have hlt' : (i : Int) < 2 := by omega
      have c1 : wr.cell? ⟨w.heap.size, i, none⟩ = some (.func (Fn.func (turnF (kindB i))) #[] #[]) := (hbw.cell (p := ⟨w.heap.size, i, none⟩) hgl).trans (HBL.out i hlt)
      have hPk := hPl (kindB i) _ (HN0.out.keep hbw)
      have hLn := spots_len (k := kindB i) t ⟨#[]⟩
      have hmem := Lib.hid (fun a (h : a ∈ t.spots (kindB i) ⟨#[]⟩) => spots_mem0 h)
      have hpl9 := preT_len t i
      have hps := Lib.hid (show preT t (i + 1) = preT t i ++ turnL (kindB i) t (t.spots (kindB i) ⟨#[]⟩) from rfl)
      have HAK := Lib.hid (fun a u h k w => HAT.out (kindB i) a u h k w)
      have hsl0 : ss.length ≤ 16 := by
        rw [he.out]
        have : i * t.carets ≤ 2 * 8 := Nat.mul_le_mul (by omega) ht
        omega
      generalize kindB i = kb at *
      generalize hfk : turnF kb = fk at *
      clear hfk
      generalize t.spots kb ⟨#[]⟩ = L at *
      go_wp2_with fail
      refine hPk.mono ?_; rintro e w1 ⟨v1, own1, hb1, rfl⟩
      have hlt1 := fun k hk => (World.ownsRow.lt hown k hk).2
      replace hown := hown.keep hb1
      have hbw1 := nx hbw hb1
      obtain ⟨n, hn⟩ : ∃ n, n = L.length := ⟨_, rfl⟩
      have HN := Lib.hid hn
      obtain ⟨oaP, cP, hvP, hcP, hcP9, hPrd⟩ := own1.cells.form0
      rw [← hn] at hvP hLn hcP
      have hgp : ∀ g, oaP = some ⟨g, 0, none⟩ → 0 < n → wr.heap.size ≤ g ∧ g < w1.heap.size := by
        intro g hg h0
        obtain ⟨g', k1, k2, k3, _⟩ := hPrd 0 (by omega)
        rw [k1] at hg
        injection hg with hg
        injection hg with hg
        subst hg
        exact ⟨k2, k3⟩
      have hfar0 : ∀ g, oaP = some ⟨g, 0, none⟩ → 0 < n → FarC g u3 := by
        intro g hg h0 e
        have h8 := (hgp g hg h0).1
        have h9 := hlt1 g e
        omega
      have HPR := Lib.hid hPrd
      have HGP := Lib.hid hgp
      have HFA := Lib.hid hfar0
      unfold maxLen at hcP9
      have hnn9 : (n : Int) ≤ 9223372036854775807 := by omega
      clear own1 hPk hPrd hn hb1 hlt1 hgp hfar0 hcP hcP9
      subst hvP
      go_wp2_with fail
      go_loopw [3, 18] (fun ov jv w2 => ∃ (j : Nat) (sj : List ByteArray), jv = .int .i64 j ∧ j ≤ n ∧ OwnS w0.heap.size w2 ov sj ∧ Hid (sj = ss ++ (turnL kb t L).take j) ∧ Hid (∀ g, oaP = some ⟨g, 0, none⟩ → 0 < n → FarC g ov ∧ w2.heap[g]? = w1.heap[g]?) ∧ w1.heap.size ≤ w2.heap.size ∧ Below w0.heap.size w0 w2) (fun _ jv _ => n - (intOf jv).toNat)
      case atStart => exact ⟨0, ss, rfl, Nat.zero_le _, hown, by show ss = _; simp, fun g hg h0 => ⟨HFA.out g hg h0, rfl⟩, Nat.le_refl _, hbw1⟩
      case round =>
        clear hown
        obtain ⟨j, sj, rfl, hj, hown, hej, hfr, hszw, hbw⟩ := hrel
        have hsl : sj.length ≤ 40 := by
          rw [hej.out, List.length_append, List.length_take, turnL_len]
          have := HN.out
          omega
        by_cases hlj : j < n
        · have hlj' : (j : Int) < (n : Int) := by omega
          obtain ⟨gP, rfl, _, hgP, cP1⟩ := HPR.out j (by have := HN.out; omega)
          obtain ⟨hfr1, hsame⟩ := hfr.out gP rfl (by omega)
          have cP2 : wr.cell? ⟨gP, j, none⟩ = some (.string (L.getD j ⟨#[]⟩)) := by
            rw [World.cell?_of_block hsame]; exact cP1
          have hLj : L[j]? = some (L.getD j ⟨#[]⟩) := by
            have : j < L.length := by have := HN.out; omega
            simp [List.getElem?_eq_getElem this]
          obtain ⟨u, hu⟩ := hmem.out (L.getD j ⟨#[]⟩) (List.mem_of_getElem? hLj)
          have hAu := HAK.out _ u (List.mem_of_getElem? hLj) hu _ (HN0.out.keep hbw)
          have hnext : sj ++ [u.str] = ss ++ (turnL kb t L).take (j + 1) := by
            rw [turnL_get kb t L hLj hu, hej.out, List.append_assoc]
          have hcu := rotAt_carets _ hu
          have hu9 : u.carets ≤ 1000 := by omega
          have HX := Lib.hid hnext
          have HSA := Lib.hid hsame
          generalize L.getD j ⟨#[]⟩ = a at *
          unfold OwnS at hown
          clear hnext hLj hu cP1 hej hfr hcu hsame
          go_wp2_with fail
          refine hAu.mono ?_; rintro e w3 ⟨d, hnd, hb3, rfl⟩
          clear hAu cP2
          go_wp2_with fail
          refine (text_any u d _ hnd hu9).mono ?_; rintro e w4 ⟨rfl, dd, hw4⟩
          have hb4 : Below w3.heap.size w3 w4 := by rw [hw4]; exact drewB (Below.refl _ _) _
          clear hw4 hnd
          have hb24 := nx hb3 hb4
          replace hown := ownsRow_keep hown hb24
          have hbw4 := nx hbw hb24
          generalize hX : u.str = X at *
          have HXS := Lib.hid hX
          clear hX hb3 hb4
          go_wp2_with (at_builtin; refine wpList_append_own_at _ rfl _ _ 25 rfl w0.heap.size 9 i0 (.string ⟨#[]⟩) 1 16 Try.underlying25 hi hz0 hz1 hz2 rfl (by decide) _ _ _ rfl (hown.alloc _) ⟨w4.heap.size, 0, none⟩ 1 1 [.string X] rfl rfl (new1 _ _ _) (oneS [X]) (by unfold maxLen; omega) (by omega) (size_al hbw4 _) ?_; intro v' w9 hown' hgrow hnn hat)
          have hbw9 := below_app hbw4 hown (Nat.le_refl _) hgrow
          have hown1 : OwnS w0.heap.size w9 v' (sj ++ [X]) := OwnS.app (B := [X]) hown'
          have hsa : (w4.alloc (.cells #[.string X] 9)).heap.size = w4.heap.size + 1 := by simp
          have hs24 := hb24.size
          have hnew : Hid (∀ g, (some ⟨gP, 0, none⟩ : Option Addr) = some ⟨g, 0, none⟩ → 0 < n → FarC g v' ∧ w9.heap[g]? = w1.heap[g]?) := by
            intro g hg h0
            injection hg with hg
            injection hg with hg
            subst hg
            refine ⟨fun e => ?_, ?_⟩
            · rcases hat with h9 | h9
              · exact hfr1 (h9.symm.trans e)
              · rw [h9] at e; injection e with e; omega
            · rw [hgrow.block gP (by omega) (fun e => hfr1 e.symm)]
              rw [← HSA.out]
              rw [(nxAlloc (Below.refl w4.heap.size w4) (.cells #[.string X] 9)).block gP (by omega)]
              exact hb24.block gP (by omega)
          have hsz9 : w1.heap.size ≤ w9.heap.size := by have := hgrow.size; omega
          clear hown hown' hgrow hnn hat hfr1 hbw hbw4 hb24 hsa
          go_wp2_with fail
          go_roundw
          case rel => exact ⟨j + 1, _, by go_num, by omega, hown1, HX, hnew, hsz9, hbw9⟩
          case measure => simp [intOf]; omega
        · obtain rfl : j = n := by omega
          have hfin : Hid (sj = preT t (i + 1)) := by
            show _ = _
            rw [hej.out, hps.out, ← he.out, List.take_of_length_le (by rw [turnL_len]; have := HN.out; omega)]
          clear hej hfr he
          go_wp2_with fail
          go_roundw
          case rel => exact ⟨i + 1, sj, by go_num, by omega, hown, hfin, hbw⟩
          case measure => simp [intOf]; omega
    · obtain rfl : i = 2 := by omega
      have hsl0 : ss.length ≤ 16 := by
        rw [he.out]
        have := preT_len t 2
        omega
      have hSO := fun w h => sort_any w0.heap.size u3 ss w (by omega) h
      have hfin : Hid (insAll ss [] = nearT t) := by show _ = _; rw [he.out, preT_two]; rfl
      have hgb := ownsRow_ge hown
      clear he
      go_wp2_with fail
      refine (hSO _ hown).mono ?_; rintro e w5 ⟨rfl, own5, hg5⟩
      have hbw5 := hbw.grown hg5 hbw.size hgb
      go_wp2_with fail
      go_ret
      exact ⟨_, by rw [← hfin.out]; exact own5.mono hb0.size, nx hb0 hbw5, rfl⟩
end Go.Proofs.Ytkoebmdocenlkaa
