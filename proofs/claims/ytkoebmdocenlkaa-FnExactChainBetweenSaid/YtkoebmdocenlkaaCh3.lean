/- Walks: listOf of links. -/
import Derived.Test.YtkoebmdocenlkaaCh2
namespace Go.Proofs.Ytkoebmdocenlkaa
open Go.RowKit

def CellsL (w : World) (v : Value) (bs : List Nat) : Prop :=
  ∃ oa cap, v = .slice oa bs.length cap ∧ (bs.length : Int) ≤ 9223372036854775807 ∧ ∀ i, i < bs.length → ∃ g, oa = some ⟨g, 0, none⟩ ∧ g < w.heap.size ∧ w.cell? ⟨g, i, none⟩ = some (ptrB (bs.getD i 0))
theorem OwnL.cells {base : Nat} {w : World} {v : Value} {bs : List Nat} (h : OwnL base w v bs) : CellsL w v bs := by
  rcases h.2 with ⟨hv, hn⟩ | ⟨g, cap, cur, hv, hb, hr⟩
  · exact ⟨none, 0, by rw [hv, hn], by omega, fun i hi => by omega⟩
  · subst hv
    have hlt := World.ownsRow.lt h g rfl
    have hc := fun i (hi : i < bs.length) => World.ownsRow.cellAt h i (by omega)
    have h1 := hr.2.1
    have h2 := hr.2.2.1
    unfold maxLen at h2
    refine ⟨some ⟨g, 0, none⟩, cap, rfl, by omega, fun i hi => ⟨g, rfl, hlt.2, ?_⟩⟩
    rw [hc i hi]; simp [List.getElem?_eq_getElem hi]
theorem CellsL.keep {w w' : World} {v : Value} {bs : List Nat} (h : CellsL w v bs) (hb : Below w.heap.size w w') : CellsL w' v bs := by
  obtain ⟨oa, cap, h1, h2, h3⟩ := h
  refine ⟨oa, cap, h1, h2, fun i hi => ?_⟩
  obtain ⟨g, k1, k2, k3⟩ := h3 i hi
  exact ⟨g, k1, Nat.lt_of_lt_of_le k2 hb.size, (hb.cell (p := ⟨g, i, none⟩) k2).trans k3⟩
theorem method_link (b : Nat) : ∀ (m : Nat) (w : World), (method (m + 2) 73 (.agg #[.pointer (some ⟨b, 0, none⟩)]) "loop.example/g01161/impl.text").run Try.prog w = .ok (83, .pointer (some ⟨b, 0, none⟩)) w := by
  intro m w
  kernel_rfl
theorem enter_text (args : Array Value) (w : World) : (callFunc 83 args).run Try.prog w = .ok (.enter 83 args) w := by kernel_rfl
def strL (ts : List Tr) : List ByteArray := ts.map Tr.str
theorem strL_length (ts : List Tr) : (strL ts).length = ts.length := List.length_map _

set_option maxRecDepth 100000 in
set_option maxHeartbeats 1000000 in
theorem listOfLink_any (v : Value) (ts : List Tr) (bs : List Nat) (w : World) (h : CellsL w v bs) (hN : NodesL w ts bs) (hcar : ∀ x ∈ ts, x.carets ≤ 1000) (hl : ts.length ≤ 1000) :
    Calls Try.prog 98 #[v, .func (Fn.methodOf 73 "loop.example/g01161/impl.text") #[] #[]] w (GivesOwn (strL ts) w) := by
  obtain ⟨i0, hi, hz0, hz1, hz2⟩ := info_parts info_str
  obtain ⟨oa, cap, rfl, hcm, hcc⟩ := h
  have hbl := hN.len
  obtain ⟨n, hn⟩ : ∃ n, n = bs.length := ⟨_, rfl⟩
  rw [← hn] at hcm hcc hbl ⊢
  have HC := Lib.hid hcc
  have HN := Lib.hid hN
  have HD := Lib.hid hcar
  have HBL := Lib.hid hbl
  have hn1 : n ≤ 1000 := by omega
  clear hcc hN hcar hbl hl hn
  go_enter Try.func98, Try.ntmps98
  go_wp2_with fail
  go_loopw [5, 10] (fun v i wr => ∃ (k : Nat) (ss : List ByteArray), k ≤ n ∧ i = .int .i64 k ∧ ss.length = k ∧ OwnS w.heap.size wr v ss ∧ Hid (ss = (strL ts).take k) ∧ Below w.heap.size w wr) (fun _ i _ => n - (intOf i).toNat)
  case atStart => exact ⟨0, [], Nat.zero_le _, rfl, rfl, OwnS.nil _ _, rfl, Below.refl _ _⟩
  case round =>
    obtain ⟨k, ss, hk, rfl, hcs, hown, hss, hbw⟩ := hrel
    by_cases hlt : k < n
    · have hlt' : (k : Int) < (n : Int) := by omega
      obtain ⟨g, rfl, hgl, c0⟩ := HC.out k hlt
      have c1 := (hbw.cell (p := ⟨g, k, none⟩) hgl).trans c0
      have hkt : k < ts.length := by have := HBL.out; omega
      have hnode := (HN.out.get k hkt).keep hbw
      have hct := HD.out (ts.getD k .lf) (by rw [List.getD_eq_getElem?_getD, List.getElem?_eq_getElem hkt]; exact List.getElem_mem hkt)
      have hnext : ss ++ [(ts.getD k .lf).str] = (strL ts).take (k + 1) := by
        rw [hss.out]
        unfold strL
        rw [List.take_succ_eq_append_getElem (by simpa using hkt)]
        simp [hkt]
      have HX := Lib.hid hnext
      have HCS := Lib.hid hcs
      have hcs9 : ss.length ≤ 1000 := by omega
      unfold OwnS at hown
      generalize bs.getD k 0 = p at *
      unfold ptrB at c1
      generalize ts.getD k .lf = t at *
      have HNo := Lib.hid hnode
      have mm := method_link p
      have me := enter_text
      clear hnext hss hnode c0 hcs
      go_wp2_with fail
      have hbA := nxAlloc hbw (.cells #[.pointer (some ⟨p, 0, none⟩)] 73 (0, 0))
      have hx9 := heap_alloc_at wr (.cells #[.pointer (some ⟨p, 0, none⟩)] 73 (0, 0))
      have hnA := HNo.out.keep (nxAlloc (Below.refl _ _) (.cells #[.pointer (some ⟨p, 0, none⟩)] 73 (0, 0)))
      have hownA := ownsRow_keep hown (nxAlloc (Below.refl _ _) (.cells #[.pointer (some ⟨p, 0, none⟩)] 73 (0, 0)))
      generalize wr.alloc (.cells #[.pointer (some ⟨p, 0, none⟩)] 73 (0, 0)) = wA at *
      obtain ⟨x9a, x9f, x9l⟩ := one_facts hx9
      go_wp2_with fail
      refine (text_any t p _ hnA hct).mono ?_; rintro e w3 ⟨rfl, d, hw3⟩
      have hb3 : Below wA.heap.size wA w3 := by rw [hw3]; exact drewB (Below.refl _ _) _
      clear hw3 hnA mm me
      generalize t.str = x at *
      replace hownA := ownsRow_keep hownA hb3
      have hbw3 := nx hbA hb3
      clear hb3 hbA hbw hown
      go_wp2_with (at_builtin; refine wpList_append_own _ rfl _ _ 25 rfl w.heap.size 9 i0 (.string ⟨#[]⟩) 1 16 Try.underlying25 hi hz0 hz1 hz2 rfl (by decide) _ _ _ rfl (hownA.alloc _) ⟨w3.heap.size, 0, none⟩ 1 1 [.string x] rfl rfl (new1 _ _ _) (oneS [x]) (by unfold maxLen; omega) (by omega) (size_al hbw3 _) ?_; intro v' w9 hown' hgrow hnn)
      have hbw9 := below_app hbw3 hownA (Nat.le_refl _) hgrow
      have hown1 : OwnS w.heap.size w9 v' (ss ++ [x]) := OwnS.app (B := [x]) hown'
      clear hownA hown' hgrow hnn hbw3
      go_wp2_with fail
      go_roundw
      case rel => exact ⟨k + 1, _, by omega, by go_num, by have := HCS.out; simp; omega, hown1, HX, hbw9⟩
      case measure => simp [intOf]; omega
    · obtain rfl : k = n := by omega
      have h1 := hss.out
      rw [List.take_of_length_le (by rw [strL_length]; have := HBL.out; omega)] at h1
      have HX := Lib.hid h1
      clear h1 hss hcs
      go_wp2_with fail
      go_ret
      exact ⟨_, by rw [← HX.out]; exact hown, hbw, rfl⟩
end Go.Proofs.Ytkoebmdocenlkaa
