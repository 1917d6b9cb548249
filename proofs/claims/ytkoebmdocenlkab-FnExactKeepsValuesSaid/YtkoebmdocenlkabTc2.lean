/- Walks: firstChanged. -/
import Derived.Test.YtkoebmdocenlkabTc1
import Derived.Deep.LoopGhost
namespace Go.Proofs.Ytkoebmdocenlkab
open Go.RowKit

/-- The first numbers for which the values of two trees differ, in a slice of the call's own. -/
def Brk (T : List (List Int)) (t u : Tr) (w : World) (e : Ending) (w' : World) : Prop :=
  match firstC T t u with
  | none => e = .returned (.tuple #[.slice none 0 0, .bool false]) ∧ Below w.heap.size w w'
  | some c => ∃ g : Nat, OwnI w.heap.size w' (.slice (some ⟨g, 0, none⟩) (t.carets + 1) (t.carets + 1)) (digN T.length (t.carets + 1) c) ∧ Below w.heap.size w w' ∧ e = .returned (.tuple #[.slice (some ⟨g, 0, none⟩) (t.carets + 1) (t.carets + 1), .bool true])
theorem OwnI.readAt {base : Nat} {w : World} {g n c : Nat} {xs : List Int} (h : OwnI base w (.slice (some ⟨g, 0, none⟩) n c) xs) (hn : xs.length = n) : ReadI w g 0 xs := by subst hn; exact h.read

set_option maxRecDepth 100000 in
set_option maxHeartbeats 4000000 in
theorem firstChanged_any (gT cT : Nat) (gs : List Nat) (T : List (List Int)) (hT : tabB T = true) (nT : Nat) (hnT : nT = T.length) (t u : Tr) (htu : u.carets = t.carets) (h8 : t.carets ≤ 60) (w : World) (hTa : TabAt w gT gs T) :
    Calls Try.prog 49 #[.slice (some ⟨gT, 0, none⟩) nT cT, .agg #[.string t.str, .string u.str]] w (Brk T t u w) := by
  have T1 := fun w => treeOf_any t w (by omega)
  have T2 := fun w => treeOf_any u w (by omega)
  have hT4 := tabB_len hT
  obtain ⟨m, hm⟩ : ∃ m, m = t.carets + 1 := ⟨_, rfl⟩
  have hm61 : m ≤ 61 := by omega
  have hC : ∀ w, Calls Try.prog 40 #[.string t.str] w (Gives (.int .i64 ((m : Int) - 1)) w) := by
    intro w
    have h1 := countCarets_any t w (by omega)
    rw [show ((t.carets : Nat) : Int) = (m : Int) - 1 by omega] at h1
    exact h1
  have hm0 : 1 ≤ m := by omega
  have hn0 : 0 < nT := by omega
  have hn4 : nT ≤ 4 := by omega
  obtain ⟨i0, hi, hz0, hz1, hz2⟩ := info_parts info_int
  have HTA := Lib.hid hTa
  have HTB := Lib.hid hT
  have HM := Lib.hid hm
  have HU := Lib.hid htu
  have HNT := Lib.hid hnT
  clear hTa hT htu hnT hT4 hm
  go_enter Try.func49, Try.ntmps49
  go_wp2_with fail
  have hb0 : Below w.heap.size w (w.alloc (.cells #[.string t.str, .string u.str] 32 (0, 0))) := nxAlloc (Below.refl _ _) _
  have hx0 := heap_alloc_at w (.cells #[.string t.str, .string u.str] 32 (0, 0))
  generalize (w.alloc (.cells #[.string t.str, .string u.str] 32 (0, 0))) = w0 at *
  obtain ⟨hx0a, hx0b, hx0c⟩ := two_facts hx0
  obtain ⟨hx0f, hx0g⟩ := two_frozen hx0
  have hz0' := Below.refl w0.heap.size w0
  go_region_held3 (fun w' => w'.cell? ⟨w.heap.size, 0, none⟩ = some (.string t.str) ∧ w'.cell? ⟨w.heap.size, 1, none⟩ = some (.string u.str))
    (first
      | exact ⟨hx0a, hx0b⟩
      | exact ⟨B1, B2⟩
      | exact ⟨D1, D2⟩)
    (first
      | (go_at_call 73; (with_reducible refine (T1 _).mono ?_); rintro e w1 ⟨b1, hn1, hb1, rfl⟩; have hb1' := nx hz0'.drew hb1; have B1 := keep_cell hb1' hx0a; have B2 := keep_cell hb1' hx0b)
      | (go_at_call 73; (with_reducible refine (T2 _).mono ?_); rintro e w2 ⟨b2, hn2, hb2, rfl⟩; have hb2' := nx hb1' hb2; have D1 := keep_cell hb2' hx0a; have D2 := keep_cell hb2' hx0b))
  have hbw2 := nx hb0 hb2'
  have n1 := hn1.keep hb2
  obtain ⟨d1, d2, d3⟩ := two_facts (heap_keep hb2' hx0)
  clear hx0 hx0a hx0b hx0c hx0f hx0g B1 B2 D1 D2 hb0 hb1 hb2 hb1' hb2' hn1 T1 T2 hz0'
  have N1 := Lib.hid n1
  have N2 := Lib.hid hn2
  clear n1 hn2
  go_wp2_with fail
  refine (hC _).mono ?_; rintro e w3 ⟨rfl, hb3⟩
  have hbw3 := nx hbw2 hb3
  replace N1 := Lib.hid (N1.out.keep hb3)
  replace N2 := Lib.hid (N2.out.keep hb3)
  have tc : (m : Int) - 1 + 1 = (m : Int) := by omega
  clear hb3 hbw2 d1 d2 d3 hC
  go_wp2_with (at_make; refine wpList_make_full _ rfl _ _ 47 rfl w3.heap.size 3 i0 (.int .i64 0) 1 Try.underlying47 hi hz0 hz1 .i64 .i64 _ _ m rfl rfl rfl rfl (by rw [hz2]; omega) (by unfold maxLen; omega) (Nat.le_refl _) ?_; intro w4 hown4 hgrow4)
  rw [madeCells_int] at hown4
  have hb4 : Below w3.heap.size w3 w4 := (Below.refl _ _).grown hgrow4 (Nat.le_refl _) (fun k hk => by cases hk)
  have hO : OwnI w3.heap.size w4 (.slice (some ⟨w3.heap.size, 0, none⟩) m m) (digN nT m 0) := by
    unfold OwnI; rw [digN_len, digN_zero]; exact hown4
  have HO := Lib.hid hO
  have hN0 : 0 < nT ^ m := Nat.pow_pos hn0
  have hB := hbw3.size
  obtain ⟨B, hBe⟩ : ∃ B, B = w3.heap.size := ⟨_, rfl⟩
  have HB := Lib.hid hBe
  rw [← hBe] at HO ⊢
  obtain ⟨N, hN⟩ : ∃ N, N = nT ^ m := ⟨_, rfl⟩
  have HN := Lib.hid hN
  rw [← hN] at hN0
  clear hown4 hgrow4 hO hi hz0 hz1 hz2 hN hBe
  go_wp2_with fail
  go_loopg [] (N - 1) (fun k wr => ∃ c, c + k + 1 = N ∧ Hid (∀ d, d < c → chB T t u d = false) ∧ Hid (OwnI B wr (.slice (some ⟨B, 0, none⟩) m m) (digN nT m c)) ∧ Below w3.heap.size w3 wr)
  case atStart => exact ⟨0, by omega, fun d hd => absurd hd (Nat.not_lt_zero d), HO, hb4⟩
  case round =>
    obtain ⟨c, hc, hbef, hown, hbw⟩ := hrel
    have hcN : c < nT ^ m := by have := HN.out; omega
    have hlen := digN_len nT m c
    have hin := digN_in hn0 m c hcN
    obtain ⟨vs, hvs⟩ : ∃ vs, vs = digN nT m c := ⟨_, rfl⟩
    rw [← hvs] at hlen hin hown
    have HIN : Hid (∀ x ∈ vs, 0 ≤ x ∧ x < T.length) := by
      show ∀ x ∈ vs, _
      rw [← HNT.out]; exact hin
    have hbw' := hbw
    have V1 := fun w' (hb : Below w3.heap.size w3 w') (hr : ReadI w' B 0 vs) => valueOf_any gT cT gs T HTB.out nT HNT.out t b1 B 0 m m vs w' (N1.out.keep hb) (HTA.out.keep (nx hbw3 hb)) hr hlen (Nat.le_refl _) (by omega) (by omega) (by have := HM.out; omega) HIN.out
    have V2 := fun w' (hb : Below w3.heap.size w3 w') (hr : ReadI w' B 0 vs) => valueOf_any gT cT gs T HTB.out nT HNT.out u b2 B 0 m m vs w' (N2.out.keep hb) (HTA.out.keep (nx hbw3 hb)) hr hlen (Nat.le_refl _) (by omega) (by omega) (by have := HM.out; have := HU.out; omega) HIN.out
    have hch : chB T t u c = (valT T t vs != valT T u vs) := by unfold chB; rw [hvs, HM.out, HNT.out]
    have hC1 := cntOn_digN hn0 m c hcN
    rw [← hvs] at hC1
    have hr1 := hown.out.readAt hlen
    have hNN : N = nT ^ m := HN.out
    have HIN2 := Lib.hid hin
    have HVS := Lib.hid hvs
    clear hin hvs hbw
    cases hcb : chB T t u c with
    | true =>
      have HF : Hid (firstC T t u = some c) := by
        show _ = _
        exact firstC_some (by rw [← HNT.out, ← HM.out]; exact hcN) hcb hbef.out
      rw [hcb] at hch
      generalize valT T t vs = x1 at *
      generalize valT T u vs = x2 at *
      have hxx := hch.symm
      clear hch hcb hC1 hcN hNN hc
      go_wp2_with fail
      refine (V1 _ hbw' hr1).mono ?_; rintro e w5 ⟨a5, rfl, _, hb5⟩
      have h5 := nx hbw' hb5
      have r5 := hr1.keep hb5
      replace hown := Lib.hid (hown.out.keep hb5)
      clear hb5 hbw' hr1 V1
      go_wp2_with fail
      refine (V2 _ h5 r5).mono ?_; rintro e w6 ⟨a6, rfl, _, hb6⟩
      have h6 := nx hbw3 (nx h5 hb6)
      replace hown := Lib.hid (hown.out.keep hb6)
      clear hb6 h5 r5 V2
      go_wp2_with fail
      go_ret2
      show Brk T t u w _ _
      unfold Brk
      rw [HF.out]
      show ∃ g : Nat, _
      rw [← HM.out, ← HNT.out, ← HVS.out]
      exact ⟨B, hown.out.mono (by rw [HB.out]; exact hB), h6, rfl⟩
    | false =>
      have CO := fun w' h => countOn_any (some ⟨gT, 0, none⟩) nT cT B B m vs w' hlen (by omega) (by omega) HIN2.out h
      unfold OnTo at CO
      rw [hcb] at hch
      have hbef' : Hid (∀ d, d < c + 1 → chB T t u d = false) := by
        show ∀ d, _
        intro d hd
        by_cases h : d = c
        · subst h; exact hcb
        · exact hbef.out d (by omega)
      generalize valT T t vs = x1 at *
      generalize valT T u vs = x2 at *
      have hxx := hch.symm
      by_cases hlast : c + 1 < nT ^ m
      · have e2 : (cntOn nT vs).2 = true := by rw [hC1.1]; simpa using hlast
        rw [e2, hC1.2 hlast] at CO
        have hl2 : c + 1 < N := by omega
        clear hch hcb hC1 hcN hNN hlast e2
        go_wp2_with fail
        refine (V1 _ hbw' hr1).mono ?_; rintro e w5 ⟨a5, rfl, _, hb5⟩
        have h5 := nx hbw' hb5
        have r5 := hr1.keep hb5
        replace hown := Lib.hid (hown.out.keep hb5)
        clear hb5 hbw' hr1 V1
        go_wp2_with fail
        refine (V2 _ h5 r5).mono ?_; rintro e w6 ⟨a6, rfl, _, hb6⟩
        have h6 := nx h5 hb6
        replace hown := Lib.hid (hown.out.keep hb6)
        clear hb6 h5 r5 V2
        go_wp2_with fail
        refine (CO _ hown.out).mono ?_; rintro e w7 ⟨rfl, own7, hg7⟩
        have h7 := h6.trans (grown_below hg7 h6.size (by rw [HB.out]; exact Nat.le_refl _))
        have HO7 := Lib.hid own7
        clear own7 hg7 hown h6 CO
        go_wp2_with fail
        go_roundg (gk - 1)
        case rel => exact ⟨c + 1, by omega, hbef', HO7, h7⟩
        case measure => omega
      · have e2 : (cntOn nT vs).2 = false := by rw [hC1.1]; simpa using hlast
        rw [e2] at CO
        have HF : Hid (firstC T t u = none) := by
          show _ = _
          refine firstC_none fun d hd => hbef'.out d ?_
          rw [← HNT.out, ← HM.out] at hd
          omega
        clear hch hcb hC1 hcN hNN hlast e2 hc
        go_wp2_with fail
        refine (V1 _ hbw' hr1).mono ?_; rintro e w5 ⟨a5, rfl, _, hb5⟩
        have h5 := nx hbw' hb5
        have r5 := hr1.keep hb5
        replace hown := Lib.hid (hown.out.keep hb5)
        clear hb5 hbw' hr1 V1
        go_wp2_with fail
        refine (V2 _ h5 r5).mono ?_; rintro e w6 ⟨a6, rfl, _, hb6⟩
        have h6 := nx h5 hb6
        replace hown := Lib.hid (hown.out.keep hb6)
        clear hb6 h5 r5 V2
        go_wp2_with fail
        refine (CO _ hown.out).mono ?_; rintro e w7 ⟨rfl, own7, hg7⟩
        have h7 := h6.trans (grown_below hg7 h6.size (by rw [HB.out]; exact Nat.le_refl _))
        clear own7 hg7 hown h6 CO
        go_wp2_with fail
        go_ret2
        show Brk T t u w _ _
        unfold Brk
        rw [HF.out]
        exact ⟨rfl, nx hbw3 h7⟩
end Go.Proofs.Ytkoebmdocenlkab
