/- Tables that came in or were copied: szIntS, szIntSS, toIntSS, eqIntSS. -/
import Derived.Test.YtkoebmdocenlkabMarkG
import Derived.Test.YtkoebmdocenlkabTbP
import Derived.Test.YtkoebmdocenlkabRegT
namespace Go.Proofs.Ytkoebmdocenlkab
open Go.RowKit

theorem info_row : (Try.prog.info? 47).map (fun i => (i.zero, i.size, i.bytes)) = some (some (.slice none 0 0), 1, 24) := by kernel_rfl

/-- A table that came in. -/
def IsTab (w : World) (a : Option Addr) (len cap : Nat) (T : List (List Int)) : Prop :=
  (a = none ∧ len = 0 ∧ cap = 0 ∧ T = []) ∨
  ∃ x, a = some x ∧ len ≤ cap ∧ cap ≤ maxLen ∧ T.length = len ∧ ∀ r, r < len → ∃ A L C z, w.cell? (x.add r) = some (.slice A L C) ∧ T.getD r [] = z.take L ∧ IsInts w A L C z

/-- A row of a table: its length, and that its cells can be read. -/
def RowAt (w : World) (v : Value) (xs : List Int) : Prop := ∃ (A : Option Addr) (C : Nat), v = .slice A xs.length C ∧ (xs.length : Int) ≤ 9223372036854775807 ∧ InI w A xs
theorem RowAt.keep {w w' : World} {v : Value} {xs : List Int} (h : RowAt w v xs) (hb : Below w.heap.size w w') : RowAt w' v xs := by
  obtain ⟨A, C, h1, h2, h3⟩ := h
  exact ⟨A, C, h1, h2, h3.keep hb⟩
def ReadII (w : World) (g off : Nat) (T : List (List Int)) : Prop := ∀ r, r < T.length → ∃ v, w.cell? ⟨g, off + r, none⟩ = some v ∧ RowAt w v (T.getD r [])
theorem ReadII.keep {w w' : World} {g off : Nat} {T : List (List Int)} (h : ReadII w g off T) (hb : Below w.heap.size w w') : ReadII w' g off T := by
  intro r hr
  obtain ⟨v, h1, h2⟩ := h r hr
  exact ⟨v, (hb.cell (p := ⟨g, off + r, none⟩) (World.block_lt_of_cell? w _ h1)).trans h1, h2.keep hb⟩
/-- The table as the walks take it: empty, or readable from an address on. -/
def InII (w : World) (a : Option Addr) (T : List (List Int)) : Prop := T = [] ∨ ∃ g off, a = some ⟨g, off, none⟩ ∧ ReadII w g off T
theorem InII.keep {w w' : World} {a : Option Addr} {T : List (List Int)} (h : InII w a T) (hb : Below w.heap.size w w') : InII w' a T := by
  rcases h with h | ⟨g, off, rfl, hr⟩
  · exact .inl h
  · exact .inr ⟨g, off, rfl, hr.keep hb⟩

theorem IsTab.inII {w : World} {a : Option Addr} {len cap : Nat} {T : List (List Int)} (h : IsTab w a len cap T) : InII w a T ∧ T.length = len ∧ (len : Int) ≤ 9223372036854775807 := by
  rcases h with ⟨rfl, rfl, rfl, rfl⟩ | ⟨x, rfl, h1, h2, h3, h4⟩
  · exact ⟨.inl rfl, rfl, by omega⟩
  · unfold maxLen at h2
    refine ⟨?_, h3, by omega⟩
    by_cases h0 : len = 0
    · left; exact List.length_eq_zero_iff.1 (by omega)
    · right
      obtain ⟨b, off, spot⟩ := x
      obtain ⟨_, _, _, _, hc, _⟩ := h4 0 (by omega)
      have hspot : spot = none := by simpa [Addr.add] using World.cell?_spot hc
      subst hspot
      refine ⟨b, off, rfl, fun i hi => ?_⟩
      obtain ⟨A, L, C, z, hcell, hz, hin⟩ := h4 i (by omega)
      have e : (⟨b, off, none⟩ : Addr).add i = ⟨b, off + i, none⟩ := by
        unfold Addr.add
        split
        · next h => rw [h]; simp
        · rfl
      rw [e] at hcell
      obtain ⟨k1, k2, k3, _⟩ := hin.inI
      refine ⟨_, hcell, A, C, ?_, ?_, ?_⟩
      · rw [hz, k2]
      · rw [hz, k2]; exact k3
      · rw [hz]; exact k1

/-- A row in new memory, as long as its block. -/
def rowV (g : Nat) (xs : List Int) : Value := .slice (some ⟨g, 0, none⟩) xs.length xs.length
/-- v is a table that the call has made, its rows in blocks behind its own. -/
def OwnII (base : Nat) (w : World) (g : Nat) (gs : List Nat) (T : List (List Int)) : Prop :=
  base ≤ g ∧ gs.length = T.length ∧ w.ownsRow base 47 1 (.slice (some ⟨g, 0, none⟩) T.length T.length) T.length (List.zipWith rowV gs T) ∧ ∀ r, r < T.length → OwnI (g + 1) w (rowV (gs.getD r 0) (T.getD r [])) (T.getD r [])
theorem OwnII.keep {base : Nat} {w w' : World} {g : Nat} {gs : List Nat} {T : List (List Int)} (h : OwnII base w g gs T) (hb : Below w.heap.size w w') : OwnII base w' g gs T :=
  ⟨h.1, h.2.1, ownsRow_keep h.2.2.1 hb, fun r hr => (h.2.2.2 r hr).keep hb⟩
theorem zip_get {gs : List Nat} {T : List (List Int)} (h : gs.length = T.length) {r : Nat} (hr : r < T.length) : (List.zipWith rowV gs T)[r]? = some (rowV (gs.getD r 0) (T.getD r [])) := by
  rw [List.getElem?_zipWith, List.getElem?_eq_getElem (by omega), List.getElem?_eq_getElem hr]
  simp [List.getD_eq_getElem?_getD, hr, show r < gs.length by omega]

/-- What can be read of a table: the cells of its rows. -/
def TabAt (w : World) (g : Nat) (gs : List Nat) (T : List (List Int)) : Prop :=
  ∀ r, r < T.length → w.cell? ⟨g, r, none⟩ = some (rowV (gs.getD r 0) (T.getD r [])) ∧ ReadI w (gs.getD r 0) 0 (T.getD r [])
theorem TabAt.keep {w w' : World} {g : Nat} {gs : List Nat} {T : List (List Int)} (h : TabAt w g gs T) (hb : Below w.heap.size w w') : TabAt w' g gs T := fun r hr =>
  ⟨(hb.cell (p := ⟨g, r, none⟩) (World.block_lt_of_cell? w _ (h r hr).1)).trans (h r hr).1, (h r hr).2.keep hb⟩
theorem OwnI.read {base : Nat} {w : World} {g c : Nat} {xs : List Int} (h : OwnI base w (.slice (some ⟨g, 0, none⟩) xs.length c) xs) : ReadI w g 0 xs := by
  intro i hi
  have := World.ownsRow.cellAt h i (by omega)
  rw [Nat.zero_add, this]
  simp [List.getElem?_eq_getElem hi]
theorem OwnII.tab {base : Nat} {w : World} {g : Nat} {gs : List Nat} {T : List (List Int)} (h : OwnII base w g gs T) : TabAt w g gs T := by
  intro r hr
  refine ⟨?_, (h.2.2.2 r hr).read⟩
  have := World.ownsRow.cellAt h.2.2.1 r (by omega)
  rw [this, zip_get h.2.1 hr]

/-- The number that is left is known to be none or at most so much. -/
def SizeTab (T : List (List Int)) (w : World) (e : Ending) (w' : World) : Prop :=
  ∃ r : Int, e = .returned (.int .i64 r) ∧ w = w' ∧ Hid (r ≤ 1048576) ∧ Hid (0 ≤ r → T.length ≤ 1048576 ∧ ∀ x ∈ T, x.length ≤ 1048576)

theorem szIntS_yes (A : Option Addr) (n C : Nat) (left : Int) (w : World) (hn : (n : Int) ≤ 9223372036854775807) (h0 : 0 ≤ left) (h1 : left ≤ 1048576) (h : (n : Int) ≤ left) :
    Calls Try.prog 42 #[.slice A n C, .int .i64 left] w fun e w' => e = .returned (.int .i64 (left - n)) ∧ w = w' := by
  go_enter Try.func42, Try.ntmps42
  go_wp2_with fail
  go_ret
  exact ⟨rfl, rfl⟩
theorem szIntS_no (A : Option Addr) (n C : Nat) (left : Int) (w : World) (hn : (n : Int) ≤ 9223372036854775807) (h0 : 0 ≤ left) (h1 : left ≤ 1048576) (h : left < n) :
    Calls Try.prog 42 #[.slice A n C, .int .i64 left] w fun e w' => e = .returned (.int .i64 (-1)) ∧ w = w' := by
  go_enter Try.func42, Try.ntmps42
  go_wp2_with fail
  go_ret
  exact ⟨rfl, rfl⟩

set_option maxHeartbeats 1000000 in
theorem szIntSS_at (a : Option Addr) (cap n : Nat) (T : List (List Int)) (left : Int) (w : World) (hl0 : 0 ≤ left) (hl1 : left ≤ 1048576) (hn : T.length = n) (hn1 : (n : Int) ≤ 9223372036854775807) (h : InII w a T) :
    Calls Try.prog 13 #[.slice a n cap, .int .i64 left] w (SizeTab T w) := by
  by_cases hbig : left < n
  · have HN : Hid ((0 : Int) ≤ -1 → T.length ≤ 1048576 ∧ ∀ x ∈ T, x.length ≤ 1048576) := fun h => absurd h (by omega)
    have HM : Hid ((-1 : Int) ≤ 1048576) := by show (-1 : Int) ≤ 1048576; omega
    clear h hn
    go_enter Try.func13, Try.ntmps13
    go_wp2_with fail
    go_ret
    exact ⟨_, rfl, rfl, HM, HN⟩
  · have HN := Lib.hid hn
    clear hn
    rcases h with h0 | ⟨g, off, rfl, hr⟩
    · subst h0
      have hn0 : n = 0 := HN.out.symm
      subst hn0
      have HM : Hid (left ≤ 1048576) := hl1
      go_enter Try.func13, Try.ntmps13
      go_wp2_with fail
      go_loopw [1, 5] (fun v i wr => v = .int .i64 left ∧ i = .int .i64 0 ∧ wr = w) (fun _ _ _ => 0)
      case atStart => exact ⟨by go_num, rfl, rfl⟩
      case round =>
        obtain ⟨rfl, rfl, rfl⟩ := hrel
        go_wp2_with fail
        go_ret
        exact ⟨_, rfl, rfl, HM, fun _ => ⟨by simp, by simp⟩⟩
    · have HR := Lib.hid hr
      clear hr
      go_enter Try.func13, Try.ntmps13
      go_wp2_with fail
      go_loopw [1, 5] (fun v i wr => ∃ (k : Nat) (r : Int), k ≤ n ∧ i = .int .i64 k ∧ v = .int .i64 r ∧ 0 ≤ r ∧ r ≤ 1048576 ∧ wr = w ∧ Hid (∀ x ∈ T.take k, x.length ≤ 1048576)) (fun _ i _ => n - (intOf i).toNat)
      case atStart => exact ⟨0, _, Nat.zero_le _, rfl, rfl, by omega, by omega, rfl, fun s hs => by simp at hs⟩
      case round =>
        obtain ⟨k, r, hk, rfl, rfl, hr0, hr1, rfl, hall⟩ := hrel
        by_cases hlt : k < n
        · have hlt' : (k : Int) < (n : Int) := by omega
          have hlk : k < T.length := by have := HN.out; omega
          obtain ⟨v, c1, A, C, rfl, hx1, _⟩ := HR.out k hlk
          have htk : T.take (k + 1) = T.take k ++ [T.getD k []] := by rw [List.take_succ_eq_append_getElem hlk]; simp [hlk]
          obtain ⟨s, hs⟩ : ∃ s, s = T.getD k [] := ⟨_, rfl⟩
          rw [← hs] at c1 hx1 htk
          have HT := Lib.hid htk
          obtain ⟨q, hq⟩ : ∃ q, q = s.length := ⟨_, rfl⟩
          rw [← hq] at c1 hx1
          have HQ := Lib.hid hq
          clear hs htk hlk hq
          by_cases hneg : r < q
          · have HNN : Hid ((0 : Int) ≤ -1 → T.length ≤ 1048576 ∧ ∀ s ∈ T, s.length ≤ 1048576) := fun h => absurd h (by omega)
            have HM : Hid ((-1 : Int) ≤ 1048576) := by show (-1 : Int) ≤ 1048576; omega
            go_wp2_with fail
            refine (szIntS_no A q C r _ hx1 hr0 hr1 hneg).mono ?_; rintro e w1 ⟨rfl, rfl⟩
            go_wp2_with fail
            go_ret
            exact ⟨_, rfl, rfl, HM, HNN⟩
          · go_wp2_with fail
            refine (szIntS_yes A q C r _ hx1 hr0 hr1 (by omega)).mono ?_; rintro e w1 ⟨rfl, rfl⟩
            go_wp2_with fail
            go_roundw
            case rel =>
              refine ⟨k + 1, r - q, by omega, by go_num, rfl, by omega, by omega, trivial, ?_⟩
              show ∀ s ∈ T.take (k + 1), s.length ≤ 1048576
              rw [HT.out]
              intro x hx
              rw [List.mem_append] at hx
              rcases hx with hx | hx
              · exact hall.out x hx
              · simp at hx; subst hx; have := HQ.out; omega
            case measure => simp [intOf]; omega
        · obtain rfl : k = n := by omega
          have HM : Hid (r ≤ 1048576) := hr1
          have hfin : Hid (0 ≤ r → T.length ≤ 1048576 ∧ ∀ s ∈ T, s.length ≤ 1048576) := by
            intro _
            have h1 := hall.out
            rw [List.take_of_length_le (by have := HN.out; omega)] at h1
            exact ⟨by have := HN.out; omega, h1⟩
          go_wp2_with fail
          go_ret
          exact ⟨_, rfl, rfl, HM, hfin⟩

/-- A call that hands back a copy, in new memory. -/
def CopyOfII (T : List (List Int)) (n : Nat) (w : World) (e : Ending) (w' : World) : Prop :=
  ∃ (g : Nat) (gs : List Nat), OwnII w.heap.size w' g gs T ∧ Below w.heap.size w w' ∧ e = .returned (.slice (some ⟨g, 0, none⟩) n n)

theorem madeCells_row (n : Nat) : (madeCells (Value.slice none 0 0).cells (n * 1)).toList = List.replicate n (Value.slice none 0 0) := by
  rw [Nat.mul_one]
  exact toList_madeCells_one _ _

theorem zip_take {gs : List Nat} {T : List (List Int)} {k b : Nat} (hg : gs.length = k) (hk : k < T.length) : List.zipWith rowV (gs ++ [b]) (T.take (k + 1)) = List.zipWith rowV gs (T.take k) ++ [rowV b (T.getD k [])] := by
  have htk : T.take (k + 1) = T.take k ++ [T.getD k []] := by rw [List.take_succ_eq_append_getElem hk]; simp [hk]
  rw [htk, List.zipWith_append (by rw [List.length_take]; omega)]
  rfl
theorem rep_set {xs : List Value} {n k : Nat} {v z : Value} (hx : xs.length = k) (hk : k < n) : (xs ++ List.replicate (n - k) z).set k v = xs ++ [v] ++ List.replicate (n - (k + 1)) z := by
  have e : n - k = (n - (k + 1)) + 1 := by omega
  rw [List.set_append_right _ _ (by omega), e, List.replicate_succ]
  have e2 : k - xs.length = 0 := by omega
  rw [e2, List.set_cons_zero, List.append_assoc]
  rfl

set_option maxHeartbeats 1000000 in
theorem toIntSS_any (a : Option Addr) (cap n : Nat) (T : List (List Int)) (w : World) (hn : T.length = n) (hn1 : n ≤ 1048576) (hx : ∀ x ∈ T, x.length ≤ 1048576) (h : InII w a T) :
    Calls Try.prog 16 #[.slice a n cap] w (CopyOfII T n w) := by
  obtain ⟨i0, hi, hz0, hz1, hz2⟩ := info_parts info_row
  have HN := Lib.hid hn
  have HI := Lib.hid h
  have HX := Lib.hid hx
  clear hn h hx
  go_enter Try.func16, Try.ntmps16
  go_wp2_with (at_make; refine wpList_make_full _ rfl _ _ 27 rfl w.heap.size 47 i0 (.slice none 0 0) 1 Try.underlying27 hi hz0 hz1 .i64 .i64 _ _ n rfl rfl rfl rfl (by rw [hz2]; omega) (by unfold maxLen; omega) (Nat.le_refl _) ?_; intro w0 hown0 hgrow0)
  rw [madeCells_row] at hown0
  have hb0 : Below w.heap.size w w0 := (Below.refl _ _).grown hgrow0 (Nat.le_refl _) (fun k hk => by cases hk)
  have HO : Hid (w0.ownsRow w.heap.size 47 1 (.slice (some ⟨w.heap.size, 0, none⟩) n n) n (List.replicate n (Value.slice none 0 0))) := hown0
  clear hown0 hgrow0
  go_wp2_with fail
  go_loopw [4] (fun i wr => ∃ (k : Nat) (gs : List Nat), k ≤ n ∧ i = .int .i64 k ∧ Hid (gs.length = k ∧ wr.ownsRow w.heap.size 47 1 (.slice (some ⟨w.heap.size, 0, none⟩) n n) n (List.zipWith rowV gs (T.take k) ++ List.replicate (n - k) (Value.slice none 0 0)) ∧ ∀ r, r < k → OwnI (w.heap.size + 1) wr (rowV (gs.getD r 0) (T.getD r [])) (T.getD r [])) ∧ Below w.heap.size w wr) (fun i _ => n - (intOf i).toNat)
  case atStart => exact ⟨0, [], Nat.zero_le _, rfl, ⟨rfl, by simpa using HO.out, fun r hr => absurd hr (Nat.not_lt_zero r)⟩, hb0⟩
  case round =>
    obtain ⟨k, gs, hk, rfl, hown, hbw⟩ := hrel
    by_cases hlt : k < n
    · have hlt' : (k : Int) < (n : Int) := by omega
      have hlk : k < T.length := by have := HN.out; omega
      rcases HI.out with h0 | ⟨g, off, ha, hr⟩
      · exfalso; rw [h0] at hlk; simp at hlk
      · obtain ⟨v, c1, A, C, rfl, hx1, hin⟩ := (hr.keep hbw) k hlk
        have hT := fun w h => toIntS_any A C (T.getD k []).length (T.getD k []) w rfl (HX.out _ (getD_mem hlk)) h
        have hq1 := HX.out _ (getD_mem (d := []) hlk)
        obtain ⟨s, hs⟩ : ∃ s, s = T.getD k [] := ⟨_, rfl⟩
        rw [← hs] at c1 hT hin hx1 hq1
        have HS := Lib.hid hs
        have HIN := Lib.hid hin
        have hgb : w.heap.size < wr.heap.size := by
          have := World.ownsRow.lt hown.out.2.1 _ rfl
          exact this.2
        subst ha
        generalize hq : s.length = q at *
        have HQ := Lib.hid hq
        clear hs hin hlk hq
        go_wp2_with fail
        refine (hT _ HIN.out).mono ?_; rintro e w1 ⟨b, ob, hb1, rfl⟩
        have hrow := ownsRow_keep hown.out.2.1 hb1
        have hfz : w1.frozen? ⟨w.heap.size, k, none⟩ = false := World.ownsRow.frozenAt hrow k
        obtain ⟨x, hcell⟩ : ∃ x, w1.cell? ⟨w.heap.size, k, none⟩ = some x := by
          have := World.ownsRow.cellAt hrow k (by omega)
          rw [this]
          exact ⟨_, List.getElem?_eq_getElem (by
            have h1 := hown.out.1
            have h2 := HN.out
            simp; omega)⟩
        have hst := World.ownsRow.stored hrow k (.slice (some ⟨b, 0, none⟩) q q)
        have hnext : Hid ((gs ++ [b]).length = k + 1 ∧ (w1.setCell ⟨w.heap.size, k, none⟩ (.slice (some ⟨b, 0, none⟩) q q)).ownsRow w.heap.size 47 1 (.slice (some ⟨w.heap.size, 0, none⟩) n n) n (List.zipWith rowV (gs ++ [b]) (T.take (k + 1)) ++ List.replicate (n - (k + 1)) (Value.slice none 0 0)) ∧ ∀ r, r < k + 1 → OwnI (w.heap.size + 1) (w1.setCell ⟨w.heap.size, k, none⟩ (.slice (some ⟨b, 0, none⟩) q q)) (rowV ((gs ++ [b]).getD r 0) (T.getD r [])) (T.getD r [])) := by
          have h1 := hown.out.1
          have h2 := HN.out
          refine ⟨by rw [List.length_append, h1]; rfl, ?_, fun r hr => ?_⟩
          · have h3 := hst.1
            rw [rep_set (by simp; omega) hlt] at h3
            rw [zip_take h1 (by omega), ← HS.out]
            unfold rowV at h3 ⊢
            rw [HQ.out]
            exact h3
          · by_cases hrk : r = k
            · subst hrk
              have e1 : (gs ++ [b]).getD r 0 = b := by simp [List.getD_eq_getElem?_getD, ← h1]
              rw [e1, ← HS.out]
              unfold rowV
              rw [HQ.out]
              exact (ob.mono hgb).kept hst.2 (Nat.lt_succ_self _)
            · have e1 : (gs ++ [b]).getD r 0 = gs.getD r 0 := by
                rw [List.getD_eq_getElem?_getD, List.getD_eq_getElem?_getD, List.getElem?_append_left (by omega)]
              rw [e1]
              exact ((hown.out.2.2 r (by omega)).keep hb1).kept hst.2 (Nat.lt_succ_self _)
        have hbw' : Below w.heap.size w (w1.setCell ⟨w.heap.size, k, none⟩ (.slice (some ⟨b, 0, none⟩) q q)) := (nx hbw hb1).setCell (Nat.le_refl _) _
        clear hrow hst hown ob
        go_wp2_with fail
        go_roundw
        case rel => exact ⟨k + 1, _, by omega, by go_num, hnext, hbw'⟩
        case measure => simp [intOf]; omega
    · obtain rfl : k = n := by omega
      have hend : Hid (OwnII w.heap.size wr w.heap.size gs T) := by
        obtain ⟨h1, h2, h3⟩ := hown.out
        have h4 := HN.out
        refine ⟨Nat.le_refl _, by omega, ?_, fun r hr => h3 r (by omega)⟩
        rw [Nat.sub_self, List.replicate_zero, List.append_nil, List.take_of_length_le (by omega)] at h2
        rw [h4]
        exact h2
      go_wp2_with fail
      go_ret
      exact ⟨_, _, hend.out, hbw, rfl⟩

set_option maxHeartbeats 1000000 in
theorem eqIntSS_any (b1 b2 g1 g2 n : Nat) (gs1 gs2 : List Nat) (T : List (List Int)) (w : World) (hn : T.length = n) (hn1 : n ≤ 1048576) (h1 : OwnII b1 w g1 gs1 T) (h2 : OwnII b2 w g2 gs2 T) :
    Calls Try.prog 18 #[.slice (some ⟨g1, 0, none⟩) n n, .slice (some ⟨g2, 0, none⟩) n n] w (Gives (.bool true) w) := by
  have H1 := Lib.hid h1
  have H2 := Lib.hid h2
  have HN := Lib.hid hn
  clear h1 h2 hn
  go_enter Try.func18, Try.ntmps18
  go_wp2_with fail
  go_loopw [5] (fun i wr => ∃ k : Nat, k ≤ n ∧ i = .int .i64 k ∧ Below w.heap.size w wr) (fun i _ => n - (intOf i).toNat)
  case atStart => exact ⟨0, Nat.zero_le _, rfl, Below.refl _ _⟩
  case round =>
    obtain ⟨k, hk, rfl, hbw⟩ := hrel
    by_cases hlt : k < n
    · have hlt' : (k : Int) < (n : Int) := by omega
      have hlk : k < T.length := by have := HN.out; omega
      have c1 := ((H1.out.keep hbw).tab k hlk).1
      have c2 := ((H2.out.keep hbw).tab k hlk).1
      have E : ∀ w', Below wr.heap.size wr w' → Calls Try.prog 32 #[rowV (gs1.getD k 0) (T.getD k []), rowV (gs2.getD k 0) (T.getD k [])] w' (Gives (.bool true) w') := fun w' hb =>
        (eqIntS_any _ _ _ _ (T.getD k []) w' (((H1.out.keep hbw).keep hb).2.2.2 k hlk).cells (((H2.out.keep hbw).keep hb).2.2.2 k hlk).cells).mono fun e w2 ⟨h3, d, h4⟩ => ⟨h3, by rw [h4]; exact drewB (Below.refl _ _) d⟩
      obtain ⟨v1, hv1⟩ : ∃ v, v = rowV (gs1.getD k 0) (T.getD k []) := ⟨_, rfl⟩
      obtain ⟨v2, hv2⟩ : ∃ v, v = rowV (gs2.getD k 0) (T.getD k []) := ⟨_, rfl⟩
      rw [← hv1] at c1 E
      rw [← hv2] at c2 E
      have l1 := World.block_lt_of_cell? wr _ c1
      have l2 := World.block_lt_of_cell? wr _ c2
      clear hv1 hv2 hlk
      go_wp2_with fail
      refine wp_region_cls (by kernel_rfl) (by kernel_rfl) ?_
      repeat (
        refine wpQuiet_step (fun K hK => ?_)
        go_simp
        first
          | (refine hK _ ?_; clear hK K)
          | (refine ⟨_, fun _ _ => rfl, hK _ ?_⟩; clear hK K)
          | (apply Exists.intro
             refine ⟨fun w' hw' => ?_, hK _ ?_⟩
             · first
                 | (rw [hw'.cell l1 c1]; exact ⟨rfl, rfl⟩)
                 | (rw [hw'.cell l2 c2]; exact ⟨rfl, rfl⟩)
                 | (go_at_call 32; exact hw'.call (E _ hw'))
             clear hK K))
      refine wpQuiet_nil ?_
      intro w' hw'
      go_wp2_with fail
      go_roundw
      case rel => exact ⟨k + 1, by omega, by go_num, nx hbw hw'⟩
      case measure => simp [intOf]; omega
    · obtain rfl : k = n := by omega
      go_wp2_with fail
      go_ret
      exact ⟨rfl, hbw⟩
end Go.Proofs.Ytkoebmdocenlkab
