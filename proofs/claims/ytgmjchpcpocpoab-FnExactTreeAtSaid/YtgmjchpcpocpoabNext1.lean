/- Walks: (*walk).inFront, passCaret, passLeaf, next. -/
import Derived.Test.YtgmjchpcpocpoabOrdP
import Derived.Test.YtgmjchpcpocpoabText
import Derived.Test.YtgmjchpcpocpoabCountT
import Derived.Test.YtgmjchpcpocpoabQuiet
import Derived.Lib.SmallJoins
namespace Go.Proofs.Ytgmjchpcpocpoab
open Go.RowKit

/-- Block b is a walk: trees, carets, rank. -/
def WkAt (w : World) (b m c r : Nat) : Prop := w.heap[b]? = some (.cells #[.int .i64 m, .int .i64 c, .int .i64 r] 67 (0, 0))
theorem WkAt.cells {w : World} {b m c r : Nat} (h : WkAt w b m c r) : w.cell? ⟨b, 0, none⟩ = some (.int .i64 m) ∧ w.cell? ⟨b, 1, none⟩ = some (.int .i64 c) ∧ w.cell? ⟨b, 2, none⟩ = some (.int .i64 r) ∧ w.frozen? ⟨b, 0, none⟩ = false ∧ w.frozen? ⟨b, 1, none⟩ = false ∧ w.frozen? ⟨b, 2, none⟩ = false := by
  unfold WkAt at h
  simp [World.cell?, World.frozen?, h]
theorem WkAt.set0 {w : World} {b m c r : Nat} (h : WkAt w b m c r) (n : Nat) : WkAt (w.setCell ⟨b, 0, none⟩ (.int .i64 n)) b n c r := Joins.block_setCell h _
theorem WkAt.set1 {w : World} {b m c r : Nat} (h : WkAt w b m c r) (n : Nat) : WkAt (w.setCell ⟨b, 1, none⟩ (.int .i64 n)) b m n r := Joins.block_setCell h _
theorem WkAt.set2 {w : World} {b m c r : Nat} (h : WkAt w b m c r) (n : Nat) : WkAt (w.setCell ⟨b, 2, none⟩ (.int .i64 n)) b m c n := Joins.block_setCell h _
theorem WkAt.keep {w w' : World} {b m c r : Nat} (hb : Below w.heap.size w w') (h : WkAt w b m c r) : WkAt w' b m c r := (hb.block b (lt_of_block h)).trans h
theorem grown_set (w : World) (b i : Nat) (v : Value) : w.grownBy (w.setCell ⟨b, i, none⟩ v) (some b) :=
  ⟨rfl, rfl, rfl, by simp, fun k _ hk => heap_setCell_other w ⟨b, i, none⟩ k v (fun e => hk (by rw [e]))⟩
theorem grownR (w : World) (r : Option Nat) : w.grownBy w r := ⟨rfl, rfl, rfl, Nat.le_refl _, fun _ _ _ => rfl⟩
theorem grownT {a b c : World} {r : Option Nat} (h : a.grownBy b r) (k : b.grownBy c r) : a.grownBy c r :=
  ⟨k.os.trans h.os, k.tape.trans h.tape, k.output.trans h.output, Nat.le_trans h.size k.size, fun i hi hn => (k.block i (Nat.lt_of_lt_of_le hi h.size) hn).trans (h.block i hi hn)⟩
theorem grownB {a b c : World} {r : Option Nat} (h : a.grownBy b r) (k : Below b.heap.size b c) : a.grownBy c r :=
  ⟨k.os.trans h.os, k.tape.trans h.tape, k.output.trans h.output, Nat.le_trans h.size k.size, fun i hi hn => (k.block i (Nat.lt_of_lt_of_le hi h.size)).trans (h.block i hi hn)⟩

theorem grownD {w w' : World} {n : Nat} {r : Option Nat} (h : (w.drewN n).grownBy w' r) : w.grownBy w' r := ⟨h.os, h.tape, h.output, h.size, h.block⟩

/-- Nodes in blocks from n0 on. -/
def NodeUp (n0 : Nat) (w : World) : Tr → Nat → Prop
  | .lf, b => n0 ≤ b ∧ w.heap[b]? = some (.cells #[.pointer none, .pointer none] 90 (0, 0))
  | .nd l r, b => n0 ≤ b ∧ ∃ bl br, w.heap[b]? = some (.cells #[.pointer (some ⟨bl, 0, none⟩), .pointer (some ⟨br, 0, none⟩)] 90 (0, 0)) ∧ NodeUp n0 w l bl ∧ NodeUp n0 w r br
theorem NodeUp.at {n0 : Nat} {w : World} : ∀ {t : Tr} {b : Nat}, NodeUp n0 w t b → NodeAt w t b := by
  intro t
  induction t with
  | lf => intro b h; exact h.2
  | nd l r ihl ihr => intro b h; obtain ⟨_, bl, br, h, h1, h2⟩ := h; exact ⟨bl, br, h, ihl h1, ihr h2⟩
theorem NodeUp.kept {n0 b0 : Nat} {w w' : World} (hg : w.grownBy w' (some b0)) (hb : b0 < n0) : ∀ {t : Tr} {b : Nat}, NodeUp n0 w t b → NodeUp n0 w' t b := by
  intro t
  induction t with
  | lf => intro b h; exact ⟨h.1, (hg.block b (lt_of_block h.2) (fun e => by injection e with e; have := h.1; omega)).trans h.2⟩
  | nd l r ihl ihr =>
    intro b h
    obtain ⟨hn, bl, br, h, h1, h2⟩ := h
    exact ⟨hn, bl, br, (hg.block b (lt_of_block h) (fun e => by injection e with e; omega)).trans h, ihl h1, ihr h2⟩
theorem NodeUp.mono {n0 n1 : Nat} (hn : n1 ≤ n0) {w : World} : ∀ {t : Tr} {b : Nat}, NodeUp n0 w t b → NodeUp n1 w t b := by
  intro t
  induction t with
  | lf => intro b h; exact ⟨by have := h.1; omega, h.2⟩
  | nd l r ihl ihr => intro b h; obtain ⟨hk, bl, br, h, h1, h2⟩ := h; exact ⟨by omega, bl, br, h, ihl h1, ihr h2⟩
theorem NodeUp.keepB {n0 : Nat} {w w' : World} (hb : Below w.heap.size w w') : ∀ {t : Tr} {b : Nat}, NodeUp n0 w t b → NodeUp n0 w' t b := by
  intro t
  induction t with
  | lf => intro b h; exact ⟨h.1, (hb.block b (lt_of_block h.2)).trans h.2⟩
  | nd l r ihl ihr =>
    intro b h
    obtain ⟨hn, bl, br, h, h1, h2⟩ := h
    exact ⟨hn, bl, br, (hb.block b (lt_of_block h)).trans h, ihl h1, ihr h2⟩

set_option maxRecDepth 100000 in
theorem inFront_any (b m c r : Nat) (w : World) (h : WkAt w b m c r) (hm : m ≤ 18) (hc : c ≤ 8) :
    Calls Try.prog 63 #[.pointer (some ⟨b, 0, none⟩)] w (Quietly (.int .i64 (frontN m c)) w) := by
  obtain ⟨h0, h1, h2, h3, h4, h5⟩ := h.cells
  unfold frontN
  by_cases hz : c = 0
  · subst hz
    rw [if_pos rfl]
    clear h
    go_enter Try.func63, Try.ntmps63
    go_wp2_with fail
    go_ret
    exact ⟨rfl, 0, rfl⟩
  · rw [if_neg hz]
    obtain ⟨d, rfl⟩ : ∃ d, c = d + 1 := ⟨c - 1, by omega⟩
    rw [Nat.add_sub_cancel]
    have hL : ∀ w, Calls Try.prog 56 #[.int .i64 ((m : Int) + 1), .int .i64 (d : Int)] w fun e w' => e = .returned (.int .i64 (listsN (m + 1) d)) ∧ w = w' := fun w => countLists_any (m + 1) d w (by omega) (by omega) (by omega)
    have e1 : IntKind.i64.wrap ((m : Int) + 1) = (m : Int) + 1 := by rw [IntKind.wrap_i64] <;> omega
    have e2 : IntKind.i64.wrap (d : Int) = (d : Int) := by rw [IntKind.wrap_i64] <;> omega
    have e3 : IntKind.i64.wrap ((d : Int) + 1 - 1) = ((d : Nat) : Int) := by rw [IntKind.wrap_i64] <;> omega
    have ez : ((d : Int) + 1 == 0) = false := by rw [beq_eq_false_iff_ne]; omega
    clear h hz
    go_enter Try.func63, Try.ntmps63
    go_wp2_with fail
    go_quiet ((go_at_call 56; exact quiet_eq (hL _)))
    go_wp2_with fail
    go_ret
    exact ⟨rfl, _, rfl⟩

/-- A step of a walk: nothing else turns. -/
def Steps (b m c r : Nat) (w : World) (e : Ending) (w' : World) : Prop := (∃ v, e = .returned v) ∧ WkAt w' b m c r ∧ w.grownBy w' (some b)
set_option maxRecDepth 100000 in
theorem passLeaf_any (b m c r : Nat) (w : World) (h : WkAt w b (m + 1) c r) (hm : m ≤ 18) :
    Calls Try.prog 64 #[.pointer (some ⟨b, 0, none⟩)] w (Steps b m c r w) := by
  obtain ⟨h0, h1, h2, h3, h4, h5⟩ := h.cells
  have H := Lib.hid h
  clear h
  go_enter Try.func64, Try.ntmps64
  go_wp2_with fail
  go_end0
  exact ⟨⟨_, rfl⟩, H.out.set0 m, grown_set _ _ _ _⟩
set_option maxRecDepth 100000 in
theorem passCaret_any (b m c r : Nat) (w : World) (h : WkAt w b m (c + 1) r) (hm : m ≤ 18) (hc : c ≤ 18) :
    Calls Try.prog 62 #[.pointer (some ⟨b, 0, none⟩)] w (Steps b (m + 1) c r w) := by
  obtain ⟨h0, h1, h2, h3, h4, h5⟩ := h.cells
  have H := Lib.hid h
  have hc2 : (w.setCell ⟨b, 0, none⟩ (.int .i64 ((m : Int) + 1))).cell? ⟨b, 1, none⟩ = some (.int .i64 ((c + 1 : Nat) : Int)) := ((h.set0 (m + 1)).cells).2.1
  clear h
  go_enter Try.func62, Try.ntmps62
  go_wp2_with fail
  go_end0
  exact ⟨⟨_, rfl⟩, (H.out.set0 (m + 1)).set1 c, grownT (grown_set _ _ _ _) (grown_set _ _ _ _)⟩

def NextOk (b m c r : Nat) (t : Tr) (w : World) (e : Ending) (w' : World) : Prop :=
  ∃ g : Nat, e = .returned (.pointer (some ⟨g, 0, none⟩)) ∧ NodeUp w.heap.size w' t g ∧ WkAt w' b m c r ∧ w.grownBy w' (some b)

theorem lists_small0 : ∀ c, c ≤ 8 → ∀ m, m ≤ 18 → 2 * c + m ≤ 18 → listsN m c ≤ 8000 := by decide
theorem lists_small (m c : Nat) (h : c ≤ 8) (k : 2 * c + m ≤ 18) : listsN m c ≤ 8000 := lists_small0 c h m (by omega) k
set_option maxRecDepth 100000 in
set_option maxHeartbeats 4000000 in
theorem next_any (k : Nat) : ∀ (b m c r : Nat) (us : List Tr) (w : World), WkAt w b m c r → 2 * c + m ≤ k → 1 ≤ m → c ≤ 8 → 2 * c + m ≤ 18 → r ≤ 8000 → (enum m c)[r]? = some us →
    Calls Try.prog 57 #[.pointer (some ⟨b, 0, none⟩)] w (NextOk b (nextF k m c r).2.1 (nextF k m c r).2.2.1 (nextF k m c r).2.2.2 (nextF k m c r).1 w) := by
  induction k with
  | zero => intro b m c r us w h hk h1; omega
  | succ k ih =>
    intro b m c r us w h hk h1 h8 h18 hr hget
    obtain ⟨c0, c1, c2, f0, f1, f2⟩ := h.cells
    have hbl := lt_of_block h
    rw [nextF]
    by_cases hf : frontN m c ≤ r
    · rw [if_pos hf]
      obtain ⟨m', rfl⟩ : ∃ m', m = m' + 1 := ⟨m - 1, by omega⟩
      rw [Nat.add_sub_cancel]
      have hI := fun w (h : WkAt w b (m' + 1) c r) => inFront_any b (m' + 1) c r w h (by omega) h8
      obtain ⟨F, hF⟩ : ∃ F, F = frontN (m' + 1) c := ⟨_, rfl⟩
      rw [← hF] at hf ⊢
      simp only [← hF] at hI
      obtain ⟨s, rfl⟩ : ∃ s, r = F + s := ⟨r - F, by omega⟩
      have es : F + s - F = s := by omega
      rw [es]
      have H := Lib.hid h
      have hB := Below.refl w.heap.size w
      clear h hget hF es ih
      go_enter Try.func57, Try.ntmps57
      go_wp2_with fail
      refine (hI _ H.out).mono ?_; rintro e w1 ⟨rfl, d1, rfl⟩
      have hs : WkAt ((w.drewN d1).setCell ⟨b, 2, none⟩ (.int .i64 s)) b (m' + 1) c s := WkAt.set2 (w := w.drewN d1) H.out s
      have hg1 : w.grownBy ((w.drewN d1).setCell ⟨b, 2, none⟩ (.int .i64 s)) (some b) := grownD (grown_set (w.drewN d1) b 2 _)
      have HS := Lib.hid hs
      have ef : (F : Int) + (s : Int) - (F : Int) = (s : Int) := by omega
      clear hs
      go_wp2_with fail
      refine (passLeaf_any b m' c s _ HS.out (by omega)).mono ?_; rintro e w3 ⟨⟨v, rfl⟩, hk3, hg3⟩
      have hg13 := grownT hg1 hg3
      have hb4 := nxAlloc (Below.refl w3.heap.size w3) (.cells #[.pointer none, .pointer none] 90 (0, 0))
      have HK := Lib.hid (hk3.keep hb4)
      have hsz := hg13.size
      have HG := Lib.hid (grownB hg13 hb4)
      clear hk3 hg3 hg1 hg13 HS hb4
      go_wp2_with fail
      go_ret
      exact ⟨_, rfl, ⟨hsz, heap_alloc_at _ _⟩, HK.out, HG.out⟩
    · rw [if_neg hf]
      have hc0 : c ≠ 0 := by
        intro e; apply hf; unfold frontN; rw [if_pos e]; exact Nat.zero_le _
      obtain ⟨c', rfl⟩ : ∃ c', c = c' + 1 := ⟨c - 1, by omega⟩
      rw [Nat.add_sub_cancel]
      have hfl : (enum (m + 1) c').length = frontN m (c' + 1) := by
        have := front_length (m := m) (c := c' + 1) h8 h18
        rw [if_neg (by omega), List.length_map, Nat.add_sub_cancel] at this
        exact this
      have hget1 : ∃ us1, (enum (m + 1) c')[r]? = some us1 := ⟨_, List.getElem?_eq_getElem (by omega)⟩
      obtain ⟨us1, hget1⟩ := hget1
      obtain ⟨ts, hu, hn1, hn2, hn3⟩ := nextF_get k (m + 1) c' r us1 (by omega) (by omega) (by omega) (by omega) hget1
      rw [Nat.add_sub_cancel] at hn3
      have ih1 := fun w h => ih b (m + 1) c' r us1 w h (by omega) (by omega) (by omega) (by omega) hr hget1
      obtain ⟨X, hX⟩ : ∃ X, X = nextF k (m + 1) c' r := ⟨_, rfl⟩
      rw [← hX] at hn1 hn2 hn3 ⊢
      simp only [← hX] at ih1
      obtain ⟨t1, m1, c1, r1⟩ := X
      simp only at hn1 hn2 hn3 ih1 ⊢
      obtain rfl : m1 = m := by omega
      have hr1 : r1 ≤ 8000 := by
        have h9 := (List.getElem?_eq_some_iff.1 hn3).1
        rw [enum_length (by omega) (by omega) h1] at h9
        have h10 : listsN m1 c1 ≤ 8000 := lists_small m1 c1 (by omega) (by omega)
        omega
      have ih2 := fun w h => ih b m1 c1 r1 ts w h (by omega) h1 (by omega) (by omega) hr1 hn3
      obtain ⟨Y, hY⟩ : ∃ Y, Y = nextF k m1 c1 r1 := ⟨_, rfl⟩
      rw [← hY]
      simp only [← hY] at ih2
      obtain ⟨t2, m2, c2', r2⟩ := Y
      simp only at ih2 ⊢
      have hI := fun w (h : WkAt w b m1 (c' + 1) r) => inFront_any b m1 (c' + 1) r w h (by omega) h8
      obtain ⟨F, hF⟩ : ∃ F, F = frontN m1 (c' + 1) := ⟨_, rfl⟩
      rw [← hF] at hf
      simp only [← hF] at hI
      have hf' : (r : Int) < (F : Int) := by omega
      have HI1 := Lib.hid ih1
      have HI2 := Lib.hid ih2
      have H := Lib.hid h
      clear h hget hF hf ih hget1 hu hn1 hn2 hn3 hX hY hfl ih1 ih2 hc0
      go_enter Try.func57, Try.ntmps57
      go_wp2_with fail
      refine (hI _ H.out).mono ?_; rintro e w1 ⟨rfl, d1, rfl⟩
      go_wp2_with fail
      refine (passCaret_any b m1 c' r (w.drewN d1) H.out (by omega) (by omega)).mono ?_; rintro e w2 ⟨⟨v, rfl⟩, hk2, hg2⟩
      have hg2' : w.grownBy w2 (some b) := grownD hg2
      have hs2 := hg2'.size
      clear hg2
      go_wp2_with fail
      refine (HI1.out _ hk2).mono ?_; rintro e w3 ⟨gl, rfl, hl3, hk3, hg3⟩
      have hs3 := hg3.size
      clear hk2
      go_wp2_with fail
      refine (HI2.out _ hk3).mono ?_; rintro e w4 ⟨gr, rfl, hr4, hk4, hg4⟩
      have hl4 := hl3.kept hg4 (by omega)
      have hs4 := hg4.size
      have hb5 := nxAlloc (Below.refl w4.heap.size w4) (.cells #[.pointer (some ⟨gl, 0, none⟩), .pointer (some ⟨gr, 0, none⟩)] 90 (0, 0))
      have HL := Lib.hid ((hl4.keepB hb5).mono (show w.heap.size ≤ w2.heap.size by omega))
      have HR := Lib.hid ((hr4.keepB hb5).mono (show w.heap.size ≤ w3.heap.size by omega))
      have HK := Lib.hid (hk4.keep hb5)
      have HG := Lib.hid (grownB (grownT (grownT hg2' hg3) hg4) hb5)
      clear hk3 hg3 hg4 hl3 hl4 hr4 hk4 hb5 hg2'
      go_wp2_with fail
      go_ret
      exact ⟨_, rfl, ⟨by omega, gl, gr, heap_alloc_at _ _, HL.out, HR.out⟩, HK.out, HG.out⟩
end Go.Proofs.Ytgmjchpcpocpoab
