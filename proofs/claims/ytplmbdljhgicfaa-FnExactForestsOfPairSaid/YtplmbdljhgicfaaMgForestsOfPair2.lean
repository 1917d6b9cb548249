/- Texts that the claim needs, part 3. -/
import Derived.Test.YtplmbdljhgicfaaMgForestsOfPair1
import Derived.Deep.RegionWith
import Derived.Deep.RegionHeld3
import Derived.OwnWalk
import Derived.Lib.SmallJoins
/-! Text -/
namespace Go.Proofs.Ytplmbdljhgicfaa
open Go.RowKit

theorem isLeaf_any (t : Tr) (b : Nat) (w : World) (h : NodeAt w t b) :
    Calls Try.prog 83 #[.pointer (some ⟨b, 0, none⟩)] w fun e w' => e = .returned (.bool t.isLf) ∧ w = w' := by
  cases t with
  | lf =>
    have h1 := two_left h
    have H := Lib.hid h
    clear h
    go_enter Try.func83, Try.ntmps83
    go_wp2_with fail
    go_ret
    exact ⟨rfl, rfl⟩
  | nd l r =>
    obtain ⟨bl, br, h, hl, hr⟩ := h
    have h1 := two_left h
    have H := Lib.hid h
    clear h
    go_enter Try.func83, Try.ntmps83
    go_wp2_with fail
    go_ret
    exact ⟨rfl, rfl⟩

theorem NodeAt.heap {w w' : World} (e : w'.heap = w.heap) : ∀ {t : Tr} {b : Nat}, NodeAt w t b → NodeAt w' t b := by
  intro t
  induction t with
  | lf => intro b h; unfold NodeAt at *; rw [e]; exact h
  | nd l r ihl ihr =>
    intro b h
    obtain ⟨bl, br, h, h1, h2⟩ := h
    exact ⟨bl, br, by rw [e]; exact h, ihl h1, ihr h2⟩
theorem NodeAt.drewN {w : World} (n : Nat) {t : Tr} {b : Nat} (h : NodeAt w t b) : NodeAt (w.drewN n) t b := NodeAt.heap (w := w) (w' := w.drewN n) rfl h

set_option maxHeartbeats 400000 in
theorem text_any (t : Tr) : ∀ (b : Nat) (w : World), NodeAt w t b → t.carets ≤ 1000 →
    Calls Try.prog 91 #[.pointer (some ⟨b, 0, none⟩)] w (Quietly (.string t.str) w) := by
  induction t with
  | lf =>
    intro b w h hc
    have H := Lib.hid h
    clear h
    go_enter Try.func91, Try.ntmps91
    go_wp2_with fail
    refine (isLeaf_any .lf b _ H.out).mono ?_; rintro e w1 ⟨rfl, rfl⟩
    simp only [Tr.isLf]
    go_wp2_with fail
    go_ret
    exact ⟨rfl, 0, rfl⟩
  | nd l r ihl ihr =>
    intro b w h hc
    have hc' : l.carets + r.carets + 1 ≤ 1000 := hc
    have sl := l.str_size
    have sr := r.str_size
    have H := Lib.hid h
    obtain ⟨bl, br, h, hl, hr⟩ := h
    have h1 := two_left h
    have h2 := two_right h
    clear h
    go_enter Try.func91, Try.ntmps91
    go_wp2_with fail
    refine (isLeaf_any (.nd l r) b _ H.out).mono ?_; rintro e w1 ⟨rfl, rfl⟩
    simp only [Tr.isLf]
    go_wp2_with fail
    go_quiet ((go_at_call 91; first | exact Calls.quiet_of (ihl _ _ (hl.drewN _) (by omega)) | exact Calls.quiet_of (ihr _ _ (hr.drewN _) (by omega))))
    go_wp2_with fail
    go_ret
    exact ⟨by rw [str_nd]; rfl, _, rfl⟩
end Go.Proofs.Ytplmbdljhgicfaa

/-! Mir -/
namespace Go.Proofs.Ytplmbdljhgicfaa
open Go.RowKit

/-- A call that hands back a node of a tree. -/
def GivesNode (t : Tr) (w : World) (e : Ending) (w' : World) : Prop :=
  ∃ b : Nat, NodeAt w' t b ∧ Below w.heap.size w w' ∧ e = .returned (.pointer (some ⟨b, 0, none⟩))

theorem below_two {w w1 : World} {b : Nat} {u v : Value} (hb : Below w.heap.size w w1) (h1 : w.cell? ⟨b, 0, none⟩ = some u) (h2 : w.cell? ⟨b, 1, none⟩ = some v) :
    w1.cell? ⟨b, 0, none⟩ = some u ∧ w1.cell? ⟨b, 1, none⟩ = some v := by
  have hl := World.block_lt_of_cell? w _ h1
  exact ⟨(hb.cell (p := ⟨b, 0, none⟩) hl).trans h1, (hb.cell (p := ⟨b, 1, none⟩) hl).trans h2⟩

end Go.Proofs.Ytplmbdljhgicfaa

/-! Join -/
namespace Go.Proofs.Ytplmbdljhgicfaa
open Go.RowKit

set_option maxRecDepth 100000 in
set_option maxHeartbeats 2000000 in
theorem join_any (t : Tr) : ∀ (u : Tr) (b c : Nat) (w : World), NodeAt w t b → NodeAt w u c →
    Calls Try.prog 58 #[.pointer (some ⟨b, 0, none⟩), .pointer (some ⟨c, 0, none⟩)] w (GivesNode (t.join u) w) := by
  induction t with
  | lf =>
    intro u b c w h k
    have H := Lib.hid h
    have K := Lib.hid k
    clear h k
    go_enter Try.func58, Try.ntmps58
    go_wp2_with fail
    refine (isLeaf_any .lf b _ H.out).mono ?_; rintro e w1 ⟨rfl, rfl⟩
    simp only [Tr.isLf]
    go_wp2_with fail
    go_ret
    exact ⟨c, K.out, Below.refl _ _, rfl⟩
  | nd l r ihl ihr =>
    intro u b c w h k
    cases u with
    | lf =>
      have H := Lib.hid h
      have K := Lib.hid k
      clear h k ihl ihr
      go_enter Try.func58, Try.ntmps58
      go_wp2_with fail
      refine (isLeaf_any (.nd l r) b _ H.out).mono ?_; rintro e w1 ⟨rfl, rfl⟩
      simp only [Tr.isLf]
      go_wp2_with fail
      refine (isLeaf_any .lf c _ K.out).mono ?_; rintro e w1 ⟨rfl, rfl⟩
      simp only [Tr.isLf]
      go_wp2_with fail
      go_ret
      exact ⟨b, H.out, Below.refl _ _, rfl⟩
    | nd p q =>
      have H := Lib.hid h
      have K := Lib.hid k
      obtain ⟨bl, br, h, hl, hr⟩ := h
      obtain ⟨cl, cr, k, kl, kr⟩ := k
      have h1 := two_left h
      have h2 := two_right h
      have k1 := two_left k
      have k2 := two_right k
      clear h k
      go_enter Try.func58, Try.ntmps58
      go_wp2_with fail
      refine (isLeaf_any (.nd l r) b _ H.out).mono ?_; rintro e w1 ⟨rfl, rfl⟩
      simp only [Tr.isLf]
      go_wp2_with fail
      refine (isLeaf_any (.nd p q) c _ K.out).mono ?_; rintro e w1 ⟨rfl, rfl⟩
      simp only [Tr.isLf]
      go_wp2_with fail
      have hb0 := Below.refl w.heap.size w
      go_region_held3 (fun w' => w'.cell? ⟨b, 0, none⟩ = some (.pointer (some ⟨bl, 0, none⟩)) ∧ w'.cell? ⟨b, 1, none⟩ = some (.pointer (some ⟨br, 0, none⟩)) ∧ w'.cell? ⟨c, 0, none⟩ = some (.pointer (some ⟨cl, 0, none⟩)) ∧ w'.cell? ⟨c, 1, none⟩ = some (.pointer (some ⟨cr, 0, none⟩)))
          (first
            | exact ⟨h1, h2, k1, k2⟩
            | exact ⟨q1, q2, q3, q4⟩
            | exact ⟨s1, s2, s3, s4⟩
            | exact ⟨(a1 _).1, (a1 _).2, (a2 _).1, (a2 _).2⟩)
          (first
          | (go_at_call_of 58 (some (⟨bl, 0, none⟩ : Addr)); refine (ihl p bl cl _ ?_ ?_).mono ?_; exact hl.keep hb0.drew; exact kl.keep hb0.drew; rintro e w1 ⟨b1, hn1, hb1, rfl⟩; have hb1' := nx hb0.drew hb1; obtain ⟨q1, q2⟩ := below_two hb1' h1 h2; obtain ⟨q3, q4⟩ := below_two hb1' k1 k2)
          | (go_at_call_of 58 (some (⟨br, 0, none⟩ : Addr)); refine (ihr q br cr _ ?_ ?_).mono ?_; exact hr.keep hb1'; exact kr.keep hb1'; rintro e w2 ⟨b2, hn2, hb2, rfl⟩; have hb2' := nx hb1' hb2; obtain ⟨s1, s2⟩ := below_two hb2' h1 h2; obtain ⟨s3, s4⟩ := below_two hb2' k1 k2; have a1 := fun o => below_two (nxAlloc hb2' o) h1 h2; have a2 := fun o => below_two (nxAlloc hb2' o) k1 k2))
      all_goals (try go_wp2_with fail)
      all_goals go_ret
      all_goals exact ⟨_, node_new hn1 hb2 hn2, nxAlloc hb2' _, rfl⟩
set_option maxRecDepth 100000 in
set_option maxHeartbeats 2000000 in
theorem common_any (t : Tr) : ∀ (u : Tr) (b c : Nat) (w : World), NodeAt w t b → NodeAt w u c →
    Calls Try.prog 61 #[.pointer (some ⟨b, 0, none⟩), .pointer (some ⟨c, 0, none⟩)] w (GivesNode (t.com u) w) := by
  induction t with
  | lf =>
    intro u b c w h k
    have H := Lib.hid h
    have K := Lib.hid k
    clear h k
    go_enter Try.func61, Try.ntmps61
    go_wp2_with fail
    refine (isLeaf_any .lf b _ H.out).mono ?_; rintro e w1 ⟨rfl, rfl⟩
    simp only [Tr.isLf]
    go_wp2_with fail
    go_ret
    exact ⟨_, heap_alloc_at _ _, nxAlloc (Below.refl _ _) _, rfl⟩
  | nd l r ihl ihr =>
    intro u b c w h k
    cases u with
    | lf =>
      have H := Lib.hid h
      have K := Lib.hid k
      clear h k ihl ihr
      go_enter Try.func61, Try.ntmps61
      go_wp2_with fail
      refine (isLeaf_any (.nd l r) b _ H.out).mono ?_; rintro e w1 ⟨rfl, rfl⟩
      simp only [Tr.isLf]
      go_wp2_with fail
      refine (isLeaf_any .lf c _ K.out).mono ?_; rintro e w1 ⟨rfl, rfl⟩
      simp only [Tr.isLf]
      go_wp2_with fail
      go_ret
      exact ⟨_, heap_alloc_at _ _, nxAlloc (Below.refl _ _) _, rfl⟩
    | nd p q =>
      have H := Lib.hid h
      have K := Lib.hid k
      obtain ⟨bl, br, h, hl, hr⟩ := h
      obtain ⟨cl, cr, k, kl, kr⟩ := k
      have h1 := two_left h
      have h2 := two_right h
      have k1 := two_left k
      have k2 := two_right k
      clear h k
      go_enter Try.func61, Try.ntmps61
      go_wp2_with fail
      refine (isLeaf_any (.nd l r) b _ H.out).mono ?_; rintro e w1 ⟨rfl, rfl⟩
      simp only [Tr.isLf]
      go_wp2_with fail
      refine (isLeaf_any (.nd p q) c _ K.out).mono ?_; rintro e w1 ⟨rfl, rfl⟩
      simp only [Tr.isLf]
      go_wp2_with fail
      have hb0 := Below.refl w.heap.size w
      go_region_held3 (fun w' => w'.cell? ⟨b, 0, none⟩ = some (.pointer (some ⟨bl, 0, none⟩)) ∧ w'.cell? ⟨b, 1, none⟩ = some (.pointer (some ⟨br, 0, none⟩)) ∧ w'.cell? ⟨c, 0, none⟩ = some (.pointer (some ⟨cl, 0, none⟩)) ∧ w'.cell? ⟨c, 1, none⟩ = some (.pointer (some ⟨cr, 0, none⟩)))
          (first
            | exact ⟨h1, h2, k1, k2⟩
            | exact ⟨q1, q2, q3, q4⟩
            | exact ⟨s1, s2, s3, s4⟩
            | exact ⟨(a1 _).1, (a1 _).2, (a2 _).1, (a2 _).2⟩)
          (first
          | (go_at_call_of 61 (some (⟨bl, 0, none⟩ : Addr)); refine (ihl p bl cl _ ?_ ?_).mono ?_; exact hl.keep hb0.drew; exact kl.keep hb0.drew; rintro e w1 ⟨b1, hn1, hb1, rfl⟩; have hb1' := nx hb0.drew hb1; obtain ⟨q1, q2⟩ := below_two hb1' h1 h2; obtain ⟨q3, q4⟩ := below_two hb1' k1 k2)
          | (go_at_call_of 61 (some (⟨br, 0, none⟩ : Addr)); refine (ihr q br cr _ ?_ ?_).mono ?_; exact hr.keep hb1'; exact kr.keep hb1'; rintro e w2 ⟨b2, hn2, hb2, rfl⟩; have hb2' := nx hb1' hb2; obtain ⟨s1, s2⟩ := below_two hb2' h1 h2; obtain ⟨s3, s4⟩ := below_two hb2' k1 k2; have a1 := fun o => below_two (nxAlloc hb2' o) h1 h2; have a2 := fun o => below_two (nxAlloc hb2' o) k1 k2))
      all_goals (try go_wp2_with fail)
      all_goals go_ret
      all_goals exact ⟨_, node_new hn1 hb2 hn2, nxAlloc hb2' _, rfl⟩

set_option maxHeartbeats 1000000 in
theorem isPart_any (t : Tr) : ∀ (u : Tr) (b c : Nat) (w : World), NodeAt w t b → NodeAt w u c →
    Calls Try.prog 52 #[.pointer (some ⟨b, 0, none⟩), .pointer (some ⟨c, 0, none⟩)] w (Quietly (.bool (t.part u)) w) := by
  induction t with
  | lf =>
    intro u b c w h k
    have H := Lib.hid h
    have K := Lib.hid k
    clear h k
    go_enter Try.func52, Try.ntmps52
    go_wp2_with fail
    refine (isLeaf_any .lf b _ H.out).mono ?_; rintro e w1 ⟨rfl, rfl⟩
    simp only [Tr.isLf]
    go_wp2_with fail
    go_ret
    exact ⟨rfl, 0, rfl⟩
  | nd l r ihl ihr =>
    intro u b c w h k
    cases u with
    | lf =>
      have H := Lib.hid h
      have K := Lib.hid k
      clear h k ihl ihr
      go_enter Try.func52, Try.ntmps52
      go_wp2_with fail
      refine (isLeaf_any (.nd l r) b _ H.out).mono ?_; rintro e w1 ⟨rfl, rfl⟩
      simp only [Tr.isLf]
      go_wp2_with fail
      have L : ∀ n, Calls Try.prog 83 #[.pointer (some ⟨c, 0, none⟩)] (w.drewN n) (Quietly (.bool true) (w.drewN n)) := fun n => (isLeaf_any .lf c _ (K.out.drewN n)).mono fun e w' ⟨h1, h2⟩ => ⟨h1, 0, h2.symm⟩
      go_quiet ((go_at_call 83; exact Calls.quiet_of (L _)))
      go_wp2_with fail
      go_ret
      exact ⟨rfl, _, rfl⟩
    | nd p q =>
      have H := Lib.hid h
      have K := Lib.hid k
      obtain ⟨bl, br, h, hl, hr⟩ := h
      obtain ⟨cl, cr, k, kl, kr⟩ := k
      have h1 := two_left h
      have h2 := two_right h
      have k1 := two_left k
      have k2 := two_right k
      clear h k
      have L : ∀ n, Calls Try.prog 83 #[.pointer (some ⟨c, 0, none⟩)] (w.drewN n) (Quietly (.bool false) (w.drewN n)) := fun n => (isLeaf_any (.nd p q) c _ (K.out.drewN n)).mono fun e w' ⟨h1, h2⟩ => ⟨h1, 0, h2.symm⟩
      have HL : ∀ n, Calls Try.prog 52 #[.pointer (some ⟨bl, 0, none⟩), .pointer (some ⟨cl, 0, none⟩)] (w.drewN n) (Quietly (.bool (l.part p)) (w.drewN n)) := fun n => ihl p bl cl _ (hl.drewN n) (kl.drewN n)
      have HR : ∀ n, Calls Try.prog 52 #[.pointer (some ⟨br, 0, none⟩), .pointer (some ⟨cr, 0, none⟩)] (w.drewN n) (Quietly (.bool (r.part q)) (w.drewN n)) := fun n => ihr q br cr _ (hr.drewN n) (kr.drewN n)
      have HP : Hid ((Tr.nd l r).part (.nd p q) = (l.part p && r.part q)) := rfl
      cases hlp : l.part p with
      | false =>
        rw [hlp] at HP HL
        clear hlp
        go_enter Try.func52, Try.ntmps52
        go_wp2_with fail
        refine (isLeaf_any (.nd l r) b _ H.out).mono ?_; rintro e w1 ⟨rfl, rfl⟩
        simp only [Tr.isLf]
        go_wp2_with fail
        go_quiet ((first | (go_at_call 83; exact Calls.quiet_of (L _)) | (go_at_call_of 52 (some (⟨bl, 0, none⟩ : Addr)); exact Calls.quiet_of (HL _)) | (go_at_call_of 52 (some (⟨br, 0, none⟩ : Addr)); exact Calls.quiet_of (HR _))))
        go_wp2_with fail
        go_ret
        exact ⟨by rw [HP.out]; rfl, _, rfl⟩
      | true =>
        rw [hlp] at HP HL
        clear hlp
        go_enter Try.func52, Try.ntmps52
        go_wp2_with fail
        refine (isLeaf_any (.nd l r) b _ H.out).mono ?_; rintro e w1 ⟨rfl, rfl⟩
        simp only [Tr.isLf]
        go_wp2_with fail
        go_quiet ((first | (go_at_call 83; exact Calls.quiet_of (L _)) | (go_at_call_of 52 (some (⟨bl, 0, none⟩ : Addr)); exact Calls.quiet_of (HL _)) | (go_at_call_of 52 (some (⟨br, 0, none⟩ : Addr)); exact Calls.quiet_of (HR _))))
        go_wp2_with fail
        go_ret
        exact ⟨by rw [HP.out]; rfl, _, rfl⟩
end Go.Proofs.Ytplmbdljhgicfaa

/-! TreeO -/
namespace Go.Proofs.Ytplmbdljhgicfaa
open Go.RowKit

theorem keep_cell {w w' : World} {b o : Nat} {v : Value} (hb : Below w.heap.size w w') (h : w.cell? ⟨b, o, none⟩ = some v) : w'.cell? ⟨b, o, none⟩ = some v :=
  (hb.cell (p := ⟨b, o, none⟩) (World.block_lt_of_cell? _ _ h)).trans h

theorem treeOf_any (t : Tr) (w : World) (h : t.carets ≤ 1000) : Calls Try.prog 66 #[.string t.str] w (GivesNode t w) := by
  have hz := t.str_size
  have hp := place_any (t.str.size + 1) t.str
  rw [parse_str t _ (by have := t.text_len; omega)] at hp
  have hp' : ∀ w, Calls Try.prog 97 #[.string t.str] w (PlaceOk t [] t.str w) := fun w => hp w (by omega) (by omega)
  clear hz hp
  go_enter Try.func66, Try.ntmps66
  go_wp2_with fail
  refine (hp' _).mono ?_; rintro e w1 ⟨b1, s1, hs1, hz1, hn1, hb1, rfl⟩
  clear hs1 hz1
  go_wp2_with fail
  go_ret
  exact ⟨b1, hn1, hb1, rfl⟩

end Go.Proofs.Ytplmbdljhgicfaa

/-! Ff6 -/
namespace Go.Proofs.Ytplmbdljhgicfaa
open Go.RowKit

/-- The nodes of two forests, or none. -/
def TwoNodes (o p : Option (List Tr)) (w : World) (e : Ending) (w' : World) : Prop :=
  match o, p with
  | some us, some vs => ∃ b c, NodeAt w' (combT us) b ∧ NodeAt w' (combT vs) c ∧ Below w.heap.size w w' ∧ e = .returned (.tuple #[.pointer (some ⟨b, 0, none⟩), .pointer (some ⟨c, 0, none⟩), .bool true])
  | _, _ => e = .returned (.tuple #[.pointer none, .pointer none, .bool false]) ∧ Below w.heap.size w w'

set_option maxRecDepth 100000 in
set_option maxHeartbeats 4000000 in
theorem implhungTwo_any (v : Value) (b : Nat) (L : List ByteArray) (v2 : Value) (b2 : Nat) (M : List ByteArray) (w : World) (h : CellsS b w v L) (h2 : CellsS b2 w v2 M) (hz : ∀ s ∈ L, s.size ≤ 1048576) (hz2 : ∀ s ∈ M, s.size ≤ 1048576) (hn : L.length ≤ 1048576) (hn2 : M.length ≤ 1048576) :
    Calls Try.prog 51 #[v, v2] w (TwoNodes (forOf L) (forOf M) w) := by
  have hG := fun w h => implIsForest_b v b L w h hz hn
  have hH := fun w h => implIsForest_b v2 b2 M w h hz2 hn2
  have HA := Lib.hid h
  have HB := Lib.hid h2
  obtain ⟨oa, cap, rfl, hcl, hcm, hcc⟩ := h.form0
  obtain ⟨ob, bcap, rfl, hdl, hdm, hdc⟩ := h2.form0
  unfold maxLen at hcm hdm
  have HC := Lib.hid hcc
  have HD := Lib.hid hdc
  clear h h2 hz hz2 hcc hdc
  rcases hf : forOf L with _ | us
  · rw [hf] at hG
    have hG' : ∀ w, CellsS b w (.slice oa L.length cap) L → Calls Try.prog 16 #[.slice oa L.length cap] w (Gives (.bool false) w) := hG
    clear hG hH hf HC HD
    go_enter Try.func51, Try.ntmps51
    go_wp2_with fail
    refine (hG' _ HA.out).mono ?_; rintro e w1 ⟨rfl, hb1⟩
    go_wp2_with fail
    go_ret3
    exact ⟨rfl, hb1⟩
  · rcases hk : forOf M with _ | vs
    · rw [hf] at hG
      rw [hk] at hH
      have hG' : ∀ w, CellsS b w (.slice oa L.length cap) L → Calls Try.prog 16 #[.slice oa L.length cap] w (Gives (.bool true) w) := hG
      have hH' : ∀ w, CellsS b2 w (.slice ob M.length bcap) M → Calls Try.prog 16 #[.slice ob M.length bcap] w (Gives (.bool false) w) := hH
      clear hG hH hf hk HC HD
      go_enter Try.func51, Try.ntmps51
      go_wp2_with fail
      refine (hG' _ HA.out).mono ?_; rintro e w1 ⟨rfl, hb1⟩
      go_wp2_with fail
      refine (hH' _ (HB.out.keep hb1)).mono ?_; rintro e w2 ⟨rfl, hb2⟩
      replace hb2 := nx hb1 hb2
      go_wp2_with fail
      go_ret3
      exact ⟨rfl, hb2⟩
    · rw [hf] at hG
      rw [hk] at hH
      have hG' : ∀ w, CellsS b w (.slice oa L.length cap) L → Calls Try.prog 16 #[.slice oa L.length cap] w (Gives (.bool true) w) := hG
      have hH' : ∀ w, CellsS b2 w (.slice ob M.length bcap) M → Calls Try.prog 16 #[.slice ob M.length bcap] w (Gives (.bool true) w) := hH
      obtain ⟨hL, hl8, hs8, hlast⟩ := forOf_strs hf
      obtain ⟨hM, hm8, ht8, hlastM⟩ := forOf_strs hk
      have hLu : L.length = us.length := by rw [hL, strs_length]
      have hMu : M.length = vs.length := by rw [hM, strs_length]
      have HSA : Hid (∀ w, CellsS b w (.slice oa L.length cap) L → CellsS b w (.slice oa L.length cap) (strs us)) := fun w h => by rw [← hL]; exact h
      have HSB : Hid (∀ w, CellsS b2 w (.slice ob M.length bcap) M → CellsS b2 w (.slice ob M.length bcap) (strs vs)) := fun w h => by rw [← hM]; exact h
      have HLA := Lib.hid hlast
      have HLB := Lib.hid hlastM
      have HLU := Lib.hid hLu
      have HMU := Lib.hid hMu
      clear hG hH hf hk hL hM hlast hlastM HC HD hLu hMu
      have c1 := combT_carets us
      have c2 := combT_carets vs
      have hU := fun w h => hung_any (.slice oa L.length cap) b us w h (by omega) (by omega)
      have hV := fun w h => hung_any (.slice ob M.length bcap) b2 vs w h (by omega) (by omega)
      have hTU := fun w => treeOf_any (combT us) w (by omega)
      have hTV := fun w => treeOf_any (combT vs) w (by omega)
      clear c1 c2
      go_enter Try.func51, Try.ntmps51
      go_wp2_with fail
      refine (hG' _ HA.out).mono ?_; rintro e w1 ⟨rfl, hb1⟩
      go_wp2_with fail
      refine (hH' _ (HB.out.keep hb1)).mono ?_; rintro e w2 ⟨rfl, hb2⟩
      replace hb2 := nx hb1 hb2
      go_wp2_with fail
      refine (hU _ (HSA.out _ (HA.out.keep hb2))).mono ?_; rintro e w3 ⟨rfl, hb3⟩
      replace hb3 := nx hb2 hb3
      go_wp2_with fail
      refine (hTU _).mono ?_; rintro e w4 ⟨p1, hp1, hb4, rfl⟩
      replace hb4 := nx hb3 hb4
      go_wp2_with fail
      refine (hV _ (HSB.out _ (HB.out.keep hb4))).mono ?_; rintro e w5 ⟨rfl, hb5⟩
      replace hp1 := hp1.keep hb5
      replace hb5 := nx hb4 hb5
      go_wp2_with fail
      refine (hTV _).mono ?_; rintro e w6 ⟨p2, hp2, hb6, rfl⟩
      replace hp1 := hp1.keep hb6
      replace hb6 := nx hb5 hb6
      go_wp2_with fail
      go_ret3
      exact ⟨_, _, hp1, hp2, hb6, rfl⟩

set_option maxRecDepth 100000 in
theorem foTree_any (v : Value) (b : Nat) (us : List Tr) (k : Nat) (w : World) (h : CellsS b w v (strs us)) (_hk : (k : Int) ≤ 1000000) :
    Calls Try.prog 54 #[v, .int .i64 k] w fun e w' => e = .returned (.string (us.getD k .lf).str) ∧ w = w' := by
  obtain ⟨oa, cap, rfl, hcl, hcm, hcc⟩ := h.form0
  unfold maxLen at hcm
  rw [strs_length] at *
  by_cases hlt : k < us.length
  · have hlt' : (k : Int) < (us.length : Int) := by omega
    obtain ⟨g, rfl, _, hgl, c1⟩ := hcc k hlt
    rw [show (strs us).getD k ⟨#[]⟩ = (us.getD k .lf).str from map_getD us k hlt] at c1
    generalize us.getD k .lf = t at *
    clear h hcc
    go_enter Try.func54, Try.ntmps54
    go_wp2_with fail
    go_ret
    exact ⟨rfl, rfl⟩
  · have hlt' : ¬ ((k : Int) < (us.length : Int)) := by omega
    rw [show us.getD k .lf = .lf by rw [List.getD_eq_getElem?_getD, List.getElem?_eq_none (by omega)]; rfl]
    clear h hcc hlt
    go_enter Try.func54, Try.ntmps54
    go_wp2_with fail
    go_ret
    exact ⟨rfl, rfl⟩

theorem str_same (a c : Tr) (h : a = c) : (a.str.toList == c.str.toList) = true := by rw [h]; exact beq_self_eq_true _
theorem str_diff (a c : Tr) (h : a ≠ c) : (a.str.toList == c.str.toList) = false := by
  rw [beq_eq_false_iff_ne]
  simp only [Lib.toList_data, Tr.str_list]
  intro e
  exact h (Tr.text_inj (r := []) (q := []) (by rw [e])).1

set_option maxRecDepth 100000 in
set_option maxHeartbeats 2000000 in
theorem foPart_any (v : Value) (b : Nat) (us : List Tr) (v2 : Value) (b2 : Nat) (vs : List Tr) (w : World) (h : CellsS b w v (strs us)) (h2 : CellsS b2 w v2 (strs vs)) (hs : sumT us ≤ 60) (ht : sumT vs ≤ 60) (hl : us.length ≤ 100) :
    Calls Try.prog 50 #[v, v2] w (Gives (.bool (partF us vs)) w) := by
  have HT := Lib.hid h2
  obtain ⟨oa, cap, rfl, hcl, hcm, hcc⟩ := h.form0
  obtain ⟨ob, bcap, rfl, _⟩ := h2.form0
  unfold maxLen at hcm
  rw [strs_length] at hcl hcc ⊢
  have HC := Lib.hid hcc
  have HCM : ∀ k, (us.getD k .lf).carets ≤ 60 := fun k => by
    by_cases hk : k < us.length
    · rw [List.getD_eq_getElem?_getD, List.getElem?_eq_getElem hk]; have := sumT_mem (List.getElem_mem hk); simp; omega
    · rw [List.getD_eq_getElem?_getD, List.getElem?_eq_none (by omega)]; simp [Tr.carets]
  have HDM : ∀ k, (vs.getD k .lf).carets ≤ 60 := fun k => by
    by_cases hk : k < vs.length
    · rw [List.getD_eq_getElem?_getD, List.getElem?_eq_getElem hk]; have := sumT_mem (List.getElem_mem hk); simp; omega
    · rw [List.getD_eq_getElem?_getD, List.getElem?_eq_none (by omega)]; simp [Tr.carets]
  have HE := Lib.hid HCM
  have HF := Lib.hid HDM
  have HP := Lib.hid (partF_all us vs)
  clear h h2 hcc HCM HDM hs ht
  generalize hB : (strs vs).length = nv at HT ⊢
  clear hB
  go_enter Try.func50, Try.ntmps50
  go_wp2_with fail
  go_loopw [9] (fun i wr => ∃ k : Nat, k ≤ us.length ∧ i = .int .i64 k ∧ Hid (∀ j, j < k → (us.getD j .lf).part (vs.getD j .lf) = true) ∧ Below w.heap.size w wr) (fun i _ => us.length - (intOf i).toNat)
  case atStart => exact ⟨0, Nat.zero_le _, rfl, fun j hj => absurd hj (Nat.not_lt_zero j), Below.refl _ _⟩
  case round =>
    obtain ⟨k, hk, rfl, he, hbw⟩ := hrel
    by_cases hlt : k < us.length
    · have hlt' : (k : Int) < (us.length : Int) := by omega
      obtain ⟨g, rfl, _, hgl, c0⟩ := HC.out k hlt
      have c1 := (hbw.cell (p := ⟨g, k, none⟩) hgl).trans c0
      rw [show (strs us).getD k ⟨#[]⟩ = (us.getD k .lf).str from map_getD us k hlt] at c1
      have hT := fun w h => foTree_any (.slice ob nv bcap) b2 vs k w h (by omega)
      have hJ := fun w => trJoin_any (us.getD k .lf) (vs.getD k .lf) w (HE.out k) (HF.out k)
      have hpj := part_iff_join (us.getD k .lf) (vs.getD k .lf)
      cases hp : (us.getD k .lf).part (vs.getD k .lf) with
      | true =>
        have HN : Hid (∀ j, j < k + 1 → (us.getD j .lf).part (vs.getD j .lf) = true) := fun j hj => by
          by_cases h1 : j < k
          · exact he.out j h1
          · obtain rfl : j = k := by omega
            exact hp
        have hseq := str_same _ _ (hpj.1 hp)
        generalize us.getD k .lf = t at *
        generalize vs.getD k .lf = u at *
        clear hpj hp he c0
        go_wp2_with fail
        refine (hT _ (HT.out.keep hbw)).mono ?_; rintro e w3 ⟨rfl, rfl⟩
        go_wp2_with fail
        refine (hJ _).mono ?_; rintro e w4 ⟨rfl, hb4⟩
        replace hb4 := nx hbw hb4
        go_wp2_with fail
        refine (hT _ (HT.out.keep hb4)).mono ?_; rintro e w5 ⟨rfl, rfl⟩
        go_wp2_with fail
        go_roundw
        case rel => exact ⟨k + 1, by omega, by go_num, HN, hb4⟩
        case measure => simp [intOf]; omega
      | false =>
        have HX : Hid (partF us vs = false) := by
          show partF us vs = false
          cases hq : partF us vs with
          | false => rfl
          | true => rw [HP.out.1 hq k hlt] at hp; cases hp
        have hseq := str_diff _ _ (fun e => by rw [hpj.2 e] at hp; cases hp)
        generalize us.getD k .lf = t at *
        generalize vs.getD k .lf = u at *
        clear hpj hp he c0
        go_wp2_with fail
        refine (hT _ (HT.out.keep hbw)).mono ?_; rintro e w3 ⟨rfl, rfl⟩
        go_wp2_with fail
        refine (hJ _).mono ?_; rintro e w4 ⟨rfl, hb4⟩
        replace hb4 := nx hbw hb4
        go_wp2_with fail
        refine (hT _ (HT.out.keep hb4)).mono ?_; rintro e w5 ⟨rfl, rfl⟩
        go_wp2_with fail
        go_ret
        exact ⟨by rw [HX.out]; rfl, hb4⟩
    · obtain rfl : k = us.length := by omega
      have HX : Hid (partF us vs = true) := HP.out.2 he.out
      clear he
      go_wp2_with fail
      go_ret
      exact ⟨by rw [HX.out]; rfl, hbw⟩

def partO (o p : Option (List Tr)) : Value := .tuple #[.bool (match o, p with | some us, some vs => partF us vs | _, _ => false), .bool (o.isSome && p.isSome)]

set_option maxRecDepth 100000 in
set_option maxHeartbeats 4000000 in
theorem specIsPartOfForest_any (v : Value) (b : Nat) (L : List ByteArray) (v2 : Value) (b2 : Nat) (M : List ByteArray) (w : World) (h : CellsS b w v L) (h2 : CellsS b2 w v2 M) (hz : ∀ s ∈ L, s.size ≤ 1048576) (hz2 : ∀ s ∈ M, s.size ≤ 1048576) (hn : L.length ≤ 1048576) (hn2 : M.length ≤ 1048576) :
    Calls Try.prog 24 #[v, v2] w (Gives (partO (forOf L) (forOf M)) w) := by
  have hG := fun w h => foGood_any v b L w h hz hn
  have hH := fun w h => foGood_any v2 b2 M w h hz2 hn2
  have HA := Lib.hid h
  have HB := Lib.hid h2
  obtain ⟨oa, cap, rfl, hcl, hcm, hcc⟩ := h.form0
  obtain ⟨ob, bcap, rfl, hdl, hdm, hdc⟩ := h2.form0
  unfold maxLen at hcm hdm
  have HC := Lib.hid hcc
  have HD := Lib.hid hdc
  clear h h2 hz hz2 hcc hdc
  rcases hf : forOf L with _ | us
  · rw [hf] at hG
    have hG' : ∀ w, CellsS b w (.slice oa L.length cap) L → Calls Try.prog 41 #[.slice oa L.length cap] w (Gives (.bool false) w) := hG
    clear hG hH hf HC HD
    go_enter Try.func24, Try.ntmps24
    go_wp2_with fail
    refine (hG' _ HA.out).mono ?_; rintro e w1 ⟨rfl, hb1⟩
    go_wp2_with fail
    go_ret2
    exact ⟨rfl, hb1⟩
  · rcases hk : forOf M with _ | vs
    · rw [hf] at hG
      rw [hk] at hH
      have hG' : ∀ w, CellsS b w (.slice oa L.length cap) L → Calls Try.prog 41 #[.slice oa L.length cap] w (Gives (.bool true) w) := hG
      have hH' : ∀ w, CellsS b2 w (.slice ob M.length bcap) M → Calls Try.prog 41 #[.slice ob M.length bcap] w (Gives (.bool false) w) := hH
      clear hG hH hf hk HC HD
      go_enter Try.func24, Try.ntmps24
      go_wp2_with fail
      refine (hG' _ HA.out).mono ?_; rintro e w1 ⟨rfl, hb1⟩
      go_wp2_with fail
      refine (hH' _ (HB.out.keep hb1)).mono ?_; rintro e w2 ⟨rfl, hb2⟩
      replace hb2 := nx hb1 hb2
      go_wp2_with fail
      go_ret2
      exact ⟨rfl, hb2⟩
    · rw [hf] at hG
      rw [hk] at hH
      have hG' : ∀ w, CellsS b w (.slice oa L.length cap) L → Calls Try.prog 41 #[.slice oa L.length cap] w (Gives (.bool true) w) := hG
      have hH' : ∀ w, CellsS b2 w (.slice ob M.length bcap) M → Calls Try.prog 41 #[.slice ob M.length bcap] w (Gives (.bool true) w) := hH
      obtain ⟨hL, hl8, hs8, hlast⟩ := forOf_strs hf
      obtain ⟨hM, hm8, ht8, hlastM⟩ := forOf_strs hk
      have hLu : L.length = us.length := by rw [hL, strs_length]
      have hMu : M.length = vs.length := by rw [hM, strs_length]
      have HSA : Hid (∀ w, CellsS b w (.slice oa L.length cap) L → CellsS b w (.slice oa L.length cap) (strs us)) := fun w h => by rw [← hL]; exact h
      have HSB : Hid (∀ w, CellsS b2 w (.slice ob M.length bcap) M → CellsS b2 w (.slice ob M.length bcap) (strs vs)) := fun w h => by rw [← hM]; exact h
      have HLA := Lib.hid hlast
      have HLB := Lib.hid hlastM
      have HLU := Lib.hid hLu
      have HMU := Lib.hid hMu
      clear hG hH hf hk hL hM hlast hlastM HC HD hLu hMu
      have hP := fun w h h' => foPart_any (.slice oa L.length cap) b us (.slice ob M.length bcap) b2 vs w h h' (by omega) (by omega) (by omega)
      go_enter Try.func24, Try.ntmps24
      go_wp2_with fail
      refine (hG' _ HA.out).mono ?_; rintro e w1 ⟨rfl, hb1⟩
      go_wp2_with fail
      refine (hH' _ (HB.out.keep hb1)).mono ?_; rintro e w2 ⟨rfl, hb2⟩
      replace hb2 := nx hb1 hb2
      go_wp2_with fail
      refine (hP _ (HSA.out _ (HA.out.keep hb2)) (HSB.out _ (HB.out.keep hb2))).mono ?_; rintro e w3 ⟨rfl, hb3⟩
      go_wp2_with fail
      go_ret2
      exact ⟨rfl, nx hb2 hb3⟩

set_option maxRecDepth 100000 in
set_option maxHeartbeats 2000000 in
theorem implIsPartOfForest_any (v : Value) (b : Nat) (L : List ByteArray) (v2 : Value) (b2 : Nat) (M : List ByteArray) (w : World) (h : CellsS b w v L) (h2 : CellsS b2 w v2 M) (hz : ∀ s ∈ L, s.size ≤ 1048576) (hz2 : ∀ s ∈ M, s.size ≤ 1048576) (hn : L.length ≤ 1048576) (hn2 : M.length ≤ 1048576) :
    Calls Try.prog 25 #[v, v2] w (Gives (partO (forOf L) (forOf M)) w) := by
  have hH := implhungTwo_any v b L v2 b2 M w h h2 hz hz2 hn hn2
  obtain ⟨oa, cap, rfl, _⟩ := h.form0
  obtain ⟨ob, bcap, rfl, _⟩ := h2.form0
  clear h h2 hz hz2
  rcases hf : forOf L with _ | us
  · rw [hf] at hH
    have hH' : Calls Try.prog 51 #[.slice oa L.length cap, .slice ob M.length bcap] w (fun e w' => e = .returned (.tuple #[.pointer none, .pointer none, .bool false]) ∧ Below w.heap.size w w') := by cases forOf M <;> exact hH
    clear hH hf
    go_enter Try.func25, Try.ntmps25
    go_wp2_with fail
    refine hH'.mono ?_; rintro e w1 ⟨rfl, hb1⟩
    go_wp2_with fail
    go_ret2
    exact ⟨rfl, hb1⟩
  · rcases hk : forOf M with _ | vs
    · rw [hf, hk] at hH
      have hH' : Calls Try.prog 51 #[.slice oa L.length cap, .slice ob M.length bcap] w (fun e w' => e = .returned (.tuple #[.pointer none, .pointer none, .bool false]) ∧ Below w.heap.size w w') := hH
      clear hH hf hk
      go_enter Try.func25, Try.ntmps25
      go_wp2_with fail
      refine hH'.mono ?_; rintro e w1 ⟨rfl, hb1⟩
      go_wp2_with fail
      go_ret2
      exact ⟨rfl, hb1⟩
    · rw [hf, hk] at hH
      have hH' : Calls Try.prog 51 #[.slice oa L.length cap, .slice ob M.length bcap] w (fun e w' => ∃ b c, NodeAt w' (combT us) b ∧ NodeAt w' (combT vs) c ∧ Below w.heap.size w w' ∧ e = .returned (.tuple #[.pointer (some ⟨b, 0, none⟩), .pointer (some ⟨c, 0, none⟩), .bool true])) := hH
      have hlast := (forOf_strs hf).2.2.2
      have HP := Lib.hid (part_comb us vs hlast)
      clear hH hf hk hlast
      go_enter Try.func25, Try.ntmps25
      go_wp2_with fail
      refine hH'.mono ?_; rintro e w1 ⟨p1, p2, hp1, hp2, hb1, rfl⟩
      go_wp2_with fail
      refine (isPart_any (combT us) (combT vs) p1 p2 _ hp1 hp2).mono ?_; rintro e w2 ⟨rfl, n, rfl⟩
      go_wp2_with fail
      go_ret2
      exact ⟨by show _ = Ending.returned (.tuple #[.bool (partF us vs), .bool true]); rw [← HP.out]; rfl, drewB hb1 _⟩
end Go.Proofs.Ytplmbdljhgicfaa

/-! Ff7 -/
namespace Go.Proofs.Ytplmbdljhgicfaa
open Go.RowKit

def ptrN (b : Nat) : Value := .pointer (some ⟨b, 0, none⟩)
theorem info_ptrN : (Try.prog.info? 53).map (fun i => (i.zero, i.size, i.bytes)) = some (some (.pointer none), 1, 8) := by kernel_rfl
/-- Slices of nodes that a call has made. -/
def OwnP (base : Nat) (w : World) (v : Value) (bs : List Nat) : Prop := w.ownsRow base 53 1 v bs.length (bs.map ptrN)
theorem OwnP.keep {base : Nat} {w w' : World} {v : Value} {bs : List Nat} (h : OwnP base w v bs) (hb : Below w.heap.size w w') : OwnP base w' v bs := ownsRow_keep h hb
theorem OwnP.mono {base base' : Nat} {w : World} {v : Value} {bs : List Nat} (h : OwnP base w v bs) (hb : base' ≤ base) : OwnP base' w v bs := ownsRow_mono h hb
theorem OwnP.nil (base : Nat) (w : World) : OwnP base w (.slice none 0 0) [] := World.ownsRow_nil _ _ _ _
theorem OwnP.one (w : World) (b : Nat) : OwnP w.heap.size (w.alloc (.cells #[ptrN b] 53 (0, 0))) (.slice (some ⟨w.heap.size, 0, none⟩) 1 1) [b] := by
  refine ⟨rfl, .inr ⟨w.heap.size, 1, #[ptrN b], rfl, Nat.le_refl _, ?_, Nat.le_refl _, by unfold maxLen; omega, rfl, rfl⟩⟩
  show (w.heap.push _)[w.heap.size]? = _
  simp
theorem OwnP.app {base : Nat} {w : World} {v : Value} {A B : List Nat} (h : w.ownsRow base 53 1 v (A.length + (B.map ptrN).length) (A.map ptrN ++ B.map ptrN)) : OwnP base w v (A ++ B) := by
  unfold OwnP; rw [List.length_append, List.map_append]; rw [List.length_map] at h; exact h
theorem OwnP.snoc {base : Nat} {w : World} {v : Value} {A : List Nat} {b : Nat} (h : w.ownsRow base 53 1 v (A.length + 1) (A.map ptrN ++ [ptrN b])) : OwnP base w v (A ++ [b]) := by
  unfold OwnP; rw [List.length_append, List.map_append]; exact h
theorem onePtr (bs : List Nat) : ∀ u ∈ bs.map ptrN, u.oneCell' = true := by
  intro u hu
  obtain ⟨x, _, rfl⟩ := List.mem_map.1 hu
  rfl
theorem onePtr1 (b : Nat) : ∀ u ∈ [ptrN b], u.oneCell' = true := by intro u hu; simp at hu; subst hu; rfl
def CellsP (base : Nat) (w : World) (v : Value) (bs : List Nat) : Prop :=
  ∃ oa cap, v = .slice oa bs.length cap ∧ bs.length ≤ cap ∧ cap ≤ maxLen ∧ ∀ i, i < bs.length → ∃ g, oa = some ⟨g, 0, none⟩ ∧ base ≤ g ∧ g < w.heap.size ∧ w.cell? ⟨g, i, none⟩ = some (ptrN (bs.getD i 0))
theorem OwnP.cells {base : Nat} {w : World} {v : Value} {bs : List Nat} (h : OwnP base w v bs) : CellsP base w v bs := by
  rcases h.2 with ⟨hv, hn⟩ | ⟨g, cap, cur, hv, hb, hr⟩
  · exact ⟨none, 0, by rw [hv, hn], by omega, by unfold maxLen; omega, fun i hi => by omega⟩
  · subst hv
    have hlt := World.ownsRow.lt h g rfl
    have hc := fun i (hi : i < bs.length) => World.ownsRow.cellAt h i (by omega)
    refine ⟨some ⟨g, 0, none⟩, cap, rfl, hr.2.1, hr.2.2.1, fun i hi => ⟨g, rfl, hlt.1, hlt.2, ?_⟩⟩
    rw [hc i hi]; simp [List.getElem?_eq_getElem hi]
theorem OwnP.src {base : Nat} {w : World} {v : Value} {bs : List Nat} (h : OwnP base w v bs) : SrcV w v (bs.map ptrN) := by
  rcases h.2 with ⟨hv, hn⟩ | ⟨g, cap, cur, hv, hb, hr⟩
  · left
    exact ⟨hv, by rw [List.length_eq_zero_iff.1 hn]; rfl⟩
  · subst hv
    refine .inr ⟨⟨g, 0, none⟩, cap, by simp, fun j x hj => ?_⟩
    have hj' : j < bs.length := by have := (List.getElem?_eq_some_iff.1 hj).1; simpa using this
    rw [addr_add, World.ownsRow.cellAt h j (by omega), hj]

/-- The nodes of a list of trees. -/
def NodesAt (w : World) : List Tr → List Nat → Prop
  | [], [] => True
  | t :: ts, b :: bs => NodeAt w t b ∧ NodesAt w ts bs
  | _, _ => False
theorem NodesAt.keep {w w' : World} (hb : Below w.heap.size w w') : ∀ {ts : List Tr} {bs : List Nat}, NodesAt w ts bs → NodesAt w' ts bs := by
  intro ts
  induction ts with
  | nil => intro bs h; cases bs with | nil => trivial | cons b bs => exact h.elim
  | cons t ts ih => intro bs h; cases bs with | nil => exact h.elim | cons b bs => exact ⟨h.1.keep hb, ih h.2⟩
theorem NodesAt.len {w : World} : ∀ {ts : List Tr} {bs : List Nat}, NodesAt w ts bs → bs.length = ts.length := by
  intro ts
  induction ts with
  | nil => intro bs h; cases bs with | nil => rfl | cons b bs => exact h.elim
  | cons t ts ih => intro bs h; cases bs with | nil => exact h.elim | cons b bs => simp [ih h.2]
theorem NodesAt.get {w : World} : ∀ {ts : List Tr} {bs : List Nat}, NodesAt w ts bs → ∀ i, i < ts.length → NodeAt w (ts.getD i .lf) (bs.getD i 0) := by
  intro ts
  induction ts with
  | nil => intro bs h i hi; simp at hi
  | cons t ts ih =>
    intro bs h i hi
    cases bs with
    | nil => exact h.elim
    | cons b bs =>
      cases i with
      | zero => simpa using h.1
      | succ i => simpa using ih h.2 i (by simp at hi; omega)
theorem NodesAt.snoc {w : World} : ∀ {ts : List Tr} {bs : List Nat} {t : Tr} {b : Nat}, NodesAt w ts bs → NodeAt w t b → NodesAt w (ts ++ [t]) (bs ++ [b]) := by
  intro ts
  induction ts with
  | nil => intro bs t b h k; cases bs with | nil => exact ⟨k, trivial⟩ | cons b bs => exact h.elim
  | cons t ts ih => intro bs u c h k; cases bs with | nil => exact h.elim | cons b bs => exact ⟨h.1, ih h.2 k⟩

/-- The carets on the right side. -/
def onR : Tr → List Tr
  | .lf => []
  | .nd l r => .nd l r :: onR r
def leftT : Tr → Tr
  | .lf => .lf
  | .nd l _ => l
theorem onR_left (t : Tr) : (onR t).map leftT = sidesT t := by
  induction t with
  | lf => rfl
  | nd l r _ ihr => rw [onR, List.map_cons, ihr]; rfl
theorem onR_length (t : Tr) : (onR t).length ≤ t.carets := by
  induction t with
  | lf => exact Nat.le_refl _
  | nd l r _ ihr => rw [onR, List.length_cons, Tr.carets]; omega
theorem onR_nd (t : Tr) : ∀ x ∈ onR t, ∃ l r, x = .nd l r := by
  induction t with
  | lf => intro x h; cases h
  | nd l r _ ihr =>
    intro x h
    rcases List.mem_cons.1 h with rfl | h
    · exact ⟨l, r, rfl⟩
    · exact ihr x h
/-- A call that hands back nodes of trees that lay in w0. -/
def GivesNodes (w0 : World) (ts : List Tr) (w : World) (e : Ending) (w' : World) : Prop :=
  ∃ v bs, OwnP w.heap.size w' v bs ∧ NodesAt w0 ts bs ∧ Below w.heap.size w w' ∧ e = .returned v

set_option maxRecDepth 100000 in
set_option maxHeartbeats 1000000 in
theorem onRight_any (w0 : World) (t : Tr) : ∀ (b : Nat) (w : World), NodeAt w0 t b → Below w0.heap.size w0 w → t.carets ≤ 1000 →
    Calls Try.prog 89 #[.pointer (some ⟨b, 0, none⟩)] w (GivesNodes w0 (onR t) w) := by
  obtain ⟨i0, hi, hz0, hz1, hz2⟩ := info_parts info_ptrN
  induction t with
  | lf =>
    intro b w h hbw _
    have H := Lib.hid (h.keep hbw)
    clear h hbw
    go_enter Try.func89, Try.ntmps89
    go_wp2_with fail
    refine (isLeaf_any .lf b _ H.out).mono ?_; rintro e w1 ⟨rfl, rfl⟩
    simp only [Tr.isLf]
    go_wp2_with fail
    go_ret
    exact ⟨_, [], OwnP.nil _ _, trivial, Below.refl _ _, rfl⟩
  | nd l r _ ihr =>
    intro b w h hbw hc
    have H0 := Lib.hid h
    have H := Lib.hid (h.keep hbw)
    obtain ⟨bl, br, h, hl, hr⟩ := h
    replace h := (hbw.block b (lt_of_block h)).trans h
    have h2 := two_right h
    have hcr : r.carets ≤ 1000 := by simp only [Tr.carets] at hc; omega
    have hlen := onR_length r
    have hOne := OwnP.one w b
    unfold OwnP ptrN at hOne
    clear h
    go_enter Try.func89, Try.ntmps89
    go_wp2_with fail
    refine (isLeaf_any (.nd l r) b _ H.out).mono ?_; rintro e w1 ⟨rfl, rfl⟩
    simp only [Tr.isLf]
    have hb0 := nxAlloc (Below.refl w.heap.size w) (.cells #[.pointer (some ⟨b, 0, none⟩)] 53 (0, 0))
    have c2 := keep_cell hb0 h2
    have hbw0 := hbw.trans (hb0.mono hbw.size)
    go_wp2_with fail
    refine (ihr br _ hr hbw0 hcr).mono ?_; rintro e w2 ⟨v2, bs, own2, hn2, hb2, rfl⟩
    have hbl := hn2.len
    have hOne2 := ownsRow_keep hOne hb2
    have hb3 := nx hb0 hb2
    have hsrc := own2.src
    have hmm : (bs.map ptrN).length = bs.length := by simp
    go_wp2_with (at_builtin; refine wpList_appSrc rfl (.tmp 6) (.tmp 11) 90 rfl w.heap.size 53 i0 (.pointer none) 8 Try.underlying90 hi hz0 hz1 hz2 rfl _ 1 _ rfl hOne2 _ _ rfl hsrc (onePtr bs) (by unfold maxLen; omega) (by omega) hb3.size ?_; intro v9 w9 hown9 hb9 hn9)
    have hfin : OwnP w.heap.size w9 v9 (b :: bs) := OwnP.app (A := [b]) hown9
    clear hown9 hn9 hsrc hOne2 hOne
    go_wp2_with fail
    go_ret
    exact ⟨_, _, hfin, ⟨H0.out, hn2⟩, hb3.trans hb9, rfl⟩

theorem leftSide_c (b : Nat) (v : Value) (w : World) (h : w.cell? ⟨b, 0, none⟩ = some v) :
    Calls Try.prog 90 #[.pointer (some ⟨b, 0, none⟩)] w fun e w' => e = .returned v ∧ w = w' := by
  go_enter Try.func90, Try.ntmps90
  go_wp2_with fail
  go_ret
  exact ⟨rfl, rfl⟩

set_option maxRecDepth 100000 in
set_option maxHeartbeats 2000000 in
theorem listOfLeft_any (w0 : World) (v : Value) (b : Nat) (ts : List Tr) (bs : List Nat) (w : World) (h : CellsP b w v bs) (hN : NodesAt w0 ts bs) (hb0 : Below w0.heap.size w0 w) (hnd : ∀ x ∈ ts, ∃ l r, x = .nd l r) (hl : ts.length ≤ 1000)
    (hcall : ∀ (args : Array Value) (w : World), (callFunc 90 args).run Try.prog w = .ok (.enter 90 args) w) :
    Calls Try.prog 88 #[v, .func (Fn.func 90) #[] #[]] w (GivesNodes w0 (ts.map leftT) w) := by
  obtain ⟨i0, hi, hz0, hz1, hz2⟩ := info_parts info_ptrN
  obtain ⟨oa, cap, rfl, hcl, hcm, hcc⟩ := h
  unfold maxLen at hcm
  have hbl := hN.len
  obtain ⟨n, hn⟩ : ∃ n, n = bs.length := ⟨_, rfl⟩
  rw [← hn] at hcl hcc hbl ⊢
  have HNN := Lib.hid hn
  have HC := Lib.hid hcc
  have HN := Lib.hid hN
  have HD := Lib.hid hnd
  have HBL := Lib.hid hbl
  have hn1 : n ≤ 1000 := by omega
  clear hcc hN hnd hbl hl hn
  go_enter Try.func88, Try.ntmps88
  go_wp2_with fail
  go_loopw [5, 10] (fun v i wr => ∃ (k : Nat) (cs : List Nat), k ≤ n ∧ i = .int .i64 k ∧ cs.length = k ∧ OwnP w.heap.size wr v cs ∧ Hid (NodesAt w0 ((ts.map leftT).take k) cs) ∧ Below w.heap.size w wr) (fun _ i _ => n - (intOf i).toNat)
  case atStart => exact ⟨0, [], Nat.zero_le _, rfl, rfl, OwnP.nil _ _, trivial, Below.refl _ _⟩
  case round =>
    obtain ⟨k, cs, hk, rfl, hcs, hown, hnodes, hbw⟩ := hrel
    by_cases hlt : k < n
    · have hlt' : (k : Int) < (n : Int) := by omega
      obtain ⟨g, rfl, _, hgl, c0⟩ := HC.out k hlt
      have c1 := (hbw.cell (p := ⟨g, k, none⟩) hgl).trans c0
      have hkt : k < ts.length := by have := HBL.out; omega
      have hnode := HN.out.get k hkt
      obtain ⟨l, r, hlr⟩ := HD.out (ts.getD k .lf) (by rw [List.getD_eq_getElem?_getD, List.getElem?_eq_getElem hkt]; exact List.getElem_mem hkt)
      rw [hlr] at hnode
      obtain ⟨bl, br, hblk, hnl, _⟩ := hnode
      have c2 := two_left ((nx hb0 hbw).block _ (lt_of_block hblk) |>.trans hblk)
      have hnext : NodesAt w0 ((ts.map leftT).take (k + 1)) (cs ++ [bl]) := by
        have e1 : (ts.map leftT).take (k + 1) = (ts.map leftT).take k ++ [l] := by
          rw [List.take_succ_eq_append_getElem (by simpa using hkt)]
          congr 1
          rw [List.getElem_map]
          rw [List.getD_eq_getElem?_getD, List.getElem?_eq_getElem hkt, Option.getD_some] at hlr
          rw [hlr]; rfl
        rw [e1]
        exact hnodes.out.snoc hnl
      have HX := Lib.hid hnext
      have HCS := Lib.hid hcs
      have hcs9 : cs.length ≤ 1000 := by omega
      unfold OwnP at hown
      have hown0 := hown
      generalize bs.getD k 0 = p at *
      unfold ptrN at c1
      have hLS := fun w h => leftSide_c p (.pointer (some ⟨bl, 0, none⟩)) w h
      clear hnext hnodes hlr hblk hnl c0 hcs
      go_wp2_with fail
      refine (hLS _ c2).mono ?_; rintro e w3 ⟨rfl, rfl⟩
      go_wp2_with (at_builtin; refine wpList_append_own _ rfl _ _ 90 rfl w.heap.size 53 i0 (.pointer none) 1 8 Try.underlying90 hi hz0 hz1 hz2 rfl (by decide) _ _ _ rfl (hown.alloc _) ⟨wr.heap.size, 0, none⟩ 1 1 [.pointer (some ⟨bl, 0, none⟩)] rfl rfl (new1 _ _ _) (onePtr1 bl) (by unfold maxLen; omega) (by omega) (size_al hbw _) ?_; intro v' w9 hown' hgrow hnn)
      have hbw9 := below_app hbw hown (Nat.le_refl _) hgrow
      have hown1 : OwnP w.heap.size w9 v' (cs ++ [bl]) := OwnP.snoc hown'
      clear hown hown0 hown' hgrow hbw hnn
      go_wp2_with fail
      go_roundw
      case rel => exact ⟨k + 1, _, by omega, by go_num, by have := HCS.out; simp; omega, hown1, HX, hbw9⟩
      case measure => simp [intOf]; omega
    · obtain rfl : k = n := by omega
      have h1 := hnodes.out
      rw [List.take_of_length_le (by simp; have := HBL.out; omega)] at h1
      have HX := Lib.hid h1
      clear h1 hnodes hcs
      go_wp2_with fail
      go_ret
      exact ⟨_, _, hown, HX.out, hbw, rfl⟩

set_option maxRecDepth 100000 in
set_option maxHeartbeats 2000000 in
theorem listOfText_any (w0 : World) (v : Value) (b : Nat) (ts : List Tr) (bs : List Nat) (w : World) (h : CellsP b w v bs) (hN : NodesAt w0 ts bs) (hb0 : Below w0.heap.size w0 w) (hcar : ∀ x ∈ ts, x.carets ≤ 1000) (hl : ts.length ≤ 1000)
    (hcall : ∀ (args : Array Value) (w : World), (callFunc 91 args).run Try.prog w = .ok (.enter 91 args) w) :
    Calls Try.prog 87 #[v, .func (Fn.func 91) #[] #[]] w (fun e w' => ∃ v', OwnS w.heap.size w' v' (strs ts) ∧ Below w.heap.size w w' ∧ e = .returned v') := by
  obtain ⟨i0, hi, hz0, hz1, hz2⟩ := info_parts info_str
  obtain ⟨oa, cap, rfl, hcl, hcm, hcc⟩ := h
  unfold maxLen at hcm
  have hbl := hN.len
  obtain ⟨n, hn⟩ : ∃ n, n = bs.length := ⟨_, rfl⟩
  rw [← hn] at hcl hcc hbl ⊢
  have HNN := Lib.hid hn
  have HC := Lib.hid hcc
  have HN := Lib.hid hN
  have HD := Lib.hid hcar
  have HBL := Lib.hid hbl
  have hn1 : n ≤ 1000 := by omega
  clear hcc hN hcar hbl hl hn
  go_enter Try.func87, Try.ntmps87
  go_wp2_with fail
  go_loopw [5, 10] (fun v i wr => ∃ (k : Nat) (ss : List ByteArray), k ≤ n ∧ i = .int .i64 k ∧ ss.length = k ∧ OwnS w.heap.size wr v ss ∧ Hid (ss = (strs ts).take k) ∧ Below w.heap.size w wr) (fun _ i _ => n - (intOf i).toNat)
  case atStart => exact ⟨0, [], Nat.zero_le _, rfl, rfl, OwnS.nil _ _, rfl, Below.refl _ _⟩
  case round =>
    obtain ⟨k, ss, hk, rfl, hcs, hown, hss, hbw⟩ := hrel
    by_cases hlt : k < n
    · have hlt' : (k : Int) < (n : Int) := by omega
      obtain ⟨g, rfl, _, hgl, c0⟩ := HC.out k hlt
      have c1 := (hbw.cell (p := ⟨g, k, none⟩) hgl).trans c0
      have hkt : k < ts.length := by have := HBL.out; omega
      have hnode := (HN.out.get k hkt).keep (nx hb0 hbw)
      have hct := HD.out (ts.getD k .lf) (by rw [List.getD_eq_getElem?_getD, List.getElem?_eq_getElem hkt]; exact List.getElem_mem hkt)
      have hnext : ss ++ [(ts.getD k .lf).str] = (strs ts).take (k + 1) := by
        rw [hss.out]
        unfold strs
        rw [List.take_succ_eq_append_getElem (by simpa using hkt)]
        simp [hkt]
      have HX := Lib.hid hnext
      have HCS := Lib.hid hcs
      have hcs9 : ss.length ≤ 1000 := by omega
      unfold OwnS at hown
      generalize bs.getD k 0 = p at *
      unfold ptrN at c1
      generalize ts.getD k .lf = t at *
      have hTX := text_any t p _ hnode hct
      generalize t.str = x at *
      clear hnext hss hnode c0 hcs
      go_wp2_with fail
      refine hTX.mono ?_; rintro e w3 ⟨rfl, d, hw3⟩
      have hb3 : Below wr.heap.size wr w3 := by rw [hw3]; exact drewB (Below.refl _ _) _
      clear hw3 hTX
      replace hown := ownsRow_keep hown hb3
      replace hbw := nx hbw hb3
      clear hb3
      go_wp2_with (at_builtin; refine wpList_append_own _ rfl _ _ 22 rfl w.heap.size 9 i0 (.string ⟨#[]⟩) 1 16 Try.underlying22 hi hz0 hz1 hz2 rfl (by decide) _ _ _ rfl (hown.alloc _) ⟨w3.heap.size, 0, none⟩ 1 1 [.string x] rfl rfl (new1 _ _ _) (oneS [x]) (by unfold maxLen; omega) (by omega) (size_al hbw _) ?_; intro v' w9 hown' hgrow hnn)
      have hbw9 := below_app hbw hown (Nat.le_refl _) hgrow
      have hown1 : OwnS w.heap.size w9 v' (ss ++ [x]) := OwnS.app (B := [x]) hown'
      clear hown hown' hgrow hbw hnn
      go_wp2_with fail
      go_roundw
      case rel => exact ⟨k + 1, _, by omega, by go_num, by have := HCS.out; simp; omega, hown1, HX, hbw9⟩
      case measure => simp [intOf]; omega
    · obtain rfl : k = n := by omega
      have h1 := hss.out
      rw [List.take_of_length_le (by rw [strs_length]; have := HBL.out; omega)] at h1
      have HX := Lib.hid h1
      clear h1 hss hcs
      go_wp2_with fail
      go_ret
      exact ⟨_, by rw [← HX.out]; exact hown, hbw, rfl⟩
end Go.Proofs.Ytplmbdljhgicfaa

/-! Ff8 -/
namespace Go.Proofs.Ytplmbdljhgicfaa
open Go.RowKit

theorem OwnS.cut {base : Nat} {w : World} {oa : Option Addr} {m cap : Nat} {xs : List ByteArray} (h : OwnS base w (.slice oa m cap) xs) (n : Nat) (hn : n ≤ xs.length) (hm : xs.length = m) : OwnS base w (.slice oa n cap) (xs.take n) := by
  obtain ⟨h1, h2⟩ := h
  have hl : (xs.take n).length = n := by rw [List.length_take]; omega
  unfold OwnS
  rw [hl]
  refine ⟨by simp; omega, ?_⟩
  rcases h2 with ⟨hv, hn0⟩ | ⟨g, cap', cur, hv, hb, hh, r1, r2, r3, r4⟩
  · cases hv
    obtain rfl : n = 0 := by omega
    exact .inl ⟨rfl, rfl⟩
  · cases hv
    refine .inr ⟨g, cap, cur, rfl, hb, hh, by omega, r2, r3, ?_⟩
    rw [List.map_take, ← r4, List.take_take, Nat.min_eq_left (by omega), Nat.mul_one]
def sliceN (v : Value) : Nat := match v with | .slice _ n _ => n | _ => 0
/-- A call that hands back texts of its own, or none. -/
def GivesOwn (ss : List ByteArray) (w : World) (e : Ending) (w' : World) : Prop := ∃ v, OwnS w.heap.size w' v ss ∧ Below w.heap.size w w' ∧ e = .returned v
theorem strip_snoc (ts : List Tr) (k : Nat) (h : k < ts.length) (hl : (ts.getD k .lf).isLf = true) : stripT (ts.take (k + 1)) = stripT (ts.take k) := by
  refine stripT_take (t := ts.getD k .lf) ?_ hl
  rw [List.getD_eq_getElem?_getD, List.getElem?_eq_getElem h]; rfl
theorem strip_end (ts : List Tr) (k : Nat) (h : k < ts.length) (hl : (ts.getD k .lf).isLf = false) : stripT (ts.take (k + 1)) = ts.take (k + 1) := by
  refine stripT_stop (t := ts.getD k .lf) ?_ hl
  rw [List.getD_eq_getElem?_getD, List.getElem?_eq_getElem h]; rfl

set_option maxRecDepth 100000 in
set_option maxHeartbeats 2000000 in
theorem hanging_any (t : Tr) (b : Nat) (w : World) (h : NodeAt w t b) (hc : t.carets ≤ 1000) :
    Calls Try.prog 57 #[.pointer (some ⟨b, 0, none⟩)] w (GivesOwn (strs (hangT t)) w) := by
  have hcall1 : ∀ (args : Array Value) (w : World), (callFunc 90 args).run Try.prog w = .ok (.enter 90 args) w := by intro args w; rfl
  have hcall2 : ∀ (args : Array Value) (w : World), (callFunc 91 args).run Try.prog w = .ok (.enter 91 args) w := by intro args w; rfl
  have hR := fun w' hb => onRight_any w t b w' h hb hc
  have hlen := onR_length t
  have hL := fun v b bs w' hcells hN hb => listOfLeft_any w v b (onR t) bs w' hcells hN hb (onR_nd t) (by omega) hcall1
  have hsum := sides_sum t
  have hT := fun v b bs w' hcells hN hb => listOfText_any w v b ((onR t).map leftT) bs w' hcells hN hb (fun x hx => by rw [onR_left] at hx; have := sumT_mem hx; omega) (by simp; omega) hcall2
  rw [onR_left] at hL hT
  have hsl : (sidesT t).length ≤ 1000 := by omega
  obtain ⟨ts, hts⟩ : ∃ ts, ts = sidesT t := ⟨_, rfl⟩
  have HH : Hid (stripT ts = hangT t) := by show _ = _; rw [hts]; rfl
  rw [← hts] at hL hT hsl
  clear hts hsum hlen hcall1 hcall2
  go_enter Try.func57, Try.ntmps57
  go_wp2_with fail
  refine (hR _ (Below.refl _ _)).mono ?_; rintro e w1 ⟨v1, bs1, own1, hn1, hb1, rfl⟩
  go_wp2_with fail
  refine (hL v1 _ bs1 _ own1.cells hn1 hb1).mono ?_; rintro e w2 ⟨v2, bs2, own2, hn2, hb2, rfl⟩
  replace hb2 := nx hb1 hb2
  go_wp2_with fail
  refine (hT v2 _ bs2 _ own2.cells hn2 hb2).mono ?_; rintro e w3 ⟨v3, own3, hb3, rfl⟩
  replace own3 := own3.mono hb2.size
  replace hb3 := nx hb2 hb3
  clear hR hL hT own1 own2 hn1 hn2 hb1 hb2
  go_wp2_with fail
  go_loopw [3] (fun u wr => ∃ k : Nat, k ≤ ts.length ∧ OwnS w.heap.size w3 u ((strs ts).take k) ∧ Hid (stripT ts = stripT (ts.take k)) ∧ wr = w3) (fun u _ => sliceN u)
  case atStart => exact ⟨ts.length, Nat.le_refl _, by rw [List.take_of_length_le (by rw [strs_length]; exact Nat.le_refl _)]; exact own3, by show _ = _; rw [List.take_length], rfl⟩
  case round =>
    obtain ⟨k, hk, hown, he, rfl⟩ := hrel
    have hkl : ((strs ts).take k).length = k := by rw [List.length_take, strs_length]; omega
    obtain ⟨oa, cap, rfl, hcl, hcm, hcc⟩ := hown.cells.form0
    unfold maxLen at hcm
    rw [hkl] at hcl hcc hown ⊢
    cases k with
    | zero =>
      have HE : Hid (strs (hangT t) = []) := by
        show strs (hangT t) = []
        rw [← HH.out, he.out]; rfl
      clear he hcc hkl
      go_wp2_with fail
      go_ret
      exact ⟨_, by rw [HE.out]; exact hown, hb3, rfl⟩
    | succ k =>
      obtain ⟨g, rfl, _, hgl, c1⟩ := hcc k (by omega)
      have hkt : k < ts.length := by omega
      rw [show ((strs ts).take (k + 1)).getD k ⟨#[]⟩ = (ts.getD k .lf).str by rw [List.getD_eq_getElem?_getD, List.getElem?_take_of_lt (by omega), ← List.getD_eq_getElem?_getD]; exact map_getD ts k hkt] at c1
      have hd := str_dot (ts.getD k .lf)
      have ei : ((k + 1 : Nat) : Int) - 1 = (k : Int) := by omega
      have hd1 : (0 : Int) ≤ (k : Int) := by omega
      have hd2 : (k : Int) < ((k + 1 : Nat) : Int) := by omega
      have hd3 : (0 : Int) < ((k + 1 : Nat) : Int) := by omega
      have hkc : k ≤ cap := by omega
      cases hlf : (ts.getD k .lf).isLf with
      | true =>
        have HN : Hid (stripT ts = stripT (ts.take k)) := by show _ = _; rw [he.out, strip_snoc ts k hkt hlf]
        rw [hlf] at hd
        have hown1 := OwnS.cut hown k (by omega) hkl
        rw [List.take_take, Nat.min_eq_left (by omega)] at hown1
        generalize (ts.getD k .lf).str = x at *
        clear hlf he hcc hkl hown
        go_wp2_with fail
        go_roundw
        case rel => exact ⟨k, by omega, hown1, HN, trivial⟩
        case measure => simp [sliceN]
      | false =>
        have HE : Hid (strs (hangT t) = (strs ts).take (k + 1)) := by
          show strs (hangT t) = _
          rw [← HH.out, he.out, strip_end ts k hkt hlf]; simp [strs]
        rw [hlf] at hd
        generalize (ts.getD k .lf).str = x at *
        clear hlf he hcc hkl
        go_wp2_with fail
        go_ret
        exact ⟨_, by rw [HE.out]; exact hown, hb3, rfl⟩

theorem treeOf_great {t : Tr} (h : 8 < t.carets) : treeOf t.str = none := by
  cases hf : treeOf t.str with
  | none => rfl
  | some u =>
    obtain ⟨h1, h2⟩ := treeOf_some hf
    have h3 : t.text = u.text := by rw [← Tr.str_list, ← Tr.str_list, h1]
    have : t = u := (Tr.text_inj (t := t) (u := u) (r := []) (q := []) (by rw [h3])).1
    rw [this] at h; omega
theorem forOf_any (ts : List Tr) : forOf (strs ts) = if okF ts = true then some ts else none := by
  by_cases h : okF ts = true
  · rw [if_pos h]; exact forOf_map h
  · rw [if_neg h]
    cases hf : forOf (strs ts) with
    | none => rfl
    | some us =>
      obtain ⟨h1, h2, h3, h4⟩ := forOf_some hf
      exfalso
      have h5 : ts = us := by
        have hi : ∀ (a c : List Tr), a.map Tr.str = c.map Tr.str → a = c := by
          intro a
          induction a with
          | nil => intro c hc; cases c with | nil => rfl | cons x c => cases hc
          | cons x a ih =>
            intro c hc
            cases c with
            | nil => cases hc
            | cons y c =>
              rw [List.map_cons, List.map_cons] at hc
              injection hc with e1 e2
              have e3 : x.text = y.text := by rw [← Tr.str_list, ← Tr.str_list, e1]
              have e4 : x = y := (Tr.text_inj (t := x) (u := y) (r := []) (q := []) (by rw [e3])).1
              rw [e4, ih c e2]
        exact hi ts us h1
      subst h5
      exact h (okF_iff.2 ⟨h2, h3, h4⟩)
theorem sz_strs {us : List Tr} (h : sumT us ≤ 1000) : ∀ x ∈ strs us, x.size ≤ 1048576 := by
  intro x hx
  obtain ⟨u, hu, rfl⟩ := List.mem_map.1 hx
  have := sumT_mem hu
  rw [u.str_size]; omega

set_option maxRecDepth 100000 in
theorem withinLimitsF_any (v : Value) (b : Nat) (ts : List Tr) (w : World) (h : CellsS b w v (strs ts)) (hs : sumT ts ≤ 1000) (hl : ts.length ≤ 1000) :
    Calls Try.prog 56 #[v] w fun e w' => e = .returned (.tuple #[if okF ts = true then v else .slice none 0 0, .bool (okF ts)]) ∧ Below w.heap.size w w' := by
  have hG := implIsForest_b v b (strs ts) w h (sz_strs hs) (by rw [strs_length]; omega)
  rw [forOf_any] at hG
  obtain ⟨oa, cap, rfl, hcl, hcm, _⟩ := h.form0
  unfold maxLen at hcm
  rw [strs_length] at *
  cases hk : okF ts with
  | true =>
    rw [if_pos hk] at hG
    have hG' : Calls Try.prog 16 #[.slice oa ts.length cap] w (Gives (.bool true) w) := hG
    rw [if_pos rfl]
    clear hG h
    go_enter Try.func56, Try.ntmps56
    go_wp2_with fail
    refine hG'.mono ?_; rintro e w1 ⟨rfl, hb1⟩
    go_wp2_with fail
    go_ret2
    exact ⟨rfl, hb1⟩
  | false =>
    rw [hk] at hG
    have hG' : Calls Try.prog 16 #[.slice oa ts.length cap] w (Gives (.bool false) w) := hG
    rw [if_neg (by decide)]
    clear hG h
    go_enter Try.func56, Try.ntmps56
    go_wp2_with fail
    refine hG'.mono ?_; rintro e w1 ⟨rfl, hb1⟩
    go_wp2_with fail
    go_ret2
    exact ⟨rfl, hb1⟩

set_option maxRecDepth 100000 in
set_option maxHeartbeats 2000000 in
theorem wdShort_none (w : World) : Calls Try.prog 86 #[.slice none 0 0] w (GivesOwn [] w) := by
  obtain ⟨i0, hi, hz0, hz1, hz2⟩ := info_parts info_str
  have hown0 := ownsRow_empty w 9
  have hb0 := nxAlloc (Below.refl w.heap.size w) (.cells #[] 9 (0, 0))
  have hsrc : SrcV (w.alloc (.cells #[] 9 (0, 0))) (.slice none 0 0) ([] : List Value) := .inl ⟨rfl, rfl⟩
  have hone : ∀ y ∈ ([] : List Value), y.oneCell' = true := by intro y hy; cases hy
  go_enter Try.func86, Try.ntmps86
  go_wp2_with fail
  go_loop [3] (fun i => i = .int .i64 0) (fun _ => 0)
  case atStart => exact rfl
  case round =>
    obtain rfl := hrel
    go_wp2_with (at_builtin; refine wpList_appSrc rfl (.tmp 18) (.tmp 21) 22 rfl w.heap.size 9 i0 (.string ⟨#[]⟩) 16 Try.underlying22 hi hz0 hz1 hz2 rfl _ 0 _ rfl hown0 _ _ rfl hsrc hone (by unfold maxLen; simp) (by simp) (by simp) ?_; intro w1v w1 w1o w1b w1n)
    have HF : OwnS w.heap.size w1 w1v [] := w1o
    clear w1o w1n
    go_wp2_with fail
    go_ret
    exact ⟨_, HF, hb0.trans w1b, rfl⟩
theorem wdShort_own (v : Value) (b : Nat) (ts : List Tr) (w : World) (h : CellsS b w v (strs ts)) (hl : ts.length ≤ 1000) :
    Calls Try.prog 86 #[v] w (GivesOwn (strs (stripT ts)) w) := by
  have h0 := h
  rcases h with ⟨rfl, hn⟩ | ⟨g, cap, rfl, _⟩
  · have : ts = [] := by
      have := congrArg List.length hn
      rw [strs_length] at this
      exact List.length_eq_zero_iff.1 this
    subst this
    exact wdShort_none w
  · rw [strs_length] at *
    refine (wdShort_any b g cap ts w h0 hl).mono ?_
    rintro e w' ⟨g', cap', ho, hb, he⟩
    exact ⟨_, ho, hb, he⟩

set_option maxRecDepth 100000 in
theorem foIf_any (v : Value) (b : Nat) (ts : List Tr) (w : World) (h : CellsS b w v (strs ts)) (hs : sumT ts ≤ 1000) (hl : ts.length ≤ 1000) :
    Calls Try.prog 55 #[v] w (AnsS2 (if okF (stripT ts) = true then strs (stripT ts) else []) (okF (stripT ts)) w) := by
  have hW := wdShort_own v b ts w h hl
  have hsl := stripT_length ts
  have hss := sumT_strip ts
  generalize stripT ts = us at *
  have hG := fun v b w h => foGood_any v b (strs us) w h (sz_strs (by omega)) (by rw [strs_length]; omega)
  rw [forOf_any] at hG
  obtain ⟨oa, cap, rfl, hcl, hcm, _⟩ := h.form0
  unfold maxLen at hcm
  cases hk : okF us with
  | true =>
    rw [if_pos hk] at hG
    have hG' : ∀ v b w, CellsS b w v (strs us) → Calls Try.prog 41 #[v] w (Gives (.bool true) w) := hG
    rw [if_pos rfl]
    clear hG h hsl hss hk
    go_enter Try.func55, Try.ntmps55
    go_wp2_with fail
    refine hW.mono ?_; rintro e w1 ⟨v1, own1, hb1, rfl⟩
    go_wp2_with fail
    refine (hG' v1 _ _ own1.cells).mono ?_; rintro e w2 ⟨rfl, hb2⟩
    go_wp2_with fail
    go_ret2
    exact ⟨_, own1.keep hb2, nx hb1 hb2, rfl⟩
  | false =>
    rw [hk] at hG
    have hG' : ∀ v b w, CellsS b w v (strs us) → Calls Try.prog 41 #[v] w (Gives (.bool false) w) := hG
    rw [if_neg (by decide)]
    clear hG h hsl hss hk
    go_enter Try.func55, Try.ntmps55
    go_wp2_with fail
    refine hW.mono ?_; rintro e w1 ⟨v1, own1, hb1, rfl⟩
    go_wp2_with fail
    refine (hG' v1 _ _ own1.cells).mono ?_; rintro e w2 ⟨rfl, hb2⟩
    go_wp2_with fail
    go_ret2
    exact ⟨_, OwnS.nil _ _, nx hb1 hb2, rfl⟩

end Go.Proofs.Ytplmbdljhgicfaa

/-! Prefix -/
namespace Go.Proofs.Ytplmbdljhgicfaa
open Go.RowKit

theorem take_eq_of_short {l p : List UInt8} (h : l.length < p.length) : (l.take p.length == p) = false := by
  rw [beq_eq_false_iff_ne]
  intro e
  have := congrArg List.length e
  simp at this
  omega

set_option linter.unusedVariables false in
theorem hasPrefixL_any (s p : ByteArray) (w : World) (hs : s.size ≤ 9223372036854775806) (hp : p.size ≤ 9223372036854775806) :
    Calls Try.prog 136 #[.string s, .string p] w fun e w' => e = .returned (.bool (s.data.toList.take p.size == p.data.toList)) ∧ w = w' := by
  by_cases h : (p.size : Int) ≤ s.size
  · go_enter Try.func136, Try.ntmps136
    go_wp2
    go_ret
    refine ⟨ret_bool ?_, rfl⟩
    rw [Lib.extract_toList, Lib.toList_data]; simp
  · have hf : (s.data.toList.take p.size == p.data.toList) = false := by
      rw [Lib.size_eq p]; exact take_eq_of_short (by rw [← Lib.size_eq, ← Lib.size_eq]; omega)
    rw [hf]
    clear hf
    go_enter Try.func136, Try.ntmps136
    go_wp2
    go_ret
    exact ⟨rfl, rfl⟩

theorem hasPrefixS_any (s p : ByteArray) (w : World) (hs : s.size ≤ 9223372036854775806) (hp : p.size ≤ 9223372036854775806) :
    Calls Try.prog 128 #[.string s, .string p] w fun e w' => e = .returned (.bool (s.data.toList.take p.size == p.data.toList)) ∧ w = w' := by
  go_enter Try.func128, Try.ntmps128
  go_wp2_with fail
  refine (hasPrefixL_any s p _ hs hp).mono ?_; rintro e w1 ⟨rfl, rfl⟩
  go_wp2_with fail
  go_ret
  exact ⟨rfl, rfl⟩

end Go.Proofs.Ytplmbdljhgicfaa

/-! Leaf -/
namespace Go.Proofs.Ytplmbdljhgicfaa
open Go.RowKit

theorem posFrom_dot {s : ByteArray} {k : Nat} {off : Nat} {n : Int} (h : k < s.size) (hb : (((s[k]'h).toNat : Int) == 46) = true) :
    posFrom (s.data.toList.drop k) off n = if n = 0 then (off : Int) else posFrom (s.data.toList.drop (k + 1)) (off + 1) (n - 1) := by
  obtain ⟨c, r, hd, hc, hr⟩ := drop_of_byteAt h
  have h1 : byteAt s k = (s[k]'h).toNat := byteAt_eq s k h
  have : c = 46 := u8_eq (n := 46) (by omega) (by rw [← hc, h1]; simpa using hb)
  rw [hd, posFrom, if_pos this, hr]
theorem posFrom_other {s : ByteArray} {k : Nat} {off : Nat} {n : Int} (h : k < s.size) (hb : (((s[k]'h).toNat : Int) == 46) = false) :
    posFrom (s.data.toList.drop k) off n = posFrom (s.data.toList.drop (k + 1)) (off + 1) n := by
  obtain ⟨c, r, hd, hc, hr⟩ := drop_of_byteAt h
  have h1 : byteAt s k = (s[k]'h).toNat := byteAt_eq s k h
  have : ¬ c = 46 := fun e => by
    have : (((s[k]'h).toNat : Int)) = 46 := by rw [← h1, hc, e]; rfl
    simp [this] at hb
  rw [hd, posFrom, if_neg this, hr]
theorem posFrom_end {s : ByteArray} {off : Nat} {n : Int} : posFrom (s.data.toList.drop s.size) off n = -1 := by
  rw [List.drop_of_length_le (by rw [Lib.size_eq]; exact Nat.le_refl _)]; rfl

set_option maxRecDepth 100000 in
set_option maxHeartbeats 1000000 in
theorem leafPlace_any (s : ByteArray) (n : Int) (w : World) (hs : s.size ≤ 9223372036854775806) (hn : 0 ≤ n) (hn' : n ≤ 9223372036854775807) :
    Calls Try.prog 127 #[.string s, .int .i64 n] w (Quietly (.int .i64 (posFrom s.data.toList 0 n)) w) := by
  go_enter Try.func127, Try.ntmps127
  go_wp2_with fail
  go_loopw [1, 8] (fun v i wr => ∃ (k : Nat) (m : Int) (d : Nat), k ≤ s.size ∧ i = .int .i64 k ∧ v = .int .i64 m ∧ 0 ≤ m ∧ m ≤ 9223372036854775807 ∧ wr = w.drewN d ∧ Hid (posFrom s.data.toList 0 n = posFrom (s.data.toList.drop k) k m)) (fun _ i _ => s.size - (intOf i).toNat)
  case atStart => exact ⟨0, n, 0, Nat.zero_le _, rfl, rfl, hn, hn', rfl, rfl⟩
  case round =>
    obtain ⟨k, m, d, hk, rfl, rfl, hm, hm', rfl, he⟩ := hrel
    by_cases hlt : k < s.size
    · cases h46 : (((s[k]'hlt).toNat : Int) == 46) with
      | true =>
        have h46' : Hid ((((s[k]'hlt).toNat : Int) != 46) = false) := by show (_ != _) = false; rw [bne, h46]; rfl
        have hp := posFrom_dot (off := k) (n := m) hlt h46
        have HP := Lib.hid hp
        clear hp h46
        by_cases hm0 : m = 0
        · have g0 : (m == 0) = true := by simp [hm0]
          have HM := Lib.hid hm0
          clear hm0
          go_wp2_with fail
          have g := h46'.out
          have gz : ((⟨#[46]⟩ : ByteArray)[0]'(by decide)).toNat = 46 := rfl
          go_quiet (fail)
          go_wp2_with fail
          go_ret
          exact ⟨ret_int (by rw [he.out, HP.out, if_pos HM.out]), _, rfl⟩
        · have g0 : (m == 0) = false := by simp [hm0]
          have hm1 : 1 ≤ m := by omega
          have HM := Lib.hid hm0
          clear hm0
          go_wp2_with fail
          have g := h46'.out
          have gz : ((⟨#[46]⟩ : ByteArray)[0]'(by decide)).toNat = 46 := rfl
          go_quiet (fail)
          go_wp2_with fail
          clear g gz
          go_roundw
          case rel => exact ⟨k + 1, m - 1, _, by omega, by go_num, rfl, by omega, by omega, rfl, by show _ = _; rw [he.out, HP.out, if_neg HM.out]⟩
          case measure => simp [intOf]; omega
      | false =>
        have h46' : Hid ((((s[k]'hlt).toNat : Int) != 46) = true) := by show (_ != _) = true; rw [bne, h46]; rfl
        have hp := posFrom_other (off := k) (n := m) hlt h46
        have HP := Lib.hid hp
        clear hp h46
        go_wp2_with fail
        have g := h46'.out
        have gz : ((⟨#[46]⟩ : ByteArray)[0]'(by decide)).toNat = 46 := rfl
        go_quiet (fail)
        go_wp2_with fail
        clear g gz
        go_roundw
        case rel => exact ⟨k + 1, m, _, by omega, by go_num, rfl, by omega, by omega, rfl, by show _ = _; rw [he.out, HP.out]⟩
        case measure => simp [intOf]; omega
    · obtain rfl : k = s.size := by omega
      go_wp2_with fail
      go_ret
      exact ⟨ret_int (by rw [he.out, posFrom_end]), _, rfl⟩

end Go.Proofs.Ytplmbdljhgicfaa

/-! ImplExp -/
namespace Go.Proofs.Ytplmbdljhgicfaa
open Go.RowKit

/-- A call that hands back a slice of integers of its own, and true. -/
def IntsOk (xs : List Int) (w : World) (e : Ending) (w' : World) : Prop :=
  ∃ v, OwnI w.heap.size w' v xs ∧ Below w.heap.size w w' ∧ e = .returned (.tuple #[v, .bool true])

theorem expB_from (s : ByteArray) (k : Nat) : ((s.extract k s.size).data.toList.take (ByteArray.mk #[40, 46, 46, 41]).size == (ByteArray.mk #[40, 46, 46, 41]).data.toList) = expB (s.data.toList.drop k) := by
  unfold expB
  rw [ext_end]
  rfl

set_option maxRecDepth 100000 in
set_option maxHeartbeats 2000000 in
theorem exposedIn_any (s : ByteArray) (w : World) (hs : s.size ≤ 1000) :
    Calls Try.prog 125 #[.string s] w (GivesInts (exL s.data.toList 0) w) := by
  obtain ⟨i0, hi, hz0, hz1, hz2⟩ := info_parts info_int
  go_enter Try.func125, Try.ntmps125
  go_wp2_with fail
  go_loopw [3, 4, 8] (fun v n i wr => ∃ (k : Nat) (m : Int) (xs : List Int), k ≤ s.size ∧ 0 ≤ m ∧ m ≤ k ∧ i = .int .i64 k ∧ n = .int .i64 m ∧ xs.length ≤ k ∧ OwnI w.heap.size wr v xs ∧ Below w.heap.size w wr ∧ Hid (exL s.data.toList 0 = xs ++ exL (s.data.toList.drop k) m)) (fun _ _ i _ => s.size - (intOf i).toNat)
  case atStart => exact ⟨0, 0, [], Nat.zero_le _, by omega, by omega, rfl, rfl, Nat.le_refl _, OwnI.nil _ _, Below.refl _ _, rfl⟩
  case round =>
    obtain ⟨k, m, xs, hk, hm0, hm1, rfl, rfl, hxl, hown, hbw, he⟩ := hrel
    by_cases hlt : k < s.size
    · obtain ⟨c, r, hd, hb, hr⟩ := drop_of_byteAt hlt
      have hx : ((s[k]'hlt).toNat : Int) = (c.toNat : Int) := by rw [← hb]; exact (byteAt_eq s k hlt).symm
      have h46 : (((s[k]'hlt).toNat : Int) == 46) = decide (c = 46) := by
        rw [hx, Bool.eq_iff_iff]
        simp only [beq_iff_eq, decide_eq_true_eq]
        exact ⟨fun e => u8_eq (n := 46) (by omega) e, fun e => by rw [e]; rfl⟩
      have hstep : exL (s.data.toList.drop k) m = (if expB (s.data.toList.drop k) = true then [m] else []) ++ exL (s.data.toList.drop (k + 1)) (if c = 46 then m + 1 else m) := by
        rw [hr, hd, exL]
      have H46 := Lib.hid h46
      have HS := Lib.hid hstep
      have hpc := hasPrefixS_any (s.extract k s.size) (ByteArray.mk #[40, 46, 46, 41])
      rw [expB_from] at hpc
      have hsz : (s.extract k s.size).size ≤ 9223372036854775806 := by simp; omega
      clear hd hb hr hx h46 hstep
      cases hE : expB (s.data.toList.drop k) with
      | true =>
        rw [hE] at hpc
        have HE1 := Lib.hid hE
        clear hE
        by_cases hc : c = 46
        all_goals
          have h4 := H46.out
          simp only [hc, decide_true, decide_false] at h4
          have HC := Lib.hid hc
          have H4 := Lib.hid h4
          clear hc h4
          go_wp2_with fail
          refine (hpc _ hsz (by decide)).mono ?_; rintro e wx ⟨rfl, rfl⟩
          go_wp2_with (at_builtin; refine wpList_append_own _ rfl _ _ 96 rfl w.heap.size 3 i0 (.int .i64 0) 1 8 Try.underlying96 hi hz0 hz1 hz2 rfl (by decide) _ _ _ rfl (hown.alloc _) ⟨wr.heap.size, 0, none⟩ 1 1 [.int .i64 m] rfl rfl (new1 _ _ _) (one1 _) (by unfold maxLen; omega) (by omega) (size_al hbw _) ?_; intro v' w1 hown' hgrow hnn)
          have hbw' := below_app hbw hown (Nat.le_refl _) hgrow
          have hown1 := OwnI.snoc hown'
          have he' : exL s.data.toList 0 = (xs ++ [m]) ++ exL (s.data.toList.drop (k + 1)) (if c = 46 then m + 1 else m) := by
            rw [he.out, HS.out, if_pos HE1.out, List.append_assoc]
          have HE := Lib.hid he'
          have g := H4.out
          have gz : ((⟨#[46]⟩ : ByteArray)[0]'(by decide)).toNat = 46 := rfl
          clear hown hown' hgrow hbw hnn he' he
          go_wp2_with fail
          go_quiet (fail)
          go_wp2_with fail
          clear g gz
          go_roundw
          case rel =>
            have he' := HE.out
            have hc := HC.out
            first | rw [if_pos hc] at he' | rw [if_neg hc] at he'
            exact ⟨k + 1, _, xs ++ [m], by omega, by omega, by omega, by go_num, rfl, by simp; omega, hown1.keep (drewB (Below.refl _ _) _), drewB hbw' _, he'⟩
          case measure => simp [intOf]; omega
      | false =>
        rw [hE] at hpc
        have he' : exL s.data.toList 0 = xs ++ exL (s.data.toList.drop (k + 1)) (if c = 46 then m + 1 else m) := by
          rw [he.out, HS.out, if_neg (by rw [hE]; decide), List.nil_append]
        have HE := Lib.hid he'
        clear hE he' he
        by_cases hc : c = 46
        all_goals
          have h4 := H46.out
          simp only [hc, decide_true, decide_false] at h4
          have HC := Lib.hid hc
          have H4 := Lib.hid h4
          clear hc h4
          go_wp2_with fail
          refine (hpc _ hsz (by decide)).mono ?_; rintro e wx ⟨rfl, rfl⟩
          have g := H4.out
          have gz : ((⟨#[46]⟩ : ByteArray)[0]'(by decide)).toNat = 46 := rfl
          go_wp2_with fail
          go_quiet (fail)
          go_wp2_with fail
          clear g gz
          go_roundw
          case rel =>
            have he' := HE.out
            have hc := HC.out
            first | rw [if_pos hc] at he' | rw [if_neg hc] at he'
            exact ⟨k + 1, _, xs, by omega, by omega, by omega, by go_num, rfl, by omega, hown.keep (drewB (Below.refl _ _) _), drewB hbw _, he'⟩
          case measure => simp [intOf]; omega
    · obtain rfl : k = s.size := by omega
      have hend : exL s.data.toList 0 = xs := by
        have h1 : s.data.toList.drop s.size = [] := List.drop_of_length_le (by rw [Lib.size_eq]; exact Nat.le_refl _)
        have := he.out
        rw [h1] at this
        simpa [exL] using this
      have HE := Lib.hid hend
      clear hend he
      go_wp2_with fail
      go_ret
      exact ⟨_, by rw [HE.out]; exact hown, hbw, rfl⟩

end Go.Proofs.Ytplmbdljhgicfaa

/-! SpecExp -/
namespace Go.Proofs.Ytplmbdljhgicfaa
open Go.RowKit

set_option maxRecDepth 100000 in
set_option maxHeartbeats 2000000 in
theorem trExposed_any (s : ByteArray) (w : World) (hs : s.size ≤ 1000) :
    Calls Try.prog 110 #[.string s] w (GivesInts (exL s.data.toList 0) w) := by
  obtain ⟨i0, hi, hz0, hz1, hz2⟩ := info_parts info_int
  go_enter Try.func110, Try.ntmps110
  go_wp2_with fail
  go_loopw [3, 4, 5] (fun v n i wr => ∃ (k : Nat) (m : Int) (xs : List Int), k ≤ s.size ∧ 0 ≤ m ∧ m ≤ k ∧ i = .int .i64 k ∧ n = .int .i64 m ∧ xs.length ≤ k ∧ OwnI w.heap.size wr v xs ∧ Below w.heap.size w wr ∧ Hid (exL s.data.toList 0 = xs ++ (pend s.data.toList k m ++ exL (s.data.toList.drop k) m))) (fun _ _ i _ => s.size - (intOf i).toNat)
  case atStart => exact ⟨0, 0, [], Nat.zero_le _, by omega, by omega, rfl, rfl, Nat.le_refl _, OwnI.nil _ _, Below.refl _ _, by show _ = _; rw [pend_zero]; rfl⟩
  case round =>
    obtain ⟨k, m, xs, hk, hm0, hm1, rfl, rfl, hxl, hown, hbw, he⟩ := hrel
    by_cases hlt : k < s.size
    · obtain ⟨c, r, hd, hb, hr⟩ := drop_of_byteAt hlt
      have hstep := exL_step (n := m) hd
      have hx : ((s[k]'hlt).toNat : Int) = (c.toNat : Int) := by rw [← hb]; exact (byteAt_eq s k hlt).symm
      have h46 : (((s[k]'hlt).toNat : Int) == 46) = decide (c = 46) := by
        rw [hx, Bool.eq_iff_iff]
        simp only [beq_iff_eq, decide_eq_true_eq]
        exact ⟨fun e => u8_eq (n := 46) (by omega) e, fun e => by rw [e]; rfl⟩
      have H46 := Lib.hid h46
      have HS := Lib.hid hstep
      clear hd hb hr hx h46 hstep
      by_cases hP : 0 < k ∧ expB (s.data.toList.drop (k - 1)) = true
      · have hpend : Hid (pend s.data.toList k m = [m]) := by show _ = _; unfold pend; rw [if_pos hP]
        obtain ⟨hk0, hE⟩ := hP
        have h1 : (0 : Int) < k := by omega
        have h2 : (k : Int) + 2 < s.size := by have := expB_drop hE; rw [← Lib.size_eq] at this; omega
        have h3 : ((s.extract (k - 1) (k + 3)).toList == [40, 46, 46, 41]) = true := by rw [← expB_extract s k hk0]; exact hE
        clear hE
        by_cases hc : c = 46
        all_goals
          have h4 := H46.out
          simp only [hc, decide_true, decide_false] at h4
          have HC := Lib.hid hc
          clear hc
          go_wp2_with (at_builtin; refine wpList_append_own _ rfl _ _ 96 rfl w.heap.size 3 i0 (.int .i64 0) 1 8 Try.underlying96 hi hz0 hz1 hz2 rfl (by decide) _ _ _ rfl (hown.alloc _) ⟨wr.heap.size, 0, none⟩ 1 1 [.int .i64 m] rfl rfl (new1 _ _ _) (one1 _) (by unfold maxLen; omega) (by omega) (size_al hbw _) ?_; intro v' w1 hown' hgrow hnn)
          have hbw' := below_app hbw hown (Nat.le_refl _) hgrow
          have hown1 := OwnI.snoc hown'
          have he' : exL s.data.toList 0 = (xs ++ [m]) ++ (pend s.data.toList (k + 1) (if c = 46 then m + 1 else m) ++ exL (s.data.toList.drop (k + 1)) (if c = 46 then m + 1 else m)) := by
            rw [he.out, HS.out, hpend.out, List.append_assoc]
          have HE := Lib.hid he'
          clear hown hown' hgrow hbw hnn he' he
          go_wp2_with fail
          go_roundw
          case rel =>
            have he' := HE.out
            have hc := HC.out
            first | rw [if_pos hc] at he' | rw [if_neg hc] at he'
            exact ⟨k + 1, _, xs ++ [m], by omega, by omega, by omega, by go_num, rfl, by simp; omega, hown1, hbw', he'⟩
          case measure => simp [intOf]; omega
      · have hpend : Hid (pend s.data.toList k m = []) := by show _ = _; unfold pend; rw [if_neg hP]
        have he' : exL s.data.toList 0 = xs ++ (pend s.data.toList (k + 1) (if c = 46 then m + 1 else m) ++ exL (s.data.toList.drop (k + 1)) (if c = 46 then m + 1 else m)) := by
          rw [he.out, HS.out, hpend.out, List.nil_append]
        have HE := Lib.hid he'
        clear he' he
        by_cases hc : c = 46
        all_goals
          have h4 := H46.out
          simp only [hc, decide_true, decide_false] at h4
          have HC := Lib.hid hc
          clear hc
          by_cases h1 : (0 : Int) < k
          · by_cases h2 : (k : Int) + 2 < s.size
            · have h3 : ((s.extract (k - 1) (k + 3)).toList == [40, 46, 46, 41]) = false := by
                rw [← expB_extract s k (by omega)]
                exact Bool.eq_false_iff.2 fun e => hP ⟨by omega, e⟩
              clear hP
              go_wp2_with fail
              go_roundw
              case rel =>
                have he' := HE.out
                have hc := HC.out
                first | rw [if_pos hc] at he' | rw [if_neg hc] at he'
                exact ⟨k + 1, _, xs, by omega, by omega, by omega, by go_num, rfl, by omega, hown, hbw, he'⟩
              case measure => simp [intOf]; omega
            · clear hP
              go_wp2_with fail
              go_roundw
              case rel =>
                have he' := HE.out
                have hc := HC.out
                first | rw [if_pos hc] at he' | rw [if_neg hc] at he'
                exact ⟨k + 1, _, xs, by omega, by omega, by omega, by go_num, rfl, by omega, hown, hbw, he'⟩
              case measure => simp [intOf]; omega
          · clear hP
            go_wp2_with fail
            go_roundw
            case rel =>
              have he' := HE.out
              have hc := HC.out
              first | rw [if_pos hc] at he' | rw [if_neg hc] at he'
              exact ⟨k + 1, _, xs, by omega, by omega, by omega, by go_num, rfl, by omega, hown, hbw, he'⟩
            case measure => simp [intOf]; omega
    · obtain rfl : k = s.size := by omega
      have hend : exL s.data.toList 0 = xs := by
        have h1 : s.data.toList.drop s.size = [] := List.drop_of_length_le (by rw [Lib.size_eq]; exact Nat.le_refl _)
        have h2 : pend s.data.toList s.size m = [] := by
          unfold pend
          rw [if_neg]
          rintro ⟨h3, h4⟩
          have := expB_drop h4
          rw [← Lib.size_eq] at this
          omega
        have := he.out
        rw [h1, h2] at this
        simpa [exL] using this
      have HE := Lib.hid hend
      clear hend he
      go_wp2_with fail
      go_ret
      exact ⟨_, by rw [HE.out]; exact hown, hbw, rfl⟩
end Go.Proofs.Ytplmbdljhgicfaa

/-! Has -/
namespace Go.Proofs.Ytplmbdljhgicfaa
open Go.RowKit

theorem CellsI.weak {b1 b2 : Nat} {w : World} {v : Value} {xs : List Int} (h : CellsI b1 w v xs) (hb : b2 ≤ b1) : CellsI b2 w v xs := by
  rcases h with h | ⟨g, cap, h1, h2, h3⟩
  · exact .inl h
  · exact .inr ⟨g, cap, h1, Nat.le_trans hb h2, h3⟩

set_option maxHeartbeats 1000000 in
theorem l1Has_any (b1 : Nat) (v : Value) (xs : List Int) (n : Int) (w : World) (h : CellsI b1 w v xs) :
    Calls Try.prog 111 #[v, .int .i64 n] w (Quietly (.bool (xs.contains n)) w) := by
  have hl := h.len
  rcases h with ⟨rfl, rfl⟩ | ⟨g, cap, rfl, hb1, hg1, hc1, hm1, hx1, _⟩
  · go_enter Try.func111, Try.ntmps111
    go_wp2_with fail
    go_loopw [9] (fun i wr => i = .int .i64 0 ∧ wr = w) (fun _ _ => 0)
    case atStart => exact ⟨rfl, rfl⟩
    case round =>
      obtain ⟨rfl, rfl⟩ := hrel
      go_wp2_with fail
      go_ret
      exact ⟨rfl, 0, rfl⟩
  · have HX1 := Lib.hid hx1
    clear hx1
    go_enter Try.func111, Try.ntmps111
    go_wp2_with fail
    go_loopw [9] (fun i wr => ∃ k d : Nat, k ≤ xs.length ∧ i = .int .i64 k ∧ wr = w.drewN d ∧ Hid (xs.contains n = (xs.drop k).contains n)) (fun i _ => xs.length - (intOf i).toNat)
    case atStart => exact ⟨0, 0, Nat.zero_le _, rfl, rfl, rfl⟩
    case round =>
      obtain ⟨k, d, hk, rfl, rfl, he⟩ := hrel
      by_cases hlt : k < xs.length
      · have hlt' : (k : Int) < (xs.length : Int) := by omega
        have c1 := HX1.out k hlt
        obtain ⟨x, hx⟩ : ∃ x, x = xs.getD k 0 := ⟨_, rfl⟩
        have hd : xs.drop k = x :: xs.drop (k + 1) := by rw [List.drop_eq_getElem_cons hlt, hx]; simp [hlt]
        rw [← hx] at c1
        have he' := he.out
        rw [hd, List.contains_cons] at he'
        clear hx hd he
        cases hxn : (x == n) with
        | true =>
          have hn : (n == x) = true := by simp at hxn; simp [hxn]
          rw [hn, Bool.true_or] at he'
          have HE := Lib.hid he'
          clear he' hn
          go_wp2_with fail
          go_ret
          exact ⟨by rw [HE.out]; rfl, _, rfl⟩
        | false =>
          have hn : (n == x) = false := by simp at hxn; simp; exact fun e => hxn e.symm
          rw [hn, Bool.false_or] at he'
          have HE := Lib.hid he'
          clear he' hn
          go_wp2_with fail
          go_roundw
          case rel => exact ⟨k + 1, _, by omega, by go_num, rfl, HE⟩
          case measure => simp [intOf]; omega
      · obtain rfl : k = xs.length := by omega
        have he' := he.out
        rw [List.drop_of_length_le (Nat.le_refl _)] at he'
        have HE := Lib.hid he'
        clear he he'
        go_wp2_with fail
        go_ret
        exact ⟨by rw [HE.out]; rfl, _, rfl⟩
end Go.Proofs.Ytplmbdljhgicfaa

/-! Both -/
namespace Go.Proofs.Ytplmbdljhgicfaa
open Go.RowKit

/-- The left leaves with which the trees of both texts have exposed carets. -/
def bothL (a b : ByteArray) : List Int := (exL a.data.toList 0).filter fun n => (exL b.data.toList 0).contains n
theorem bothL_str (p : Pr) : bothL p.1.str p.2.str = both p := by
  unfold bothL both
  rw [Tr.str_list, Tr.str_list, exps_text, exps_text]

/-- Where a number is in a list, from k on. -/
def idxI : List Int → Nat → Int → Int
  | [], _, _ => -1
  | x :: xs, k, n => if n = x then k else idxI xs (k + 1) n
theorem idxI_has (xs : List Int) : ∀ (k : Nat) (n : Int), decide (0 ≤ idxI xs k n) = xs.contains n := by
  induction xs with
  | nil => intro k n; rfl
  | cons x xs ih =>
    intro k n
    rw [idxI, List.contains_cons]
    by_cases h : n = x
    · subst h; simp
    · have : (n == x) = false := by simpa using h
      rw [if_neg h, ih, this, Bool.false_or]
theorem idxI_le (xs : List Int) : ∀ (k : Nat) (n : Int), -1 ≤ idxI xs k n ∧ idxI xs k n ≤ k + xs.length := by
  induction xs with
  | nil => intro k n; simp [idxI]
  | cons x xs ih =>
    intro k n
    have := ih (k + 1) n
    rw [idxI]
    simp only [List.length_cons]
    split <;> omega

set_option maxHeartbeats 1000000 in
theorem index_any (b1 : Nat) (v : Value) (xs : List Int) (n : Int) (w : World) (h : CellsI b1 w v xs) :
    Calls Try.prog 135 #[v, .int .i64 n] w (Quietly (.int .i64 (idxI xs 0 n)) w) := by
  have hl := h.len
  rcases h with ⟨rfl, rfl⟩ | ⟨g, cap, rfl, hb1, hg1, hc1, hm1, hx1, _⟩
  · go_enter Try.func135, Try.ntmps135
    go_wp2_with fail
    go_loopw [8] (fun i wr => i = .int .i64 0 ∧ wr = w) (fun _ _ => 0)
    case atStart => exact ⟨rfl, rfl⟩
    case round =>
      obtain ⟨rfl, rfl⟩ := hrel
      go_wp2_with fail
      go_ret
      exact ⟨rfl, 0, rfl⟩
  · have HX1 := Lib.hid hx1
    clear hx1
    go_enter Try.func135, Try.ntmps135
    go_wp2_with fail
    go_loopw [8] (fun i wr => ∃ k d : Nat, k ≤ xs.length ∧ i = .int .i64 k ∧ wr = w.drewN d ∧ Hid (idxI xs 0 n = idxI (xs.drop k) k n)) (fun i _ => xs.length - (intOf i).toNat)
    case atStart => exact ⟨0, 0, Nat.zero_le _, rfl, rfl, rfl⟩
    case round =>
      obtain ⟨k, d, hk, rfl, rfl, he⟩ := hrel
      by_cases hlt : k < xs.length
      · have hlt' : (k : Int) < (xs.length : Int) := by omega
        have c1 := HX1.out k hlt
        obtain ⟨x, hx⟩ : ∃ x, x = xs.getD k 0 := ⟨_, rfl⟩
        have hd : xs.drop k = x :: xs.drop (k + 1) := by rw [List.drop_eq_getElem_cons hlt, hx]; simp [hlt]
        rw [← hx] at c1
        have he' := he.out
        rw [hd, idxI] at he'
        clear hx hd he
        by_cases hxn : n = x
        · rw [if_pos hxn] at he'
          have hn : (n == x) = true := by simpa using hxn
          have HE := Lib.hid he'
          clear he' hxn
          go_wp2_with fail
          go_ret
          exact ⟨ret_int (by rw [HE.out]), _, rfl⟩
        · rw [if_neg hxn] at he'
          have hn : (n == x) = false := by simpa using hxn
          have HE := Lib.hid he'
          clear he' hxn
          go_wp2_with fail
          go_roundw
          case rel => exact ⟨k + 1, _, by omega, by go_num, rfl, HE⟩
          case measure => simp [intOf]; omega
      · obtain rfl : k = xs.length := by omega
        have he' := he.out
        rw [List.drop_of_length_le (Nat.le_refl _)] at he'
        have HE := Lib.hid he'
        clear he he'
        go_wp2_with fail
        go_ret
        exact ⟨by rw [HE.out]; rfl, _, rfl⟩

theorem contains_any (b1 : Nat) (v : Value) (xs : List Int) (n : Int) (w : World) (h : CellsI b1 w v xs) :
    Calls Try.prog 126 #[v, .int .i64 n] w (Quietly (.bool (xs.contains n)) w) := by
  have hi := fun w h => index_any b1 v xs n w h
  have HI : Hid (decide (0 ≤ idxI xs 0 n) = xs.contains n) := idxI_has xs 0 n
  have H := Lib.hid h
  clear h
  generalize idxI xs 0 n = z at *
  go_enter Try.func126, Try.ntmps126
  go_wp2_with fail
  refine (hi _ H.out).mono ?_; rintro e w3 ⟨rfl, d, rfl⟩
  go_wp2_with fail
  go_ret
  exact ⟨ret_bool HI.out, _, rfl⟩

set_option maxRecDepth 100000 in
set_option maxHeartbeats 2000000 in
theorem prBoth_any (a b : ByteArray) (w : World) (ha : a.size ≤ 1000) (hb : b.size ≤ 1000) :
    Calls Try.prog 92 #[.agg #[.string a, .string b]] w (GivesInts (bothL a b) w) := by
  obtain ⟨i0, hi, hz0, hz1, hz2⟩ := info_parts info_int
  have hXl : (exL a.data.toList 0).length ≤ 1000 := by have := exL_length a.data.toList 0; rw [← Lib.size_eq] at this; omega
  have hA := fun w => trExposed_any a w ha
  have hB := fun w => trExposed_any b w hb
  obtain ⟨X, hX⟩ : ∃ X, X = exL a.data.toList 0 := ⟨_, rfl⟩
  obtain ⟨Y, hY⟩ : ∃ Y, Y = exL b.data.toList 0 := ⟨_, rfl⟩
  rw [← hX] at hA hXl
  rw [← hY] at hB
  rw [show bothL a b = X.filter fun n => Y.contains n by rw [hX, hY]; rfl]
  clear hX hY
  go_enter Try.func92, Try.ntmps92
  go_wp2_with fail
  have hb0 : Below w.heap.size w (w.alloc (.cells #[.string a, .string b] 40 (0, 0))) := nxAlloc (Below.refl _ _) _
  have hc := two_cells (heap_alloc_at w (.cells #[.string a, .string b] 40 (0, 0)))
  have hs : w.heap.size < (w.alloc (.cells #[.string a, .string b] 40 (0, 0))).heap.size := by simp
  generalize w.alloc (.cells #[.string a, .string b] 40 (0, 0)) = w0 at *
  refine (hB _).mono ?_; rintro e w1 ⟨v1, own1, hb1, rfl⟩
  have hc1 := keep_two hb1 hs hc
  have hs1 : w.heap.size < w1.heap.size := Nat.lt_of_lt_of_le hs hb1.size
  have hb01 := nx hb0 hb1
  obtain ⟨k1, k2⟩ := hc1
  go_wp2_with fail
  refine (hA _).mono ?_; rintro e w2 ⟨v2, own2, hb2, rfl⟩
  have own1' := own1.keep hb2
  have hbase : w.heap.size ≤ w0.heap.size := Nat.le_of_lt hs
  have hbase1 : w.heap.size ≤ w1.heap.size := Nat.le_of_lt hs1
  have hb02 := nx hb01 hb2
  have hcx := own2.cells
  clear hc k1 k2 hs hs1 own1 hb0 hb1 hb01
  have hp1 : Hid (OwnI w1.heap.size w2 v2 X) := own2
  have hp2 : Hid (OwnI w0.heap.size w2 v1 Y) := own1'
  clear own2 own1'
  rcases hcx with ⟨rfl, rfl⟩ | ⟨g, cap, rfl, hg0, hg1, hc1, hm1, hx1, _⟩
  · go_wp2_with fail
    go_loopw [3, 14] (fun v i wr => v = .slice none 0 0 ∧ i = .int .i64 0 ∧ wr = w2) (fun _ _ _ => 0)
    case atStart => exact ⟨rfl, rfl, rfl⟩
    case round =>
      obtain ⟨rfl, rfl, rfl⟩ := hrel
      go_wp2_with fail
      go_ret
      exact ⟨_, OwnI.nil _ _, hb02, rfl⟩
  · have HX1 := Lib.hid hx1
    clear hx1
    go_wp2_with fail
    go_loopw [3, 14] (fun v i wr => ∃ (k : Nat) (zs : List Int), k ≤ X.length ∧ i = .int .i64 k ∧ zs.length ≤ k ∧ OwnI w2.heap.size wr v zs ∧ Below w2.heap.size w2 wr ∧ Hid (X.filter (fun n => Y.contains n) = zs ++ (X.drop k).filter fun n => Y.contains n)) (fun _ i _ => X.length - (intOf i).toNat)
    case atStart => exact ⟨0, [], Nat.zero_le _, rfl, Nat.le_refl _, OwnI.nil _ _, Below.refl _ _, by show _ = _; simp⟩
    case round =>
      obtain ⟨k, zs, hk, rfl, hzl, hown, hbw, he⟩ := hrel
      by_cases hlt : k < X.length
      · have c1 := (hbw.cell (p := ⟨g, k, none⟩) hg1).trans (HX1.out k hlt)
        have hcy := (OwnI.keep hp2.out hbw).cells
        obtain ⟨x, hx⟩ : ∃ x, x = X.getD k 0 := ⟨_, rfl⟩
        have hd : X.drop k = x :: X.drop (k + 1) := by rw [List.drop_eq_getElem_cons hlt, hx]; simp [hlt]
        rw [← hx] at c1
        have he' := he.out
        rw [hd, List.filter_cons] at he'
        have hhas := fun w h => l1Has_any w0.heap.size v1 Y x w h
        clear hx hd he
        have hlt' : (k : Int) < (X.length : Int) := by omega
        cases hxn : Y.contains x with
        | true =>
          rw [hxn] at hhas
          rw [hxn, if_pos rfl] at he'
          have HE := Lib.hid he'
          have HCY := Lib.hid hcy
          clear he' hxn hcy
          go_wp2_with fail
          refine (hhas _ HCY.out).mono ?_; rintro e w3 ⟨rfl, d, hw3⟩
          have hb3 : Below wr.heap.size wr w3 := by rw [hw3]; exact drewB (Below.refl _ _) _
          have hbw3 := nx hbw hb3
          have hown3 := hown.keep hb3
          clear hw3 hbw hown hb3
          go_wp2_with (at_builtin; refine wpList_append_own _ rfl _ _ 96 rfl w2.heap.size 3 i0 (.int .i64 0) 1 8 Try.underlying96 hi hz0 hz1 hz2 rfl (by decide) _ _ _ rfl (hown3.alloc _) ⟨w3.heap.size, 0, none⟩ 1 1 [.int .i64 x] rfl rfl (new1 _ _ _) (one1 _) (by unfold maxLen; omega) (by omega) (size_al hbw3 _) ?_; intro v' w4 hown' hgrow hnn)
          have hbw' := below_app hbw3 hown3 (Nat.le_refl _) hgrow
          have hown1 := OwnI.snoc hown'
          clear hown3 hown' hgrow hbw3 hnn
          go_wp2_with fail
          go_roundw
          case rel =>
            have he' := HE.out
            exact ⟨k + 1, zs ++ [x], by omega, by go_num, by simp; omega, hown1, hbw', by show _ = _; rw [he']; simp⟩
          case measure => simp [intOf]; omega
        | false =>
          rw [hxn] at hhas
          rw [hxn, if_neg (by decide)] at he'
          have HE := Lib.hid he'
          have HCY := Lib.hid hcy
          clear he' hxn hcy
          go_wp2_with fail
          refine (hhas _ HCY.out).mono ?_; rintro e w3 ⟨rfl, d, hw3⟩
          have hb3 : Below wr.heap.size wr w3 := by rw [hw3]; exact drewB (Below.refl _ _) _
          have hbw3 := nx hbw hb3
          have hown3 := hown.keep hb3
          clear hw3 hbw hown hb3
          go_wp2_with fail
          go_roundw
          case rel => exact ⟨k + 1, zs, by omega, by go_num, by omega, hown3, hbw3, HE⟩
          case measure => simp [intOf]; omega
      · obtain rfl : k = X.length := by omega
        have he' := he.out
        rw [List.drop_of_length_le (Nat.le_refl _), List.filter_nil, List.append_nil] at he'
        have HE := Lib.hid he'
        clear he he'
        go_wp2_with fail
        go_ret
        exact ⟨_, by rw [HE.out]; exact hown.mono hb02.size, nx hb02 hbw, rfl⟩

set_option maxRecDepth 100000 in
set_option maxHeartbeats 2000000 in
theorem sharedExposed_any (a b : ByteArray) (w : World) (ha : a.size ≤ 1000) (hb : b.size ≤ 1000) :
    Calls Try.prog 112 #[.agg #[.string a, .string b]] w (GivesInts (bothL a b) w) := by
  obtain ⟨i0, hi, hz0, hz1, hz2⟩ := info_parts info_int
  have hXl : (exL a.data.toList 0).length ≤ 1000 := by have := exL_length a.data.toList 0; rw [← Lib.size_eq] at this; omega
  have hA := fun w => exposedIn_any a w ha
  have hB := fun w => exposedIn_any b w hb
  obtain ⟨X, hX⟩ : ∃ X, X = exL a.data.toList 0 := ⟨_, rfl⟩
  obtain ⟨Y, hY⟩ : ∃ Y, Y = exL b.data.toList 0 := ⟨_, rfl⟩
  rw [← hX] at hA hXl
  rw [← hY] at hB
  rw [show bothL a b = X.filter fun n => Y.contains n by rw [hX, hY]; rfl]
  clear hX hY
  go_enter Try.func112, Try.ntmps112
  go_wp2_with fail
  have hb0 : Below w.heap.size w (w.alloc (.cells #[.string a, .string b] 40 (0, 0))) := nxAlloc (Below.refl _ _) _
  have hc := two_cells (heap_alloc_at w (.cells #[.string a, .string b] 40 (0, 0)))
  have hs : w.heap.size < (w.alloc (.cells #[.string a, .string b] 40 (0, 0))).heap.size := by simp
  generalize w.alloc (.cells #[.string a, .string b] 40 (0, 0)) = w0 at *
  refine (hB _).mono ?_; rintro e w1 ⟨v1, own1, hb1, rfl⟩
  have hc1 := keep_two hb1 hs hc
  have hs1 : w.heap.size < w1.heap.size := Nat.lt_of_lt_of_le hs hb1.size
  have hb01 := nx hb0 hb1
  obtain ⟨k1, k2⟩ := hc1
  go_wp2_with fail
  refine (hA _).mono ?_; rintro e w2 ⟨v2, own2, hb2, rfl⟩
  have own1' := own1.keep hb2
  have hbase : w.heap.size ≤ w0.heap.size := Nat.le_of_lt hs
  have hbase1 : w.heap.size ≤ w1.heap.size := Nat.le_of_lt hs1
  have hb02 := nx hb01 hb2
  have hcx := own2.cells
  clear hc k1 k2 hs hs1 own1 hb0 hb1 hb01
  have hp1 : Hid (OwnI w1.heap.size w2 v2 X) := own2
  have hp2 : Hid (OwnI w0.heap.size w2 v1 Y) := own1'
  clear own2 own1'
  rcases hcx with ⟨rfl, rfl⟩ | ⟨g, cap, rfl, hg0, hg1, hc1, hm1, hx1, _⟩
  · go_wp2_with fail
    go_loopw [3, 14] (fun v i wr => v = .slice none 0 0 ∧ i = .int .i64 0 ∧ wr = w2) (fun _ _ _ => 0)
    case atStart => exact ⟨rfl, rfl, rfl⟩
    case round =>
      obtain ⟨rfl, rfl, rfl⟩ := hrel
      go_wp2_with fail
      go_ret
      exact ⟨_, OwnI.nil _ _, hb02, rfl⟩
  · have HX1 := Lib.hid hx1
    clear hx1
    go_wp2_with fail
    go_loopw [3, 14] (fun v i wr => ∃ (k : Nat) (zs : List Int), k ≤ X.length ∧ i = .int .i64 k ∧ zs.length ≤ k ∧ OwnI w2.heap.size wr v zs ∧ Below w2.heap.size w2 wr ∧ Hid (X.filter (fun n => Y.contains n) = zs ++ (X.drop k).filter fun n => Y.contains n)) (fun _ i _ => X.length - (intOf i).toNat)
    case atStart => exact ⟨0, [], Nat.zero_le _, rfl, Nat.le_refl _, OwnI.nil _ _, Below.refl _ _, by show _ = _; simp⟩
    case round =>
      obtain ⟨k, zs, hk, rfl, hzl, hown, hbw, he⟩ := hrel
      by_cases hlt : k < X.length
      · have c1 := (hbw.cell (p := ⟨g, k, none⟩) hg1).trans (HX1.out k hlt)
        have hcy := (OwnI.keep hp2.out hbw).cells
        obtain ⟨x, hx⟩ : ∃ x, x = X.getD k 0 := ⟨_, rfl⟩
        have hd : X.drop k = x :: X.drop (k + 1) := by rw [List.drop_eq_getElem_cons hlt, hx]; simp [hlt]
        rw [← hx] at c1
        have he' := he.out
        rw [hd, List.filter_cons] at he'
        have hhas := fun w h => contains_any w0.heap.size v1 Y x w h
        clear hx hd he
        have hlt' : (k : Int) < (X.length : Int) := by omega
        cases hxn : Y.contains x with
        | true =>
          rw [hxn] at hhas
          rw [hxn, if_pos rfl] at he'
          have HE := Lib.hid he'
          have HCY := Lib.hid hcy
          clear he' hxn hcy
          go_wp2_with fail
          refine (hhas _ HCY.out).mono ?_; rintro e w3 ⟨rfl, d, hw3⟩
          have hb3 : Below wr.heap.size wr w3 := by rw [hw3]; exact drewB (Below.refl _ _) _
          have hbw3 := nx hbw hb3
          have hown3 := hown.keep hb3
          clear hw3 hbw hown hb3
          go_wp2_with (at_builtin; refine wpList_append_own _ rfl _ _ 96 rfl w2.heap.size 3 i0 (.int .i64 0) 1 8 Try.underlying96 hi hz0 hz1 hz2 rfl (by decide) _ _ _ rfl (hown3.alloc _) ⟨w3.heap.size, 0, none⟩ 1 1 [.int .i64 x] rfl rfl (new1 _ _ _) (one1 _) (by unfold maxLen; omega) (by omega) (size_al hbw3 _) ?_; intro v' w4 hown' hgrow hnn)
          have hbw' := below_app hbw3 hown3 (Nat.le_refl _) hgrow
          have hown1 := OwnI.snoc hown'
          clear hown3 hown' hgrow hbw3 hnn
          go_wp2_with fail
          go_roundw
          case rel =>
            have he' := HE.out
            exact ⟨k + 1, zs ++ [x], by omega, by go_num, by simp; omega, hown1, hbw', by show _ = _; rw [he']; simp⟩
          case measure => simp [intOf]; omega
        | false =>
          rw [hxn] at hhas
          rw [hxn, if_neg (by decide)] at he'
          have HE := Lib.hid he'
          have HCY := Lib.hid hcy
          clear he' hxn hcy
          go_wp2_with fail
          refine (hhas _ HCY.out).mono ?_; rintro e w3 ⟨rfl, d, hw3⟩
          have hb3 : Below wr.heap.size wr w3 := by rw [hw3]; exact drewB (Below.refl _ _) _
          have hbw3 := nx hbw hb3
          have hown3 := hown.keep hb3
          clear hw3 hbw hown hb3
          go_wp2_with fail
          go_roundw
          case rel => exact ⟨k + 1, zs, by omega, by go_num, by omega, hown3, hbw3, HE⟩
          case measure => simp [intOf]; omega
      · obtain rfl : k = X.length := by omega
        have he' := he.out
        rw [List.drop_of_length_le (Nat.le_refl _), List.filter_nil, List.append_nil] at he'
        have HE := Lib.hid he'
        clear he he'
        go_wp2_with fail
        go_ret
        exact ⟨_, by rw [HE.out]; exact hown.mono hb02.size, nx hb02 hbw, rfl⟩
end Go.Proofs.Ytplmbdljhgicfaa

/-! In -/
namespace Go.Proofs.Ytplmbdljhgicfaa
open Go.RowKit

/-- An answer of a text and a bool. -/
def ans2 (o : Option ByteArray) : Value := .tuple #[.string (o.getD ⟨#[]⟩), .bool o.isSome]

end Go.Proofs.Ytplmbdljhgicfaa

/-! Graft -/
namespace Go.Proofs.Ytplmbdljhgicfaa
open Go.RowKit

theorem limitS_yes (s : ByteArray) (w : World) (h : (s.size : Int) ≤ 25) : Calls Try.prog 100 #[.string s] w fun e w' => e = .returned (.tuple #[.string s, .bool true]) ∧ w = w' := by
  go_enter Try.func100, Try.ntmps100
  go_wp2_with fail
  go_ret2
  exact ⟨rfl, rfl⟩
theorem limitS_no (s : ByteArray) (w : World) (h : 25 < (s.size : Int)) : Calls Try.prog 100 #[.string s] w fun e w' => e = .returned (.tuple #[.string ⟨#[]⟩, .bool false]) ∧ w = w' := by
  go_enter Try.func100, Try.ntmps100
  go_wp2_with fail
  go_ret2
  exact ⟨rfl, rfl⟩

def graftO (a : ByteArray) (n : Int) (b : ByteArray) : Option ByteArray :=
  match treeOf a, treeOf b with
  | some t, some u => if 0 ≤ n ∧ n ≤ t.carets ∧ t.carets + u.carets ≤ 8 then some (graftS a n b) else none
  | _, _ => none

set_option maxRecDepth 100000 in
set_option maxHeartbeats 1000000 in
theorem leafPlace_neg (s : ByteArray) (n : Int) (w : World) (hs : s.size ≤ 1000) (hn : n < 0) (hn' : -9223372036854775808 ≤ n) :
    Calls Try.prog 127 #[.string s, .int .i64 n] w (Quietly (.int .i64 (-1)) w) := by
  go_enter Try.func127, Try.ntmps127
  go_wp2_with fail
  go_loopw [1, 8] (fun v i wr => ∃ (k : Nat) (m : Int) (d : Nat), k ≤ s.size ∧ i = .int .i64 k ∧ v = .int .i64 m ∧ -9223372036854775808 ≤ m ∧ m ≤ 9223372036854775807 ∧ Hid (m < 0 ∨ 9223372036854775807 - (k : Int) ≤ m) ∧ wr = w.drewN d) (fun _ i _ => s.size - (intOf i).toNat)
  case atStart => exact ⟨0, n, 0, Nat.zero_le _, rfl, rfl, by omega, by omega, .inl hn, rfl⟩
  case round =>
    obtain ⟨k, m, d, hk, rfl, rfl, hm, hm', hor, rfl⟩ := hrel
    by_cases hlt : k < s.size
    · cases h46 : (((s[k]'hlt).toNat : Int) == 46) with
      | true =>
        have h46' : Hid ((((s[k]'hlt).toNat : Int) != 46) = false) := by show (_ != _) = false; rw [bne, h46]; rfl
        clear h46
        have g0 : (m == 0) = false := by have := hor.out; simp; omega
        by_cases hmin : m = -9223372036854775808
        · obtain rfl := hmin
          go_wp2_with fail
          have g := h46'.out
          have gz : ((⟨#[46]⟩ : ByteArray)[0]'(by decide)).toNat = 46 := rfl
          go_quiet (fail)
          go_wp2_with fail
          clear g gz g0
          go_roundw
          case rel => exact ⟨k + 1, 9223372036854775807, _, by omega, by go_num, by unfold wrap64; rfl, by omega, by omega, .inr (by omega), rfl⟩
          case measure => simp [intOf]; omega
        · have hm2 : -9223372036854775807 ≤ m := by omega
          clear hmin
          go_wp2_with fail
          have g := h46'.out
          have gz : ((⟨#[46]⟩ : ByteArray)[0]'(by decide)).toNat = 46 := rfl
          go_quiet (fail)
          go_wp2_with fail
          clear g gz g0
          go_roundw
          case rel => exact ⟨k + 1, m - 1, _, by omega, by go_num, rfl, by omega, by omega, by have := hor.out; show _ ∨ _; omega, rfl⟩
          case measure => simp [intOf]; omega
      | false =>
        have h46' : Hid ((((s[k]'hlt).toNat : Int) != 46) = true) := by show (_ != _) = true; rw [bne, h46]; rfl
        clear h46
        go_wp2_with fail
        have g := h46'.out
        have gz : ((⟨#[46]⟩ : ByteArray)[0]'(by decide)).toNat = 46 := rfl
        go_quiet (fail)
        go_wp2_with fail
        clear g gz
        go_roundw
        case rel => exact ⟨k + 1, m, _, by omega, by go_num, rfl, by omega, by omega, by have := hor.out; show _ ∨ _; omega, rfl⟩
        case measure => simp [intOf]; omega
    · obtain rfl : k = s.size := by omega
      go_wp2_with fail
      go_ret
      exact ⟨rfl, _, rfl⟩

end Go.Proofs.Ytplmbdljhgicfaa

/-! Drop -/
namespace Go.Proofs.Ytplmbdljhgicfaa
open Go.RowKit

set_option maxRecDepth 100000 in
set_option maxHeartbeats 1000000 in
theorem trDrop_any (s : ByteArray) (n : Int) (q : Nat) (w : World) (hs : s.size ≤ 1000) (hn : 0 ≤ n) (hn' : n ≤ 9223372036854775807) (hp : posFrom s.data.toList 0 n = (q : Int) + 1) (hq : q + 4 ≤ s.size) :
    Calls Try.prog 93 #[.string s, .int .i64 n] w (Gives (.string (dropS s q)) w) := by
  have HP0 := Lib.hid hp
  clear hp
  go_enter Try.func93, Try.ntmps93
  go_wp2_with fail
  go_loopw [5, 6] (fun v i wr => ∃ (k : Nat) (c : Int), k ≤ s.size ∧ i = .int .i64 k ∧ v = .int .i64 c ∧ 0 ≤ c ∧ c ≤ n ∧ c ≤ k ∧ wr = w ∧ Hid (posFrom s.data.toList 0 n = posFrom (s.data.toList.drop k) k (n - c))) (fun _ i _ => s.size - (intOf i).toNat)
  case atStart => exact ⟨0, 0, Nat.zero_le _, rfl, rfl, by omega, by omega, by omega, rfl, by show _ = _; simp⟩
  case round =>
    obtain ⟨k, c, hk, rfl, rfl, hc1, hc2, hck, rfl, he⟩ := hrel
    by_cases hlt : k < s.size
    · cases h46 : (((s[k]'hlt).toNat : Int) == 46) with
      | true =>
        have h46n : Hid ((((s[k]'hlt).toNat : Int) != 46) = false) := by show (_ != _) = false; rw [bne, h46]; rfl
        have hp := posFrom_dot (off := k) (n := n - c) hlt h46
        have HP := Lib.hid hp
        clear hp h46
        by_cases hm0 : c = n
        · have g0 : (c == n) = true := by simp [hm0]
          have hkq : k = q + 1 := by
            have h1 := he.out
            rw [HP.out, if_pos (by omega), HP0.out] at h1
            omega
          have HM := Lib.hid hm0
          have HKQ := Lib.hid hkq
          have hk1 : (1 : Int) ≤ k := by omega
          have hk3 : (k : Int) + 3 ≤ s.size := by omega
          clear hm0 hkq
          have g := h46n.out
          go_wp2_with fail
          clear g g0
          go_quiet (fail)
          go_wp2_with fail
          go_ret
          exact ⟨ret_str (by unfold dropS; rw [HKQ.out, Nat.add_sub_cancel]), drewB (Below.refl _ _) _⟩
        · have g0 : (c == n) = false := by simp [hm0]
          have HM := Lib.hid hm0
          have hlt2 : c < n := by omega
          clear hm0
          have g := h46n.out
          go_wp2_with fail
          clear g g0
          go_roundw
          case rel => exact ⟨k + 1, c + 1, by omega, by go_num, rfl, by omega, by omega, by omega, trivial, by show _ = _; rw [he.out, HP.out, if_neg (by omega)]; congr 1; omega⟩
          case measure => simp [intOf]; omega
      | false =>
        have h46n : Hid ((((s[k]'hlt).toNat : Int) != 46) = true) := by show (_ != _) = true; rw [bne, h46]; rfl
        have hp := posFrom_other (off := k) (n := n - c) hlt h46
        have HP := Lib.hid hp
        clear hp h46
        have g := h46n.out
        go_wp2_with fail
        clear g
        go_roundw
        case rel => exact ⟨k + 1, c, by omega, by go_num, rfl, by omega, by omega, by omega, trivial, by show _ = _; rw [he.out, HP.out]⟩
        case measure => simp [intOf]; omega
    · obtain rfl : k = s.size := by omega
      exfalso
      have h1 := he.out
      rw [posFrom_end, HP0.out] at h1
      omega

def dropExpO (a : ByteArray) (n : Int) : Option ByteArray :=
  match treeOf a with
  | some _ => dropO a n
  | none => none

theorem has_exL (l : List UInt8) (n : Int) : (exL l 0).contains n = dropB l n := by
  rw [Bool.eq_iff_iff, List.contains_iff_mem, mem_exL]
  simp

set_option maxHeartbeats 1000000 in
theorem withoutExposed_any (s : ByteArray) (n : Int) (w : World) (hsm : s.size ≤ 1000) (lo : -9223372036854775808 ≤ n) (hi : n ≤ 9223372036854775807) :
    Calls Try.prog 113 #[.string s, .int .i64 n] w (Gives (ans2 (dropO s n)) w) := by
  have hl : ∀ w, Calls Try.prog 127 #[.string s, .int .i64 n] w (Quietly (.int .i64 (posFrom s.data.toList 0 n)) w) := by
    intro w
    by_cases hneg : n < 0
    · rw [posFrom_neg _ _ _ hneg]; exact leafPlace_neg s n w hsm hneg lo
    · exact leafPlace_any s n w (by omega) (by omega) hi
  have hr := posFrom_range s.data.toList 0 n
  have hrl : s.data.toList.length = s.size := (Lib.size_eq _).symm
  by_cases h1 : posFrom s.data.toList 0 n < 1
  · have hnone : dropO s n = none := by
      unfold dropO
      rw [if_neg]
      intro e
      obtain ⟨q, hp, _⟩ := dropB_true e
      omega
    rw [hnone]
    have hr' : -1 ≤ posFrom s.data.toList 0 n := by omega
    obtain ⟨p, hp⟩ : ∃ p, p = posFrom s.data.toList 0 n := ⟨_, rfl⟩
    rw [← hp] at hl h1 hr'
    clear hp hnone hr hrl
    go_enter Try.func113, Try.ntmps113
    go_wp2_with fail
    refine (hl _).mono ?_; rintro e w2 ⟨rfl, d, rfl⟩
    go_wp2_with fail
    go_ret2
    exact ⟨rfl, drewB (Below.refl _ _) _⟩
  · obtain ⟨q, hp⟩ : ∃ q : Nat, posFrom s.data.toList 0 n = (q : Int) + 1 := ⟨(posFrom s.data.toList 0 n).toNat - 1, by omega⟩
    have hql : (q : Int) ≤ s.size := by omega
    have hpc := hasPrefixS_any (s.extract q s.size) (ByteArray.mk #[40, 46, 46, 41])
    rw [expB_from] at hpc
    have hsz : (s.extract q s.size).size ≤ 9223372036854775806 := by simp; omega
    have hdB : dropB s.data.toList n = expB (s.data.toList.drop q) := by
      unfold dropB
      rw [hp]
      have t2 : ((q : Int) + 1).toNat - 1 = q := by omega
      rw [t2, decide_eq_true (by omega : 1 ≤ (q : Int) + 1), Bool.true_and]
    have hv : Hid ((posFrom s.data.toList 0 n).toNat - 1 = q) := by show _ = _; rw [hp]; omega
    rw [hp] at hl
    unfold dropO
    cases hE : expB (s.data.toList.drop q) with
    | false =>
      rw [hE] at hpc
      rw [hdB, hE]
      clear hp hr hrl h1 hdB hE
      go_enter Try.func113, Try.ntmps113
      go_wp2_with fail
      refine (hl _).mono ?_; rintro e w2 ⟨rfl, d, rfl⟩
      go_wp2_with fail
      refine (hpc _ hsz (by decide)).mono ?_; rintro e w3 ⟨rfl, rfl⟩
      go_wp2_with fail
      go_ret2
      exact ⟨rfl, drewB (Below.refl _ _) _⟩
    | true =>
      have hq4 := expB_drop hE
      rw [hrl] at hq4
      have hq4' : (q : Int) + 4 ≤ s.size := by omega
      rw [hE] at hpc
      rw [hdB, hE]
      clear hp hr hrl h1 hdB hE
      go_enter Try.func113, Try.ntmps113
      go_wp2_with fail
      refine (hl _).mono ?_; rintro e w2 ⟨rfl, d, hw2⟩
      have hb2 : Below w.heap.size w w2 := by rw [hw2]; exact drewB (Below.refl _ _) d
      clear hw2
      go_wp2_with fail
      refine (hpc _ hsz (by decide)).mono ?_; rintro e w3 ⟨rfl, rfl⟩
      go_wp2_with fail
      go_quiet (fail)
      go_wp2_with fail
      go_ret2
      exact ⟨by rw [hv.out]; rfl, drewB hb2 _⟩

end Go.Proofs.Ytplmbdljhgicfaa

/-! Reduce -/
namespace Go.Proofs.Ytplmbdljhgicfaa
open Go.RowKit

theorem trDrop_tr (t : Tr) (n : Int) (w : World) (ht : t.carets ≤ 300) (hn : n ∈ t.exps 0) :
    Calls Try.prog 93 #[.string t.str, .int .i64 n] w (Gives (.string (t.dropAt n).str) w) := by
  obtain ⟨h1, h2⟩ := drop_str t n hn
  obtain ⟨q, hp, hq, _, h0⟩ := dropB_true ((dropB_str t n).2 hn)
  have hr := exps_range t 0 n hn
  have hz := t.str_size
  have := trDrop_any t.str n q w (by omega) h0 (by simp [Tr.leaves] at hr; omega) hp hq
  rw [← h2, hp]
  have e : ((q : Int) + 1).toNat - 1 = q := by omega
  rw [e]
  exact this

theorem withoutExposed_tr (t : Tr) (n : Int) (w : World) (ht : t.carets ≤ 300) (hn : n ∈ t.exps 0) :
    Calls Try.prog 113 #[.string t.str, .int .i64 n] w (Gives (.tuple #[.string (t.dropAt n).str, .bool true]) w) := by
  obtain ⟨h1, h2⟩ := drop_str t n hn
  have hr := exps_range t 0 n hn
  have hz := t.str_size
  simp [Tr.leaves] at hr
  have := withoutExposed_any t.str n w (by omega) (by omega) (by omega)
  unfold dropO at this
  rw [if_pos ((dropB_str t n).2 hn), h2] at this
  exact this

/-- How long the first text of a block is. -/
def sizeAt (w : World) (b : Nat) : Nat := match w.heap[b]? with
  | some (.cells cs _ _) => match cs[0]? with
    | some (Value.string s) => s.size
    | _ => 0
  | _ => 0
theorem sizeAt_of {w : World} {b : Nat} {s u : ByteArray} {t : TypeId} (h : w.heap[b]? = some (.cells #[.string s, .string u] t (0, 0))) : sizeAt w b = s.size := by
  simp [sizeAt, h]

theorem pick_drop (cs : List Int) (j k : Nat) : pickI (cs.drop j) k = if j < cs.length then (cs.getD j 0 % k).toNat else 0 := by
  by_cases h : j < cs.length
  · rw [if_pos h, List.drop_eq_getElem_cons h]
    simp [pickI, h]
  · rw [if_neg h, List.drop_of_length_le (by omega)]
    rfl

theorem both_in (p : Pr) (h : p.1.carets ≤ 200) (i : Nat) (hi : i < (both p).length) : (both p).getD i 0 ∈ p.1.exps 0 ∧ (both p).getD i 0 ∈ p.2.exps 0 ∧ 0 ≤ (both p).getD i 0 ∧ (both p).getD i 0 ≤ 200 := by
  have hm : (both p).getD i 0 ∈ both p := by
    rw [List.getD_eq_getElem?_getD, List.getElem?_eq_getElem hi]
    exact List.getElem_mem _
  have h1 := mem_both.1 hm
  have hr := exps_range p.1 0 _ h1.1
  simp only [Tr.leaves] at hr
  exact ⟨h1.1, h1.2, by omega, by omega⟩

theorem redBy_pick {p : Pr} (cs : List Int) (i : Nat) (hl : 0 < (both p).length) (hi : i = pickI cs (both p).length) : redBy p cs = redBy (dropP p ((both p).getD i 0)) cs.tail := by
  cases h : both p with
  | nil => rw [h] at hl; simp at hl
  | cons n ns =>
    rw [redBy_step h, hi, h]
    rfl

set_option maxRecDepth 100000 in
set_option maxHeartbeats 2000000 in
theorem prReduce_any (p0 : Pr) (v : Value) (cs : List Int) (b1 : Nat) (w : World) (h1 : p0.1.carets ≤ 200) (h2 : p0.2.carets ≤ 200) (hv : CellsI b1 w v cs) (hcs : ∀ c ∈ cs, 0 ≤ c ∧ c ≤ 9223372036854775807) :
    Calls Try.prog 63 #[.agg #[.string p0.1.str, .string p0.2.str], v] w (Gives (.agg #[.string (redBy p0 cs).1.str, .string (redBy p0 cs).2.str]) w) := by
  have hB : ∀ (p : Pr) w, p.1.carets ≤ 200 → p.2.carets ≤ 200 → Calls Try.prog 92 #[.agg #[.string p.1.str, .string p.2.str]] w (GivesInts (both p) w) := by
    intro p w k1 k2
    have := prBoth_any p.1.str p.2.str w (by have := p.1.str_size; omega) (by have := p.2.str_size; omega)
    rwa [bothL_str] at this
  obtain ⟨oa, ccap, rfl, hcl, hcm, hcc⟩ := hv.form
  unfold maxLen at hcm
  clear hv
  go_enter Try.func63, Try.ntmps63
  go_wp2_with fail
  have hb0 : Below w.heap.size w ((w.alloc (.cells #[.string p0.1.str, .string p0.2.str] 40 (0, 0))).alloc (.cells #[.string ⟨#[]⟩, .string ⟨#[]⟩] 40 (0, 0))) := nxAlloc (nxAlloc (Below.refl _ _) _) _
  have hx1 := heap_keep (nxAlloc (Below.refl _ _) (.cells #[.string ⟨#[]⟩, .string ⟨#[]⟩] 40 (0, 0))) (heap_alloc_at w (.cells #[.string p0.1.str, .string p0.2.str] 40 (0, 0)))
  have hx2 := heap_alloc_at (w.alloc (.cells #[.string p0.1.str, .string p0.2.str] 40 (0, 0))) (.cells #[.string ⟨#[]⟩, .string ⟨#[]⟩] 40 (0, 0))
  generalize (w.alloc (.cells #[.string p0.1.str, .string p0.2.str] 40 (0, 0))).alloc (.cells #[.string ⟨#[]⟩, .string ⟨#[]⟩] 40 (0, 0)) = w0 at *
  have e2 : (w.alloc (.cells #[.string p0.1.str, .string p0.2.str] 40 (0, 0))).heap.size = w.heap.size + 1 := by simp
  rw [e2] at hx2
  clear e2
  have hs0 : w.heap.size + 1 < w0.heap.size := lt_of_block hx2
  refine (hB p0 _ h1 h2).mono ?_; rintro e w1 ⟨v6, own, hb1, rfl⟩
  have hb01 := nx hb0 hb1
  have hy1 := heap_keep hb1 hx1
  have hy2 := heap_keep hb1 hx2
  have own' : OwnI (w.heap.size + 2) w1 v6 (both p0) := own.mono hs0
  have hs1 : w.heap.size + 2 ≤ w1.heap.size := Nat.le_trans hs0 hb1.size
  clear own hx1 hx2 hb0 hb1 hs0
  go_wp2_with fail
  go_loopw [5, 6] (fun s b wr => ∃ (p : Pr) (j : Nat), s = .int .i64 j ∧ OwnI (w.heap.size + 2) wr b (both p) ∧ wr.heap[w.heap.size]? = some (.cells #[.string p.1.str, .string p.2.str] 40 (0, 0)) ∧ wr.heap[w.heap.size + 1]? = some (.cells #[.string ⟨#[]⟩, .string ⟨#[]⟩] 40 (0, 0)) ∧ Below w.heap.size w wr ∧ w.heap.size + 2 ≤ wr.heap.size ∧ j + p.1.carets ≤ 200 ∧ p.2.carets ≤ 200 ∧ Hid (redBy p0 cs = redBy p (cs.drop j))) (fun _ _ wr => sizeAt wr w.heap.size)
  case atStart => exact ⟨p0, 0, rfl, own', hy1, hy2, hb01, hs1, by omega, h2, rfl⟩
  case round =>
    obtain ⟨p, j, rfl, hown, hy1, hy2, hbw, hsz, hj, hp2, he⟩ := hrel
    have hf := hown.cells.form
    by_cases hl : (both p).length = 0
    · have hnil : both p = [] := List.length_eq_zero_iff.1 hl
      have he' := he.out
      rw [redBy_end hnil] at he'
      have HE := Lib.hid he'
      obtain ⟨ob, bcap, rfl, _, _, _⟩ := hf
      rw [hl]
      have hl2 := two_cells hy1
      obtain ⟨k1, k2⟩ := hl2
      obtain ⟨n1, n2⟩ := two_cells hy2
      obtain ⟨f1, f2⟩ := two_frozen hy2
      clear hl hnil he he' hown
      go_wp2_with fail
      obtain ⟨r1, r2⟩ := two_cells (set_two (.string p.1.str) (.string p.2.str) hy2)
      refine bodyPost_ret (v := .agg #[.string p.1.str, .string p.2.str]) (by simp [r1, r2, results, Try.results63, go_sem]) rfl ⟨by rw [HE.out], ?_⟩
      exact (hbw.setCell (by simp) _).setCell (by simp) _
    · -- a step
      have hlp : 0 < (both p).length := by omega
      have hlp' : (0 : Int) < ((both p).length : Int) := by omega
      have hpi := pickI_lt (cs.drop j) (both p).length hlp
      obtain ⟨i, hi⟩ : ∃ i, i = pickI (cs.drop j) (both p).length := ⟨_, rfl⟩
      rw [← hi] at hpi
      have hst := redBy_pick (cs.drop j) i hlp hi
      rw [pick_drop] at hi
      obtain ⟨m1, m2, _, _⟩ := both_in p (by omega) i hpi
      obtain ⟨ob, bcap, rfl, hbc, hbm, hbcell⟩ := hf
      unfold maxLen at hbm
      obtain ⟨g, rfl, hg0, hg1, c1⟩ := hbcell i hpi
      obtain ⟨x, hx⟩ : ∃ x, x = (both p).getD i 0 := ⟨_, rfl⟩
      rw [← hx] at hst m1 m2 c1
      have hstep := Lib.hid hst
      have T1 := fun w => trDrop_tr p.1 x w (by omega) m1
      have T2 := fun w => trDrop_tr p.2 x w (by omega) m2
      have hdc := dropP_carets (p := p) (n := x) (mem_both.2 ⟨m1, m2⟩)
      obtain ⟨hd1, hd2⟩ := hdc
      have HS1 := Lib.hid (sizeAt_of hy1)
      obtain ⟨k1, k2⟩ := two_cells hy1
      have hB1 : w.heap.size < wr.heap.size := by omega
      generalize hL : (both p).length = L at *
      have HL := Lib.hid hL
      clear hL hx hst m1 m2 hbcell hl hown
      by_cases hjc : j < cs.length
      · rw [if_pos hjc] at hi
        obtain ⟨g2, rfl, _, hg2, c2⟩ := hcc j hjc
        have c2' := (hbw.cell (p := ⟨g2, j, none⟩) hg2).trans c2
        have hcb := hcs (cs.getD j 0) (by rw [List.getD_eq_getElem?_getD, List.getElem?_eq_getElem hjc]; exact List.getElem_mem _)
        obtain ⟨hc0, hc9⟩ := hcb
        generalize cs.getD j 0 = c at *
        have hrem : c % (L : Int) = (i : Int) := by
          have := Int.emod_nonneg c (show (L : Int) ≠ 0 by omega)
          omega
        have hjc' : (j : Int) < (cs.length : Int) := by omega
        have hpi' : (i : Int) < (L : Int) := by omega
        clear hi hcc c2
        go_wp2_with fail
        refine wp_region_clsT 15 (by kernel_rfl) (by kernel_rfl) ?_
        simp only [List.take_succ_cons, List.take_zero, List.drop_succ_cons, List.drop_zero]
        repeat (
          refine wpQuiet_step (fun K hK => ?_)
          go_simp
          first
            | (refine hK _ ?_; clear hK K)
            | (refine ⟨_, fun _ _ => rfl, hK _ ?_⟩; clear hK K)
            | (apply Exists.intro
               refine ⟨fun w' hw' => ?_, hK _ ?_⟩
               · first
                   | (rw [hw'.cell hB1 k1]; exact ⟨rfl, rfl⟩)
                   | (rw [hw'.cell hB1 k2]; exact ⟨rfl, rfl⟩)
                   | (rw [hw'.cell hg1 c1]; exact ⟨rfl, rfl⟩)
                   | (go_at_call 93; first | (with_reducible exact hw'.call (T1 _)) | (with_reducible exact hw'.call (T2 _)))
               clear hK K))
        refine wpQuiet_nil ?_
        intro w' hw'
        have hbw' := nx hbw hw'
        have hz1 := heap_keep hw' hy1
        have hz2 := heap_keep hw' hy2
        obtain ⟨n1, n2⟩ := two_cells hz1
        obtain ⟨f1, f2⟩ := two_frozen hz1
        have hsz' := Nat.le_trans hsz hw'.size
        clear hbw hw' hy1 hy2 k1 k2 c1
        go_wp2_with fail
        have hr1 := set_two (.string (p.1.dropAt x).str) (.string (p.2.dropAt x).str) hz1
        have hr2 : ((w'.setCell ⟨w.heap.size, 0, none⟩ (.string (p.1.dropAt x).str)).setCell ⟨w.heap.size, 1, none⟩ (.string (p.2.dropAt x).str)).heap[w.heap.size + 1]? = some (.cells #[.string ⟨#[]⟩, .string ⟨#[]⟩] 40 (0, 0)) := by
          rw [Below.heap_setCell _ _ _ _ (by simp), Below.heap_setCell _ _ _ _ (by simp)]; exact hz2
        have hbw2 : Below w.heap.size w ((w'.setCell ⟨w.heap.size, 0, none⟩ (.string (p.1.dropAt x).str)).setCell ⟨w.heap.size, 1, none⟩ (.string (p.2.dropAt x).str)) := (hbw'.setCell (Nat.le_refl _) _).setCell (Nat.le_refl _) _
        have hsz2 : w.heap.size + 2 ≤ ((w'.setCell ⟨w.heap.size, 0, none⟩ (.string (p.1.dropAt x).str)).setCell ⟨w.heap.size, 1, none⟩ (.string (p.2.dropAt x).str)).heap.size := by simpa using hsz'
        generalize (w'.setCell ⟨w.heap.size, 0, none⟩ (.string (p.1.dropAt x).str)).setCell ⟨w.heap.size, 1, none⟩ (.string (p.2.dropAt x).str) = w3 at *
        obtain ⟨n1', n2'⟩ := two_cells hr1
        refine (hB (dropP p x) _ (by omega) (by omega)).mono ?_; rintro e w4 ⟨v7, own7, hb4, rfl⟩
        have hu1 := heap_keep hb4 hr1
        have hu2 := heap_keep hb4 hr2
        have own8 : OwnI (w.heap.size + 2) w4 v7 (both (dropP p x)) := own7.mono hsz2
        have hbw4 := nx hbw2 hb4
        have hsz4 := Nat.le_trans hsz2 hb4.size
        clear own7 hb4 hr1 hr2 hbw2 hsz2 n1' n2'
        go_wp2_with fail
        go_roundw
        case rel => exact ⟨dropP p x, j + 1, by go_num, own8, hu1, hu2, hbw4, hsz4, by omega, by omega, by show _ = _; rw [he.out, hstep.out, List.tail_drop]⟩
        case measure =>
          rw [sizeAt_of hu1, HS1.out, Tr.str_size, Tr.str_size]
          have hd1' : (p.1.dropAt x).carets + 1 = p.1.carets := hd1
          omega
      · rw [if_neg hjc] at hi
        subst hi
        have hjc' : ¬ (j : Int) < (cs.length : Int) := by omega
        clear hcc
        go_wp2_with fail
        refine wp_region_clsT 15 (by kernel_rfl) (by kernel_rfl) ?_
        simp only [List.take_succ_cons, List.take_zero, List.drop_succ_cons, List.drop_zero]
        repeat (
          refine wpQuiet_step (fun K hK => ?_)
          go_simp
          first
            | (refine hK _ ?_; clear hK K)
            | (refine ⟨_, fun _ _ => rfl, hK _ ?_⟩; clear hK K)
            | (apply Exists.intro
               refine ⟨fun w' hw' => ?_, hK _ ?_⟩
               · first
                   | (rw [hw'.cell hB1 k1]; exact ⟨rfl, rfl⟩)
                   | (rw [hw'.cell hB1 k2]; exact ⟨rfl, rfl⟩)
                   | (rw [hw'.cell hg1 c1]; exact ⟨rfl, rfl⟩)
                   | (go_at_call 93; first | (with_reducible exact hw'.call (T1 _)) | (with_reducible exact hw'.call (T2 _)))
               clear hK K))
        refine wpQuiet_nil ?_
        intro w' hw'
        have hbw' := nx hbw hw'
        have hz1 := heap_keep hw' hy1
        have hz2 := heap_keep hw' hy2
        obtain ⟨n1, n2⟩ := two_cells hz1
        obtain ⟨f1, f2⟩ := two_frozen hz1
        have hsz' := Nat.le_trans hsz hw'.size
        clear hbw hw' hy1 hy2 k1 k2 c1
        go_wp2_with fail
        have hr1 := set_two (.string (p.1.dropAt x).str) (.string (p.2.dropAt x).str) hz1
        have hr2 : ((w'.setCell ⟨w.heap.size, 0, none⟩ (.string (p.1.dropAt x).str)).setCell ⟨w.heap.size, 1, none⟩ (.string (p.2.dropAt x).str)).heap[w.heap.size + 1]? = some (.cells #[.string ⟨#[]⟩, .string ⟨#[]⟩] 40 (0, 0)) := by
          rw [Below.heap_setCell _ _ _ _ (by simp), Below.heap_setCell _ _ _ _ (by simp)]; exact hz2
        have hbw2 : Below w.heap.size w ((w'.setCell ⟨w.heap.size, 0, none⟩ (.string (p.1.dropAt x).str)).setCell ⟨w.heap.size, 1, none⟩ (.string (p.2.dropAt x).str)) := (hbw'.setCell (Nat.le_refl _) _).setCell (Nat.le_refl _) _
        have hsz2 : w.heap.size + 2 ≤ ((w'.setCell ⟨w.heap.size, 0, none⟩ (.string (p.1.dropAt x).str)).setCell ⟨w.heap.size, 1, none⟩ (.string (p.2.dropAt x).str)).heap.size := by simpa using hsz'
        generalize (w'.setCell ⟨w.heap.size, 0, none⟩ (.string (p.1.dropAt x).str)).setCell ⟨w.heap.size, 1, none⟩ (.string (p.2.dropAt x).str) = w3 at *
        obtain ⟨n1', n2'⟩ := two_cells hr1
        refine (hB (dropP p x) _ (by omega) (by omega)).mono ?_; rintro e w4 ⟨v7, own7, hb4, rfl⟩
        have hu1 := heap_keep hb4 hr1
        have hu2 := heap_keep hb4 hr2
        have own8 : OwnI (w.heap.size + 2) w4 v7 (both (dropP p x)) := own7.mono hsz2
        have hbw4 := nx hbw2 hb4
        have hsz4 := Nat.le_trans hsz2 hb4.size
        clear own7 hb4 hr1 hr2 hbw2 hsz2 n1' n2'
        go_wp2_with fail
        go_roundw
        case rel => exact ⟨dropP p x, j + 1, by go_num, own8, hu1, hu2, hbw4, hsz4, by omega, by omega, by show _ = _; rw [he.out, hstep.out, List.tail_drop]⟩
        case measure =>
          rw [sizeAt_of hu1, HS1.out, Tr.str_size, Tr.str_size]
          have hd1' : (p.1.dropAt x).carets + 1 = p.1.carets := hd1
          omega
end Go.Proofs.Ytplmbdljhgicfaa

/-! RedBy -/
namespace Go.Proofs.Ytplmbdljhgicfaa
open Go.RowKit

theorem firstOf_any (n : Int) (w : World) : Calls Try.prog 96 #[.int .i64 n] w fun e w' => e = .returned (.int .i64 0) ∧ w = w' := by
  go_enter Try.func96, Try.ntmps96
  go_wp2
  go_ret
  exact ⟨rfl, rfl⟩

theorem sharedExposed_tr (p : Pr) (w : World) (k1 : p.1.carets ≤ 200) (k2 : p.2.carets ≤ 200) : Calls Try.prog 112 #[.agg #[.string p.1.str, .string p.2.str]] w (GivesInts (both p) w) := by
  have := sharedExposed_any p.1.str p.2.str w (by have := p.1.str_size; omega) (by have := p.2.str_size; omega)
  rwa [bothL_str] at this

theorem redBy_first {p : Pr} (hl : 0 < (both p).length) : red p = red (dropP p ((both p).getD 0 0)) := by
  have := redBy_pick (p := p) [] 0 hl rfl
  exact this

set_option maxRecDepth 100000 in
set_option maxHeartbeats 2000000 in
theorem reducedBy_first (p0 : Pr) (w : World) (h1 : p0.1.carets ≤ 200) (h2 : p0.2.carets ≤ 200) :
    Calls Try.prog 95 #[.agg #[.string p0.1.str, .string p0.2.str], .func (Fn.func 96) #[] #[]] w (Gives (.agg #[.string (red p0).1.str, .string (red p0).2.str]) w) := by
  go_enter Try.func95, Try.ntmps95
  go_wp2_with fail
  have hb0 : Below w.heap.size w ((w.alloc (.cells #[.string p0.1.str, .string p0.2.str] 40 (0, 0))).alloc (.cells #[.string ⟨#[]⟩, .string ⟨#[]⟩] 40 (0, 0))) := nxAlloc (nxAlloc (Below.refl _ _) _) _
  have hx1 := heap_keep (nxAlloc (Below.refl _ _) (.cells #[.string ⟨#[]⟩, .string ⟨#[]⟩] 40 (0, 0))) (heap_alloc_at w (.cells #[.string p0.1.str, .string p0.2.str] 40 (0, 0)))
  have hx2 := heap_alloc_at (w.alloc (.cells #[.string p0.1.str, .string p0.2.str] 40 (0, 0))) (.cells #[.string ⟨#[]⟩, .string ⟨#[]⟩] 40 (0, 0))
  generalize (w.alloc (.cells #[.string p0.1.str, .string p0.2.str] 40 (0, 0))).alloc (.cells #[.string ⟨#[]⟩, .string ⟨#[]⟩] 40 (0, 0)) = w0 at *
  have e2 : (w.alloc (.cells #[.string p0.1.str, .string p0.2.str] 40 (0, 0))).heap.size = w.heap.size + 1 := by simp
  rw [e2] at hx2
  clear e2
  have hs0 : w.heap.size + 1 < w0.heap.size := lt_of_block hx2
  go_loopw [5] (fun _ wr => ∃ (p : Pr), wr.heap[w.heap.size]? = some (.cells #[.string p.1.str, .string p.2.str] 40 (0, 0)) ∧ wr.heap[w.heap.size + 1]? = some (.cells #[.string ⟨#[]⟩, .string ⟨#[]⟩] 40 (0, 0)) ∧ Below w.heap.size w wr ∧ w.heap.size + 2 ≤ wr.heap.size ∧ p.1.carets ≤ 200 ∧ p.2.carets ≤ 200 ∧ Hid (red p0 = red p)) (fun _ wr => sizeAt wr w.heap.size)
  case atStart => exact ⟨p0, hx1, hx2, hb0, hs0, h1, h2, rfl⟩
  case round =>
    obtain ⟨p, hy1, hy2, hbw, hsz, hp1, hp2, he⟩ := hrel
    have HS1 := Lib.hid (sizeAt_of hy1)
    obtain ⟨k1, k2⟩ := two_cells hy1
    go_wp2_with fail
    refine (sharedExposed_tr p _ hp1 hp2).mono ?_; rintro e w1 ⟨v5, own, hb1, rfl⟩
    have hz1 := heap_keep hb1 hy1
    have hz2 := heap_keep hb1 hy2
    have hbw1 := nx hbw hb1
    have hsz1 := Nat.le_trans hsz hb1.size
    have hown : OwnI (w.heap.size + 2) w1 v5 (both p) := own.mono hsz
    have hf := hown.cells.form
    clear own hb1 hbw hsz k1 k2 hy1 hy2 hown
    obtain ⟨k1, k2⟩ := two_cells hz1
    obtain ⟨ob, bcap, rfl, hbc, hbm, hbcell⟩ := hf
    unfold maxLen at hbm
    by_cases hl : (both p).length = 0
    · have hnil : both p = [] := List.length_eq_zero_iff.1 hl
      have he' := he.out
      rw [(red_self p).2 hnil] at he'
      have HE := Lib.hid he'
      rw [hl]
      obtain ⟨n1, n2⟩ := two_cells hz2
      obtain ⟨f1, f2⟩ := two_frozen hz2
      clear hl hnil he he' hbcell
      go_wp2_with fail
      obtain ⟨r1, r2⟩ := two_cells (set_two (.string p.1.str) (.string p.2.str) hz2)
      refine bodyPost_ret (v := .agg #[.string p.1.str, .string p.2.str]) (by simp [r1, r2, results, Try.results95, go_sem]) rfl ⟨by rw [HE.out], ?_⟩
      exact (hbw1.setCell (by simp) _).setCell (by simp) _
    · -- a step
      have hlp : 0 < (both p).length := by omega
      have hlp' : (((both p).length : Int) == 0) = false := by rw [beq_eq_false_iff_ne]; omega
      have hst := redBy_first hlp
      obtain ⟨m1, m2, hx0, hx9⟩ := both_in p hp1 0 hlp
      obtain ⟨g, rfl, hg0, hg1, c1⟩ := hbcell 0 hlp
      obtain ⟨x, hx⟩ : ∃ x, x = (both p).getD 0 0 := ⟨_, rfl⟩
      rw [← hx] at hst m1 m2 c1 hx0 hx9
      have hstep := Lib.hid hst
      have T1 := fun w => withoutExposed_tr p.1 x w (by omega) m1
      have T2 := fun w => withoutExposed_tr p.2 x w (by omega) m2
      obtain ⟨hd1, hd2⟩ := dropP_carets (p := p) (n := x) (mem_both.2 ⟨m1, m2⟩)
      generalize hL : (both p).length = L at *
      have HL := Lib.hid hL
      have hlq : (0 : Int) < (L : Int) := by omega
      obtain ⟨f1, f2⟩ := two_frozen hz1
      clear hL hx hst m1 m2 hbcell hl
      go_wp2_with fail
      refine (firstOf_any _ _).mono ?_; rintro e w2 ⟨rfl, rfl⟩
      go_wp2_with fail
      refine (T1 _).mono ?_; rintro e w2 ⟨rfl, hb2⟩
      have hz1 := heap_keep hb2 hz1
      have hz2 := heap_keep hb2 hz2
      have hbw2 := nx hbw1 hb2
      have hsz2 := Nat.le_trans hsz1 hb2.size
      obtain ⟨n1, n2⟩ := two_cells hz1
      obtain ⟨f1, f2⟩ := two_frozen hz1
      clear c1 k1 k2 hb2 hbw1 hsz1
      go_wp2_with fail
      have hr1 := set_first (u' := .string (p.1.dropAt x).str) hz1
      have hr2 : (w2.setCell ⟨w.heap.size, 0, none⟩ (.string (p.1.dropAt x).str)).heap[w.heap.size + 1]? = some (.cells #[.string ⟨#[]⟩, .string ⟨#[]⟩] 40 (0, 0)) := by
        rw [Below.heap_setCell _ _ _ _ (by simp)]; exact hz2
      have hbw3 : Below w.heap.size w (w2.setCell ⟨w.heap.size, 0, none⟩ (.string (p.1.dropAt x).str)) := hbw2.setCell (Nat.le_refl _) _
      have hsz3 : w.heap.size + 2 ≤ (w2.setCell ⟨w.heap.size, 0, none⟩ (.string (p.1.dropAt x).str)).heap.size := by simpa using hsz2
      generalize w2.setCell ⟨w.heap.size, 0, none⟩ (.string (p.1.dropAt x).str) = w3 at *
      clear hz1 hz2 n1 n2 f1 f2 hbw2 hsz2
      refine (T2 _).mono ?_; rintro e w4 ⟨rfl, hb4⟩
      have hz1 := heap_keep hb4 hr1
      have hz2 := heap_keep hb4 hr2
      have hbw4 := nx hbw3 hb4
      have hsz4 := Nat.le_trans hsz3 hb4.size
      obtain ⟨n1, n2⟩ := two_cells hz1
      obtain ⟨f1, f2⟩ := two_frozen hz1
      clear hr1 hr2 hbw3 hsz3 hb4
      go_wp2_with fail
      have hu1 := set_second (v' := .string (p.2.dropAt x).str) hz1
      have hu2 : (w4.setCell ⟨w.heap.size, 1, none⟩ (.string (p.2.dropAt x).str)).heap[w.heap.size + 1]? = some (.cells #[.string ⟨#[]⟩, .string ⟨#[]⟩] 40 (0, 0)) := by
        rw [Below.heap_setCell _ _ _ _ (by simp)]; exact hz2
      have hbw5 : Below w.heap.size w (w4.setCell ⟨w.heap.size, 1, none⟩ (.string (p.2.dropAt x).str)) := hbw4.setCell (Nat.le_refl _) _
      have hsz5 : w.heap.size + 2 ≤ (w4.setCell ⟨w.heap.size, 1, none⟩ (.string (p.2.dropAt x).str)).heap.size := by simpa using hsz4
      go_roundw
      case rel => exact ⟨dropP p x, hu1, hu2, hbw5, hsz5, by omega, by omega, by show _ = _; rw [he.out, hstep.out]⟩
      case measure =>
        rw [sizeAt_of hu1, HS1.out, Tr.str_size, Tr.str_size]
        have hd1' : (p.1.dropAt x).carets + 1 = p.1.carets := hd1
        omega
end Go.Proofs.Ytplmbdljhgicfaa

/-! WReducePair -/
namespace Go.Proofs.Ytplmbdljhgicfaa
open Go.RowKit

theorem prReduce_nil (p : Pr) (w : World) (h1 : p.1.carets ≤ 200) (h2 : p.2.carets ≤ 200) :
    Calls Try.prog 63 #[.agg #[.string p.1.str, .string p.2.str], .slice none 0 0] w (Gives (.agg #[.string (red p).1.str, .string (red p).2.str]) w) :=
  prReduce_any p _ [] 0 w h1 h2 (.inl ⟨rfl, rfl⟩) (fun c hc => by simp at hc)

set_option maxHeartbeats 1000000 in
theorem implReducePair_any (a b : ByteArray) (w : World) (ha : a.size ≤ 9223372036854775806) (hb : b.size ≤ 9223372036854775806) :
    Calls Try.prog 65 #[.agg #[.string a, .string b]] w (Gives (ansPr ((pairOf a b).bind fun p => some (red p))) w) := by
  have hg := fun w => isPair_any a b w ha hb
  cases h : pairOf a b with
  | none =>
    rw [h] at hg
    clear h
    go_enter Try.func65, Try.ntmps65
    go_wp2_with fail
    have hb0 : Below w.heap.size w ((w.alloc (.cells #[.string a, .string b] 40 (0, 0))).alloc (.cells #[.string ⟨#[]⟩, .string ⟨#[]⟩] 40 (0, 0))) := nxAlloc (nxAlloc (Below.refl _ _) _) _
    have hx0 := heap_keep (nxAlloc (Below.refl _ _) (.cells #[.string ⟨#[]⟩, .string ⟨#[]⟩] 40 (0, 0))) (heap_alloc_at w (.cells #[.string a, .string b] 40 (0, 0)))
    have hx1 := heap_alloc_at (w.alloc (.cells #[.string a, .string b] 40 (0, 0))) (.cells #[.string ⟨#[]⟩, .string ⟨#[]⟩] 40 (0, 0))
    generalize ((w.alloc (.cells #[.string a, .string b] 40 (0, 0))).alloc (.cells #[.string ⟨#[]⟩, .string ⟨#[]⟩] 40 (0, 0))) = w0 at *
    have e1 : (w.alloc (.cells #[.string a, .string b] 40 (0, 0))).heap.size = w.heap.size + 1 := by simp
    rw [e1] at hx1
    clear e1
    obtain ⟨hx0a, hx0b, hx0c⟩ := two_facts hx0
    obtain ⟨hx0f, hx0g⟩ := two_frozen hx0
    obtain ⟨hx1a, hx1b, hx1c⟩ := two_facts hx1
    obtain ⟨hx1f, hx1g⟩ := two_frozen hx1
    refine (hg _).mono ?_; rintro e w1 ⟨rfl, hb1⟩
    have hbw1 := nx hb0 hb1
    replace hx0 := heap_keep hb1 hx0
    replace hx1 := heap_keep hb1 hx1
    clear hx0a hx0b hx0c hx0f hx0g
    obtain ⟨hx0a, hx0b, hx0c⟩ := two_facts hx0
    obtain ⟨hx0f, hx0g⟩ := two_frozen hx0
    clear hx1a hx1b hx1c hx1f hx1g
    obtain ⟨hx1a, hx1b, hx1c⟩ := two_facts hx1
    obtain ⟨hx1f, hx1g⟩ := two_frozen hx1
    clear hb1 hb0
    go_wp2_with fail
    obtain ⟨q1, q2⟩ := two_cells (set_two (.string ⟨#[]⟩) (.string ⟨#[]⟩) hx1)
    refine bodyPost_ret (v := .tuple #[.agg #[.string ⟨#[]⟩, .string ⟨#[]⟩], .bool false]) (by simp [q1, q2, results, Try.results65, go_sem]) rfl ⟨rfl, ?_⟩
    exact (hbw1.setCell (by show w.heap.size ≤ w.heap.size + 1; omega) _).setCell (by show w.heap.size ≤ w.heap.size + 1; omega) _
  | some p =>
    rw [h] at hg
    obtain ⟨rfl, rfl, hok, hc1, hc2⟩ := pairOf_some h
    clear h
    show Calls _ _ _ _ (Gives (ansPr (some (red p))) w)
    go_enter Try.func65, Try.ntmps65
    go_wp2_with fail
    have hb0 : Below w.heap.size w ((w.alloc (.cells #[.string p.1.str, .string p.2.str] 40 (0, 0))).alloc (.cells #[.string ⟨#[]⟩, .string ⟨#[]⟩] 40 (0, 0))) := nxAlloc (nxAlloc (Below.refl _ _) _) _
    have hx0 := heap_keep (nxAlloc (Below.refl _ _) (.cells #[.string ⟨#[]⟩, .string ⟨#[]⟩] 40 (0, 0))) (heap_alloc_at w (.cells #[.string p.1.str, .string p.2.str] 40 (0, 0)))
    have hx1 := heap_alloc_at (w.alloc (.cells #[.string p.1.str, .string p.2.str] 40 (0, 0))) (.cells #[.string ⟨#[]⟩, .string ⟨#[]⟩] 40 (0, 0))
    generalize ((w.alloc (.cells #[.string p.1.str, .string p.2.str] 40 (0, 0))).alloc (.cells #[.string ⟨#[]⟩, .string ⟨#[]⟩] 40 (0, 0))) = w0 at *
    have e1 : (w.alloc (.cells #[.string p.1.str, .string p.2.str] 40 (0, 0))).heap.size = w.heap.size + 1 := by simp
    rw [e1] at hx1
    clear e1
    obtain ⟨hx0a, hx0b, hx0c⟩ := two_facts hx0
    obtain ⟨hx0f, hx0g⟩ := two_frozen hx0
    obtain ⟨hx1a, hx1b, hx1c⟩ := two_facts hx1
    obtain ⟨hx1f, hx1g⟩ := two_frozen hx1
    refine (hg _).mono ?_; rintro e w1 ⟨rfl, hb1⟩
    have hbw1 := nx hb0 hb1
    replace hx0 := heap_keep hb1 hx0
    replace hx1 := heap_keep hb1 hx1
    clear hx0a hx0b hx0c hx0f hx0g
    obtain ⟨hx0a, hx0b, hx0c⟩ := two_facts hx0
    obtain ⟨hx0f, hx0g⟩ := two_frozen hx0
    clear hx1a hx1b hx1c hx1f hx1g
    obtain ⟨hx1a, hx1b, hx1c⟩ := two_facts hx1
    obtain ⟨hx1f, hx1g⟩ := two_frozen hx1
    clear hb1 hb0
    go_wp2_with fail
    refine (reducedBy_first p _ (by omega) (by omega)).mono ?_; rintro e w2 ⟨rfl, hb2⟩
    have hbw2 := nx hbw1 hb2
    replace hx0 := heap_keep hb2 hx0
    replace hx1 := heap_keep hb2 hx1
    clear hx0a hx0b hx0c hx0f hx0g
    obtain ⟨hx0a, hx0b, hx0c⟩ := two_facts hx0
    obtain ⟨hx0f, hx0g⟩ := two_frozen hx0
    clear hx1a hx1b hx1c hx1f hx1g
    obtain ⟨hx1a, hx1b, hx1c⟩ := two_facts hx1
    obtain ⟨hx1f, hx1g⟩ := two_frozen hx1
    clear hb2 hbw1
    go_wp2_with fail
    obtain ⟨q1, q2⟩ := two_cells (set_two (.string (red p).1.str) (.string (red p).2.str) hx1)
    refine bodyPost_ret (v := .tuple #[.agg #[.string (red p).1.str, .string (red p).2.str], .bool true]) (by simp [q1, q2, results, Try.results65, go_sem]) rfl ⟨rfl, ?_⟩
    exact (hbw2.setCell (by show w.heap.size ≤ w.heap.size + 1; omega) _).setCell (by show w.heap.size ≤ w.heap.size + 1; omega) _

end Go.Proofs.Ytplmbdljhgicfaa

/-! HeldW -/
namespace Go.Proofs.Ytplmbdljhgicfaa
open Go.RowKit

section
variable {P : Program} {ops : Array Oper} {Q : Exit → Act → World → Prop} {md : Region.Mode}

theorem held_mono {S S' : World → Prop} (hSS : ∀ w, S' w → S w) : ∀ (fuel : Nat) (listed : Array Bool) (a : Act) (w : World),
    wpAnyH P md ops Q S' fuel listed a w → wpAnyH P md ops Q S fuel listed a w
  | 0, _, _, _, h => h
  | fuel + 1, _, _, _, h => ⟨h.1, fun i hi => wpOp_mono (fun a' w' h' => ⟨hSS _ h'.1, held_mono hSS fuel _ a' w' h'.2⟩) (h.2 i hi)⟩

/-- One operation alone may come up; behind it the condition may be another one. -/
theorem held_one {S : World → Prop} {fuel : Nat} {listed : Array Bool} {a : Act} {w : World} (i : Nat) {o : Oper} (ho : ops[i]? = some o) (hr : Region.ready md ops listed = [i])
    (h : ∀ K' : Act → World → Prop, Shut (∀ (S' : World → Prop) a w, (∀ w, S' w → S w) → S' w → wpAnyH P md ops Q S' fuel (listed.setIfInBounds i true) a w → K' a w) → if Region.wanted o (yielded ops a.tmps) = true then Oper.wp P o a w K' Q else K' (a.put o.dst undef) w) :
    wpAnyH P md ops Q S (fuel + 1) listed a w :=
  wpAnyH_ready hr (by simp) (AllReadyH.cons ho (fun K hK => h K (fun _ a w hSS hS hW => hK.out a w (hSS _ hS) (fun _ => held_mono hSS _ _ _ _ hW))) AllReadyH.nil)
/-- Two operations may come up, whichever first. -/
theorem held_two {S : World → Prop} {fuel : Nat} {listed : Array Bool} {a : Act} {w : World} (i j : Nat) {oi oj : Oper} (hoi : ops[i]? = some oi) (hoj : ops[j]? = some oj) (hr : Region.ready md ops listed = [i, j])
    (h : ∀ K' : Act → World → Prop, Shut (∀ (S' : World → Prop) a w, (∀ w, S' w → S w) → S' w → wpAnyH P md ops Q S' fuel (listed.setIfInBounds i true) a w → K' a w) → if Region.wanted oi (yielded ops a.tmps) = true then Oper.wp P oi a w K' Q else K' (a.put oi.dst undef) w)
    (k : ∀ K' : Act → World → Prop, Shut (∀ (S' : World → Prop) a w, (∀ w, S' w → S w) → S' w → wpAnyH P md ops Q S' fuel (listed.setIfInBounds j true) a w → K' a w) → if Region.wanted oj (yielded ops a.tmps) = true then Oper.wp P oj a w K' Q else K' (a.put oj.dst undef) w) :
    wpAnyH P md ops Q S (fuel + 1) listed a w :=
  wpAnyH_ready hr (by simp) (AllReadyH.cons hoi (fun K hK => h K (fun _ a w hSS hS hW => hK.out a w (hSS _ hS) (fun _ => held_mono hSS _ _ _ _ hW)))
    (AllReadyH.cons hoj (fun K hK => k K (fun _ a w hSS hS hW => hK.out a w (hSS _ hS) (fun _ => held_mono hSS _ _ _ _ hW))) AllReadyH.nil))
end
end Go.Proofs.Ytplmbdljhgicfaa
