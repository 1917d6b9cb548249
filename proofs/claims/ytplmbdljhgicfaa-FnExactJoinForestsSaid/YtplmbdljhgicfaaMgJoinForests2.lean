/- FnExactJoinForests: for every input the law returns true and leaves its arguments as they were. No conditions. -/
import Derived.Test.YtplmbdljhgicfaaMgJoinForests1
import Derived.Deep.RegionWith
import Derived.Deep.RegionHeld3
import Derived.OwnWalk
import Derived.ProofKit
import Derived.OpenShut
import Derived.ShutString
import Derived.ChangeOld
import Derived.Below
import Derived.SliceStrings
/-! Text -/
namespace Go.Proofs.Ytplmbdljhgicfaa
open Go.RowKit

theorem isLeaf_any (t : Tr) (b : Nat) (w : World) (h : NodeAt w t b) :
    Calls Try.prog 83 #[.pointer (some ⟨b, 0, none⟩)] w fun e w' => e = .returned (.bool t.isLf) ∧ w = w' := by
  cases t with
  | lf =>
    have h1 := two_left h
    have H := Lib.hid h
    clear h
    go_enter Try.func83, Try.ntmps83
    go_wp2_with fail
    go_ret
    exact ⟨rfl, rfl⟩
  | nd l r =>
    obtain ⟨bl, br, h, hl, hr⟩ := h
    have h1 := two_left h
    have H := Lib.hid h
    clear h
    go_enter Try.func83, Try.ntmps83
    go_wp2_with fail
    go_ret
    exact ⟨rfl, rfl⟩

theorem NodeAt.heap {w w' : World} (e : w'.heap = w.heap) : ∀ {t : Tr} {b : Nat}, NodeAt w t b → NodeAt w' t b := by
  intro t
  induction t with
  | lf => intro b h; unfold NodeAt at *; rw [e]; exact h
  | nd l r ihl ihr =>
    intro b h
    obtain ⟨bl, br, h, h1, h2⟩ := h
    exact ⟨bl, br, by rw [e]; exact h, ihl h1, ihr h2⟩
theorem NodeAt.drewN {w : World} (n : Nat) {t : Tr} {b : Nat} (h : NodeAt w t b) : NodeAt (w.drewN n) t b := NodeAt.heap (w := w) (w' := w.drewN n) rfl h

set_option maxHeartbeats 400000 in
theorem text_any (t : Tr) : ∀ (b : Nat) (w : World), NodeAt w t b → t.carets ≤ 1000 →
    Calls Try.prog 91 #[.pointer (some ⟨b, 0, none⟩)] w (Quietly (.string t.str) w) := by
  induction t with
  | lf =>
    intro b w h hc
    have H := Lib.hid h
    clear h
    go_enter Try.func91, Try.ntmps91
    go_wp2_with fail
    refine (isLeaf_any .lf b _ H.out).mono ?_; rintro e w1 ⟨rfl, rfl⟩
    simp only [Tr.isLf]
    go_wp2_with fail
    go_ret
    exact ⟨rfl, 0, rfl⟩
  | nd l r ihl ihr =>
    intro b w h hc
    have hc' : l.carets + r.carets + 1 ≤ 1000 := hc
    have sl := l.str_size
    have sr := r.str_size
    have H := Lib.hid h
    obtain ⟨bl, br, h, hl, hr⟩ := h
    have h1 := two_left h
    have h2 := two_right h
    clear h
    go_enter Try.func91, Try.ntmps91
    go_wp2_with fail
    refine (isLeaf_any (.nd l r) b _ H.out).mono ?_; rintro e w1 ⟨rfl, rfl⟩
    simp only [Tr.isLf]
    go_wp2_with fail
    go_quiet ((go_at_call 91; first | exact Calls.quiet_of (ihl _ _ (hl.drewN _) (by omega)) | exact Calls.quiet_of (ihr _ _ (hr.drewN _) (by omega))))
    go_wp2_with fail
    go_ret
    exact ⟨by rw [str_nd]; rfl, _, rfl⟩
end Go.Proofs.Ytplmbdljhgicfaa

/-! Mir -/
namespace Go.Proofs.Ytplmbdljhgicfaa
open Go.RowKit

/-- A call that hands back a node of a tree. -/
def GivesNode (t : Tr) (w : World) (e : Ending) (w' : World) : Prop :=
  ∃ b : Nat, NodeAt w' t b ∧ Below w.heap.size w w' ∧ e = .returned (.pointer (some ⟨b, 0, none⟩))

theorem below_two {w w1 : World} {b : Nat} {u v : Value} (hb : Below w.heap.size w w1) (h1 : w.cell? ⟨b, 0, none⟩ = some u) (h2 : w.cell? ⟨b, 1, none⟩ = some v) :
    w1.cell? ⟨b, 0, none⟩ = some u ∧ w1.cell? ⟨b, 1, none⟩ = some v := by
  have hl := World.block_lt_of_cell? w _ h1
  exact ⟨(hb.cell (p := ⟨b, 0, none⟩) hl).trans h1, (hb.cell (p := ⟨b, 1, none⟩) hl).trans h2⟩

end Go.Proofs.Ytplmbdljhgicfaa

/-! Join -/
namespace Go.Proofs.Ytplmbdljhgicfaa
open Go.RowKit

set_option maxRecDepth 100000 in
set_option maxHeartbeats 2000000 in
theorem join_any (t : Tr) : ∀ (u : Tr) (b c : Nat) (w : World), NodeAt w t b → NodeAt w u c →
    Calls Try.prog 58 #[.pointer (some ⟨b, 0, none⟩), .pointer (some ⟨c, 0, none⟩)] w (GivesNode (t.join u) w) := by
  induction t with
  | lf =>
    intro u b c w h k
    have H := Lib.hid h
    have K := Lib.hid k
    clear h k
    go_enter Try.func58, Try.ntmps58
    go_wp2_with fail
    refine (isLeaf_any .lf b _ H.out).mono ?_; rintro e w1 ⟨rfl, rfl⟩
    simp only [Tr.isLf]
    go_wp2_with fail
    go_ret
    exact ⟨c, K.out, Below.refl _ _, rfl⟩
  | nd l r ihl ihr =>
    intro u b c w h k
    cases u with
    | lf =>
      have H := Lib.hid h
      have K := Lib.hid k
      clear h k ihl ihr
      go_enter Try.func58, Try.ntmps58
      go_wp2_with fail
      refine (isLeaf_any (.nd l r) b _ H.out).mono ?_; rintro e w1 ⟨rfl, rfl⟩
      simp only [Tr.isLf]
      go_wp2_with fail
      refine (isLeaf_any .lf c _ K.out).mono ?_; rintro e w1 ⟨rfl, rfl⟩
      simp only [Tr.isLf]
      go_wp2_with fail
      go_ret
      exact ⟨b, H.out, Below.refl _ _, rfl⟩
    | nd p q =>
      have H := Lib.hid h
      have K := Lib.hid k
      obtain ⟨bl, br, h, hl, hr⟩ := h
      obtain ⟨cl, cr, k, kl, kr⟩ := k
      have h1 := two_left h
      have h2 := two_right h
      have k1 := two_left k
      have k2 := two_right k
      clear h k
      go_enter Try.func58, Try.ntmps58
      go_wp2_with fail
      refine (isLeaf_any (.nd l r) b _ H.out).mono ?_; rintro e w1 ⟨rfl, rfl⟩
      simp only [Tr.isLf]
      go_wp2_with fail
      refine (isLeaf_any (.nd p q) c _ K.out).mono ?_; rintro e w1 ⟨rfl, rfl⟩
      simp only [Tr.isLf]
      go_wp2_with fail
      have hb0 := Below.refl w.heap.size w
      go_region_held3 (fun w' => w'.cell? ⟨b, 0, none⟩ = some (.pointer (some ⟨bl, 0, none⟩)) ∧ w'.cell? ⟨b, 1, none⟩ = some (.pointer (some ⟨br, 0, none⟩)) ∧ w'.cell? ⟨c, 0, none⟩ = some (.pointer (some ⟨cl, 0, none⟩)) ∧ w'.cell? ⟨c, 1, none⟩ = some (.pointer (some ⟨cr, 0, none⟩)))
          (first
            | exact ⟨h1, h2, k1, k2⟩
            | exact ⟨q1, q2, q3, q4⟩
            | exact ⟨s1, s2, s3, s4⟩
            | exact ⟨(a1 _).1, (a1 _).2, (a2 _).1, (a2 _).2⟩)
          (first
          | (go_at_call_of 58 (some (⟨bl, 0, none⟩ : Addr)); refine (ihl p bl cl _ ?_ ?_).mono ?_; exact hl.keep hb0.drew; exact kl.keep hb0.drew; rintro e w1 ⟨b1, hn1, hb1, rfl⟩; have hb1' := nx hb0.drew hb1; obtain ⟨q1, q2⟩ := below_two hb1' h1 h2; obtain ⟨q3, q4⟩ := below_two hb1' k1 k2)
          | (go_at_call_of 58 (some (⟨br, 0, none⟩ : Addr)); refine (ihr q br cr _ ?_ ?_).mono ?_; exact hr.keep hb1'; exact kr.keep hb1'; rintro e w2 ⟨b2, hn2, hb2, rfl⟩; have hb2' := nx hb1' hb2; obtain ⟨s1, s2⟩ := below_two hb2' h1 h2; obtain ⟨s3, s4⟩ := below_two hb2' k1 k2; have a1 := fun o => below_two (nxAlloc hb2' o) h1 h2; have a2 := fun o => below_two (nxAlloc hb2' o) k1 k2))
      all_goals (try go_wp2_with fail)
      all_goals go_ret
      all_goals exact ⟨_, node_new hn1 hb2 hn2, nxAlloc hb2' _, rfl⟩
set_option maxRecDepth 100000 in
set_option maxHeartbeats 2000000 in
theorem common_any (t : Tr) : ∀ (u : Tr) (b c : Nat) (w : World), NodeAt w t b → NodeAt w u c →
    Calls Try.prog 61 #[.pointer (some ⟨b, 0, none⟩), .pointer (some ⟨c, 0, none⟩)] w (GivesNode (t.com u) w) := by
  induction t with
  | lf =>
    intro u b c w h k
    have H := Lib.hid h
    have K := Lib.hid k
    clear h k
    go_enter Try.func61, Try.ntmps61
    go_wp2_with fail
    refine (isLeaf_any .lf b _ H.out).mono ?_; rintro e w1 ⟨rfl, rfl⟩
    simp only [Tr.isLf]
    go_wp2_with fail
    go_ret
    exact ⟨_, heap_alloc_at _ _, nxAlloc (Below.refl _ _) _, rfl⟩
  | nd l r ihl ihr =>
    intro u b c w h k
    cases u with
    | lf =>
      have H := Lib.hid h
      have K := Lib.hid k
      clear h k ihl ihr
      go_enter Try.func61, Try.ntmps61
      go_wp2_with fail
      refine (isLeaf_any (.nd l r) b _ H.out).mono ?_; rintro e w1 ⟨rfl, rfl⟩
      simp only [Tr.isLf]
      go_wp2_with fail
      refine (isLeaf_any .lf c _ K.out).mono ?_; rintro e w1 ⟨rfl, rfl⟩
      simp only [Tr.isLf]
      go_wp2_with fail
      go_ret
      exact ⟨_, heap_alloc_at _ _, nxAlloc (Below.refl _ _) _, rfl⟩
    | nd p q =>
      have H := Lib.hid h
      have K := Lib.hid k
      obtain ⟨bl, br, h, hl, hr⟩ := h
      obtain ⟨cl, cr, k, kl, kr⟩ := k
      have h1 := two_left h
      have h2 := two_right h
      have k1 := two_left k
      have k2 := two_right k
      clear h k
      go_enter Try.func61, Try.ntmps61
      go_wp2_with fail
      refine (isLeaf_any (.nd l r) b _ H.out).mono ?_; rintro e w1 ⟨rfl, rfl⟩
      simp only [Tr.isLf]
      go_wp2_with fail
      refine (isLeaf_any (.nd p q) c _ K.out).mono ?_; rintro e w1 ⟨rfl, rfl⟩
      simp only [Tr.isLf]
      go_wp2_with fail
      have hb0 := Below.refl w.heap.size w
      go_region_held3 (fun w' => w'.cell? ⟨b, 0, none⟩ = some (.pointer (some ⟨bl, 0, none⟩)) ∧ w'.cell? ⟨b, 1, none⟩ = some (.pointer (some ⟨br, 0, none⟩)) ∧ w'.cell? ⟨c, 0, none⟩ = some (.pointer (some ⟨cl, 0, none⟩)) ∧ w'.cell? ⟨c, 1, none⟩ = some (.pointer (some ⟨cr, 0, none⟩)))
          (first
            | exact ⟨h1, h2, k1, k2⟩
            | exact ⟨q1, q2, q3, q4⟩
            | exact ⟨s1, s2, s3, s4⟩
            | exact ⟨(a1 _).1, (a1 _).2, (a2 _).1, (a2 _).2⟩)
          (first
          | (go_at_call_of 61 (some (⟨bl, 0, none⟩ : Addr)); refine (ihl p bl cl _ ?_ ?_).mono ?_; exact hl.keep hb0.drew; exact kl.keep hb0.drew; rintro e w1 ⟨b1, hn1, hb1, rfl⟩; have hb1' := nx hb0.drew hb1; obtain ⟨q1, q2⟩ := below_two hb1' h1 h2; obtain ⟨q3, q4⟩ := below_two hb1' k1 k2)
          | (go_at_call_of 61 (some (⟨br, 0, none⟩ : Addr)); refine (ihr q br cr _ ?_ ?_).mono ?_; exact hr.keep hb1'; exact kr.keep hb1'; rintro e w2 ⟨b2, hn2, hb2, rfl⟩; have hb2' := nx hb1' hb2; obtain ⟨s1, s2⟩ := below_two hb2' h1 h2; obtain ⟨s3, s4⟩ := below_two hb2' k1 k2; have a1 := fun o => below_two (nxAlloc hb2' o) h1 h2; have a2 := fun o => below_two (nxAlloc hb2' o) k1 k2))
      all_goals (try go_wp2_with fail)
      all_goals go_ret
      all_goals exact ⟨_, node_new hn1 hb2 hn2, nxAlloc hb2' _, rfl⟩

set_option maxHeartbeats 1000000 in
theorem isPart_any (t : Tr) : ∀ (u : Tr) (b c : Nat) (w : World), NodeAt w t b → NodeAt w u c →
    Calls Try.prog 52 #[.pointer (some ⟨b, 0, none⟩), .pointer (some ⟨c, 0, none⟩)] w (Quietly (.bool (t.part u)) w) := by
  induction t with
  | lf =>
    intro u b c w h k
    have H := Lib.hid h
    have K := Lib.hid k
    clear h k
    go_enter Try.func52, Try.ntmps52
    go_wp2_with fail
    refine (isLeaf_any .lf b _ H.out).mono ?_; rintro e w1 ⟨rfl, rfl⟩
    simp only [Tr.isLf]
    go_wp2_with fail
    go_ret
    exact ⟨rfl, 0, rfl⟩
  | nd l r ihl ihr =>
    intro u b c w h k
    cases u with
    | lf =>
      have H := Lib.hid h
      have K := Lib.hid k
      clear h k ihl ihr
      go_enter Try.func52, Try.ntmps52
      go_wp2_with fail
      refine (isLeaf_any (.nd l r) b _ H.out).mono ?_; rintro e w1 ⟨rfl, rfl⟩
      simp only [Tr.isLf]
      go_wp2_with fail
      have L : ∀ n, Calls Try.prog 83 #[.pointer (some ⟨c, 0, none⟩)] (w.drewN n) (Quietly (.bool true) (w.drewN n)) := fun n => (isLeaf_any .lf c _ (K.out.drewN n)).mono fun e w' ⟨h1, h2⟩ => ⟨h1, 0, h2.symm⟩
      go_quiet ((go_at_call 83; exact Calls.quiet_of (L _)))
      go_wp2_with fail
      go_ret
      exact ⟨rfl, _, rfl⟩
    | nd p q =>
      have H := Lib.hid h
      have K := Lib.hid k
      obtain ⟨bl, br, h, hl, hr⟩ := h
      obtain ⟨cl, cr, k, kl, kr⟩ := k
      have h1 := two_left h
      have h2 := two_right h
      have k1 := two_left k
      have k2 := two_right k
      clear h k
      have L : ∀ n, Calls Try.prog 83 #[.pointer (some ⟨c, 0, none⟩)] (w.drewN n) (Quietly (.bool false) (w.drewN n)) := fun n => (isLeaf_any (.nd p q) c _ (K.out.drewN n)).mono fun e w' ⟨h1, h2⟩ => ⟨h1, 0, h2.symm⟩
      have HL : ∀ n, Calls Try.prog 52 #[.pointer (some ⟨bl, 0, none⟩), .pointer (some ⟨cl, 0, none⟩)] (w.drewN n) (Quietly (.bool (l.part p)) (w.drewN n)) := fun n => ihl p bl cl _ (hl.drewN n) (kl.drewN n)
      have HR : ∀ n, Calls Try.prog 52 #[.pointer (some ⟨br, 0, none⟩), .pointer (some ⟨cr, 0, none⟩)] (w.drewN n) (Quietly (.bool (r.part q)) (w.drewN n)) := fun n => ihr q br cr _ (hr.drewN n) (kr.drewN n)
      have HP : Hid ((Tr.nd l r).part (.nd p q) = (l.part p && r.part q)) := rfl
      cases hlp : l.part p with
      | false =>
        rw [hlp] at HP HL
        clear hlp
        go_enter Try.func52, Try.ntmps52
        go_wp2_with fail
        refine (isLeaf_any (.nd l r) b _ H.out).mono ?_; rintro e w1 ⟨rfl, rfl⟩
        simp only [Tr.isLf]
        go_wp2_with fail
        go_quiet ((first | (go_at_call 83; exact Calls.quiet_of (L _)) | (go_at_call_of 52 (some (⟨bl, 0, none⟩ : Addr)); exact Calls.quiet_of (HL _)) | (go_at_call_of 52 (some (⟨br, 0, none⟩ : Addr)); exact Calls.quiet_of (HR _))))
        go_wp2_with fail
        go_ret
        exact ⟨by rw [HP.out]; rfl, _, rfl⟩
      | true =>
        rw [hlp] at HP HL
        clear hlp
        go_enter Try.func52, Try.ntmps52
        go_wp2_with fail
        refine (isLeaf_any (.nd l r) b _ H.out).mono ?_; rintro e w1 ⟨rfl, rfl⟩
        simp only [Tr.isLf]
        go_wp2_with fail
        go_quiet ((first | (go_at_call 83; exact Calls.quiet_of (L _)) | (go_at_call_of 52 (some (⟨bl, 0, none⟩ : Addr)); exact Calls.quiet_of (HL _)) | (go_at_call_of 52 (some (⟨br, 0, none⟩ : Addr)); exact Calls.quiet_of (HR _))))
        go_wp2_with fail
        go_ret
        exact ⟨by rw [HP.out]; rfl, _, rfl⟩
end Go.Proofs.Ytplmbdljhgicfaa

/-! TreeO -/
namespace Go.Proofs.Ytplmbdljhgicfaa
open Go.RowKit

theorem keep_cell {w w' : World} {b o : Nat} {v : Value} (hb : Below w.heap.size w w') (h : w.cell? ⟨b, o, none⟩ = some v) : w'.cell? ⟨b, o, none⟩ = some v :=
  (hb.cell (p := ⟨b, o, none⟩) (World.block_lt_of_cell? _ _ h)).trans h

theorem treeOf_any (t : Tr) (w : World) (h : t.carets ≤ 1000) : Calls Try.prog 66 #[.string t.str] w (GivesNode t w) := by
  have hz := t.str_size
  have hp := place_any (t.str.size + 1) t.str
  rw [parse_str t _ (by have := t.text_len; omega)] at hp
  have hp' : ∀ w, Calls Try.prog 97 #[.string t.str] w (PlaceOk t [] t.str w) := fun w => hp w (by omega) (by omega)
  clear hz hp
  go_enter Try.func66, Try.ntmps66
  go_wp2_with fail
  refine (hp' _).mono ?_; rintro e w1 ⟨b1, s1, hs1, hz1, hn1, hb1, rfl⟩
  clear hs1 hz1
  go_wp2_with fail
  go_ret
  exact ⟨b1, hn1, hb1, rfl⟩

end Go.Proofs.Ytplmbdljhgicfaa

/-! Ff6 -/
namespace Go.Proofs.Ytplmbdljhgicfaa
open Go.RowKit

/-- The nodes of two forests, or none. -/
def TwoNodes (o p : Option (List Tr)) (w : World) (e : Ending) (w' : World) : Prop :=
  match o, p with
  | some us, some vs => ∃ b c, NodeAt w' (combT us) b ∧ NodeAt w' (combT vs) c ∧ Below w.heap.size w w' ∧ e = .returned (.tuple #[.pointer (some ⟨b, 0, none⟩), .pointer (some ⟨c, 0, none⟩), .bool true])
  | _, _ => e = .returned (.tuple #[.pointer none, .pointer none, .bool false]) ∧ Below w.heap.size w w'

set_option maxRecDepth 100000 in
set_option maxHeartbeats 4000000 in
theorem implhungTwo_any (v : Value) (b : Nat) (L : List ByteArray) (v2 : Value) (b2 : Nat) (M : List ByteArray) (w : World) (h : CellsS b w v L) (h2 : CellsS b2 w v2 M) (hz : ∀ s ∈ L, s.size ≤ 1048576) (hz2 : ∀ s ∈ M, s.size ≤ 1048576) (hn : L.length ≤ 1048576) (hn2 : M.length ≤ 1048576) :
    Calls Try.prog 51 #[v, v2] w (TwoNodes (forOf L) (forOf M) w) := by
  have hG := fun w h => implIsForest_b v b L w h hz hn
  have hH := fun w h => implIsForest_b v2 b2 M w h hz2 hn2
  have HA := Lib.hid h
  have HB := Lib.hid h2
  obtain ⟨oa, cap, rfl, hcl, hcm, hcc⟩ := h.form0
  obtain ⟨ob, bcap, rfl, hdl, hdm, hdc⟩ := h2.form0
  unfold maxLen at hcm hdm
  have HC := Lib.hid hcc
  have HD := Lib.hid hdc
  clear h h2 hz hz2 hcc hdc
  rcases hf : forOf L with _ | us
  · rw [hf] at hG
    have hG' : ∀ w, CellsS b w (.slice oa L.length cap) L → Calls Try.prog 16 #[.slice oa L.length cap] w (Gives (.bool false) w) := hG
    clear hG hH hf HC HD
    go_enter Try.func51, Try.ntmps51
    go_wp2_with fail
    refine (hG' _ HA.out).mono ?_; rintro e w1 ⟨rfl, hb1⟩
    go_wp2_with fail
    go_ret3
    exact ⟨rfl, hb1⟩
  · rcases hk : forOf M with _ | vs
    · rw [hf] at hG
      rw [hk] at hH
      have hG' : ∀ w, CellsS b w (.slice oa L.length cap) L → Calls Try.prog 16 #[.slice oa L.length cap] w (Gives (.bool true) w) := hG
      have hH' : ∀ w, CellsS b2 w (.slice ob M.length bcap) M → Calls Try.prog 16 #[.slice ob M.length bcap] w (Gives (.bool false) w) := hH
      clear hG hH hf hk HC HD
      go_enter Try.func51, Try.ntmps51
      go_wp2_with fail
      refine (hG' _ HA.out).mono ?_; rintro e w1 ⟨rfl, hb1⟩
      go_wp2_with fail
      refine (hH' _ (HB.out.keep hb1)).mono ?_; rintro e w2 ⟨rfl, hb2⟩
      replace hb2 := nx hb1 hb2
      go_wp2_with fail
      go_ret3
      exact ⟨rfl, hb2⟩
    · rw [hf] at hG
      rw [hk] at hH
      have hG' : ∀ w, CellsS b w (.slice oa L.length cap) L → Calls Try.prog 16 #[.slice oa L.length cap] w (Gives (.bool true) w) := hG
      have hH' : ∀ w, CellsS b2 w (.slice ob M.length bcap) M → Calls Try.prog 16 #[.slice ob M.length bcap] w (Gives (.bool true) w) := hH
      obtain ⟨hL, hl8, hs8, hlast⟩ := forOf_strs hf
      obtain ⟨hM, hm8, ht8, hlastM⟩ := forOf_strs hk
      have hLu : L.length = us.length := by rw [hL, strs_length]
      have hMu : M.length = vs.length := by rw [hM, strs_length]
      have HSA : Hid (∀ w, CellsS b w (.slice oa L.length cap) L → CellsS b w (.slice oa L.length cap) (strs us)) := fun w h => by rw [← hL]; exact h
      have HSB : Hid (∀ w, CellsS b2 w (.slice ob M.length bcap) M → CellsS b2 w (.slice ob M.length bcap) (strs vs)) := fun w h => by rw [← hM]; exact h
      have HLA := Lib.hid hlast
      have HLB := Lib.hid hlastM
      have HLU := Lib.hid hLu
      have HMU := Lib.hid hMu
      clear hG hH hf hk hL hM hlast hlastM HC HD hLu hMu
      have c1 := combT_carets us
      have c2 := combT_carets vs
      have hU := fun w h => hung_any (.slice oa L.length cap) b us w h (by omega) (by omega)
      have hV := fun w h => hung_any (.slice ob M.length bcap) b2 vs w h (by omega) (by omega)
      have hTU := fun w => treeOf_any (combT us) w (by omega)
      have hTV := fun w => treeOf_any (combT vs) w (by omega)
      clear c1 c2
      go_enter Try.func51, Try.ntmps51
      go_wp2_with fail
      refine (hG' _ HA.out).mono ?_; rintro e w1 ⟨rfl, hb1⟩
      go_wp2_with fail
      refine (hH' _ (HB.out.keep hb1)).mono ?_; rintro e w2 ⟨rfl, hb2⟩
      replace hb2 := nx hb1 hb2
      go_wp2_with fail
      refine (hU _ (HSA.out _ (HA.out.keep hb2))).mono ?_; rintro e w3 ⟨rfl, hb3⟩
      replace hb3 := nx hb2 hb3
      go_wp2_with fail
      refine (hTU _).mono ?_; rintro e w4 ⟨p1, hp1, hb4, rfl⟩
      replace hb4 := nx hb3 hb4
      go_wp2_with fail
      refine (hV _ (HSB.out _ (HB.out.keep hb4))).mono ?_; rintro e w5 ⟨rfl, hb5⟩
      replace hp1 := hp1.keep hb5
      replace hb5 := nx hb4 hb5
      go_wp2_with fail
      refine (hTV _).mono ?_; rintro e w6 ⟨p2, hp2, hb6, rfl⟩
      replace hp1 := hp1.keep hb6
      replace hb6 := nx hb5 hb6
      go_wp2_with fail
      go_ret3
      exact ⟨_, _, hp1, hp2, hb6, rfl⟩

set_option maxRecDepth 100000 in
theorem foTree_any (v : Value) (b : Nat) (us : List Tr) (k : Nat) (w : World) (h : CellsS b w v (strs us)) (_hk : (k : Int) ≤ 1000000) :
    Calls Try.prog 54 #[v, .int .i64 k] w fun e w' => e = .returned (.string (us.getD k .lf).str) ∧ w = w' := by
  obtain ⟨oa, cap, rfl, hcl, hcm, hcc⟩ := h.form0
  unfold maxLen at hcm
  rw [strs_length] at *
  by_cases hlt : k < us.length
  · have hlt' : (k : Int) < (us.length : Int) := by omega
    obtain ⟨g, rfl, _, hgl, c1⟩ := hcc k hlt
    rw [show (strs us).getD k ⟨#[]⟩ = (us.getD k .lf).str from map_getD us k hlt] at c1
    generalize us.getD k .lf = t at *
    clear h hcc
    go_enter Try.func54, Try.ntmps54
    go_wp2_with fail
    go_ret
    exact ⟨rfl, rfl⟩
  · have hlt' : ¬ ((k : Int) < (us.length : Int)) := by omega
    rw [show us.getD k .lf = .lf by rw [List.getD_eq_getElem?_getD, List.getElem?_eq_none (by omega)]; rfl]
    clear h hcc hlt
    go_enter Try.func54, Try.ntmps54
    go_wp2_with fail
    go_ret
    exact ⟨rfl, rfl⟩

theorem str_same (a c : Tr) (h : a = c) : (a.str.toList == c.str.toList) = true := by rw [h]; exact beq_self_eq_true _
theorem str_diff (a c : Tr) (h : a ≠ c) : (a.str.toList == c.str.toList) = false := by
  rw [beq_eq_false_iff_ne]
  simp only [Lib.toList_data, Tr.str_list]
  intro e
  exact h (Tr.text_inj (r := []) (q := []) (by rw [e])).1

set_option maxRecDepth 100000 in
set_option maxHeartbeats 2000000 in
theorem foPart_any (v : Value) (b : Nat) (us : List Tr) (v2 : Value) (b2 : Nat) (vs : List Tr) (w : World) (h : CellsS b w v (strs us)) (h2 : CellsS b2 w v2 (strs vs)) (hs : sumT us ≤ 60) (ht : sumT vs ≤ 60) (hl : us.length ≤ 100) :
    Calls Try.prog 50 #[v, v2] w (Gives (.bool (partF us vs)) w) := by
  have HT := Lib.hid h2
  obtain ⟨oa, cap, rfl, hcl, hcm, hcc⟩ := h.form0
  obtain ⟨ob, bcap, rfl, _⟩ := h2.form0
  unfold maxLen at hcm
  rw [strs_length] at hcl hcc ⊢
  have HC := Lib.hid hcc
  have HCM : ∀ k, (us.getD k .lf).carets ≤ 60 := fun k => by
    by_cases hk : k < us.length
    · rw [List.getD_eq_getElem?_getD, List.getElem?_eq_getElem hk]; have := sumT_mem (List.getElem_mem hk); simp; omega
    · rw [List.getD_eq_getElem?_getD, List.getElem?_eq_none (by omega)]; simp [Tr.carets]
  have HDM : ∀ k, (vs.getD k .lf).carets ≤ 60 := fun k => by
    by_cases hk : k < vs.length
    · rw [List.getD_eq_getElem?_getD, List.getElem?_eq_getElem hk]; have := sumT_mem (List.getElem_mem hk); simp; omega
    · rw [List.getD_eq_getElem?_getD, List.getElem?_eq_none (by omega)]; simp [Tr.carets]
  have HE := Lib.hid HCM
  have HF := Lib.hid HDM
  have HP := Lib.hid (partF_all us vs)
  clear h h2 hcc HCM HDM hs ht
  generalize hB : (strs vs).length = nv at HT ⊢
  clear hB
  go_enter Try.func50, Try.ntmps50
  go_wp2_with fail
  go_loopw [9] (fun i wr => ∃ k : Nat, k ≤ us.length ∧ i = .int .i64 k ∧ Hid (∀ j, j < k → (us.getD j .lf).part (vs.getD j .lf) = true) ∧ Below w.heap.size w wr) (fun i _ => us.length - (intOf i).toNat)
  case atStart => exact ⟨0, Nat.zero_le _, rfl, fun j hj => absurd hj (Nat.not_lt_zero j), Below.refl _ _⟩
  case round =>
    obtain ⟨k, hk, rfl, he, hbw⟩ := hrel
    by_cases hlt : k < us.length
    · have hlt' : (k : Int) < (us.length : Int) := by omega
      obtain ⟨g, rfl, _, hgl, c0⟩ := HC.out k hlt
      have c1 := (hbw.cell (p := ⟨g, k, none⟩) hgl).trans c0
      rw [show (strs us).getD k ⟨#[]⟩ = (us.getD k .lf).str from map_getD us k hlt] at c1
      have hT := fun w h => foTree_any (.slice ob nv bcap) b2 vs k w h (by omega)
      have hJ := fun w => trJoin_any (us.getD k .lf) (vs.getD k .lf) w (HE.out k) (HF.out k)
      have hpj := part_iff_join (us.getD k .lf) (vs.getD k .lf)
      cases hp : (us.getD k .lf).part (vs.getD k .lf) with
      | true =>
        have HN : Hid (∀ j, j < k + 1 → (us.getD j .lf).part (vs.getD j .lf) = true) := fun j hj => by
          by_cases h1 : j < k
          · exact he.out j h1
          · obtain rfl : j = k := by omega
            exact hp
        have hseq := str_same _ _ (hpj.1 hp)
        generalize us.getD k .lf = t at *
        generalize vs.getD k .lf = u at *
        clear hpj hp he c0
        go_wp2_with fail
        refine (hT _ (HT.out.keep hbw)).mono ?_; rintro e w3 ⟨rfl, rfl⟩
        go_wp2_with fail
        refine (hJ _).mono ?_; rintro e w4 ⟨rfl, hb4⟩
        replace hb4 := nx hbw hb4
        go_wp2_with fail
        refine (hT _ (HT.out.keep hb4)).mono ?_; rintro e w5 ⟨rfl, rfl⟩
        go_wp2_with fail
        go_roundw
        case rel => exact ⟨k + 1, by omega, by go_num, HN, hb4⟩
        case measure => simp [intOf]; omega
      | false =>
        have HX : Hid (partF us vs = false) := by
          show partF us vs = false
          cases hq : partF us vs with
          | false => rfl
          | true => rw [HP.out.1 hq k hlt] at hp; cases hp
        have hseq := str_diff _ _ (fun e => by rw [hpj.2 e] at hp; cases hp)
        generalize us.getD k .lf = t at *
        generalize vs.getD k .lf = u at *
        clear hpj hp he c0
        go_wp2_with fail
        refine (hT _ (HT.out.keep hbw)).mono ?_; rintro e w3 ⟨rfl, rfl⟩
        go_wp2_with fail
        refine (hJ _).mono ?_; rintro e w4 ⟨rfl, hb4⟩
        replace hb4 := nx hbw hb4
        go_wp2_with fail
        refine (hT _ (HT.out.keep hb4)).mono ?_; rintro e w5 ⟨rfl, rfl⟩
        go_wp2_with fail
        go_ret
        exact ⟨by rw [HX.out]; rfl, hb4⟩
    · obtain rfl : k = us.length := by omega
      have HX : Hid (partF us vs = true) := HP.out.2 he.out
      clear he
      go_wp2_with fail
      go_ret
      exact ⟨by rw [HX.out]; rfl, hbw⟩

def partO (o p : Option (List Tr)) : Value := .tuple #[.bool (match o, p with | some us, some vs => partF us vs | _, _ => false), .bool (o.isSome && p.isSome)]

set_option maxRecDepth 100000 in
set_option maxHeartbeats 4000000 in
theorem specIsPartOfForest_any (v : Value) (b : Nat) (L : List ByteArray) (v2 : Value) (b2 : Nat) (M : List ByteArray) (w : World) (h : CellsS b w v L) (h2 : CellsS b2 w v2 M) (hz : ∀ s ∈ L, s.size ≤ 1048576) (hz2 : ∀ s ∈ M, s.size ≤ 1048576) (hn : L.length ≤ 1048576) (hn2 : M.length ≤ 1048576) :
    Calls Try.prog 24 #[v, v2] w (Gives (partO (forOf L) (forOf M)) w) := by
  have hG := fun w h => foGood_any v b L w h hz hn
  have hH := fun w h => foGood_any v2 b2 M w h hz2 hn2
  have HA := Lib.hid h
  have HB := Lib.hid h2
  obtain ⟨oa, cap, rfl, hcl, hcm, hcc⟩ := h.form0
  obtain ⟨ob, bcap, rfl, hdl, hdm, hdc⟩ := h2.form0
  unfold maxLen at hcm hdm
  have HC := Lib.hid hcc
  have HD := Lib.hid hdc
  clear h h2 hz hz2 hcc hdc
  rcases hf : forOf L with _ | us
  · rw [hf] at hG
    have hG' : ∀ w, CellsS b w (.slice oa L.length cap) L → Calls Try.prog 41 #[.slice oa L.length cap] w (Gives (.bool false) w) := hG
    clear hG hH hf HC HD
    go_enter Try.func24, Try.ntmps24
    go_wp2_with fail
    refine (hG' _ HA.out).mono ?_; rintro e w1 ⟨rfl, hb1⟩
    go_wp2_with fail
    go_ret2
    exact ⟨rfl, hb1⟩
  · rcases hk : forOf M with _ | vs
    · rw [hf] at hG
      rw [hk] at hH
      have hG' : ∀ w, CellsS b w (.slice oa L.length cap) L → Calls Try.prog 41 #[.slice oa L.length cap] w (Gives (.bool true) w) := hG
      have hH' : ∀ w, CellsS b2 w (.slice ob M.length bcap) M → Calls Try.prog 41 #[.slice ob M.length bcap] w (Gives (.bool false) w) := hH
      clear hG hH hf hk HC HD
      go_enter Try.func24, Try.ntmps24
      go_wp2_with fail
      refine (hG' _ HA.out).mono ?_; rintro e w1 ⟨rfl, hb1⟩
      go_wp2_with fail
      refine (hH' _ (HB.out.keep hb1)).mono ?_; rintro e w2 ⟨rfl, hb2⟩
      replace hb2 := nx hb1 hb2
      go_wp2_with fail
      go_ret2
      exact ⟨rfl, hb2⟩
    · rw [hf] at hG
      rw [hk] at hH
      have hG' : ∀ w, CellsS b w (.slice oa L.length cap) L → Calls Try.prog 41 #[.slice oa L.length cap] w (Gives (.bool true) w) := hG
      have hH' : ∀ w, CellsS b2 w (.slice ob M.length bcap) M → Calls Try.prog 41 #[.slice ob M.length bcap] w (Gives (.bool true) w) := hH
      obtain ⟨hL, hl8, hs8, hlast⟩ := forOf_strs hf
      obtain ⟨hM, hm8, ht8, hlastM⟩ := forOf_strs hk
      have hLu : L.length = us.length := by rw [hL, strs_length]
      have hMu : M.length = vs.length := by rw [hM, strs_length]
      have HSA : Hid (∀ w, CellsS b w (.slice oa L.length cap) L → CellsS b w (.slice oa L.length cap) (strs us)) := fun w h => by rw [← hL]; exact h
      have HSB : Hid (∀ w, CellsS b2 w (.slice ob M.length bcap) M → CellsS b2 w (.slice ob M.length bcap) (strs vs)) := fun w h => by rw [← hM]; exact h
      have HLA := Lib.hid hlast
      have HLB := Lib.hid hlastM
      have HLU := Lib.hid hLu
      have HMU := Lib.hid hMu
      clear hG hH hf hk hL hM hlast hlastM HC HD hLu hMu
      have hP := fun w h h' => foPart_any (.slice oa L.length cap) b us (.slice ob M.length bcap) b2 vs w h h' (by omega) (by omega) (by omega)
      go_enter Try.func24, Try.ntmps24
      go_wp2_with fail
      refine (hG' _ HA.out).mono ?_; rintro e w1 ⟨rfl, hb1⟩
      go_wp2_with fail
      refine (hH' _ (HB.out.keep hb1)).mono ?_; rintro e w2 ⟨rfl, hb2⟩
      replace hb2 := nx hb1 hb2
      go_wp2_with fail
      refine (hP _ (HSA.out _ (HA.out.keep hb2)) (HSB.out _ (HB.out.keep hb2))).mono ?_; rintro e w3 ⟨rfl, hb3⟩
      go_wp2_with fail
      go_ret2
      exact ⟨rfl, nx hb2 hb3⟩

set_option maxRecDepth 100000 in
set_option maxHeartbeats 2000000 in
theorem implIsPartOfForest_any (v : Value) (b : Nat) (L : List ByteArray) (v2 : Value) (b2 : Nat) (M : List ByteArray) (w : World) (h : CellsS b w v L) (h2 : CellsS b2 w v2 M) (hz : ∀ s ∈ L, s.size ≤ 1048576) (hz2 : ∀ s ∈ M, s.size ≤ 1048576) (hn : L.length ≤ 1048576) (hn2 : M.length ≤ 1048576) :
    Calls Try.prog 25 #[v, v2] w (Gives (partO (forOf L) (forOf M)) w) := by
  have hH := implhungTwo_any v b L v2 b2 M w h h2 hz hz2 hn hn2
  obtain ⟨oa, cap, rfl, _⟩ := h.form0
  obtain ⟨ob, bcap, rfl, _⟩ := h2.form0
  clear h h2 hz hz2
  rcases hf : forOf L with _ | us
  · rw [hf] at hH
    have hH' : Calls Try.prog 51 #[.slice oa L.length cap, .slice ob M.length bcap] w (fun e w' => e = .returned (.tuple #[.pointer none, .pointer none, .bool false]) ∧ Below w.heap.size w w') := by cases forOf M <;> exact hH
    clear hH hf
    go_enter Try.func25, Try.ntmps25
    go_wp2_with fail
    refine hH'.mono ?_; rintro e w1 ⟨rfl, hb1⟩
    go_wp2_with fail
    go_ret2
    exact ⟨rfl, hb1⟩
  · rcases hk : forOf M with _ | vs
    · rw [hf, hk] at hH
      have hH' : Calls Try.prog 51 #[.slice oa L.length cap, .slice ob M.length bcap] w (fun e w' => e = .returned (.tuple #[.pointer none, .pointer none, .bool false]) ∧ Below w.heap.size w w') := hH
      clear hH hf hk
      go_enter Try.func25, Try.ntmps25
      go_wp2_with fail
      refine hH'.mono ?_; rintro e w1 ⟨rfl, hb1⟩
      go_wp2_with fail
      go_ret2
      exact ⟨rfl, hb1⟩
    · rw [hf, hk] at hH
      have hH' : Calls Try.prog 51 #[.slice oa L.length cap, .slice ob M.length bcap] w (fun e w' => ∃ b c, NodeAt w' (combT us) b ∧ NodeAt w' (combT vs) c ∧ Below w.heap.size w w' ∧ e = .returned (.tuple #[.pointer (some ⟨b, 0, none⟩), .pointer (some ⟨c, 0, none⟩), .bool true])) := hH
      have hlast := (forOf_strs hf).2.2.2
      have HP := Lib.hid (part_comb us vs hlast)
      clear hH hf hk hlast
      go_enter Try.func25, Try.ntmps25
      go_wp2_with fail
      refine hH'.mono ?_; rintro e w1 ⟨p1, p2, hp1, hp2, hb1, rfl⟩
      go_wp2_with fail
      refine (isPart_any (combT us) (combT vs) p1 p2 _ hp1 hp2).mono ?_; rintro e w2 ⟨rfl, n, rfl⟩
      go_wp2_with fail
      go_ret2
      exact ⟨by show _ = Ending.returned (.tuple #[.bool (partF us vs), .bool true]); rw [← HP.out]; rfl, drewB hb1 _⟩
end Go.Proofs.Ytplmbdljhgicfaa

/-! Ff7 -/
namespace Go.Proofs.Ytplmbdljhgicfaa
open Go.RowKit

def ptrN (b : Nat) : Value := .pointer (some ⟨b, 0, none⟩)
theorem info_ptrN : (Try.prog.info? 53).map (fun i => (i.zero, i.size, i.bytes)) = some (some (.pointer none), 1, 8) := by kernel_rfl
/-- Slices of nodes that a call has made. -/
def OwnP (base : Nat) (w : World) (v : Value) (bs : List Nat) : Prop := w.ownsRow base 53 1 v bs.length (bs.map ptrN)
theorem OwnP.keep {base : Nat} {w w' : World} {v : Value} {bs : List Nat} (h : OwnP base w v bs) (hb : Below w.heap.size w w') : OwnP base w' v bs := ownsRow_keep h hb
theorem OwnP.mono {base base' : Nat} {w : World} {v : Value} {bs : List Nat} (h : OwnP base w v bs) (hb : base' ≤ base) : OwnP base' w v bs := ownsRow_mono h hb
theorem OwnP.nil (base : Nat) (w : World) : OwnP base w (.slice none 0 0) [] := World.ownsRow_nil _ _ _ _
theorem OwnP.one (w : World) (b : Nat) : OwnP w.heap.size (w.alloc (.cells #[ptrN b] 53 (0, 0))) (.slice (some ⟨w.heap.size, 0, none⟩) 1 1) [b] := by
  refine ⟨rfl, .inr ⟨w.heap.size, 1, #[ptrN b], rfl, Nat.le_refl _, ?_, Nat.le_refl _, by unfold maxLen; omega, rfl, rfl⟩⟩
  show (w.heap.push _)[w.heap.size]? = _
  simp
theorem OwnP.app {base : Nat} {w : World} {v : Value} {A B : List Nat} (h : w.ownsRow base 53 1 v (A.length + (B.map ptrN).length) (A.map ptrN ++ B.map ptrN)) : OwnP base w v (A ++ B) := by
  unfold OwnP; rw [List.length_append, List.map_append]; rw [List.length_map] at h; exact h
theorem OwnP.snoc {base : Nat} {w : World} {v : Value} {A : List Nat} {b : Nat} (h : w.ownsRow base 53 1 v (A.length + 1) (A.map ptrN ++ [ptrN b])) : OwnP base w v (A ++ [b]) := by
  unfold OwnP; rw [List.length_append, List.map_append]; exact h
theorem onePtr (bs : List Nat) : ∀ u ∈ bs.map ptrN, u.oneCell' = true := by
  intro u hu
  obtain ⟨x, _, rfl⟩ := List.mem_map.1 hu
  rfl
theorem onePtr1 (b : Nat) : ∀ u ∈ [ptrN b], u.oneCell' = true := by intro u hu; simp at hu; subst hu; rfl
def CellsP (base : Nat) (w : World) (v : Value) (bs : List Nat) : Prop :=
  ∃ oa cap, v = .slice oa bs.length cap ∧ bs.length ≤ cap ∧ cap ≤ maxLen ∧ ∀ i, i < bs.length → ∃ g, oa = some ⟨g, 0, none⟩ ∧ base ≤ g ∧ g < w.heap.size ∧ w.cell? ⟨g, i, none⟩ = some (ptrN (bs.getD i 0))
theorem OwnP.cells {base : Nat} {w : World} {v : Value} {bs : List Nat} (h : OwnP base w v bs) : CellsP base w v bs := by
  rcases h.2 with ⟨hv, hn⟩ | ⟨g, cap, cur, hv, hb, hr⟩
  · exact ⟨none, 0, by rw [hv, hn], by omega, by unfold maxLen; omega, fun i hi => by omega⟩
  · subst hv
    have hlt := World.ownsRow.lt h g rfl
    have hc := fun i (hi : i < bs.length) => World.ownsRow.cellAt h i (by omega)
    refine ⟨some ⟨g, 0, none⟩, cap, rfl, hr.2.1, hr.2.2.1, fun i hi => ⟨g, rfl, hlt.1, hlt.2, ?_⟩⟩
    rw [hc i hi]; simp [List.getElem?_eq_getElem hi]
theorem OwnP.src {base : Nat} {w : World} {v : Value} {bs : List Nat} (h : OwnP base w v bs) : SrcV w v (bs.map ptrN) := by
  rcases h.2 with ⟨hv, hn⟩ | ⟨g, cap, cur, hv, hb, hr⟩
  · left
    exact ⟨hv, by rw [List.length_eq_zero_iff.1 hn]; rfl⟩
  · subst hv
    refine .inr ⟨⟨g, 0, none⟩, cap, by simp, fun j x hj => ?_⟩
    have hj' : j < bs.length := by have := (List.getElem?_eq_some_iff.1 hj).1; simpa using this
    rw [addr_add, World.ownsRow.cellAt h j (by omega), hj]

/-- The nodes of a list of trees. -/
def NodesAt (w : World) : List Tr → List Nat → Prop
  | [], [] => True
  | t :: ts, b :: bs => NodeAt w t b ∧ NodesAt w ts bs
  | _, _ => False
theorem NodesAt.keep {w w' : World} (hb : Below w.heap.size w w') : ∀ {ts : List Tr} {bs : List Nat}, NodesAt w ts bs → NodesAt w' ts bs := by
  intro ts
  induction ts with
  | nil => intro bs h; cases bs with | nil => trivial | cons b bs => exact h.elim
  | cons t ts ih => intro bs h; cases bs with | nil => exact h.elim | cons b bs => exact ⟨h.1.keep hb, ih h.2⟩
theorem NodesAt.len {w : World} : ∀ {ts : List Tr} {bs : List Nat}, NodesAt w ts bs → bs.length = ts.length := by
  intro ts
  induction ts with
  | nil => intro bs h; cases bs with | nil => rfl | cons b bs => exact h.elim
  | cons t ts ih => intro bs h; cases bs with | nil => exact h.elim | cons b bs => simp [ih h.2]
theorem NodesAt.get {w : World} : ∀ {ts : List Tr} {bs : List Nat}, NodesAt w ts bs → ∀ i, i < ts.length → NodeAt w (ts.getD i .lf) (bs.getD i 0) := by
  intro ts
  induction ts with
  | nil => intro bs h i hi; simp at hi
  | cons t ts ih =>
    intro bs h i hi
    cases bs with
    | nil => exact h.elim
    | cons b bs =>
      cases i with
      | zero => simpa using h.1
      | succ i => simpa using ih h.2 i (by simp at hi; omega)
theorem NodesAt.snoc {w : World} : ∀ {ts : List Tr} {bs : List Nat} {t : Tr} {b : Nat}, NodesAt w ts bs → NodeAt w t b → NodesAt w (ts ++ [t]) (bs ++ [b]) := by
  intro ts
  induction ts with
  | nil => intro bs t b h k; cases bs with | nil => exact ⟨k, trivial⟩ | cons b bs => exact h.elim
  | cons t ts ih => intro bs u c h k; cases bs with | nil => exact h.elim | cons b bs => exact ⟨h.1, ih h.2 k⟩

/-- The carets on the right side. -/
def onR : Tr → List Tr
  | .lf => []
  | .nd l r => .nd l r :: onR r
def leftT : Tr → Tr
  | .lf => .lf
  | .nd l _ => l
theorem onR_left (t : Tr) : (onR t).map leftT = sidesT t := by
  induction t with
  | lf => rfl
  | nd l r _ ihr => rw [onR, List.map_cons, ihr]; rfl
theorem onR_length (t : Tr) : (onR t).length ≤ t.carets := by
  induction t with
  | lf => exact Nat.le_refl _
  | nd l r _ ihr => rw [onR, List.length_cons, Tr.carets]; omega
theorem onR_nd (t : Tr) : ∀ x ∈ onR t, ∃ l r, x = .nd l r := by
  induction t with
  | lf => intro x h; cases h
  | nd l r _ ihr =>
    intro x h
    rcases List.mem_cons.1 h with rfl | h
    · exact ⟨l, r, rfl⟩
    · exact ihr x h
/-- A call that hands back nodes of trees that lay in w0. -/
def GivesNodes (w0 : World) (ts : List Tr) (w : World) (e : Ending) (w' : World) : Prop :=
  ∃ v bs, OwnP w.heap.size w' v bs ∧ NodesAt w0 ts bs ∧ Below w.heap.size w w' ∧ e = .returned v

set_option maxRecDepth 100000 in
set_option maxHeartbeats 1000000 in
theorem onRight_any (w0 : World) (t : Tr) : ∀ (b : Nat) (w : World), NodeAt w0 t b → Below w0.heap.size w0 w → t.carets ≤ 1000 →
    Calls Try.prog 89 #[.pointer (some ⟨b, 0, none⟩)] w (GivesNodes w0 (onR t) w) := by
  obtain ⟨i0, hi, hz0, hz1, hz2⟩ := info_parts info_ptrN
  induction t with
  | lf =>
    intro b w h hbw _
    have H := Lib.hid (h.keep hbw)
    clear h hbw
    go_enter Try.func89, Try.ntmps89
    go_wp2_with fail
    refine (isLeaf_any .lf b _ H.out).mono ?_; rintro e w1 ⟨rfl, rfl⟩
    simp only [Tr.isLf]
    go_wp2_with fail
    go_ret
    exact ⟨_, [], OwnP.nil _ _, trivial, Below.refl _ _, rfl⟩
  | nd l r _ ihr =>
    intro b w h hbw hc
    have H0 := Lib.hid h
    have H := Lib.hid (h.keep hbw)
    obtain ⟨bl, br, h, hl, hr⟩ := h
    replace h := (hbw.block b (lt_of_block h)).trans h
    have h2 := two_right h
    have hcr : r.carets ≤ 1000 := by simp only [Tr.carets] at hc; omega
    have hlen := onR_length r
    have hOne := OwnP.one w b
    unfold OwnP ptrN at hOne
    clear h
    go_enter Try.func89, Try.ntmps89
    go_wp2_with fail
    refine (isLeaf_any (.nd l r) b _ H.out).mono ?_; rintro e w1 ⟨rfl, rfl⟩
    simp only [Tr.isLf]
    have hb0 := nxAlloc (Below.refl w.heap.size w) (.cells #[.pointer (some ⟨b, 0, none⟩)] 53 (0, 0))
    have c2 := keep_cell hb0 h2
    have hbw0 := hbw.trans (hb0.mono hbw.size)
    go_wp2_with fail
    refine (ihr br _ hr hbw0 hcr).mono ?_; rintro e w2 ⟨v2, bs, own2, hn2, hb2, rfl⟩
    have hbl := hn2.len
    have hOne2 := ownsRow_keep hOne hb2
    have hb3 := nx hb0 hb2
    have hsrc := own2.src
    have hmm : (bs.map ptrN).length = bs.length := by simp
    go_wp2_with (at_builtin; refine wpList_appSrc rfl (.tmp 6) (.tmp 11) 90 rfl w.heap.size 53 i0 (.pointer none) 8 Try.underlying90 hi hz0 hz1 hz2 rfl _ 1 _ rfl hOne2 _ _ rfl hsrc (onePtr bs) (by unfold maxLen; omega) (by omega) hb3.size ?_; intro v9 w9 hown9 hb9 hn9)
    have hfin : OwnP w.heap.size w9 v9 (b :: bs) := OwnP.app (A := [b]) hown9
    clear hown9 hn9 hsrc hOne2 hOne
    go_wp2_with fail
    go_ret
    exact ⟨_, _, hfin, ⟨H0.out, hn2⟩, hb3.trans hb9, rfl⟩

theorem leftSide_c (b : Nat) (v : Value) (w : World) (h : w.cell? ⟨b, 0, none⟩ = some v) :
    Calls Try.prog 90 #[.pointer (some ⟨b, 0, none⟩)] w fun e w' => e = .returned v ∧ w = w' := by
  go_enter Try.func90, Try.ntmps90
  go_wp2_with fail
  go_ret
  exact ⟨rfl, rfl⟩

set_option maxRecDepth 100000 in
set_option maxHeartbeats 2000000 in
theorem listOfLeft_any (w0 : World) (v : Value) (b : Nat) (ts : List Tr) (bs : List Nat) (w : World) (h : CellsP b w v bs) (hN : NodesAt w0 ts bs) (hb0 : Below w0.heap.size w0 w) (hnd : ∀ x ∈ ts, ∃ l r, x = .nd l r) (hl : ts.length ≤ 1000)
    (hcall : ∀ (args : Array Value) (w : World), (callFunc 90 args).run Try.prog w = .ok (.enter 90 args) w) :
    Calls Try.prog 88 #[v, .func (Fn.func 90) #[] #[]] w (GivesNodes w0 (ts.map leftT) w) := by
  obtain ⟨i0, hi, hz0, hz1, hz2⟩ := info_parts info_ptrN
  obtain ⟨oa, cap, rfl, hcl, hcm, hcc⟩ := h
  unfold maxLen at hcm
  have hbl := hN.len
  obtain ⟨n, hn⟩ : ∃ n, n = bs.length := ⟨_, rfl⟩
  rw [← hn] at hcl hcc hbl ⊢
  have HNN := Lib.hid hn
  have HC := Lib.hid hcc
  have HN := Lib.hid hN
  have HD := Lib.hid hnd
  have HBL := Lib.hid hbl
  have hn1 : n ≤ 1000 := by omega
  clear hcc hN hnd hbl hl hn
  go_enter Try.func88, Try.ntmps88
  go_wp2_with fail
  go_loopw [5, 10] (fun v i wr => ∃ (k : Nat) (cs : List Nat), k ≤ n ∧ i = .int .i64 k ∧ cs.length = k ∧ OwnP w.heap.size wr v cs ∧ Hid (NodesAt w0 ((ts.map leftT).take k) cs) ∧ Below w.heap.size w wr) (fun _ i _ => n - (intOf i).toNat)
  case atStart => exact ⟨0, [], Nat.zero_le _, rfl, rfl, OwnP.nil _ _, trivial, Below.refl _ _⟩
  case round =>
    obtain ⟨k, cs, hk, rfl, hcs, hown, hnodes, hbw⟩ := hrel
    by_cases hlt : k < n
    · have hlt' : (k : Int) < (n : Int) := by omega
      obtain ⟨g, rfl, _, hgl, c0⟩ := HC.out k hlt
      have c1 := (hbw.cell (p := ⟨g, k, none⟩) hgl).trans c0
      have hkt : k < ts.length := by have := HBL.out; omega
      have hnode := HN.out.get k hkt
      obtain ⟨l, r, hlr⟩ := HD.out (ts.getD k .lf) (by rw [List.getD_eq_getElem?_getD, List.getElem?_eq_getElem hkt]; exact List.getElem_mem hkt)
      rw [hlr] at hnode
      obtain ⟨bl, br, hblk, hnl, _⟩ := hnode
      have c2 := two_left ((nx hb0 hbw).block _ (lt_of_block hblk) |>.trans hblk)
      have hnext : NodesAt w0 ((ts.map leftT).take (k + 1)) (cs ++ [bl]) := by
        have e1 : (ts.map leftT).take (k + 1) = (ts.map leftT).take k ++ [l] := by
          rw [List.take_succ_eq_append_getElem (by simpa using hkt)]
          congr 1
          rw [List.getElem_map]
          rw [List.getD_eq_getElem?_getD, List.getElem?_eq_getElem hkt, Option.getD_some] at hlr
          rw [hlr]; rfl
        rw [e1]
        exact hnodes.out.snoc hnl
      have HX := Lib.hid hnext
      have HCS := Lib.hid hcs
      have hcs9 : cs.length ≤ 1000 := by omega
      unfold OwnP at hown
      have hown0 := hown
      generalize bs.getD k 0 = p at *
      unfold ptrN at c1
      have hLS := fun w h => leftSide_c p (.pointer (some ⟨bl, 0, none⟩)) w h
      clear hnext hnodes hlr hblk hnl c0 hcs
      go_wp2_with fail
      refine (hLS _ c2).mono ?_; rintro e w3 ⟨rfl, rfl⟩
      go_wp2_with (at_builtin; refine wpList_append_own _ rfl _ _ 90 rfl w.heap.size 53 i0 (.pointer none) 1 8 Try.underlying90 hi hz0 hz1 hz2 rfl (by decide) _ _ _ rfl (hown.alloc _) ⟨wr.heap.size, 0, none⟩ 1 1 [.pointer (some ⟨bl, 0, none⟩)] rfl rfl (new1 _ _ _) (onePtr1 bl) (by unfold maxLen; omega) (by omega) (size_al hbw _) ?_; intro v' w9 hown' hgrow hnn)
      have hbw9 := below_app hbw hown (Nat.le_refl _) hgrow
      have hown1 : OwnP w.heap.size w9 v' (cs ++ [bl]) := OwnP.snoc hown'
      clear hown hown0 hown' hgrow hbw hnn
      go_wp2_with fail
      go_roundw
      case rel => exact ⟨k + 1, _, by omega, by go_num, by have := HCS.out; simp; omega, hown1, HX, hbw9⟩
      case measure => simp [intOf]; omega
    · obtain rfl : k = n := by omega
      have h1 := hnodes.out
      rw [List.take_of_length_le (by simp; have := HBL.out; omega)] at h1
      have HX := Lib.hid h1
      clear h1 hnodes hcs
      go_wp2_with fail
      go_ret
      exact ⟨_, _, hown, HX.out, hbw, rfl⟩

set_option maxRecDepth 100000 in
set_option maxHeartbeats 2000000 in
theorem listOfText_any (w0 : World) (v : Value) (b : Nat) (ts : List Tr) (bs : List Nat) (w : World) (h : CellsP b w v bs) (hN : NodesAt w0 ts bs) (hb0 : Below w0.heap.size w0 w) (hcar : ∀ x ∈ ts, x.carets ≤ 1000) (hl : ts.length ≤ 1000)
    (hcall : ∀ (args : Array Value) (w : World), (callFunc 91 args).run Try.prog w = .ok (.enter 91 args) w) :
    Calls Try.prog 87 #[v, .func (Fn.func 91) #[] #[]] w (fun e w' => ∃ v', OwnS w.heap.size w' v' (strs ts) ∧ Below w.heap.size w w' ∧ e = .returned v') := by
  obtain ⟨i0, hi, hz0, hz1, hz2⟩ := info_parts info_str
  obtain ⟨oa, cap, rfl, hcl, hcm, hcc⟩ := h
  unfold maxLen at hcm
  have hbl := hN.len
  obtain ⟨n, hn⟩ : ∃ n, n = bs.length := ⟨_, rfl⟩
  rw [← hn] at hcl hcc hbl ⊢
  have HNN := Lib.hid hn
  have HC := Lib.hid hcc
  have HN := Lib.hid hN
  have HD := Lib.hid hcar
  have HBL := Lib.hid hbl
  have hn1 : n ≤ 1000 := by omega
  clear hcc hN hcar hbl hl hn
  go_enter Try.func87, Try.ntmps87
  go_wp2_with fail
  go_loopw [5, 10] (fun v i wr => ∃ (k : Nat) (ss : List ByteArray), k ≤ n ∧ i = .int .i64 k ∧ ss.length = k ∧ OwnS w.heap.size wr v ss ∧ Hid (ss = (strs ts).take k) ∧ Below w.heap.size w wr) (fun _ i _ => n - (intOf i).toNat)
  case atStart => exact ⟨0, [], Nat.zero_le _, rfl, rfl, OwnS.nil _ _, rfl, Below.refl _ _⟩
  case round =>
    obtain ⟨k, ss, hk, rfl, hcs, hown, hss, hbw⟩ := hrel
    by_cases hlt : k < n
    · have hlt' : (k : Int) < (n : Int) := by omega
      obtain ⟨g, rfl, _, hgl, c0⟩ := HC.out k hlt
      have c1 := (hbw.cell (p := ⟨g, k, none⟩) hgl).trans c0
      have hkt : k < ts.length := by have := HBL.out; omega
      have hnode := (HN.out.get k hkt).keep (nx hb0 hbw)
      have hct := HD.out (ts.getD k .lf) (by rw [List.getD_eq_getElem?_getD, List.getElem?_eq_getElem hkt]; exact List.getElem_mem hkt)
      have hnext : ss ++ [(ts.getD k .lf).str] = (strs ts).take (k + 1) := by
        rw [hss.out]
        unfold strs
        rw [List.take_succ_eq_append_getElem (by simpa using hkt)]
        simp [hkt]
      have HX := Lib.hid hnext
      have HCS := Lib.hid hcs
      have hcs9 : ss.length ≤ 1000 := by omega
      unfold OwnS at hown
      generalize bs.getD k 0 = p at *
      unfold ptrN at c1
      generalize ts.getD k .lf = t at *
      have hTX := text_any t p _ hnode hct
      generalize t.str = x at *
      clear hnext hss hnode c0 hcs
      go_wp2_with fail
      refine hTX.mono ?_; rintro e w3 ⟨rfl, d, hw3⟩
      have hb3 : Below wr.heap.size wr w3 := by rw [hw3]; exact drewB (Below.refl _ _) _
      clear hw3 hTX
      replace hown := ownsRow_keep hown hb3
      replace hbw := nx hbw hb3
      clear hb3
      go_wp2_with (at_builtin; refine wpList_append_own _ rfl _ _ 22 rfl w.heap.size 9 i0 (.string ⟨#[]⟩) 1 16 Try.underlying22 hi hz0 hz1 hz2 rfl (by decide) _ _ _ rfl (hown.alloc _) ⟨w3.heap.size, 0, none⟩ 1 1 [.string x] rfl rfl (new1 _ _ _) (oneS [x]) (by unfold maxLen; omega) (by omega) (size_al hbw _) ?_; intro v' w9 hown' hgrow hnn)
      have hbw9 := below_app hbw hown (Nat.le_refl _) hgrow
      have hown1 : OwnS w.heap.size w9 v' (ss ++ [x]) := OwnS.app (B := [x]) hown'
      clear hown hown' hgrow hbw hnn
      go_wp2_with fail
      go_roundw
      case rel => exact ⟨k + 1, _, by omega, by go_num, by have := HCS.out; simp; omega, hown1, HX, hbw9⟩
      case measure => simp [intOf]; omega
    · obtain rfl : k = n := by omega
      have h1 := hss.out
      rw [List.take_of_length_le (by rw [strs_length]; have := HBL.out; omega)] at h1
      have HX := Lib.hid h1
      clear h1 hss hcs
      go_wp2_with fail
      go_ret
      exact ⟨_, by rw [← HX.out]; exact hown, hbw, rfl⟩
end Go.Proofs.Ytplmbdljhgicfaa

/-! Ff8 -/
namespace Go.Proofs.Ytplmbdljhgicfaa
open Go.RowKit

theorem OwnS.cut {base : Nat} {w : World} {oa : Option Addr} {m cap : Nat} {xs : List ByteArray} (h : OwnS base w (.slice oa m cap) xs) (n : Nat) (hn : n ≤ xs.length) (hm : xs.length = m) : OwnS base w (.slice oa n cap) (xs.take n) := by
  obtain ⟨h1, h2⟩ := h
  have hl : (xs.take n).length = n := by rw [List.length_take]; omega
  unfold OwnS
  rw [hl]
  refine ⟨by simp; omega, ?_⟩
  rcases h2 with ⟨hv, hn0⟩ | ⟨g, cap', cur, hv, hb, hh, r1, r2, r3, r4⟩
  · cases hv
    obtain rfl : n = 0 := by omega
    exact .inl ⟨rfl, rfl⟩
  · cases hv
    refine .inr ⟨g, cap, cur, rfl, hb, hh, by omega, r2, r3, ?_⟩
    rw [List.map_take, ← r4, List.take_take, Nat.min_eq_left (by omega), Nat.mul_one]
def sliceN (v : Value) : Nat := match v with | .slice _ n _ => n | _ => 0
/-- A call that hands back texts of its own, or none. -/
def GivesOwn (ss : List ByteArray) (w : World) (e : Ending) (w' : World) : Prop := ∃ v, OwnS w.heap.size w' v ss ∧ Below w.heap.size w w' ∧ e = .returned v
theorem strip_snoc (ts : List Tr) (k : Nat) (h : k < ts.length) (hl : (ts.getD k .lf).isLf = true) : stripT (ts.take (k + 1)) = stripT (ts.take k) := by
  refine stripT_take (t := ts.getD k .lf) ?_ hl
  rw [List.getD_eq_getElem?_getD, List.getElem?_eq_getElem h]; rfl
theorem strip_end (ts : List Tr) (k : Nat) (h : k < ts.length) (hl : (ts.getD k .lf).isLf = false) : stripT (ts.take (k + 1)) = ts.take (k + 1) := by
  refine stripT_stop (t := ts.getD k .lf) ?_ hl
  rw [List.getD_eq_getElem?_getD, List.getElem?_eq_getElem h]; rfl

set_option maxRecDepth 100000 in
set_option maxHeartbeats 2000000 in
theorem hanging_any (t : Tr) (b : Nat) (w : World) (h : NodeAt w t b) (hc : t.carets ≤ 1000) :
    Calls Try.prog 57 #[.pointer (some ⟨b, 0, none⟩)] w (GivesOwn (strs (hangT t)) w) := by
  have hcall1 : ∀ (args : Array Value) (w : World), (callFunc 90 args).run Try.prog w = .ok (.enter 90 args) w := by intro args w; rfl
  have hcall2 : ∀ (args : Array Value) (w : World), (callFunc 91 args).run Try.prog w = .ok (.enter 91 args) w := by intro args w; rfl
  have hR := fun w' hb => onRight_any w t b w' h hb hc
  have hlen := onR_length t
  have hL := fun v b bs w' hcells hN hb => listOfLeft_any w v b (onR t) bs w' hcells hN hb (onR_nd t) (by omega) hcall1
  have hsum := sides_sum t
  have hT := fun v b bs w' hcells hN hb => listOfText_any w v b ((onR t).map leftT) bs w' hcells hN hb (fun x hx => by rw [onR_left] at hx; have := sumT_mem hx; omega) (by simp; omega) hcall2
  rw [onR_left] at hL hT
  have hsl : (sidesT t).length ≤ 1000 := by omega
  obtain ⟨ts, hts⟩ : ∃ ts, ts = sidesT t := ⟨_, rfl⟩
  have HH : Hid (stripT ts = hangT t) := by show _ = _; rw [hts]; rfl
  rw [← hts] at hL hT hsl
  clear hts hsum hlen hcall1 hcall2
  go_enter Try.func57, Try.ntmps57
  go_wp2_with fail
  refine (hR _ (Below.refl _ _)).mono ?_; rintro e w1 ⟨v1, bs1, own1, hn1, hb1, rfl⟩
  go_wp2_with fail
  refine (hL v1 _ bs1 _ own1.cells hn1 hb1).mono ?_; rintro e w2 ⟨v2, bs2, own2, hn2, hb2, rfl⟩
  replace hb2 := nx hb1 hb2
  go_wp2_with fail
  refine (hT v2 _ bs2 _ own2.cells hn2 hb2).mono ?_; rintro e w3 ⟨v3, own3, hb3, rfl⟩
  replace own3 := own3.mono hb2.size
  replace hb3 := nx hb2 hb3
  clear hR hL hT own1 own2 hn1 hn2 hb1 hb2
  go_wp2_with fail
  go_loopw [3] (fun u wr => ∃ k : Nat, k ≤ ts.length ∧ OwnS w.heap.size w3 u ((strs ts).take k) ∧ Hid (stripT ts = stripT (ts.take k)) ∧ wr = w3) (fun u _ => sliceN u)
  case atStart => exact ⟨ts.length, Nat.le_refl _, by rw [List.take_of_length_le (by rw [strs_length]; exact Nat.le_refl _)]; exact own3, by show _ = _; rw [List.take_length], rfl⟩
  case round =>
    obtain ⟨k, hk, hown, he, rfl⟩ := hrel
    have hkl : ((strs ts).take k).length = k := by rw [List.length_take, strs_length]; omega
    obtain ⟨oa, cap, rfl, hcl, hcm, hcc⟩ := hown.cells.form0
    unfold maxLen at hcm
    rw [hkl] at hcl hcc hown ⊢
    cases k with
    | zero =>
      have HE : Hid (strs (hangT t) = []) := by
        show strs (hangT t) = []
        rw [← HH.out, he.out]; rfl
      clear he hcc hkl
      go_wp2_with fail
      go_ret
      exact ⟨_, by rw [HE.out]; exact hown, hb3, rfl⟩
    | succ k =>
      obtain ⟨g, rfl, _, hgl, c1⟩ := hcc k (by omega)
      have hkt : k < ts.length := by omega
      rw [show ((strs ts).take (k + 1)).getD k ⟨#[]⟩ = (ts.getD k .lf).str by rw [List.getD_eq_getElem?_getD, List.getElem?_take_of_lt (by omega), ← List.getD_eq_getElem?_getD]; exact map_getD ts k hkt] at c1
      have hd := str_dot (ts.getD k .lf)
      have ei : ((k + 1 : Nat) : Int) - 1 = (k : Int) := by omega
      have hd1 : (0 : Int) ≤ (k : Int) := by omega
      have hd2 : (k : Int) < ((k + 1 : Nat) : Int) := by omega
      have hd3 : (0 : Int) < ((k + 1 : Nat) : Int) := by omega
      have hkc : k ≤ cap := by omega
      cases hlf : (ts.getD k .lf).isLf with
      | true =>
        have HN : Hid (stripT ts = stripT (ts.take k)) := by show _ = _; rw [he.out, strip_snoc ts k hkt hlf]
        rw [hlf] at hd
        have hown1 := OwnS.cut hown k (by omega) hkl
        rw [List.take_take, Nat.min_eq_left (by omega)] at hown1
        generalize (ts.getD k .lf).str = x at *
        clear hlf he hcc hkl hown
        go_wp2_with fail
        go_roundw
        case rel => exact ⟨k, by omega, hown1, HN, trivial⟩
        case measure => simp [sliceN]
      | false =>
        have HE : Hid (strs (hangT t) = (strs ts).take (k + 1)) := by
          show strs (hangT t) = _
          rw [← HH.out, he.out, strip_end ts k hkt hlf]; simp [strs]
        rw [hlf] at hd
        generalize (ts.getD k .lf).str = x at *
        clear hlf he hcc hkl
        go_wp2_with fail
        go_ret
        exact ⟨_, by rw [HE.out]; exact hown, hb3, rfl⟩

theorem treeOf_great {t : Tr} (h : 8 < t.carets) : treeOf t.str = none := by
  cases hf : treeOf t.str with
  | none => rfl
  | some u =>
    obtain ⟨h1, h2⟩ := treeOf_some hf
    have h3 : t.text = u.text := by rw [← Tr.str_list, ← Tr.str_list, h1]
    have : t = u := (Tr.text_inj (t := t) (u := u) (r := []) (q := []) (by rw [h3])).1
    rw [this] at h; omega
theorem forOf_any (ts : List Tr) : forOf (strs ts) = if okF ts = true then some ts else none := by
  by_cases h : okF ts = true
  · rw [if_pos h]; exact forOf_map h
  · rw [if_neg h]
    cases hf : forOf (strs ts) with
    | none => rfl
    | some us =>
      obtain ⟨h1, h2, h3, h4⟩ := forOf_some hf
      exfalso
      have h5 : ts = us := by
        have hi : ∀ (a c : List Tr), a.map Tr.str = c.map Tr.str → a = c := by
          intro a
          induction a with
          | nil => intro c hc; cases c with | nil => rfl | cons x c => cases hc
          | cons x a ih =>
            intro c hc
            cases c with
            | nil => cases hc
            | cons y c =>
              rw [List.map_cons, List.map_cons] at hc
              injection hc with e1 e2
              have e3 : x.text = y.text := by rw [← Tr.str_list, ← Tr.str_list, e1]
              have e4 : x = y := (Tr.text_inj (t := x) (u := y) (r := []) (q := []) (by rw [e3])).1
              rw [e4, ih c e2]
        exact hi ts us h1
      subst h5
      exact h (okF_iff.2 ⟨h2, h3, h4⟩)
theorem sz_strs {us : List Tr} (h : sumT us ≤ 1000) : ∀ x ∈ strs us, x.size ≤ 1048576 := by
  intro x hx
  obtain ⟨u, hu, rfl⟩ := List.mem_map.1 hx
  have := sumT_mem hu
  rw [u.str_size]; omega

set_option maxRecDepth 100000 in
theorem withinLimitsF_any (v : Value) (b : Nat) (ts : List Tr) (w : World) (h : CellsS b w v (strs ts)) (hs : sumT ts ≤ 1000) (hl : ts.length ≤ 1000) :
    Calls Try.prog 56 #[v] w fun e w' => e = .returned (.tuple #[if okF ts = true then v else .slice none 0 0, .bool (okF ts)]) ∧ Below w.heap.size w w' := by
  have hG := implIsForest_b v b (strs ts) w h (sz_strs hs) (by rw [strs_length]; omega)
  rw [forOf_any] at hG
  obtain ⟨oa, cap, rfl, hcl, hcm, _⟩ := h.form0
  unfold maxLen at hcm
  rw [strs_length] at *
  cases hk : okF ts with
  | true =>
    rw [if_pos hk] at hG
    have hG' : Calls Try.prog 16 #[.slice oa ts.length cap] w (Gives (.bool true) w) := hG
    rw [if_pos rfl]
    clear hG h
    go_enter Try.func56, Try.ntmps56
    go_wp2_with fail
    refine hG'.mono ?_; rintro e w1 ⟨rfl, hb1⟩
    go_wp2_with fail
    go_ret2
    exact ⟨rfl, hb1⟩
  | false =>
    rw [hk] at hG
    have hG' : Calls Try.prog 16 #[.slice oa ts.length cap] w (Gives (.bool false) w) := hG
    rw [if_neg (by decide)]
    clear hG h
    go_enter Try.func56, Try.ntmps56
    go_wp2_with fail
    refine hG'.mono ?_; rintro e w1 ⟨rfl, hb1⟩
    go_wp2_with fail
    go_ret2
    exact ⟨rfl, hb1⟩

set_option maxRecDepth 100000 in
set_option maxHeartbeats 2000000 in
theorem wdShort_none (w : World) : Calls Try.prog 86 #[.slice none 0 0] w (GivesOwn [] w) := by
  obtain ⟨i0, hi, hz0, hz1, hz2⟩ := info_parts info_str
  have hown0 := ownsRow_empty w 9
  have hb0 := nxAlloc (Below.refl w.heap.size w) (.cells #[] 9 (0, 0))
  have hsrc : SrcV (w.alloc (.cells #[] 9 (0, 0))) (.slice none 0 0) ([] : List Value) := .inl ⟨rfl, rfl⟩
  have hone : ∀ y ∈ ([] : List Value), y.oneCell' = true := by intro y hy; cases hy
  go_enter Try.func86, Try.ntmps86
  go_wp2_with fail
  go_loop [3] (fun i => i = .int .i64 0) (fun _ => 0)
  case atStart => exact rfl
  case round =>
    obtain rfl := hrel
    go_wp2_with (at_builtin; refine wpList_appSrc rfl (.tmp 18) (.tmp 21) 22 rfl w.heap.size 9 i0 (.string ⟨#[]⟩) 16 Try.underlying22 hi hz0 hz1 hz2 rfl _ 0 _ rfl hown0 _ _ rfl hsrc hone (by unfold maxLen; simp) (by simp) (by simp) ?_; intro w1v w1 w1o w1b w1n)
    have HF : OwnS w.heap.size w1 w1v [] := w1o
    clear w1o w1n
    go_wp2_with fail
    go_ret
    exact ⟨_, HF, hb0.trans w1b, rfl⟩
theorem wdShort_own (v : Value) (b : Nat) (ts : List Tr) (w : World) (h : CellsS b w v (strs ts)) (hl : ts.length ≤ 1000) :
    Calls Try.prog 86 #[v] w (GivesOwn (strs (stripT ts)) w) := by
  have h0 := h
  rcases h with ⟨rfl, hn⟩ | ⟨g, cap, rfl, _⟩
  · have : ts = [] := by
      have := congrArg List.length hn
      rw [strs_length] at this
      exact List.length_eq_zero_iff.1 this
    subst this
    exact wdShort_none w
  · rw [strs_length] at *
    refine (wdShort_any b g cap ts w h0 hl).mono ?_
    rintro e w' ⟨g', cap', ho, hb, he⟩
    exact ⟨_, ho, hb, he⟩

set_option maxRecDepth 100000 in
theorem foIf_any (v : Value) (b : Nat) (ts : List Tr) (w : World) (h : CellsS b w v (strs ts)) (hs : sumT ts ≤ 1000) (hl : ts.length ≤ 1000) :
    Calls Try.prog 55 #[v] w (AnsS2 (if okF (stripT ts) = true then strs (stripT ts) else []) (okF (stripT ts)) w) := by
  have hW := wdShort_own v b ts w h hl
  have hsl := stripT_length ts
  have hss := sumT_strip ts
  generalize stripT ts = us at *
  have hG := fun v b w h => foGood_any v b (strs us) w h (sz_strs (by omega)) (by rw [strs_length]; omega)
  rw [forOf_any] at hG
  obtain ⟨oa, cap, rfl, hcl, hcm, _⟩ := h.form0
  unfold maxLen at hcm
  cases hk : okF us with
  | true =>
    rw [if_pos hk] at hG
    have hG' : ∀ v b w, CellsS b w v (strs us) → Calls Try.prog 41 #[v] w (Gives (.bool true) w) := hG
    rw [if_pos rfl]
    clear hG h hsl hss hk
    go_enter Try.func55, Try.ntmps55
    go_wp2_with fail
    refine hW.mono ?_; rintro e w1 ⟨v1, own1, hb1, rfl⟩
    go_wp2_with fail
    refine (hG' v1 _ _ own1.cells).mono ?_; rintro e w2 ⟨rfl, hb2⟩
    go_wp2_with fail
    go_ret2
    exact ⟨_, own1.keep hb2, nx hb1 hb2, rfl⟩
  | false =>
    rw [hk] at hG
    have hG' : ∀ v b w, CellsS b w v (strs us) → Calls Try.prog 41 #[v] w (Gives (.bool false) w) := hG
    rw [if_neg (by decide)]
    clear hG h hsl hss hk
    go_enter Try.func55, Try.ntmps55
    go_wp2_with fail
    refine hW.mono ?_; rintro e w1 ⟨v1, own1, hb1, rfl⟩
    go_wp2_with fail
    refine (hG' v1 _ _ own1.cells).mono ?_; rintro e w2 ⟨rfl, hb2⟩
    go_wp2_with fail
    go_ret2
    exact ⟨_, OwnS.nil _ _, nx hb1 hb2, rfl⟩

end Go.Proofs.Ytplmbdljhgicfaa

/-! Ff9 -/
namespace Go.Proofs.Ytplmbdljhgicfaa
open Go.RowKit

def joinFo (o p : Option (List Tr)) : Option (List ByteArray) :=
  match o, p with
  | some us, some vs => if okF (joinF us vs) = true then some (strs (joinF us vs)) else none
  | _, _ => none
def comFo (o p : Option (List Tr)) : Option (List ByteArray) :=
  match o, p with
  | some us, some vs => some (strs (stripT (comF us vs)))
  | _, _ => none
theorem joinFo_ans (us vs : List Tr) (h : lastB us = true) (k : lastB vs = true) : AnsSs (joinFo (some us) (some vs)) = AnsS2 (if okF (stripT (joinL us vs)) = true then strs (stripT (joinL us vs)) else []) (okF (stripT (joinL us vs))) := by
  rw [joinL_eq, (lastB_strip _).1 (joinF_last us vs h k)]
  unfold AnsSs joinFo
  cases h : okF (joinF us vs) <;> simp [h]
theorem comF_ok {us : List Tr} (vs : List Tr) (h : us.length ≤ 8) (k : sumT us ≤ 8) : okF (stripT (comF us vs)) = true := by
  have h1 := comF_length us vs
  have h2 := comF_sum us vs
  have h3 := stripT_length (comF us vs)
  have h4 := sumT_strip (comF us vs)
  exact okF_iff.2 ⟨by omega, by omega, stripT_lastB _⟩
theorem comFo_ans (us vs : List Tr) (h : us.length ≤ 8) (k : sumT us ≤ 8) : AnsSs (comFo (some us) (some vs)) = AnsS2 (if okF (stripT (comL us vs)) = true then strs (stripT (comL us vs)) else []) (okF (stripT (comL us vs))) := by
  rw [comL_strip, comF_ok vs h k, if_pos rfl]
  rfl
theorem joinF_strip {us vs : List Tr} (h : lastB us = true) (k : lastB vs = true) : stripT (joinF us vs) = joinF us vs := (lastB_strip _).1 (joinF_last us vs h k)
theorem take_strs1 (ts : List Tr) (k : Nat) (h : k < ts.length) : strs (ts.take (k + 1)) = strs (ts.take k) ++ [(ts.getD k .lf).str] := by
  unfold strs
  rw [List.take_succ_eq_append_getElem h, List.map_append]
  simp [h]
theorem joinL_get (us vs : List Tr) (k : Nat) (h : k < max us.length vs.length) : (joinL us vs).getD k .lf = (us.getD k .lf).join (vs.getD k .lf) := by
  unfold joinL
  rw [List.getD_eq_getElem?_getD, List.getElem?_map, List.getElem?_range h]; rfl
theorem comL_get (us vs : List Tr) (k : Nat) (h : k < max us.length vs.length) : (comL us vs).getD k .lf = (us.getD k .lf).com (vs.getD k .lf) := by
  unfold comL
  rw [List.getD_eq_getElem?_getD, List.getElem?_map, List.getElem?_range h]; rfl
theorem joinL_length (us vs : List Tr) : (joinL us vs).length = max us.length vs.length := by simp [joinL]
theorem comL_length (us vs : List Tr) : (comL us vs).length = max us.length vs.length := by simp [comL]
theorem comL_sum (us vs : List Tr) : sumT (comL us vs) ≤ sumT us := by
  obtain ⟨m, hm⟩ := comL_eq us vs
  rw [hm, sumT_app, sumT_lf]
  have := comF_sum us vs
  omega
theorem carets_at (us : List Tr) (k : Nat) (h : sumT us ≤ 60) : (us.getD k .lf).carets ≤ 60 := by
  by_cases hj : k < us.length
  · rw [List.getD_eq_getElem?_getD, List.getElem?_eq_getElem hj]
    have := sumT_mem (List.getElem_mem hj); simp; omega
  · rw [List.getD_eq_getElem?_getD, List.getElem?_eq_none (by omega)]; simp [Tr.carets]

set_option maxRecDepth 100000 in
set_option maxHeartbeats 400000 in
theorem specJoinForests_any (v : Value) (b : Nat) (L : List ByteArray) (v2 : Value) (b2 : Nat) (M : List ByteArray) (w : World) (h : CellsS b w v L) (h2 : CellsS b2 w v2 M) (hz : ∀ s ∈ L, s.size ≤ 1048576) (hz2 : ∀ s ∈ M, s.size ≤ 1048576) (hn : L.length ≤ 1048576) (hn2 : M.length ≤ 1048576) :
    Calls Try.prog 26 #[v, v2] w (AnsSs (joinFo (forOf L) (forOf M)) w) := by
  have hG := fun w h => foGood_any v b L w h hz hn
  have hH := fun w h => foGood_any v2 b2 M w h hz2 hn2
  have HA := Lib.hid h
  have HB := Lib.hid h2
  obtain ⟨oa, cap, rfl, hcl, hcm, hcc⟩ := h.form0
  obtain ⟨ob, bcap, rfl, hdl, hdm, hdc⟩ := h2.form0
  unfold maxLen at hcm hdm
  have HC := Lib.hid hcc
  have HD := Lib.hid hdc
  clear h h2 hz hz2 hcc hdc
  rcases hf : forOf L with _ | us
  · rw [hf] at hG
    have hG' : ∀ w, CellsS b w (.slice oa L.length cap) L → Calls Try.prog 41 #[.slice oa L.length cap] w (Gives (.bool false) w) := hG
    clear hG hH hf HC HD
    go_enter Try.func26, Try.ntmps26
    go_wp2_with fail
    refine (hG' _ HA.out).mono ?_; rintro e w1 ⟨rfl, hb1⟩
    go_wp2_with fail
    go_ret2
    exact ⟨_, OwnS.nil _ _, hb1, rfl⟩
  · rcases hk : forOf M with _ | vs
    · rw [hf] at hG
      rw [hk] at hH
      have hG' : ∀ w, CellsS b w (.slice oa L.length cap) L → Calls Try.prog 41 #[.slice oa L.length cap] w (Gives (.bool true) w) := hG
      have hH' : ∀ w, CellsS b2 w (.slice ob M.length bcap) M → Calls Try.prog 41 #[.slice ob M.length bcap] w (Gives (.bool false) w) := hH
      clear hG hH hf hk HC HD
      go_enter Try.func26, Try.ntmps26
      go_wp2_with fail
      refine (hG' _ HA.out).mono ?_; rintro e w1 ⟨rfl, hb1⟩
      go_wp2_with fail
      refine (hH' _ (HB.out.keep hb1)).mono ?_; rintro e w2 ⟨rfl, hb2⟩
      replace hb2 := nx hb1 hb2
      go_wp2_with fail
      go_ret2
      exact ⟨_, OwnS.nil _ _, hb2, rfl⟩
    · rw [hf] at hG
      rw [hk] at hH
      have hG' : ∀ w, CellsS b w (.slice oa L.length cap) L → Calls Try.prog 41 #[.slice oa L.length cap] w (Gives (.bool true) w) := hG
      have hH' : ∀ w, CellsS b2 w (.slice ob M.length bcap) M → Calls Try.prog 41 #[.slice ob M.length bcap] w (Gives (.bool true) w) := hH
      obtain ⟨hL, hl8, hs8, hlast⟩ := forOf_strs hf
      obtain ⟨hM, hm8, ht8, hlastM⟩ := forOf_strs hk
      have hLu : L.length = us.length := by rw [hL, strs_length]
      have hMu : M.length = vs.length := by rw [hM, strs_length]
      have HSA : Hid (∀ w, CellsS b w (.slice oa L.length cap) L → CellsS b w (.slice oa L.length cap) (strs us)) := fun w h => by rw [← hL]; exact h
      have HSB : Hid (∀ w, CellsS b2 w (.slice ob M.length bcap) M → CellsS b2 w (.slice ob M.length bcap) (strs vs)) := fun w h => by rw [← hM]; exact h
      have HLA := Lib.hid hlast
      have HLB := Lib.hid hlastM
      have HLU := Lib.hid hLu
      have HMU := Lib.hid hMu
      clear hG hH hf hk hL hM hlast hlastM HC HD hLu hMu
      obtain ⟨i0, hi, hz0, hz1, hz2⟩ := info_parts info_str
      obtain ⟨N, hN⟩ : ∃ N, N = max L.length M.length := ⟨_, rfl⟩
      have hN16 : N ≤ 16 := by have := HLU.out; have := HMU.out; omega
      have hJl : (joinL us vs).length = N := by have := HLU.out; have := HMU.out; rw [joinL_length]; omega
      have HJL := Lib.hid hJl
      have HNN := Lib.hid hN
      have HS1 := Lib.hid hs8
      have HS2 := Lib.hid ht8
      clear hJl hN hs8 ht8
      go_enter Try.func26, Try.ntmps26
      go_wp2_with fail
      refine (hG' _ HA.out).mono ?_; rintro e w1 ⟨rfl, hb1⟩
      go_wp2_with fail
      refine (hH' _ (HB.out.keep hb1)).mono ?_; rintro e w2 ⟨rfl, hb2⟩
      replace hb2 := nx hb1 hb2
      go_wp2_with fail
      go_loopw [6, 7] (fun u i wr => ∃ (k : Nat) (ss : List ByteArray), k ≤ N ∧ i = .int .i64 k ∧ ss.length = k ∧ OwnS w2.heap.size wr u ss ∧ Hid (ss = strs ((joinL us vs).take k)) ∧ Below w2.heap.size w2 wr) (fun _ i _ => N - (intOf i).toNat)
      case atStart => exact ⟨0, [], Nat.zero_le _, rfl, rfl, OwnS.nil _ _, rfl, Below.refl _ _⟩
      case round =>
        obtain ⟨k, ss, hk, rfl, hsl, hown, he, hbw⟩ := hrel
        by_cases hlt : k < N
        · have hkm : k < max us.length vs.length := by have := HNN.out; have := HLU.out; have := HMU.out; omega
          have hnext := take_strs1 (joinL us vs) k (by have := HJL.out; omega)
          rw [joinL_get us vs k hkm, ← he.out] at hnext
          have hTA := fun w h => foTree_any (.slice oa L.length cap) b us k w h (by omega)
          have hTB := fun w h => foTree_any (.slice ob M.length bcap) b2 vs k w h (by omega)
          have hJ := fun w => trJoin_any (us.getD k .lf) (vs.getD k .lf) w (carets_at us k (by have := HS1.out; omega)) (carets_at vs k (by have := HS2.out; omega))
          generalize us.getD k .lf = ta at *
          generalize vs.getD k .lf = tb at *
          generalize (ta.join tb).str = x at *
          have HX := Lib.hid hnext.symm
          have HSL := Lib.hid hsl
          have hss9 : ss.length ≤ 16 := by omega
          unfold OwnS at hown
          have hor : (k : Int) < (L.length : Int) ∨ (¬ (k : Int) < (L.length : Int) ∧ (k : Int) < (M.length : Int)) := by have := HNN.out; omega
          clear hnext he hsl hkm
          rcases hor with hor1 | ⟨hor1, hor2⟩
          · have hlt' : (k : Int) < 16 := by omega
            have hb4 := hbw
            go_wp2_with fail
            refine (hTA _ (HSA.out _ (HA.out.keep (nx hb2 hb4)))).mono ?_; rintro e w3 ⟨rfl, rfl⟩
            go_wp2_with fail
            refine (hTB _ (HSB.out _ (HB.out.keep (nx hb2 hb4)))).mono ?_; rintro e w4 ⟨rfl, rfl⟩
            go_wp2_with fail
            refine (hJ _).mono ?_; rintro e w5 ⟨rfl, hb5⟩
            have hown5 := ownsRow_keep hown hb5
            have hbw5 := nx hbw hb5
            clear hown hbw hb5 hb4
            go_wp2_with (at_builtin; refine wpList_append_own _ rfl _ _ 22 rfl w2.heap.size 9 i0 (.string ⟨#[]⟩) 1 16 Try.underlying22 hi hz0 hz1 hz2 rfl (by decide) _ _ _ rfl (hown5.alloc _) ⟨w5.heap.size, 0, none⟩ 1 1 [.string x] rfl rfl (new1 _ _ _) (oneS [x]) (by unfold maxLen; omega) (by omega) (size_al hbw5 _) ?_; intro v' w9 hown' hgrow hnn)
            have hbw9 := below_app hbw5 hown5 (Nat.le_refl _) hgrow
            have hown1 : OwnS w2.heap.size w9 v' (ss ++ [x]) := OwnS.app (B := [x]) hown'
            clear hown5 hown' hgrow hbw5 hnn
            go_wp2_with fail
            go_roundw
            case rel => exact ⟨k + 1, _, by omega, by go_num, by have := HSL.out; simp; omega, hown1, HX, hbw9⟩
            case measure => simp [intOf]; omega
          · have hlt' : (k : Int) < 16 := by omega
            have hb4 := hbw
            go_wp2_with fail
            refine (hTA _ (HSA.out _ (HA.out.keep (nx hb2 hb4)))).mono ?_; rintro e w3 ⟨rfl, rfl⟩
            go_wp2_with fail
            refine (hTB _ (HSB.out _ (HB.out.keep (nx hb2 hb4)))).mono ?_; rintro e w4 ⟨rfl, rfl⟩
            go_wp2_with fail
            refine (hJ _).mono ?_; rintro e w5 ⟨rfl, hb5⟩
            have hown5 := ownsRow_keep hown hb5
            have hbw5 := nx hbw hb5
            clear hown hbw hb5 hb4
            go_wp2_with (at_builtin; refine wpList_append_own _ rfl _ _ 22 rfl w2.heap.size 9 i0 (.string ⟨#[]⟩) 1 16 Try.underlying22 hi hz0 hz1 hz2 rfl (by decide) _ _ _ rfl (hown5.alloc _) ⟨w5.heap.size, 0, none⟩ 1 1 [.string x] rfl rfl (new1 _ _ _) (oneS [x]) (by unfold maxLen; omega) (by omega) (size_al hbw5 _) ?_; intro v' w9 hown' hgrow hnn)
            have hbw9 := below_app hbw5 hown5 (Nat.le_refl _) hgrow
            have hown1 : OwnS w2.heap.size w9 v' (ss ++ [x]) := OwnS.app (B := [x]) hown'
            clear hown5 hown' hgrow hbw5 hnn
            go_wp2_with fail
            go_roundw
            case rel => exact ⟨k + 1, _, by omega, by go_num, by have := HSL.out; simp; omega, hown1, HX, hbw9⟩
            case measure => simp [intOf]; omega
        · obtain rfl : k = N := by omega
          have h1 := he.out
          rw [List.take_of_length_le (by have := HJL.out; omega)] at h1
          have hno1 : ¬ ((k : Int) < (L.length : Int)) := by have := HNN.out; omega
          have hno2 : ¬ ((k : Int) < (M.length : Int)) := by have := HNN.out; omega
          subst h1
          have hF : ∀ u0 w, CellsS w2.heap.size w u0 (strs (joinL us vs)) → Calls Try.prog 55 #[u0] w (AnsSs (joinFo (some us) (some vs)) w) := fun u0 w h => by
            have h1 := foIf_any u0 w2.heap.size (joinL us vs) w h (by rw [joinL_eq]; have := joinF_sum us vs; have := HS1.out; have := HS2.out; omega) (by have := HJL.out; omega)
            rw [joinFo_ans us vs HLA.out HLB.out]
            exact h1
          clear he hsl
          go_wp2_with fail
          refine (hF _ _ hown.cells).mono ?_; rintro e w9 ⟨v9, own9, hb9, rfl⟩
          replace own9 := own9.mono (by have := nx hb2 hbw; exact this.size)
          go_wp2_with fail
          go_ret2
          exact ⟨_, own9, nx (nx hb2 hbw) hb9, rfl⟩

set_option maxRecDepth 100000 in
set_option maxHeartbeats 400000 in
theorem specCommonForest_any (v : Value) (b : Nat) (L : List ByteArray) (v2 : Value) (b2 : Nat) (M : List ByteArray) (w : World) (h : CellsS b w v L) (h2 : CellsS b2 w v2 M) (hz : ∀ s ∈ L, s.size ≤ 1048576) (hz2 : ∀ s ∈ M, s.size ≤ 1048576) (hn : L.length ≤ 1048576) (hn2 : M.length ≤ 1048576) :
    Calls Try.prog 30 #[v, v2] w (AnsSs (comFo (forOf L) (forOf M)) w) := by
  have hG := fun w h => foGood_any v b L w h hz hn
  have hH := fun w h => foGood_any v2 b2 M w h hz2 hn2
  have HA := Lib.hid h
  have HB := Lib.hid h2
  obtain ⟨oa, cap, rfl, hcl, hcm, hcc⟩ := h.form0
  obtain ⟨ob, bcap, rfl, hdl, hdm, hdc⟩ := h2.form0
  unfold maxLen at hcm hdm
  have HC := Lib.hid hcc
  have HD := Lib.hid hdc
  clear h h2 hz hz2 hcc hdc
  rcases hf : forOf L with _ | us
  · rw [hf] at hG
    have hG' : ∀ w, CellsS b w (.slice oa L.length cap) L → Calls Try.prog 41 #[.slice oa L.length cap] w (Gives (.bool false) w) := hG
    clear hG hH hf HC HD
    go_enter Try.func30, Try.ntmps30
    go_wp2_with fail
    refine (hG' _ HA.out).mono ?_; rintro e w1 ⟨rfl, hb1⟩
    go_wp2_with fail
    go_ret2
    exact ⟨_, OwnS.nil _ _, hb1, rfl⟩
  · rcases hk : forOf M with _ | vs
    · rw [hf] at hG
      rw [hk] at hH
      have hG' : ∀ w, CellsS b w (.slice oa L.length cap) L → Calls Try.prog 41 #[.slice oa L.length cap] w (Gives (.bool true) w) := hG
      have hH' : ∀ w, CellsS b2 w (.slice ob M.length bcap) M → Calls Try.prog 41 #[.slice ob M.length bcap] w (Gives (.bool false) w) := hH
      clear hG hH hf hk HC HD
      go_enter Try.func30, Try.ntmps30
      go_wp2_with fail
      refine (hG' _ HA.out).mono ?_; rintro e w1 ⟨rfl, hb1⟩
      go_wp2_with fail
      refine (hH' _ (HB.out.keep hb1)).mono ?_; rintro e w2 ⟨rfl, hb2⟩
      replace hb2 := nx hb1 hb2
      go_wp2_with fail
      go_ret2
      exact ⟨_, OwnS.nil _ _, hb2, rfl⟩
    · rw [hf] at hG
      rw [hk] at hH
      have hG' : ∀ w, CellsS b w (.slice oa L.length cap) L → Calls Try.prog 41 #[.slice oa L.length cap] w (Gives (.bool true) w) := hG
      have hH' : ∀ w, CellsS b2 w (.slice ob M.length bcap) M → Calls Try.prog 41 #[.slice ob M.length bcap] w (Gives (.bool true) w) := hH
      obtain ⟨hL, hl8, hs8, hlast⟩ := forOf_strs hf
      obtain ⟨hM, hm8, ht8, hlastM⟩ := forOf_strs hk
      have hLu : L.length = us.length := by rw [hL, strs_length]
      have hMu : M.length = vs.length := by rw [hM, strs_length]
      have HSA : Hid (∀ w, CellsS b w (.slice oa L.length cap) L → CellsS b w (.slice oa L.length cap) (strs us)) := fun w h => by rw [← hL]; exact h
      have HSB : Hid (∀ w, CellsS b2 w (.slice ob M.length bcap) M → CellsS b2 w (.slice ob M.length bcap) (strs vs)) := fun w h => by rw [← hM]; exact h
      have HLA := Lib.hid hlast
      have HLB := Lib.hid hlastM
      have HLU := Lib.hid hLu
      have HMU := Lib.hid hMu
      clear hG hH hf hk hL hM hlast hlastM HC HD hLu hMu
      obtain ⟨i0, hi, hz0, hz1, hz2⟩ := info_parts info_str
      obtain ⟨N, hN⟩ : ∃ N, N = max L.length M.length := ⟨_, rfl⟩
      have hN16 : N ≤ 16 := by have := HLU.out; have := HMU.out; omega
      have hJl : (comL us vs).length = N := by have := HLU.out; have := HMU.out; rw [comL_length]; omega
      have HJL := Lib.hid hJl
      have HNN := Lib.hid hN
      have HL8 := Lib.hid hl8
      have HS1 := Lib.hid hs8
      have HS2 := Lib.hid ht8
      clear hJl hN hs8 ht8
      go_enter Try.func30, Try.ntmps30
      go_wp2_with fail
      refine (hG' _ HA.out).mono ?_; rintro e w1 ⟨rfl, hb1⟩
      go_wp2_with fail
      refine (hH' _ (HB.out.keep hb1)).mono ?_; rintro e w2 ⟨rfl, hb2⟩
      replace hb2 := nx hb1 hb2
      go_wp2_with fail
      go_loopw [6, 7] (fun u i wr => ∃ (k : Nat) (ss : List ByteArray), k ≤ N ∧ i = .int .i64 k ∧ ss.length = k ∧ OwnS w2.heap.size wr u ss ∧ Hid (ss = strs ((comL us vs).take k)) ∧ Below w2.heap.size w2 wr) (fun _ i _ => N - (intOf i).toNat)
      case atStart => exact ⟨0, [], Nat.zero_le _, rfl, rfl, OwnS.nil _ _, rfl, Below.refl _ _⟩
      case round =>
        obtain ⟨k, ss, hk, rfl, hsl, hown, he, hbw⟩ := hrel
        by_cases hlt : k < N
        · have hkm : k < max us.length vs.length := by have := HNN.out; have := HLU.out; have := HMU.out; omega
          have hnext := take_strs1 (comL us vs) k (by have := HJL.out; omega)
          rw [comL_get us vs k hkm, ← he.out] at hnext
          have hTA := fun w h => foTree_any (.slice oa L.length cap) b us k w h (by omega)
          have hTB := fun w h => foTree_any (.slice ob M.length bcap) b2 vs k w h (by omega)
          have hJ := fun w => trCommon_any (us.getD k .lf) (vs.getD k .lf) w (carets_at us k (by have := HS1.out; omega)) (carets_at vs k (by have := HS2.out; omega))
          generalize us.getD k .lf = ta at *
          generalize vs.getD k .lf = tb at *
          generalize (ta.com tb).str = x at *
          have HX := Lib.hid hnext.symm
          have HSL := Lib.hid hsl
          have hss9 : ss.length ≤ 16 := by omega
          unfold OwnS at hown
          have hor : (k : Int) < (L.length : Int) ∨ (¬ (k : Int) < (L.length : Int) ∧ (k : Int) < (M.length : Int)) := by have := HNN.out; omega
          clear hnext he hsl hkm
          rcases hor with hor1 | ⟨hor1, hor2⟩
          · have hlt' : (k : Int) < 16 := by omega
            have hb4 := hbw
            go_wp2_with fail
            refine (hTA _ (HSA.out _ (HA.out.keep (nx hb2 hb4)))).mono ?_; rintro e w3 ⟨rfl, rfl⟩
            go_wp2_with fail
            refine (hTB _ (HSB.out _ (HB.out.keep (nx hb2 hb4)))).mono ?_; rintro e w4 ⟨rfl, rfl⟩
            go_wp2_with fail
            refine (hJ _).mono ?_; rintro e w5 ⟨rfl, hb5⟩
            have hown5 := ownsRow_keep hown hb5
            have hbw5 := nx hbw hb5
            clear hown hbw hb5 hb4
            go_wp2_with (at_builtin; refine wpList_append_own _ rfl _ _ 22 rfl w2.heap.size 9 i0 (.string ⟨#[]⟩) 1 16 Try.underlying22 hi hz0 hz1 hz2 rfl (by decide) _ _ _ rfl (hown5.alloc _) ⟨w5.heap.size, 0, none⟩ 1 1 [.string x] rfl rfl (new1 _ _ _) (oneS [x]) (by unfold maxLen; omega) (by omega) (size_al hbw5 _) ?_; intro v' w9 hown' hgrow hnn)
            have hbw9 := below_app hbw5 hown5 (Nat.le_refl _) hgrow
            have hown1 : OwnS w2.heap.size w9 v' (ss ++ [x]) := OwnS.app (B := [x]) hown'
            clear hown5 hown' hgrow hbw5 hnn
            go_wp2_with fail
            go_roundw
            case rel => exact ⟨k + 1, _, by omega, by go_num, by have := HSL.out; simp; omega, hown1, HX, hbw9⟩
            case measure => simp [intOf]; omega
          · have hlt' : (k : Int) < 16 := by omega
            have hb4 := hbw
            go_wp2_with fail
            refine (hTA _ (HSA.out _ (HA.out.keep (nx hb2 hb4)))).mono ?_; rintro e w3 ⟨rfl, rfl⟩
            go_wp2_with fail
            refine (hTB _ (HSB.out _ (HB.out.keep (nx hb2 hb4)))).mono ?_; rintro e w4 ⟨rfl, rfl⟩
            go_wp2_with fail
            refine (hJ _).mono ?_; rintro e w5 ⟨rfl, hb5⟩
            have hown5 := ownsRow_keep hown hb5
            have hbw5 := nx hbw hb5
            clear hown hbw hb5 hb4
            go_wp2_with (at_builtin; refine wpList_append_own _ rfl _ _ 22 rfl w2.heap.size 9 i0 (.string ⟨#[]⟩) 1 16 Try.underlying22 hi hz0 hz1 hz2 rfl (by decide) _ _ _ rfl (hown5.alloc _) ⟨w5.heap.size, 0, none⟩ 1 1 [.string x] rfl rfl (new1 _ _ _) (oneS [x]) (by unfold maxLen; omega) (by omega) (size_al hbw5 _) ?_; intro v' w9 hown' hgrow hnn)
            have hbw9 := below_app hbw5 hown5 (Nat.le_refl _) hgrow
            have hown1 : OwnS w2.heap.size w9 v' (ss ++ [x]) := OwnS.app (B := [x]) hown'
            clear hown5 hown' hgrow hbw5 hnn
            go_wp2_with fail
            go_roundw
            case rel => exact ⟨k + 1, _, by omega, by go_num, by have := HSL.out; simp; omega, hown1, HX, hbw9⟩
            case measure => simp [intOf]; omega
        · obtain rfl : k = N := by omega
          have h1 := he.out
          rw [List.take_of_length_le (by have := HJL.out; omega)] at h1
          have hno1 : ¬ ((k : Int) < (L.length : Int)) := by have := HNN.out; omega
          have hno2 : ¬ ((k : Int) < (M.length : Int)) := by have := HNN.out; omega
          subst h1
          have hF : ∀ u0 w, CellsS w2.heap.size w u0 (strs (comL us vs)) → Calls Try.prog 55 #[u0] w (AnsSs (comFo (some us) (some vs)) w) := fun u0 w h => by
            have h1 := foIf_any u0 w2.heap.size (comL us vs) w h (by have := comL_sum us vs; have := HS1.out; omega) (by have := HJL.out; omega)
            rw [comFo_ans us vs (by have := HLU.out; have := HL8.out; omega) HS1.out]
            exact h1
          clear he hsl
          go_wp2_with fail
          refine (hF _ _ hown.cells).mono ?_; rintro e w9 ⟨v9, own9, hb9, rfl⟩
          replace own9 := own9.mono (by have := nx hb2 hbw; exact this.size)
          go_wp2_with fail
          go_ret2
          exact ⟨_, own9, nx (nx hb2 hbw) hb9, rfl⟩

set_option maxRecDepth 100000 in
set_option maxHeartbeats 400000 in
theorem implJoinForests_any (v : Value) (b : Nat) (L : List ByteArray) (v2 : Value) (b2 : Nat) (M : List ByteArray) (w : World) (h : CellsS b w v L) (h2 : CellsS b2 w v2 M) (hz : ∀ s ∈ L, s.size ≤ 1048576) (hz2 : ∀ s ∈ M, s.size ≤ 1048576) (hn : L.length ≤ 1048576) (hn2 : M.length ≤ 1048576) :
    Calls Try.prog 27 #[v, v2] w (AnsSs (joinFo (forOf L) (forOf M)) w) := by
  have hH := implhungTwo_any v b L v2 b2 M w h h2 hz hz2 hn hn2
  obtain ⟨oa, cap, rfl, _⟩ := h.form0
  obtain ⟨ob, bcap, rfl, _⟩ := h2.form0
  clear h h2 hz hz2
  rcases hf : forOf L with _ | us
  · rw [hf] at hH
    have hH' : Calls Try.prog 51 #[.slice oa L.length cap, .slice ob M.length bcap] w (fun e w' => e = .returned (.tuple #[.pointer none, .pointer none, .bool false]) ∧ Below w.heap.size w w') := by cases forOf M <;> exact hH
    clear hH hf
    go_enter Try.func27, Try.ntmps27
    go_wp2_with fail
    refine hH'.mono ?_; rintro e w1 ⟨rfl, hb1⟩
    go_wp2_with fail
    go_ret2
    exact ⟨_, OwnS.nil _ _, hb1, rfl⟩
  · rcases hk : forOf M with _ | vs
    · rw [hf, hk] at hH
      have hH' : Calls Try.prog 51 #[.slice oa L.length cap, .slice ob M.length bcap] w (fun e w' => e = .returned (.tuple #[.pointer none, .pointer none, .bool false]) ∧ Below w.heap.size w w') := hH
      clear hH hf hk
      go_enter Try.func27, Try.ntmps27
      go_wp2_with fail
      refine hH'.mono ?_; rintro e w1 ⟨rfl, hb1⟩
      go_wp2_with fail
      go_ret2
      exact ⟨_, OwnS.nil _ _, hb1, rfl⟩
    · rw [hf, hk] at hH
      have hH' : Calls Try.prog 51 #[.slice oa L.length cap, .slice ob M.length bcap] w (fun e w' => ∃ b c, NodeAt w' (combT us) b ∧ NodeAt w' (combT vs) c ∧ Below w.heap.size w w' ∧ e = .returned (.tuple #[.pointer (some ⟨b, 0, none⟩), .pointer (some ⟨c, 0, none⟩), .bool true])) := hH
      have h1 := (forOf_strs hf).2
      have h2 := (forOf_strs hk).2
      have hcar : ((combT us).join (combT vs)).carets ≤ 1000 := by have := join_carets (combT us) (combT vs); have := combT_carets us; have := combT_carets vs; omega
      have hjc := join_comb us vs
      have hJ := fun b c w h k => join_any (combT us) (combT vs) b c w h k
      have hHg := fun b w h => hanging_any ((combT us).join (combT vs)) b w h hcar
      have hhang : hangT ((combT us).join (combT vs)) = joinF us vs := by rw [hjc]; unfold hangT; rw [sides_comb, joinF_strip h1.2.2 h2.2.2]
      rw [hhang] at hHg
      have hW := fun v b w h => withinLimitsF_any v b (joinF us vs) w h (by have := joinF_sum us vs; omega) (by rw [joinF_length]; omega)
      have HAN : Hid (AnsSs (joinFo (some us) (some vs)) = AnsS2 (if okF (joinF us vs) = true then strs (joinF us vs) else []) (okF (joinF us vs))) := by
        show _ = _
        rw [joinFo_ans us vs h1.2.2 h2.2.2, joinL_eq, joinF_strip h1.2.2 h2.2.2]
      generalize (combT us).join (combT vs) = T at *
      generalize joinF us vs = J at *
      clear hH hf hk h1 h2 hcar hjc hhang
      go_enter Try.func27, Try.ntmps27
      go_wp2_with fail
      refine hH'.mono ?_; rintro e w1 ⟨p1, p2, hp1, hp2, hb1, rfl⟩
      go_wp2_with fail
      refine (hJ p1 p2 _ hp1 hp2).mono ?_; rintro e w2 ⟨p3, hp3, hb2, rfl⟩
      replace hb2 := nx hb1 hb2
      go_wp2_with fail
      refine (hHg p3 _ hp3).mono ?_; rintro e w3 ⟨v3, own3, hb3, rfl⟩
      replace own3 := own3.mono hb2.size
      replace hb3 := nx hb2 hb3
      go_wp2_with fail
      refine (hW v3 _ _ own3.cells).mono ?_; rintro e w4 ⟨rfl, hb4⟩
      replace own3 := own3.keep hb4
      replace hb4 := nx hb3 hb4
      clear hJ hHg hW hp1 hp2 hp3
      have HAO := HAN.out
      cases hok : okF J with
      | true =>
        rw [hok, if_pos rfl] at HAO
        have HAP := Lib.hid HAO
        rw [if_pos rfl]
        clear HAO HAN hok
        go_wp2_with fail
        go_ret2
        rw [HAP.out]
        exact ⟨_, own3, hb4, rfl⟩
      | false =>
        rw [hok, if_neg (by decide)] at HAO
        have HAP := Lib.hid HAO
        rw [if_neg (by decide)]
        clear HAO HAN hok
        go_wp2_with fail
        go_ret2
        rw [HAP.out]
        exact ⟨_, OwnS.nil _ _, hb4, rfl⟩

set_option maxRecDepth 100000 in
set_option maxHeartbeats 400000 in
theorem implCommonForest_any (v : Value) (b : Nat) (L : List ByteArray) (v2 : Value) (b2 : Nat) (M : List ByteArray) (w : World) (h : CellsS b w v L) (h2 : CellsS b2 w v2 M) (hz : ∀ s ∈ L, s.size ≤ 1048576) (hz2 : ∀ s ∈ M, s.size ≤ 1048576) (hn : L.length ≤ 1048576) (hn2 : M.length ≤ 1048576) :
    Calls Try.prog 31 #[v, v2] w (AnsSs (comFo (forOf L) (forOf M)) w) := by
  have hH := implhungTwo_any v b L v2 b2 M w h h2 hz hz2 hn hn2
  obtain ⟨oa, cap, rfl, _⟩ := h.form0
  obtain ⟨ob, bcap, rfl, _⟩ := h2.form0
  clear h h2 hz hz2
  rcases hf : forOf L with _ | us
  · rw [hf] at hH
    have hH' : Calls Try.prog 51 #[.slice oa L.length cap, .slice ob M.length bcap] w (fun e w' => e = .returned (.tuple #[.pointer none, .pointer none, .bool false]) ∧ Below w.heap.size w w') := by cases forOf M <;> exact hH
    clear hH hf
    go_enter Try.func31, Try.ntmps31
    go_wp2_with fail
    refine hH'.mono ?_; rintro e w1 ⟨rfl, hb1⟩
    go_wp2_with fail
    go_ret2
    exact ⟨_, OwnS.nil _ _, hb1, rfl⟩
  · rcases hk : forOf M with _ | vs
    · rw [hf, hk] at hH
      have hH' : Calls Try.prog 51 #[.slice oa L.length cap, .slice ob M.length bcap] w (fun e w' => e = .returned (.tuple #[.pointer none, .pointer none, .bool false]) ∧ Below w.heap.size w w') := hH
      clear hH hf hk
      go_enter Try.func31, Try.ntmps31
      go_wp2_with fail
      refine hH'.mono ?_; rintro e w1 ⟨rfl, hb1⟩
      go_wp2_with fail
      go_ret2
      exact ⟨_, OwnS.nil _ _, hb1, rfl⟩
    · rw [hf, hk] at hH
      have hH' : Calls Try.prog 51 #[.slice oa L.length cap, .slice ob M.length bcap] w (fun e w' => ∃ b c, NodeAt w' (combT us) b ∧ NodeAt w' (combT vs) c ∧ Below w.heap.size w w' ∧ e = .returned (.tuple #[.pointer (some ⟨b, 0, none⟩), .pointer (some ⟨c, 0, none⟩), .bool true])) := hH
      have h1 := (forOf_strs hf).2
      have h2 := (forOf_strs hk).2
      have hcar : ((combT us).com (combT vs)).carets ≤ 1000 := by have := com_carets (combT us) (combT vs); have := combT_carets us; omega
      have hjc := com_comb us vs
      have hJ := fun b c w h k => common_any (combT us) (combT vs) b c w h k
      have hHg := fun b w h => hanging_any ((combT us).com (combT vs)) b w h hcar
      have hhang : hangT ((combT us).com (combT vs)) = stripT (comF us vs) := by rw [hjc]; unfold hangT; rw [sides_comb]
      rw [hhang] at hHg
      have HAN : Hid (AnsSs (comFo (some us) (some vs)) = AnsS2 (strs (stripT (comF us vs))) true) := rfl
      generalize (combT us).com (combT vs) = T at *
      generalize stripT (comF us vs) = J at *
      clear hH hf hk h1 h2 hcar hjc hhang
      go_enter Try.func31, Try.ntmps31
      go_wp2_with fail
      refine hH'.mono ?_; rintro e w1 ⟨p1, p2, hp1, hp2, hb1, rfl⟩
      go_wp2_with fail
      refine (hJ p1 p2 _ hp1 hp2).mono ?_; rintro e w2 ⟨p3, hp3, hb2, rfl⟩
      replace hb2 := nx hb1 hb2
      go_wp2_with fail
      refine (hHg p3 _ hp3).mono ?_; rintro e w3 ⟨v3, own3, hb3, rfl⟩
      replace own3 := own3.mono hb2.size
      replace hb3 := nx hb2 hb3
      clear hJ hHg hp1 hp2 hp3
      go_wp2_with fail
      go_ret2
      rw [HAN.out]
      exact ⟨_, own3, hb3, rfl⟩

end Go.Proofs.Ytplmbdljhgicfaa

/-! WJoinForests -/
namespace Go.Proofs.Ytplmbdljhgicfaa
open Go.RowKit
def JoinForests_o (L M : List ByteArray) : Option (List ByteArray) := joinFo (forOf L) (forOf M)
theorem JoinForests_len (L M : List ByteArray) : ((JoinForests_o L M).getD []).length ≤ 1000000000 := by
  unfold JoinForests_o joinFo
  rcases hf : forOf L with _ | us
  · simp
  · rcases hk : forOf M with _ | vs
    · simp
    · show ((if okF (joinF us vs) = true then some (strs (joinF us vs)) else none).getD []).length ≤ _
      split
      · have h1 := joinF_length us vs
        have h2 := (forOf_strs hf).2.1
        have h3 := (forOf_strs hk).2.1
        rw [Option.getD_some, strs_length]; omega
      · simp

set_option maxRecDepth 100000 in
set_option maxHeartbeats 4000000 in
theorem fnExactJoinForests_law (W : World) (a0 : Option Addr) (len0 cap0 : Nat) (L : List ByteArray) (hl0 : L.length = len0) (hm0 : (len0 : Int) ≤ 9223372036854775807) (hz0 : ∀ s ∈ L, (s.size : Int) ≤ 9223372036854775807) (hin0 : InS W a0 L) (a1 : Option Addr) (len1 cap1 : Nat) (M : List ByteArray) (hl1 : M.length = len1) (hm1 : (len1 : Int) ≤ 9223372036854775807) (hz1 : ∀ s ∈ M, (s.size : Int) ≤ 9223372036854775807) (hin1 : InS W a1 M) :
    Calls Try.prog 8 #[.slice a0 len0 cap0, .slice a1 len1 cap1] W fun e w' => e = .returned (.bool true) ∧ Below W.heap.size W w' := by
  have hsz0 := fun left h0 h1 => szStringS_at a0 cap0 len0 L left W h0 h1 hl0 hm0 hz0 hin0
  have hsz1 := fun left h0 h1 => szStringS_at a1 cap1 len1 M left W h0 h1 hl1 hm1 hz1 hin1
  have HI0 := Lib.hid hin0
  have HL0 := Lib.hid hl0
  clear hin0 hz0 hl0
  have HI1 := Lib.hid hin1
  have HL1 := Lib.hid hl1
  clear hin1 hz1 hl1
  go_enter Try.func8, Try.ntmps8
  go_wp2_with fail
  refine (hsz0 1048576 (by omega) (by omega)).mono ?_; rintro e w1 ⟨r0, rfl, rfl, hM0, hR0⟩
  by_cases hneg0 : r0 < 0
  · clear hM0 hR0
    go_wp2_with fail
    go_ret
    exact ⟨rfl, Below.refl _ _⟩
  have hM0' := hM0.out
  obtain ⟨hn0, hs0⟩ := hR0.out (by omega)
  have HS0 := Lib.hid hs0
  have HN0 := Lib.hid hn0
  clear hM0 hR0 hs0 hn0 hsz0
  go_wp2_with fail
  refine (hsz1 r0 (by omega) hM0').mono ?_; rintro e w1 ⟨r1, rfl, rfl, hM1, hR1⟩
  by_cases hneg1 : r1 < 0
  · clear hM1 hR1
    go_wp2_with fail
    go_ret
    exact ⟨rfl, Below.refl _ _⟩
  have hM1' := hM1.out
  obtain ⟨hn1, hs1⟩ := hR1.out (by omega)
  have HS1 := Lib.hid hs1
  have HN1 := Lib.hid hn1
  clear hM1 hR1 hs1 hn1 hsz1
  have hn9 := JoinForests_len L M
  obtain ⟨o, ho⟩ : ∃ o, o = JoinForests_o L M := ⟨_, rfl⟩
  have hS : ∀ (v0 : Value) (b0 : Nat) (v1 : Value) (b1 : Nat) (w : World), CellsS b0 w v0 L → CellsS b1 w v1 M → Calls Try.prog 26 #[v0, v1] w (AnsS2 (o.getD []) o.isSome w) := fun v0 b0 v1 b1 w h0 h1 => by rw [ho]; exact specJoinForests_any v0 b0 L v1 b1 M w h0 h1 HS0.out HS1.out HN0.out HN1.out
  have hI : ∀ (v0 : Value) (b0 : Nat) (v1 : Value) (b1 : Nat) (w : World), CellsS b0 w v0 L → CellsS b1 w v1 M → Calls Try.prog 27 #[v0, v1] w (AnsS2 (o.getD []) o.isSome w) := fun v0 b0 v1 b1 w h0 h1 => by rw [ho]; exact implJoinForests_any v0 b0 L v1 b1 M w h0 h1 HS0.out HS1.out HN0.out HN1.out
  rw [← ho] at hn9
  clear ho
  generalize o.getD [] = xs at hS hI hn9
  generalize o.isSome = ok at hS hI
  clear o
  have hT0 := fun w h => toStringS_any a0 cap0 len0 L w HL0.out (by have := HN0.out; have := HL0.out; omega) h
  have hN0 : len0 ≤ 1048576 := by have := HN0.out; have := HL0.out; omega
  have hT1 := fun w h => toStringS_any a1 cap1 len1 M w HL1.out (by have := HN1.out; have := HL1.out; omega) h
  have hN1 : len1 ≤ 1048576 := by have := HN1.out; have := HL1.out; omega
  clear HS0 HN0
  clear HS1 HN1
  have hc0 := Below.refl W.heap.size W
  go_wp2_with fail
  refine (hT0 _ (HI0.out.keep hc0)).mono ?_; rintro e u1 ⟨pg0, po0, hb, rfl⟩
  have hc1 := nx hc0 hb
  clear hb hc0
  go_wp2_with fail
  refine (hT1 _ (HI1.out.keep hc1)).mono ?_; rintro e u2 ⟨pg1, po1, hb, rfl⟩
  have hc2 := nx hc1 hb
  replace po0 := po0.keep hb
  clear hb hc1
  go_wp2_with fail
  refine (hS _ _ _ _ _ po0.cells po1.cells).mono ?_; rintro e u3 ⟨v0, own0, hb, rfl⟩
  clear po0 po1
  have hc3 := nx hc2 hb
  clear hb hc2
  have hd0 := Below.refl u3.heap.size u3
  have hcW := hc3
  go_wp2_with fail
  refine (hT0 _ (HI0.out.keep (nx hcW hd0))).mono ?_; rintro e u4 ⟨qg0, qo0, hb, rfl⟩
  have ql0 := qo0.lt
  have qs0 := hb.size
  have hd1 := nx hd0 hb
  clear hb hd0
  have qd0 := hd1.size
  go_wp2_with fail
  refine (hT1 _ (HI1.out.keep (nx hcW hd1))).mono ?_; rintro e u5 ⟨qg1, qo1, hb, rfl⟩
  have ql1 := qo1.lt
  have qs1 := hb.size
  have hd2 := nx hd1 hb
  replace qo0 := qo0.keep hb
  clear hb hd1
  have qd1 := hd2.size
  go_wp2_with fail
  refine (hI _ _ _ _ _ qo0.cells qo1.cells).mono ?_; rintro e u6 ⟨v1, own1, hb, rfl⟩
  have hszk := hb.size
  have hd3 := nx hd2 hb
  replace qo0 := qo0.keep hb
  replace qo1 := qo1.keep hb
  clear hb hd2
  go_wp2_with fail
  refine (eqStringS_any _ _ v1 v0 xs _ own1.cells (own0.keep hd3).cells).mono ?_; rintro e u7 ⟨rfl, dd, hw⟩
  have hb : Below u6.heap.size u6 u7 := by rw [hw]; exact drewB (Below.refl _ _) dd
  clear hw
  have hd4 := nx hd3 hb
  replace qo0 := qo0.keep hb
  replace qo1 := qo1.keep hb
  replace own1 := own1.keep hb
  replace hszk := Nat.le_trans hszk hb.size
  clear hb hd3
  go_wp2_with fail
  refine (hT0 _ (HI0.out.keep (nx hcW hd4))).mono ?_; rintro e u8 ⟨rg0, ro0, hb, rfl⟩
  have hd5 := nx hd4 hb
  replace qo0 := qo0.keep hb
  replace qo1 := qo1.keep hb
  replace own1 := own1.keep hb
  replace hszk := Nat.le_trans hszk hb.size
  clear hb hd4
  go_wp2_with fail
  refine (eqStringS_any _ _ _ _ L _ qo0.cells ro0.cells).mono ?_; rintro e u9 ⟨rfl, dd, hw⟩
  have hb : Below u8.heap.size u8 u9 := by rw [hw]; exact drewB (Below.refl _ _) dd
  clear hw
  have hd6 := nx hd5 hb
  replace qo0 := qo0.keep hb
  replace qo1 := qo1.keep hb
  replace own1 := own1.keep hb
  replace hszk := Nat.le_trans hszk hb.size
  clear hb hd5
  clear ro0
  go_wp2_with fail
  refine (hT1 _ (HI1.out.keep (nx hcW hd6))).mono ?_; rintro e u10 ⟨rg1, ro1, hb, rfl⟩
  have hd7 := nx hd6 hb
  replace qo0 := qo0.keep hb
  replace qo1 := qo1.keep hb
  replace own1 := own1.keep hb
  replace hszk := Nat.le_trans hszk hb.size
  clear hb hd6
  go_wp2_with fail
  refine (eqStringS_any _ _ _ _ M _ qo1.cells ro1.cells).mono ?_; rintro e u11 ⟨rfl, dd, hw⟩
  have hb : Below u10.heap.size u10 u11 := by rw [hw]; exact drewB (Below.refl _ _) dd
  clear hw
  have hd8 := nx hd7 hb
  replace qo0 := qo0.keep hb
  replace qo1 := qo1.keep hb
  replace own1 := own1.keep hb
  replace hszk := Nat.le_trans hszk hb.size
  clear hb hd7
  clear ro1
  go_wp2_with fail
  refine (markStringS_one1 _ qg0 _ len0 L HL0.out  _ (by omega) qo0).mono ?_; rintro e u12 ⟨rfl, _, hg⟩
  have hd9 := hd8.trans (grown_below hg hd8.size (by omega))
  replace qo1 := qo1.kept hg (by omega)
  replace own1 := own1.kept hg (by omega)
  replace hszk := Nat.le_trans hszk hg.size
  clear hg hd8 qo0
  go_wp2_with fail
  refine (markStringS_one _ qg1 _ len1 M HL1.out (1 + len0) _ (by omega) (by omega) (by omega) qo1).mono ?_; rintro e u13 ⟨rfl, _, hg⟩
  have hd10 := hd9.trans (grown_below hg hd9.size (by omega))
  replace own1 := own1.kept hg (by omega)
  replace hszk := Nat.le_trans hszk hg.size
  clear hg hd9 qo1
  go_wp2_with fail
  refine (eqStringS_any _ _ v1 v0 xs _ own1.cells (own0.keep hd10).cells).mono ?_; rintro e u14 ⟨rfl, dd, hw⟩
  have hb : Below u13.heap.size u13 u14 := by rw [hw]; exact drewB (Below.refl _ _) dd
  clear hw
  have hd11 := nx hd10 hb
  replace own1 := own1.keep hb
  replace hszk := Nat.le_trans hszk hb.size
  clear hb hd10
  go_wp2_with fail
  refine (markStringS_1 u5.heap.size v1 xs _ hn9 hszk own1).mono ?_; rintro e u15 ⟨rfl, own9, hb⟩
  have hd12 := hd11.trans (hb.mono (by omega))
  clear hb hd11 own1
  go_wp2_with fail
  refine (heldStringS_1 _ v1 xs.length _ hn9 own9.cells).mono ?_; rintro e u16 ⟨rfl, hb⟩
  have hd13 := nx hd12 hb
  replace own9 := own9.keep hb
  clear hb hd12
  go_wp2_with fail
  refine (hT0 _ (HI0.out.keep (nx hcW hd13))).mono ?_; rintro e u17 ⟨sg0, so0, hb, rfl⟩
  have sl0 := so0.lt
  have ss0 := hb.size
  have hd14 := nx hd13 hb
  replace own9 := own9.keep hb
  clear hb hd13
  have sd0 := hd14.size
  go_wp2_with fail
  refine (hT1 _ (HI1.out.keep (nx hcW hd14))).mono ?_; rintro e u18 ⟨sg1, so1, hb, rfl⟩
  have sl1 := so1.lt
  have ss1 := hb.size
  have hd15 := nx hd14 hb
  replace own9 := own9.keep hb
  replace so0 := so0.keep hb
  clear hb hd14
  have sd1 := hd15.size
  go_wp2_with fail
  refine (hI _ _ _ _ _ so0.cells so1.cells).mono ?_; rintro e u19 ⟨v2, own2, hb, rfl⟩
  clear so0 so1
  have hd16 := nx hd15 hb
  replace own9 := own9.keep hb
  clear hb hd15
  go_wp2_with fail
  refine (eqStringS_any _ _ v2 v0 xs _ own2.cells (own0.keep hd16).cells).mono ?_; rintro e u20 ⟨rfl, dd, hw⟩
  have hb : Below u19.heap.size u19 u20 := by rw [hw]; exact drewB (Below.refl _ _) dd
  clear hw
  have hd17 := nx hd16 hb
  replace own9 := own9.keep hb
  replace own2 := own2.keep hb
  clear hb hd16
  go_wp2_with fail
  refine (heldStringS_1 _ v1 xs.length _ hn9 own9.cells).mono ?_; rintro e u21 ⟨rfl, hb⟩
  have hd18 := nx hd17 hb
  replace own9 := own9.keep hb
  replace own2 := own2.keep hb
  clear hb hd17
  go_wp2_with fail
  go_ret
  exact ⟨rfl, nx hcW hd18⟩

theorem fnExactJoinForests_walk (W : World) (a0 : Option Addr) (len0 cap0 : Nat) (z0 : List ByteArray) (h0 : IsStrs W a0 len0 cap0 z0) (a1 : Option Addr) (len1 cap1 : Nat) (z1 : List ByteArray) (h1 : IsStrs W a1 len1 cap1 z1) :
    Calls Try.prog 8 #[.slice a0 len0 cap0, .slice a1 len1 cap1] W fun e w' => e = .returned (.bool true) ∧ Below W.heap.size W w' := by
  obtain ⟨x0, y0, s0, t0⟩ := h0.inS
  obtain ⟨x1, y1, s1, t1⟩ := h1.inS
  exact fnExactJoinForests_law W a0 len0 cap0 (z0.take len0) y0 s0 t0 x0 a1 len1 cap1 (z1.take len1) y1 s1 t1 x1

end Go.Proofs.Ytplmbdljhgicfaa

/-! LFnExactJoinForests -/
namespace Go.Proofs.Ytplmbdljhgicfaa.fnExactJoinForests
open Go.ChangeShapes Go.WideShapes Go.ChangeAt Go.RowKit
open Go.ChangeMaps (open_string shut_string)
set_option linter.unusedVariables false

theorem own : ownKnob Try.prog.godebug = none := by kernel_rfl
theorem laidOut : laidOutB Try.prog = true := by kernel_rfl

set_option maxRecDepth 100000 in
theorem lifted (os : Os) (started : os.Started) (H : Type) (enc : TypeId × Value → H) :
    ReturnsInHanded {} Try.checked os 8 .any (Rows.fnExactJoinForestsSpec.pre6 enc Try.prog Try.f8 Rows.fnExactJoinForestsRow.domain false) (Rows.fnExactJoinForestsSpec.post enc Try.prog Try.f8 false true false false) := by
  refine returnsInHanded_of_change (C := Try.checked) own started (by kernel_rfl) Try.func8
    (ChangeSpec.witness6 (enc := enc) (C := Try.checked) false ⟨#[], #[.slice none 0 0, .slice none 0 0], []⟩ 8 (by kernel_rfl) (by kernel_rfl) (by kernel_rfl) (by kernel_rfl)) ?_
  intro W base args ds gs before hval0 hW hcnd _
  have hval : ∀ (j : Nat) t v, Try.f8.params[j]? = some t → args[j]? = some v → Value.okWide Try.prog W .any base t v := hval0
  have hW' := hW
  obtain ⟨p, q, hA0, hV, rfl, hfz, hnd⟩ := hW
  have hA : DataW.TrodAll enc Try.prog W 0 (fun _ => true) true Try.f8.params.toList args.toList ds p := hA0
  rw [Try.params8] at hA hval
  obtain ⟨v0, vs0, d0, ds0, p0, q0, hargs, rfl, rfl, h0, r0⟩ := trodAll_cons hA
  obtain ⟨v1, vs1, d1, ds1, p1, q1, rfl, rfl, rfl, h1, r1⟩ := trodAll_cons r0
  obtain ⟨rfl, rfl, rfl⟩ := trodAll_nil r1
  obtain rfl : args = #[v0, v1] := by cases args; simp_all
  obtain ⟨rfl, rfl⟩ := trodVars_none hV
  obtain ⟨a0, len0, cap0, rfl⟩ := okWide_slice Try.underlying22 (hval 0 22 v0 rfl rfl)
  have k0 := h0
  have lt0 : ∀ x ∈ p0, x.block < W.heap.size := by obtain ⟨m, hm⟩ := k0; exact DataW.trod_lt m _ _ _ hm
  obtain ⟨z0, w0⟩ : ∃ zs, IsStrs W a0 len0 cap0 zs := by
    obtain ⟨fuel, hf⟩ := h0
    rcases open_strings Try.underlying22 Try.underlying9 (by kernel_rfl) hf with ⟨hcs, _⟩ | ⟨x, l, c, zs, hcs, _, hl, hm, hz, _, hcell, hwz⟩
    · simp [Value.cells] at hcs
      obtain ⟨rfl, rfl, rfl⟩ := hcs
      exact ⟨[], .inl ⟨rfl, rfl, rfl, rfl⟩⟩
    · simp [Value.cells] at hcs
      obtain ⟨rfl, rfl, rfl⟩ := hcs
      exact ⟨zs, .inr ⟨_, rfl, hl, hm, by simpa using hz, hcell, hwz⟩⟩
  obtain ⟨a1, len1, cap1, rfl⟩ := okWide_slice Try.underlying22 (hval 1 22 v1 rfl rfl)
  have k1 := h1
  have lt1 : ∀ x ∈ p1, x.block < W.heap.size := by obtain ⟨m, hm⟩ := k1; exact DataW.trod_lt m _ _ _ hm
  obtain ⟨z1, w1⟩ : ∃ zs, IsStrs W a1 len1 cap1 zs := by
    obtain ⟨fuel, hf⟩ := h1
    rcases open_strings Try.underlying22 Try.underlying9 (by kernel_rfl) hf with ⟨hcs, _⟩ | ⟨x, l, c, zs, hcs, _, hl, hm, hz, _, hcell, hwz⟩
    · simp [Value.cells] at hcs
      obtain ⟨rfl, rfl, rfl⟩ := hcs
      exact ⟨[], .inl ⟨rfl, rfl, rfl, rfl⟩⟩
    · simp [Value.cells] at hcs
      obtain ⟨rfl, rfl, rfl⟩ := hcs
      exact ⟨zs, .inr ⟨_, rfl, hl, hm, by simpa using hz, hcell, hwz⟩⟩
  clear hA0 hval0
  simp only [List.append_nil] at hW'
  refine (fnExactJoinForests_walk W a0 len0 cap0 z0 w0 a1 len1 cap1 z1 w1).mono fun e W' ⟨he, bel⟩ => ?_
  subst he
  exact ⟨_, rfl, _, _, _, [], _, [], hW', trodAll_mk1 (shut_bool Try.underlying4 _), (trodAll_cons_mk (Below.trod laidOut (by kernel_rfl) (of_decide_eq_true (by kernel_rfl)) k0 bel lt0) (trodAll_cons_mk (Below.trod laidOut (by kernel_rfl) (of_decide_eq_true (by kernel_rfl)) k1 bel lt1) trodAll_mk0)), rfl, bel.frame _, fun h => by cases h⟩

theorem over : Rows.fnExactJoinForestsRow.holds Try.pinned (OpenSpec.ofChange Rows.fnExactJoinForestsSpec) :=
  OpenClaim.holds_of_wide 8 Try.f8 rfl rfl rfl rfl rfl rfl rfl ⟨rfl, rfl, rfl, rfl, rfl⟩ rfl rfl rfl rfl rfl (by kernel_rfl) Try.func8 (by kernel_rfl)
    (of_decide_eq_true (by kernel_rfl)) (by unfold Func.isWrapper; first | (rw [if_pos (by decide +kernel)]; kernel_rfl) | (rw [if_neg (by decide +kernel)]; exact ⟨rfl, rfl⟩))
    (fun os started H enc _ => lifted os started H enc)

theorem proved : Rows.FnExactJoinForestsSaid := over
#print axioms proved
end Go.Proofs.Ytplmbdljhgicfaa.fnExactJoinForests
