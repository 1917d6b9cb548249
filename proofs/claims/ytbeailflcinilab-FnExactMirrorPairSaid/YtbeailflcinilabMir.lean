/- Walks: (*node).mirrored, join, common, isPart. -/
import Derived.Test.YtbeailflcinilabText
import Derived.Deep.RegionWith
namespace Go.Proofs.Ytbeailflcinilab
open Go.RowKit

/-- A call that hands back a node of a tree. -/
def GivesNode (t : Tr) (w : World) (e : Ending) (w' : World) : Prop :=
  ∃ b : Nat, NodeAt w' t b ∧ Below w.heap.size w w' ∧ e = .returned (.pointer (some ⟨b, 0, none⟩))

theorem below_two {w w1 : World} {b : Nat} {u v : Value} (hb : Below w.heap.size w w1) (h1 : w.cell? ⟨b, 0, none⟩ = some u) (h2 : w.cell? ⟨b, 1, none⟩ = some v) :
    w1.cell? ⟨b, 0, none⟩ = some u ∧ w1.cell? ⟨b, 1, none⟩ = some v := by
  have hl := World.block_lt_of_cell? w _ h1
  exact ⟨(hb.cell (p := ⟨b, 0, none⟩) hl).trans h1, (hb.cell (p := ⟨b, 1, none⟩) hl).trans h2⟩

set_option maxRecDepth 100000 in
set_option maxHeartbeats 1000000 in
theorem mirrored_any (t : Tr) : ∀ (b : Nat) (w : World), NodeAt w t b →
    Calls Try.prog 124 #[.pointer (some ⟨b, 0, none⟩)] w (GivesNode t.mir w) := by
  induction t with
  | lf =>
    intro b w h
    have H := Lib.hid h
    clear h
    go_enter Try.func124, Try.ntmps124
    go_wp2_with fail
    refine (isLeaf_any .lf b _ H.out).mono ?_; rintro e w1 ⟨rfl, rfl⟩
    simp only [Tr.isLf]
    go_wp2_with fail
    go_ret
    exact ⟨b, H.out, Below.refl _ _, rfl⟩
  | nd l r ihl ihr =>
    intro b w h
    have H := Lib.hid h
    obtain ⟨bl, br, h, hl, hr⟩ := h
    have h1 := two_left h
    have h2 := two_right h
    clear h
    go_enter Try.func124, Try.ntmps124
    go_wp2_with fail
    refine (isLeaf_any (.nd l r) b _ H.out).mono ?_; rintro e w1 ⟨rfl, rfl⟩
    simp only [Tr.isLf]
    go_wp2_with fail
    have hb0 := Below.refl w.heap.size w
    go_region_with (first
        | (go_at_call_of 124 (some (⟨br, 0, none⟩ : Addr)); refine (ihr br _ ?_).mono ?_; exact hr.keep hb0.drew; rintro e w1 ⟨b1, hn1, hb1, rfl⟩; have hb1' := nx hb0.drew hb1; obtain ⟨q1, q2⟩ := below_two hb1' h1 h2)
        | (go_at_call_of 124 (some (⟨bl, 0, none⟩ : Addr)); refine (ihl bl _ ?_).mono ?_; exact hl.keep hb1'; rintro e w2 ⟨b2, hn2, hb2, rfl⟩))
    all_goals (try go_wp2_with fail)
    all_goals go_ret
    all_goals exact ⟨_, node_new hn1 hb2 hn2, nxAlloc (nx hb1' hb2) _, rfl⟩
end Go.Proofs.Ytbeailflcinilab
