/- Walks: rotations at the top of a tree: spec.brRotate, (*node).rotated, (*node).rotatedBack. -/
import Derived.Test.YtkoebmdocenlkaaText
import Derived.Test.YtkoebmdocenlkaaAns
import Derived.Test.YtkoebmdocenlkaaBrP
import Derived.Test.YtkoebmdocenlkaaHeldW
namespace Go.Proofs.Ytkoebmdocenlkaa
open Go.RowKit

theorem below_two9 {w w' : World} (hb : Below w.heap.size w w') {b : Nat} {u v : Value} (h1 : w.cell? ⟨b, 0, none⟩ = some u) (h2 : w.cell? ⟨b, 1, none⟩ = some v) : w'.cell? ⟨b, 0, none⟩ = some u ∧ w'.cell? ⟨b, 1, none⟩ = some v :=
  ⟨(hb.cell (p := ⟨b, 0, none⟩) (World.block_lt_of_cell? w _ h1)).trans h1, (hb.cell (p := ⟨b, 1, none⟩) (World.block_lt_of_cell? w _ h2)).trans h2⟩

set_option maxRecDepth 100000 in
theorem brRotate_any (k : Bool) (t : Tr) (w : World) (ht : t.carets ≤ 60) :
    Calls Try.prog 87 #[.string t.str, .bool k] w (Gives (ansV (t.rot k)) w) := by
  cases t with
  | lf =>
    rw [rot_lf]
    go_enter Try.func87, Try.ntmps87
    go_wp2_with fail
    refine (trLeaf_any .lf _).mono ?_; rintro e w1 ⟨rfl, rfl⟩
    simp only [Tr.isLf]
    go_wp2_with fail
    go_ret2
    exact ⟨rfl, Below.refl _ _⟩
  | nd l r =>
    have hc : l.carets + r.carets + 1 ≤ 60 := ht
    cases k with
    | true =>
      cases r with
      | lf =>
        rw [show (Tr.nd l .lf).rot true = none by cases l <;> rfl]
        go_enter Try.func87, Try.ntmps87
        go_wp2_with fail
        refine (trLeaf_any (.nd l .lf) _).mono ?_; rintro e w1 ⟨rfl, rfl⟩
        simp only [Tr.isLf]
        go_wp2_with fail
        refine (trSides_any l .lf _ (by omega)).mono ?_; rintro e w1 ⟨rfl, hb1⟩
        go_wp2_with fail
        refine (trLeaf_any .lf _).mono ?_; rintro e w2 ⟨rfl, rfl⟩
        simp only [Tr.isLf]
        go_wp2_with fail
        go_ret2
        exact ⟨rfl, hb1⟩
      | nd p q =>
        have hd : p.carets + q.carets + 1 ≤ 59 := by simp only [Tr.carets] at hc; omega
        have hl : l.carets ≤ 60 := by omega
        rw [show (Tr.nd l (.nd p q)).rot true = some (.nd (.nd l p) q) by rfl]
        go_enter Try.func87, Try.ntmps87
        go_wp2_with fail
        refine (trLeaf_any (.nd l (.nd p q)) _).mono ?_; rintro e w1 ⟨rfl, rfl⟩
        simp only [Tr.isLf]
        go_wp2_with fail
        refine (trSides_any l (.nd p q) _ (by omega)).mono ?_; rintro e w1 ⟨rfl, hb1⟩
        go_wp2_with fail
        refine (trLeaf_any (.nd p q) _).mono ?_; rintro e w2 ⟨rfl, rfl⟩
        simp only [Tr.isLf]
        go_wp2_with fail
        refine (trSides_any p q _ (by omega)).mono ?_; rintro e w2 ⟨rfl, hb2⟩
        go_wp2_with fail
        refine (trOf_any l p _ (by omega)).mono ?_; rintro e w3 ⟨rfl, rfl⟩
        go_wp2_with fail
        refine (trOf_any (.nd l p) q _ (by simp only [Tr.carets]; omega)).mono ?_; rintro e w4 ⟨rfl, rfl⟩
        go_wp2_with fail
        go_ret2
        exact ⟨rfl, nx hb1 hb2⟩
    | false =>
      cases l with
      | lf =>
        rw [show (Tr.nd .lf r).rot false = none by cases r <;> rfl]
        go_enter Try.func87, Try.ntmps87
        go_wp2_with fail
        refine (trLeaf_any (.nd .lf r) _).mono ?_; rintro e w1 ⟨rfl, rfl⟩
        simp only [Tr.isLf]
        go_wp2_with fail
        refine (trSides_any .lf r _ (by omega)).mono ?_; rintro e w1 ⟨rfl, hb1⟩
        go_wp2_with fail
        refine (trLeaf_any .lf _).mono ?_; rintro e w2 ⟨rfl, rfl⟩
        simp only [Tr.isLf]
        go_wp2_with fail
        go_ret2
        exact ⟨rfl, hb1⟩
      | nd p q =>
        have hd : p.carets + q.carets + 1 ≤ 59 := by simp only [Tr.carets] at hc; omega
        have hl : r.carets ≤ 60 := by omega
        rw [show (Tr.nd (.nd p q) r).rot false = some (.nd p (.nd q r)) by rfl]
        go_enter Try.func87, Try.ntmps87
        go_wp2_with fail
        refine (trLeaf_any (.nd (.nd p q) r) _).mono ?_; rintro e w1 ⟨rfl, rfl⟩
        simp only [Tr.isLf]
        go_wp2_with fail
        refine (trSides_any (.nd p q) r _ (by omega)).mono ?_; rintro e w1 ⟨rfl, hb1⟩
        go_wp2_with fail
        refine (trLeaf_any (.nd p q) _).mono ?_; rintro e w2 ⟨rfl, rfl⟩
        simp only [Tr.isLf]
        go_wp2_with fail
        refine (trSides_any p q _ (by omega)).mono ?_; rintro e w2 ⟨rfl, hb2⟩
        go_wp2_with fail
        refine (trOf_any q r _ (by omega)).mono ?_; rintro e w3 ⟨rfl, rfl⟩
        go_wp2_with fail
        refine (trOf_any p (.nd q r) _ (by simp only [Tr.carets]; omega)).mono ?_; rintro e w4 ⟨rfl, rfl⟩
        go_wp2_with fail
        go_ret2
        exact ⟨rfl, nx hb1 hb2⟩

/-- What a turn hands back: a node of the tree, or none. -/
def RotP (o : Option Tr) (w : World) (e : Ending) (w' : World) : Prop :=
  match o with
  | some u => ∃ b, NodeAt w' u b ∧ Below w.heap.size w w' ∧ e = .returned (.pointer (some ⟨b, 0, none⟩))
  | none => Below w.heap.size w w' ∧ e = .returned (.pointer none)


set_option maxRecDepth 100000 in
set_option maxHeartbeats 1000000 in
theorem rotated_any (t : Tr) (b : Nat) (w : World) (h : NodeAt w t b) :
    Calls Try.prog 50 #[.pointer (some ⟨b, 0, none⟩)] w (RotP (t.rot false) w) := by
  have H := Lib.hid h
  cases t with
  | lf =>
    rw [rot_lf]
    clear h
    go_enter Try.func50, Try.ntmps50
    go_wp2_with fail
    refine (isLeaf_any .lf b _ H.out).mono ?_; rintro e w1 ⟨rfl, rfl⟩
    simp only [Tr.isLf]
    go_wp2_with fail
    go_ret
    exact ⟨Below.refl _ _, rfl⟩
  | nd l r =>
    obtain ⟨bl, br, h, hl, hr⟩ := h
    have h1 := two_left h
    have h2 := two_right h
    have HL := Lib.hid hl
    have HR := Lib.hid hr
    clear h hl hr
    cases l with
    | lf =>
      rw [show (Tr.nd .lf r).rot false = none by cases r <;> rfl]
      go_enter Try.func50, Try.ntmps50
      go_wp2_with fail
      refine (isLeaf_any _ b _ H.out).mono ?_; rintro e w1 ⟨rfl, rfl⟩
      simp only [Tr.isLf]
      go_wp2_with fail
      refine (isLeaf_any .lf bl _ HL.out).mono ?_; rintro e w1 ⟨rfl, rfl⟩
      simp only [Tr.isLf]
      go_wp2_with fail
      go_ret
      exact ⟨Below.refl _ _, rfl⟩
    | nd p q =>
      rw [show (Tr.nd (.nd p q) r).rot false = some (.nd p (.nd q r)) by rfl]
      obtain ⟨cp, cq, kk, kp, kq⟩ := HL.out
      have k1 := two_left kk
      have k2 := two_right kk
      have KP := Lib.hid kp
      have KQ := Lib.hid kq
      clear kk kp kq
      have hb0 := (Below.refl w.heap.size w).drew
      have A0' : Hid (∀ w', Below w.heap.size w w' → (fun (w' : World) => w'.cell? ⟨b, 0, none⟩ = some (.pointer (some ⟨bl, 0, none⟩)) ∧ w'.cell? ⟨b, 1, none⟩ = some (.pointer (some ⟨br, 0, none⟩)) ∧ w'.cell? ⟨bl, 0, none⟩ = some (.pointer (some ⟨cp, 0, none⟩)) ∧ w'.cell? ⟨bl, 1, none⟩ = some (.pointer (some ⟨cq, 0, none⟩))) w') := fun w' hb => ⟨(below_two9 hb h1 h2).1, (below_two9 hb h1 h2).2, (below_two9 hb k1 k2).1, (below_two9 hb k1 k2).2⟩
      go_enter Try.func50, Try.ntmps50
      go_wp2_with fail
      refine (isLeaf_any _ b _ H.out).mono ?_; rintro e w1 ⟨rfl, rfl⟩
      simp only [Tr.isLf]
      go_wp2_with fail
      refine (isLeaf_any (.nd p q) bl _ HL.out).mono ?_; rintro e w1 ⟨rfl, rfl⟩
      simp only [Tr.isLf]
      go_wp2_with fail
      refine wp_region_held_drew (S := (fun (w' : World) => w'.cell? ⟨b, 0, none⟩ = some (.pointer (some ⟨bl, 0, none⟩)) ∧ w'.cell? ⟨b, 1, none⟩ = some (.pointer (some ⟨br, 0, none⟩)) ∧ w'.cell? ⟨bl, 0, none⟩ = some (.pointer (some ⟨cp, 0, none⟩)) ∧ w'.cell? ⟨bl, 1, none⟩ = some (.pointer (some ⟨cq, 0, none⟩)))) (by kernel_rfl) ⟨h1, h2, k1, k2⟩ (fun hH0 => ?_)
      refine wpAnyH_take (i := 0) (oi := ?oi201) (v := ?vv201) ?hi201 ?hn201 ?hf201 ?hr201 ?hq201 (Or.inl ⟨?hg201, ?hy201⟩) hH0 ?rest201
      case hi201 => (simp only [List.getElem?_toArray, List.getElem?_cons_zero]; rfl)
      case hn201 => kernel_rfl
      case hf201 => kernel_rfl
      case hr201 => kernel_rfl
      case hg201 => rfl
      case hy201 => (intro w hSw; (try dsimp only at hSw); go_simp; first | done | with_reducible rfl)
      case hq201 => exact fun _ _ _ h => h
      try dsimp only [Act.put]
      refine wpAnyH_take (i := 1) (oi := ?oi202) (v := ?vv202) ?hi202 ?hn202 ?hf202 ?hr202 ?hq202 (Or.inl ⟨?hg202, ?hy202⟩) hH0 ?rest202
      case hi202 => (simp only [List.getElem?_toArray, List.getElem?_cons_succ, List.getElem?_cons_zero]; rfl)
      case hn202 => kernel_rfl
      case hf202 => kernel_rfl
      case hr202 => kernel_rfl
      case hg202 => rfl
      case hy202 => (intro w hSw; (try dsimp only at hSw); go_simp; first | done | with_reducible rfl)
      case hq202 => exact fun _ _ _ h => h
      try dsimp only [Act.put]
      refine wpAnyH_take (i := 2) (oi := ?oi203) (v := ?vv203) ?hi203 ?hn203 ?hf203 ?hr203 ?hq203 (Or.inl ⟨?hg203, ?hy203⟩) hH0 ?rest203
      case hi203 => (simp only [List.getElem?_toArray, List.getElem?_cons_succ, List.getElem?_cons_zero]; rfl)
      case hn203 => kernel_rfl
      case hf203 => kernel_rfl
      case hr203 => kernel_rfl
      case hg203 => rfl
      case hy203 => (intro w hSw; (try dsimp only at hSw); go_simp; first | done | with_reducible rfl)
      case hq203 => exact fun _ _ _ h => h
      try dsimp only [Act.put]
      refine wpAnyH_take (i := 3) (oi := ?oi204) (v := ?vv204) ?hi204 ?hn204 ?hf204 ?hr204 ?hq204 (Or.inl ⟨?hg204, ?hy204⟩) hH0 ?rest204
      case hi204 => (simp only [List.getElem?_toArray, List.getElem?_cons_succ, List.getElem?_cons_zero]; rfl)
      case hn204 => kernel_rfl
      case hf204 => kernel_rfl
      case hr204 => kernel_rfl
      case hg204 => rfl
      case hy204 => (intro w hSw; (try dsimp only at hSw); go_simp; first | done | with_reducible rfl)
      case hq204 => exact fun _ _ _ h => h
      try dsimp only [Act.put]
      refine wpAnyH_take (i := 4) (oi := ?oi205) (v := ?vv205) ?hi205 ?hn205 ?hf205 ?hr205 ?hq205 (Or.inl ⟨?hg205, ?hy205⟩) hH0 ?rest205
      case hi205 => (simp only [List.getElem?_toArray, List.getElem?_cons_succ, List.getElem?_cons_zero]; rfl)
      case hn205 => kernel_rfl
      case hf205 => kernel_rfl
      case hr205 => kernel_rfl
      case hg205 => rfl
      case hy205 => (intro w hSw; (try dsimp only at hSw); go_simp; first | done | with_reducible rfl)
      case hq205 => exact fun _ _ _ h => h
      try dsimp only [Act.put]
      refine wpAnyH_take (i := 5) (oi := ?oi206) (v := ?vv206) ?hi206 ?hn206 ?hf206 ?hr206 ?hq206 (Or.inl ⟨?hg206, ?hy206⟩) hH0 ?rest206
      case hi206 => (simp only [List.getElem?_toArray, List.getElem?_cons_succ, List.getElem?_cons_zero]; rfl)
      case hn206 => kernel_rfl
      case hf206 => kernel_rfl
      case hr206 => kernel_rfl
      case hg206 => rfl
      case hy206 => (intro w hSw; (try dsimp only at hSw); go_simp; first | done | with_reducible rfl)
      case hq206 => exact fun _ _ _ h => h
      try dsimp only [Act.put]
      refine wpAnyH_take (i := 6) (oi := ?oi207) (v := ?vv207) ?hi207 ?hn207 ?hf207 ?hr207 ?hq207 (Or.inl ⟨?hg207, ?hy207⟩) hH0 ?rest207
      case hi207 => (simp only [List.getElem?_toArray, List.getElem?_cons_succ, List.getElem?_cons_zero]; rfl)
      case hn207 => kernel_rfl
      case hf207 => kernel_rfl
      case hr207 => kernel_rfl
      case hg207 => rfl
      case hy207 => (intro w hSw; (try dsimp only at hSw); go_simp; first | done | with_reducible rfl)
      case hq207 => exact fun _ _ _ h => h
      try dsimp only [Act.put]
      refine wpAnyH_take (i := 7) (oi := ?oi208) (v := ?vv208) ?hi208 ?hn208 ?hf208 ?hr208 ?hq208 (Or.inl ⟨?hg208, ?hy208⟩) hH0 ?rest208
      case hi208 => (simp only [List.getElem?_toArray, List.getElem?_cons_succ, List.getElem?_cons_zero]; rfl)
      case hn208 => kernel_rfl
      case hf208 => kernel_rfl
      case hr208 => kernel_rfl
      case hg208 => rfl
      case hy208 => (intro w hSw; (try dsimp only at hSw); go_simp; first | done | with_reducible rfl)
      case hq208 => exact fun _ _ _ h => h
      try dsimp only [Act.put]
      refine wpAnyH_take (i := 8) (oi := ?oi209) (v := ?vv209) ?hi209 ?hn209 ?hf209 ?hr209 ?hq209 (Or.inl ⟨?hg209, ?hy209⟩) hH0 ?rest209
      case hi209 => (simp only [List.getElem?_toArray, List.getElem?_cons_succ, List.getElem?_cons_zero]; rfl)
      case hn209 => kernel_rfl
      case hf209 => kernel_rfl
      case hr209 => kernel_rfl
      case hg209 => rfl
      case hy209 => (intro w hSw; (try dsimp only at hSw); go_simp; first | done | with_reducible rfl)
      case hq209 => exact fun _ _ _ h => h
      try dsimp only [Act.put]
      refine wpAnyH_take (i := 9) (oi := ?oi210) (v := ?vv210) ?hi210 ?hn210 ?hf210 ?hr210 ?hq210 (Or.inl ⟨?hg210, ?hy210⟩) hH0 ?rest210
      case hi210 => (simp only [List.getElem?_toArray, List.getElem?_cons_succ, List.getElem?_cons_zero]; rfl)
      case hn210 => kernel_rfl
      case hf210 => kernel_rfl
      case hr210 => kernel_rfl
      case hg210 => rfl
      case hy210 => (intro w hSw; (try dsimp only at hSw); go_simp; first | done | with_reducible rfl)
      case hq210 => exact fun _ _ _ h => h
      try dsimp only [Act.put]
      refine wpAnyH_take (i := 10) (oi := ?oi211) (v := ?vv211) ?hi211 ?hn211 ?hf211 ?hr211 ?hq211 (Or.inl ⟨?hg211, ?hy211⟩) hH0 ?rest211
      case hi211 => (simp only [List.getElem?_toArray, List.getElem?_cons_succ, List.getElem?_cons_zero]; rfl)
      case hn211 => kernel_rfl
      case hf211 => kernel_rfl
      case hr211 => kernel_rfl
      case hg211 => rfl
      case hy211 => (intro w hSw; (try dsimp only at hSw); go_simp; first | done | with_reducible rfl)
      case hq211 => exact fun _ _ _ h => h
      try dsimp only [Act.put]
      refine wpAnyH_take (i := 11) (oi := ?oi212) (v := ?vv212) ?hi212 ?hn212 ?hf212 ?hr212 ?hq212 (Or.inl ⟨?hg212, ?hy212⟩) hH0 ?rest212
      case hi212 => (simp only [List.getElem?_toArray, List.getElem?_cons_succ, List.getElem?_cons_zero]; rfl)
      case hn212 => kernel_rfl
      case hf212 => kernel_rfl
      case hr212 => kernel_rfl
      case hg212 => rfl
      case hy212 => (intro w hSw; (try dsimp only at hSw); go_simp; first | done | with_reducible rfl)
      case hq212 => exact fun _ _ _ h => h
      try dsimp only [Act.put]
      refine wpAnyH_take (i := 12) (oi := ?oi213) (v := ?vv213) ?hi213 ?hn213 ?hf213 ?hr213 ?hq213 (Or.inl ⟨?hg213, ?hy213⟩) hH0 ?rest213
      case hi213 => (simp only [List.getElem?_toArray, List.getElem?_cons_succ, List.getElem?_cons_zero]; rfl)
      case hn213 => kernel_rfl
      case hf213 => kernel_rfl
      case hr213 => kernel_rfl
      case hg213 => rfl
      case hy213 => (intro w hSw; (try dsimp only at hSw); go_simp; first | done | with_reducible rfl)
      case hq213 => exact fun _ _ _ h => h
      try dsimp only [Act.put]
      refine wpAnyH_take (i := 13) (oi := ?oi214) (v := ?vv214) ?hi214 ?hn214 ?hf214 ?hr214 ?hq214 (Or.inl ⟨?hg214, ?hy214⟩) hH0 ?rest214
      case hi214 => (simp only [List.getElem?_toArray, List.getElem?_cons_succ, List.getElem?_cons_zero]; rfl)
      case hn214 => kernel_rfl
      case hf214 => kernel_rfl
      case hr214 => kernel_rfl
      case hg214 => rfl
      case hy214 => (intro w hSw; (try dsimp only at hSw); go_simp; first | done | with_reducible rfl)
      case hq214 => exact fun _ _ _ h => h
      try dsimp only [Act.put]
      refine wpAnyH_take (i := 14) (oi := ?oi215) (v := ?vv215) ?hi215 ?hn215 ?hf215 ?hr215 ?hq215 (Or.inl ⟨?hg215, ?hy215⟩) hH0 ?rest215
      case hi215 => (simp only [List.getElem?_toArray, List.getElem?_cons_succ, List.getElem?_cons_zero]; rfl)
      case hn215 => kernel_rfl
      case hf215 => kernel_rfl
      case hr215 => kernel_rfl
      case hg215 => rfl
      case hy215 => (intro w hSw; (try dsimp only at hSw); go_simp; first | done | with_reducible rfl)
      case hq215 => exact fun _ _ _ h => h
      try dsimp only [Act.put]
      refine wpAnyH_take (i := 15) (oi := ?oi216) (v := ?vv216) ?hi216 ?hn216 ?hf216 ?hr216 ?hq216 (Or.inl ⟨?hg216, ?hy216⟩) hH0 ?rest216
      case hi216 => (simp only [List.getElem?_toArray, List.getElem?_cons_succ, List.getElem?_cons_zero]; rfl)
      case hn216 => kernel_rfl
      case hf216 => kernel_rfl
      case hr216 => kernel_rfl
      case hg216 => rfl
      case hy216 => (intro w hSw; (try dsimp only at hSw); go_simp; first | done | with_reducible rfl)
      case hq216 => exact fun _ _ _ h => h
      try dsimp only [Act.put]
      refine wpAnyH_take (i := 16) (oi := ?oi217) (v := ?vv217) ?hi217 ?hn217 ?hf217 ?hr217 ?hq217 (Or.inl ⟨?hg217, ?hy217⟩) hH0 ?rest217
      case hi217 => (simp only [List.getElem?_toArray, List.getElem?_cons_succ, List.getElem?_cons_zero]; rfl)
      case hn217 => kernel_rfl
      case hf217 => kernel_rfl
      case hr217 => kernel_rfl
      case hg217 => rfl
      case hy217 => (intro w hSw; (try dsimp only at hSw); go_simp; first | done | with_reducible rfl)
      case hq217 => exact fun _ _ _ h => h
      try dsimp only [Act.put]
      refine wpAnyH_take (i := 17) (oi := ?oi218) (v := ?vv218) ?hi218 ?hn218 ?hf218 ?hr218 ?hq218 (Or.inl ⟨?hg218, ?hy218⟩) hH0 ?rest218
      case hi218 => (simp only [List.getElem?_toArray, List.getElem?_cons_succ, List.getElem?_cons_zero]; rfl)
      case hn218 => kernel_rfl
      case hf218 => kernel_rfl
      case hr218 => kernel_rfl
      case hg218 => rfl
      case hy218 => (intro w hSw; (try dsimp only at hSw); go_simp; first | done | with_reducible rfl)
      case hq218 => exact fun _ _ _ h => h
      try dsimp only [Act.put]
      refine wpAnyH_take (i := 18) (oi := ?oi219) (v := ?vv219) ?hi219 ?hn219 ?hf219 ?hr219 ?hq219 (Or.inl ⟨?hg219, ?hy219⟩) hH0 ?rest219
      case hi219 => (simp only [List.getElem?_toArray, List.getElem?_cons_succ, List.getElem?_cons_zero]; rfl)
      case hn219 => kernel_rfl
      case hf219 => kernel_rfl
      case hr219 => kernel_rfl
      case hg219 => rfl
      case hy219 => (intro w hSw; (try dsimp only at hSw); go_simp; first | done | with_reducible rfl)
      case hq219 => exact fun _ _ _ h => h
      try dsimp only [Act.put]
      refine held_one 19 rfl (by kernel_rfl) (fun K hK => ?_)
      go_simp
      
      go_wp2_with fail
      have hH1 : (fun (w' : World) => w'.cell? ⟨b, 0, none⟩ = some (.pointer (some ⟨bl, 0, none⟩)) ∧ w'.cell? ⟨b, 1, none⟩ = some (.pointer (some ⟨br, 0, none⟩)) ∧ w'.cell? ⟨bl, 0, none⟩ = some (.pointer (some ⟨cp, 0, none⟩)) ∧ w'.cell? ⟨bl, 1, none⟩ = some (.pointer (some ⟨cq, 0, none⟩))) _ := A0'.out (w.drew.alloc (.cells #[.pointer (some ⟨cq, 0, none⟩), .pointer (some ⟨br, 0, none⟩)] 91 (0, 0))) (nxAlloc hb0 _)
      refine hK.out (fun (w' : World) => w'.cell? ⟨b, 0, none⟩ = some (.pointer (some ⟨bl, 0, none⟩)) ∧ w'.cell? ⟨b, 1, none⟩ = some (.pointer (some ⟨br, 0, none⟩)) ∧ w'.cell? ⟨bl, 0, none⟩ = some (.pointer (some ⟨cp, 0, none⟩)) ∧ w'.cell? ⟨bl, 1, none⟩ = some (.pointer (some ⟨cq, 0, none⟩))) _ _ (fun _ h => h) hH1 ?_
      clear hK K
      try dsimp only [Act.put]
      refine wpAnyH_take (i := 20) (oi := ?oi220) (v := ?vv220) ?hi220 ?hn220 ?hf220 ?hr220 ?hq220 (Or.inl ⟨?hg220, ?hy220⟩) hH1 ?rest220
      case hi220 => (simp only [List.getElem?_toArray, List.getElem?_cons_succ, List.getElem?_cons_zero]; rfl)
      case hn220 => kernel_rfl
      case hf220 => kernel_rfl
      case hr220 => kernel_rfl
      case hg220 => rfl
      case hy220 => (intro w hSw; (try dsimp only at hSw); go_simp; first | done | with_reducible rfl)
      case hq220 => exact fun _ _ _ h => h
      try dsimp only [Act.put]
      refine held_one 21 rfl (by kernel_rfl) (fun K hK => ?_)
      go_simp
      
      go_wp2_with fail
      have hH2 : (fun (w' : World) => w'.cell? ⟨b, 0, none⟩ = some (.pointer (some ⟨bl, 0, none⟩)) ∧ w'.cell? ⟨b, 1, none⟩ = some (.pointer (some ⟨br, 0, none⟩)) ∧ w'.cell? ⟨bl, 0, none⟩ = some (.pointer (some ⟨cp, 0, none⟩)) ∧ w'.cell? ⟨bl, 1, none⟩ = some (.pointer (some ⟨cq, 0, none⟩))) _ := A0'.out ((w.drew.alloc (.cells #[.pointer (some ⟨cq, 0, none⟩), .pointer (some ⟨br, 0, none⟩)] 91 (0, 0))).alloc (.cells #[.pointer (some ⟨cp, 0, none⟩), .pointer (some ⟨w.heap.size, 0, none⟩)] 91 (0, 0))) (nxAlloc (nxAlloc hb0 _) _)
      refine hK.out (fun (w' : World) => w'.cell? ⟨b, 0, none⟩ = some (.pointer (some ⟨bl, 0, none⟩)) ∧ w'.cell? ⟨b, 1, none⟩ = some (.pointer (some ⟨br, 0, none⟩)) ∧ w'.cell? ⟨bl, 0, none⟩ = some (.pointer (some ⟨cp, 0, none⟩)) ∧ w'.cell? ⟨bl, 1, none⟩ = some (.pointer (some ⟨cq, 0, none⟩))) _ _ (fun _ h => h) hH2 ?_
      clear hK K
      try dsimp only [Act.put]
      refine wpAnyH_take (i := 22) (oi := ?oi221) (v := ?vv221) ?hi221 ?hn221 ?hf221 ?hr221 ?hq221 (Or.inl ⟨?hg221, ?hy221⟩) hH2 ?rest221
      case hi221 => (simp only [List.getElem?_toArray, List.getElem?_cons_succ, List.getElem?_cons_zero]; rfl)
      case hn221 => kernel_rfl
      case hf221 => kernel_rfl
      case hr221 => kernel_rfl
      case hg221 => rfl
      case hy221 => (intro w hSw; (try dsimp only at hSw); go_simp; first | done | with_reducible rfl)
      case hq221 => exact fun _ _ _ h => h
      try dsimp only [Act.put]
      refine wpAnyH_done (by kernel_rfl) ?_ _
      simp only [List.setIfInBounds_toArray, List.set_cons_zero, List.set_cons_succ]
      have hN := node_new KP.out (nxAlloc hb0 _) (node_new KQ.out hb0 (HR.out.keep hb0))
      have hsz : (w.drew.alloc (.cells #[.pointer (some ⟨cq, 0, none⟩), .pointer (some ⟨br, 0, none⟩)] 91 (0, 0))).heap.size = w.heap.size + 1 := by simp
      rw [hsz] at hN
      have HN := Lib.hid hN
      clear hN hsz
      go_wp2_with fail
      go_ret
      exact ⟨_, HN.out, nxAlloc (nxAlloc hb0 _) _, rfl⟩

set_option maxRecDepth 100000 in
set_option maxHeartbeats 1000000 in
theorem rotatedBack_any (t : Tr) (b : Nat) (w : World) (h : NodeAt w t b) :
    Calls Try.prog 51 #[.pointer (some ⟨b, 0, none⟩)] w (RotP (t.rot true) w) := by
  have H := Lib.hid h
  cases t with
  | lf =>
    rw [rot_lf]
    clear h
    go_enter Try.func51, Try.ntmps51
    go_wp2_with fail
    refine (isLeaf_any .lf b _ H.out).mono ?_; rintro e w1 ⟨rfl, rfl⟩
    simp only [Tr.isLf]
    go_wp2_with fail
    go_ret
    exact ⟨Below.refl _ _, rfl⟩
  | nd l r =>
    obtain ⟨bl, br, h, hl, hr⟩ := h
    have h1 := two_left h
    have h2 := two_right h
    have HL := Lib.hid hl
    have HR := Lib.hid hr
    clear h hl hr
    cases r with
    | lf =>
      rw [show (Tr.nd l .lf).rot true = none by cases l <;> rfl]
      go_enter Try.func51, Try.ntmps51
      go_wp2_with fail
      refine (isLeaf_any _ b _ H.out).mono ?_; rintro e w1 ⟨rfl, rfl⟩
      simp only [Tr.isLf]
      go_wp2_with fail
      refine (isLeaf_any .lf br _ HR.out).mono ?_; rintro e w1 ⟨rfl, rfl⟩
      simp only [Tr.isLf]
      go_wp2_with fail
      go_ret
      exact ⟨Below.refl _ _, rfl⟩
    | nd p q =>
      rw [show (Tr.nd l (.nd p q)).rot true = some (.nd (.nd l p) q) by rfl]
      obtain ⟨cp, cq, kk, kp, kq⟩ := HR.out
      have k1 := two_left kk
      have k2 := two_right kk
      have KP := Lib.hid kp
      have KQ := Lib.hid kq
      clear kk kp kq
      have hb0 := (Below.refl w.heap.size w).drew
      have A0' : Hid (∀ w', Below w.heap.size w w' → (fun (w' : World) => w'.cell? ⟨b, 0, none⟩ = some (.pointer (some ⟨bl, 0, none⟩)) ∧ w'.cell? ⟨b, 1, none⟩ = some (.pointer (some ⟨br, 0, none⟩)) ∧ w'.cell? ⟨br, 0, none⟩ = some (.pointer (some ⟨cp, 0, none⟩)) ∧ w'.cell? ⟨br, 1, none⟩ = some (.pointer (some ⟨cq, 0, none⟩))) w') := fun w' hb => ⟨(below_two9 hb h1 h2).1, (below_two9 hb h1 h2).2, (below_two9 hb k1 k2).1, (below_two9 hb k1 k2).2⟩
      go_enter Try.func51, Try.ntmps51
      go_wp2_with fail
      refine (isLeaf_any _ b _ H.out).mono ?_; rintro e w1 ⟨rfl, rfl⟩
      simp only [Tr.isLf]
      go_wp2_with fail
      refine (isLeaf_any (.nd p q) br _ HR.out).mono ?_; rintro e w1 ⟨rfl, rfl⟩
      simp only [Tr.isLf]
      go_wp2_with fail
      refine wp_region_held_drew (S := (fun (w' : World) => w'.cell? ⟨b, 0, none⟩ = some (.pointer (some ⟨bl, 0, none⟩)) ∧ w'.cell? ⟨b, 1, none⟩ = some (.pointer (some ⟨br, 0, none⟩)) ∧ w'.cell? ⟨br, 0, none⟩ = some (.pointer (some ⟨cp, 0, none⟩)) ∧ w'.cell? ⟨br, 1, none⟩ = some (.pointer (some ⟨cq, 0, none⟩)))) (by kernel_rfl) ⟨h1, h2, k1, k2⟩ (fun hH0 => ?_)
      refine wpAnyH_take (i := 0) (oi := ?oi401) (v := ?vv401) ?hi401 ?hn401 ?hf401 ?hr401 ?hq401 (Or.inl ⟨?hg401, ?hy401⟩) hH0 ?rest401
      case hi401 => (simp only [List.getElem?_toArray, List.getElem?_cons_zero]; rfl)
      case hn401 => kernel_rfl
      case hf401 => kernel_rfl
      case hr401 => kernel_rfl
      case hg401 => rfl
      case hy401 => (intro w hSw; (try dsimp only at hSw); go_simp; first | done | with_reducible rfl)
      case hq401 => exact fun _ _ _ h => h
      try dsimp only [Act.put]
      refine wpAnyH_take (i := 1) (oi := ?oi402) (v := ?vv402) ?hi402 ?hn402 ?hf402 ?hr402 ?hq402 (Or.inl ⟨?hg402, ?hy402⟩) hH0 ?rest402
      case hi402 => (simp only [List.getElem?_toArray, List.getElem?_cons_succ, List.getElem?_cons_zero]; rfl)
      case hn402 => kernel_rfl
      case hf402 => kernel_rfl
      case hr402 => kernel_rfl
      case hg402 => rfl
      case hy402 => (intro w hSw; (try dsimp only at hSw); go_simp; first | done | with_reducible rfl)
      case hq402 => exact fun _ _ _ h => h
      try dsimp only [Act.put]
      refine wpAnyH_take (i := 2) (oi := ?oi403) (v := ?vv403) ?hi403 ?hn403 ?hf403 ?hr403 ?hq403 (Or.inl ⟨?hg403, ?hy403⟩) hH0 ?rest403
      case hi403 => (simp only [List.getElem?_toArray, List.getElem?_cons_succ, List.getElem?_cons_zero]; rfl)
      case hn403 => kernel_rfl
      case hf403 => kernel_rfl
      case hr403 => kernel_rfl
      case hg403 => rfl
      case hy403 => (intro w hSw; (try dsimp only at hSw); go_simp; first | done | with_reducible rfl)
      case hq403 => exact fun _ _ _ h => h
      try dsimp only [Act.put]
      refine wpAnyH_take (i := 3) (oi := ?oi404) (v := ?vv404) ?hi404 ?hn404 ?hf404 ?hr404 ?hq404 (Or.inl ⟨?hg404, ?hy404⟩) hH0 ?rest404
      case hi404 => (simp only [List.getElem?_toArray, List.getElem?_cons_succ, List.getElem?_cons_zero]; rfl)
      case hn404 => kernel_rfl
      case hf404 => kernel_rfl
      case hr404 => kernel_rfl
      case hg404 => rfl
      case hy404 => (intro w hSw; (try dsimp only at hSw); go_simp; first | done | with_reducible rfl)
      case hq404 => exact fun _ _ _ h => h
      try dsimp only [Act.put]
      refine wpAnyH_take (i := 4) (oi := ?oi405) (v := ?vv405) ?hi405 ?hn405 ?hf405 ?hr405 ?hq405 (Or.inl ⟨?hg405, ?hy405⟩) hH0 ?rest405
      case hi405 => (simp only [List.getElem?_toArray, List.getElem?_cons_succ, List.getElem?_cons_zero]; rfl)
      case hn405 => kernel_rfl
      case hf405 => kernel_rfl
      case hr405 => kernel_rfl
      case hg405 => rfl
      case hy405 => (intro w hSw; (try dsimp only at hSw); go_simp; first | done | with_reducible rfl)
      case hq405 => exact fun _ _ _ h => h
      try dsimp only [Act.put]
      refine wpAnyH_take (i := 5) (oi := ?oi406) (v := ?vv406) ?hi406 ?hn406 ?hf406 ?hr406 ?hq406 (Or.inl ⟨?hg406, ?hy406⟩) hH0 ?rest406
      case hi406 => (simp only [List.getElem?_toArray, List.getElem?_cons_succ, List.getElem?_cons_zero]; rfl)
      case hn406 => kernel_rfl
      case hf406 => kernel_rfl
      case hr406 => kernel_rfl
      case hg406 => rfl
      case hy406 => (intro w hSw; (try dsimp only at hSw); go_simp; first | done | with_reducible rfl)
      case hq406 => exact fun _ _ _ h => h
      try dsimp only [Act.put]
      refine wpAnyH_take (i := 6) (oi := ?oi407) (v := ?vv407) ?hi407 ?hn407 ?hf407 ?hr407 ?hq407 (Or.inl ⟨?hg407, ?hy407⟩) hH0 ?rest407
      case hi407 => (simp only [List.getElem?_toArray, List.getElem?_cons_succ, List.getElem?_cons_zero]; rfl)
      case hn407 => kernel_rfl
      case hf407 => kernel_rfl
      case hr407 => kernel_rfl
      case hg407 => rfl
      case hy407 => (intro w hSw; (try dsimp only at hSw); go_simp; first | done | with_reducible rfl)
      case hq407 => exact fun _ _ _ h => h
      try dsimp only [Act.put]
      refine wpAnyH_take (i := 7) (oi := ?oi408) (v := ?vv408) ?hi408 ?hn408 ?hf408 ?hr408 ?hq408 (Or.inl ⟨?hg408, ?hy408⟩) hH0 ?rest408
      case hi408 => (simp only [List.getElem?_toArray, List.getElem?_cons_succ, List.getElem?_cons_zero]; rfl)
      case hn408 => kernel_rfl
      case hf408 => kernel_rfl
      case hr408 => kernel_rfl
      case hg408 => rfl
      case hy408 => (intro w hSw; (try dsimp only at hSw); go_simp; first | done | with_reducible rfl)
      case hq408 => exact fun _ _ _ h => h
      try dsimp only [Act.put]
      refine wpAnyH_take (i := 8) (oi := ?oi409) (v := ?vv409) ?hi409 ?hn409 ?hf409 ?hr409 ?hq409 (Or.inl ⟨?hg409, ?hy409⟩) hH0 ?rest409
      case hi409 => (simp only [List.getElem?_toArray, List.getElem?_cons_succ, List.getElem?_cons_zero]; rfl)
      case hn409 => kernel_rfl
      case hf409 => kernel_rfl
      case hr409 => kernel_rfl
      case hg409 => rfl
      case hy409 => (intro w hSw; (try dsimp only at hSw); go_simp; first | done | with_reducible rfl)
      case hq409 => exact fun _ _ _ h => h
      try dsimp only [Act.put]
      refine wpAnyH_take (i := 9) (oi := ?oi410) (v := ?vv410) ?hi410 ?hn410 ?hf410 ?hr410 ?hq410 (Or.inl ⟨?hg410, ?hy410⟩) hH0 ?rest410
      case hi410 => (simp only [List.getElem?_toArray, List.getElem?_cons_succ, List.getElem?_cons_zero]; rfl)
      case hn410 => kernel_rfl
      case hf410 => kernel_rfl
      case hr410 => kernel_rfl
      case hg410 => rfl
      case hy410 => (intro w hSw; (try dsimp only at hSw); go_simp; first | done | with_reducible rfl)
      case hq410 => exact fun _ _ _ h => h
      try dsimp only [Act.put]
      refine wpAnyH_take (i := 10) (oi := ?oi411) (v := ?vv411) ?hi411 ?hn411 ?hf411 ?hr411 ?hq411 (Or.inl ⟨?hg411, ?hy411⟩) hH0 ?rest411
      case hi411 => (simp only [List.getElem?_toArray, List.getElem?_cons_succ, List.getElem?_cons_zero]; rfl)
      case hn411 => kernel_rfl
      case hf411 => kernel_rfl
      case hr411 => kernel_rfl
      case hg411 => rfl
      case hy411 => (intro w hSw; (try dsimp only at hSw); go_simp; first | done | with_reducible rfl)
      case hq411 => exact fun _ _ _ h => h
      try dsimp only [Act.put]
      refine wpAnyH_take (i := 11) (oi := ?oi412) (v := ?vv412) ?hi412 ?hn412 ?hf412 ?hr412 ?hq412 (Or.inl ⟨?hg412, ?hy412⟩) hH0 ?rest412
      case hi412 => (simp only [List.getElem?_toArray, List.getElem?_cons_succ, List.getElem?_cons_zero]; rfl)
      case hn412 => kernel_rfl
      case hf412 => kernel_rfl
      case hr412 => kernel_rfl
      case hg412 => rfl
      case hy412 => (intro w hSw; (try dsimp only at hSw); go_simp; first | done | with_reducible rfl)
      case hq412 => exact fun _ _ _ h => h
      try dsimp only [Act.put]
      refine wpAnyH_take (i := 13) (oi := ?oi413) (v := ?vv413) ?hi413 ?hn413 ?hf413 ?hr413 ?hq413 (Or.inl ⟨?hg413, ?hy413⟩) hH0 ?rest413
      case hi413 => (simp only [List.getElem?_toArray, List.getElem?_cons_succ, List.getElem?_cons_zero]; rfl)
      case hn413 => kernel_rfl
      case hf413 => kernel_rfl
      case hr413 => kernel_rfl
      case hg413 => rfl
      case hy413 => (intro w hSw; (try dsimp only at hSw); go_simp; first | done | with_reducible rfl)
      case hq413 => exact fun _ _ _ h => h
      try dsimp only [Act.put]
      refine wpAnyH_take (i := 14) (oi := ?oi414) (v := ?vv414) ?hi414 ?hn414 ?hf414 ?hr414 ?hq414 (Or.inl ⟨?hg414, ?hy414⟩) hH0 ?rest414
      case hi414 => (simp only [List.getElem?_toArray, List.getElem?_cons_succ, List.getElem?_cons_zero]; rfl)
      case hn414 => kernel_rfl
      case hf414 => kernel_rfl
      case hr414 => kernel_rfl
      case hg414 => rfl
      case hy414 => (intro w hSw; (try dsimp only at hSw); go_simp; first | done | with_reducible rfl)
      case hq414 => exact fun _ _ _ h => h
      try dsimp only [Act.put]
      refine wpAnyH_take (i := 15) (oi := ?oi415) (v := ?vv415) ?hi415 ?hn415 ?hf415 ?hr415 ?hq415 (Or.inl ⟨?hg415, ?hy415⟩) hH0 ?rest415
      case hi415 => (simp only [List.getElem?_toArray, List.getElem?_cons_succ, List.getElem?_cons_zero]; rfl)
      case hn415 => kernel_rfl
      case hf415 => kernel_rfl
      case hr415 => kernel_rfl
      case hg415 => rfl
      case hy415 => (intro w hSw; (try dsimp only at hSw); go_simp; first | done | with_reducible rfl)
      case hq415 => exact fun _ _ _ h => h
      try dsimp only [Act.put]
      refine wpAnyH_take (i := 16) (oi := ?oi416) (v := ?vv416) ?hi416 ?hn416 ?hf416 ?hr416 ?hq416 (Or.inl ⟨?hg416, ?hy416⟩) hH0 ?rest416
      case hi416 => (simp only [List.getElem?_toArray, List.getElem?_cons_succ, List.getElem?_cons_zero]; rfl)
      case hn416 => kernel_rfl
      case hf416 => kernel_rfl
      case hr416 => kernel_rfl
      case hg416 => rfl
      case hy416 => (intro w hSw; (try dsimp only at hSw); go_simp; first | done | with_reducible rfl)
      case hq416 => exact fun _ _ _ h => h
      try dsimp only [Act.put]
      refine wpAnyH_take (i := 17) (oi := ?oi417) (v := ?vv417) ?hi417 ?hn417 ?hf417 ?hr417 ?hq417 (Or.inl ⟨?hg417, ?hy417⟩) hH0 ?rest417
      case hi417 => (simp only [List.getElem?_toArray, List.getElem?_cons_succ, List.getElem?_cons_zero]; rfl)
      case hn417 => kernel_rfl
      case hf417 => kernel_rfl
      case hr417 => kernel_rfl
      case hg417 => rfl
      case hy417 => (intro w hSw; (try dsimp only at hSw); go_simp; first | done | with_reducible rfl)
      case hq417 => exact fun _ _ _ h => h
      try dsimp only [Act.put]
      refine wpAnyH_take (i := 18) (oi := ?oi418) (v := ?vv418) ?hi418 ?hn418 ?hf418 ?hr418 ?hq418 (Or.inl ⟨?hg418, ?hy418⟩) hH0 ?rest418
      case hi418 => (simp only [List.getElem?_toArray, List.getElem?_cons_succ, List.getElem?_cons_zero]; rfl)
      case hn418 => kernel_rfl
      case hf418 => kernel_rfl
      case hr418 => kernel_rfl
      case hg418 => rfl
      case hy418 => (intro w hSw; (try dsimp only at hSw); go_simp; first | done | with_reducible rfl)
      case hq418 => exact fun _ _ _ h => h
      try dsimp only [Act.put]
      refine wpAnyH_take (i := 19) (oi := ?oi419) (v := ?vv419) ?hi419 ?hn419 ?hf419 ?hr419 ?hq419 (Or.inl ⟨?hg419, ?hy419⟩) hH0 ?rest419
      case hi419 => (simp only [List.getElem?_toArray, List.getElem?_cons_succ, List.getElem?_cons_zero]; rfl)
      case hn419 => kernel_rfl
      case hf419 => kernel_rfl
      case hr419 => kernel_rfl
      case hg419 => rfl
      case hy419 => (intro w hSw; (try dsimp only at hSw); go_simp; first | done | with_reducible rfl)
      case hq419 => exact fun _ _ _ h => h
      try dsimp only [Act.put]
      refine held_one 12 rfl (by kernel_rfl) (fun K hK => ?_)
      go_simp
      
      go_wp2_with fail
      have hH1 : (fun (w' : World) => w'.cell? ⟨b, 0, none⟩ = some (.pointer (some ⟨bl, 0, none⟩)) ∧ w'.cell? ⟨b, 1, none⟩ = some (.pointer (some ⟨br, 0, none⟩)) ∧ w'.cell? ⟨br, 0, none⟩ = some (.pointer (some ⟨cp, 0, none⟩)) ∧ w'.cell? ⟨br, 1, none⟩ = some (.pointer (some ⟨cq, 0, none⟩))) _ := A0'.out (w.drew.alloc (.cells #[.pointer (some ⟨bl, 0, none⟩), .pointer (some ⟨cp, 0, none⟩)] 91 (0, 0))) (nxAlloc hb0 _)
      refine hK.out (fun (w' : World) => w'.cell? ⟨b, 0, none⟩ = some (.pointer (some ⟨bl, 0, none⟩)) ∧ w'.cell? ⟨b, 1, none⟩ = some (.pointer (some ⟨br, 0, none⟩)) ∧ w'.cell? ⟨br, 0, none⟩ = some (.pointer (some ⟨cp, 0, none⟩)) ∧ w'.cell? ⟨br, 1, none⟩ = some (.pointer (some ⟨cq, 0, none⟩))) _ _ (fun _ h => h) hH1 ?_
      clear hK K
      try dsimp only [Act.put]
      refine wpAnyH_take (i := 20) (oi := ?oi420) (v := ?vv420) ?hi420 ?hn420 ?hf420 ?hr420 ?hq420 (Or.inl ⟨?hg420, ?hy420⟩) hH1 ?rest420
      case hi420 => (simp only [List.getElem?_toArray, List.getElem?_cons_succ, List.getElem?_cons_zero]; rfl)
      case hn420 => kernel_rfl
      case hf420 => kernel_rfl
      case hr420 => kernel_rfl
      case hg420 => rfl
      case hy420 => (intro w hSw; (try dsimp only at hSw); go_simp; first | done | with_reducible rfl)
      case hq420 => exact fun _ _ _ h => h
      try dsimp only [Act.put]
      refine held_one 21 rfl (by kernel_rfl) (fun K hK => ?_)
      go_simp
      
      go_wp2_with fail
      have hH2 : (fun (w' : World) => w'.cell? ⟨b, 0, none⟩ = some (.pointer (some ⟨bl, 0, none⟩)) ∧ w'.cell? ⟨b, 1, none⟩ = some (.pointer (some ⟨br, 0, none⟩)) ∧ w'.cell? ⟨br, 0, none⟩ = some (.pointer (some ⟨cp, 0, none⟩)) ∧ w'.cell? ⟨br, 1, none⟩ = some (.pointer (some ⟨cq, 0, none⟩))) _ := A0'.out ((w.drew.alloc (.cells #[.pointer (some ⟨bl, 0, none⟩), .pointer (some ⟨cp, 0, none⟩)] 91 (0, 0))).alloc (.cells #[.pointer (some ⟨w.heap.size, 0, none⟩), .pointer (some ⟨cq, 0, none⟩)] 91 (0, 0))) (nxAlloc (nxAlloc hb0 _) _)
      refine hK.out (fun (w' : World) => w'.cell? ⟨b, 0, none⟩ = some (.pointer (some ⟨bl, 0, none⟩)) ∧ w'.cell? ⟨b, 1, none⟩ = some (.pointer (some ⟨br, 0, none⟩)) ∧ w'.cell? ⟨br, 0, none⟩ = some (.pointer (some ⟨cp, 0, none⟩)) ∧ w'.cell? ⟨br, 1, none⟩ = some (.pointer (some ⟨cq, 0, none⟩))) _ _ (fun _ h => h) hH2 ?_
      clear hK K
      try dsimp only [Act.put]
      refine wpAnyH_take (i := 22) (oi := ?oi421) (v := ?vv421) ?hi421 ?hn421 ?hf421 ?hr421 ?hq421 (Or.inl ⟨?hg421, ?hy421⟩) hH2 ?rest421
      case hi421 => (simp only [List.getElem?_toArray, List.getElem?_cons_succ, List.getElem?_cons_zero]; rfl)
      case hn421 => kernel_rfl
      case hf421 => kernel_rfl
      case hr421 => kernel_rfl
      case hg421 => rfl
      case hy421 => (intro w hSw; (try dsimp only at hSw); go_simp; first | done | with_reducible rfl)
      case hq421 => exact fun _ _ _ h => h
      try dsimp only [Act.put]
      refine wpAnyH_done (by kernel_rfl) ?_ _
      simp only [List.setIfInBounds_toArray, List.set_cons_zero, List.set_cons_succ]
      have hN := node_new (node_new HL.out hb0 (KP.out.keep hb0)) (Below.refl _ _) (KQ.out.keep (nxAlloc hb0 _))
      have hsz : (w.drew.alloc (.cells #[.pointer (some ⟨bl, 0, none⟩), .pointer (some ⟨cp, 0, none⟩)] 91 (0, 0))).heap.size = w.heap.size + 1 := by simp
      rw [hsz] at hN
      have HN := Lib.hid hN
      clear hN hsz
      go_wp2_with fail
      go_ret
      exact ⟨_, HN.out, nxAlloc (nxAlloc hb0 _) _, rfl⟩
end Go.Proofs.Ytkoebmdocenlkaa
