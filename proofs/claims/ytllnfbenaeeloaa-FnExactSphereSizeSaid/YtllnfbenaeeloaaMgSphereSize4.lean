/- Texts that the claim needs, part 5. -/
import Derived.Test.YtllnfbenaeeloaaMgSphereSize3
import Derived.Lib.AppendZeros
import Derived.Deep.AppendLies
/-! Br1 -/
namespace Go.Proofs.Ytllnfbenaeeloaa
open Go.RowKit

theorem below_two9 {w w' : World} (hb : Below w.heap.size w w') {b : Nat} {u v : Value} (h1 : w.cell? ⟨b, 0, none⟩ = some u) (h2 : w.cell? ⟨b, 1, none⟩ = some v) : w'.cell? ⟨b, 0, none⟩ = some u ∧ w'.cell? ⟨b, 1, none⟩ = some v :=
  ⟨(hb.cell (p := ⟨b, 0, none⟩) (World.block_lt_of_cell? w _ h1)).trans h1, (hb.cell (p := ⟨b, 1, none⟩) (World.block_lt_of_cell? w _ h2)).trans h2⟩

set_option maxRecDepth 100000 in
theorem brRotate_any (k : Bool) (t : Tr) (w : World) (ht : t.carets ≤ 60) :
    Calls Try.prog 86 #[.string t.str, .bool k] w (Gives (ansV (t.rot k)) w) := by
  cases t with
  | lf =>
    rw [rot_lf]
    go_enter Try.func86, Try.ntmps86
    go_wp2_with fail
    refine (trLeaf_any .lf _).mono ?_; rintro e w1 ⟨rfl, rfl⟩
    simp only [Tr.isLf]
    go_wp2_with fail
    go_ret2
    exact ⟨rfl, Below.refl _ _⟩
  | nd l r =>
    have hc : l.carets + r.carets + 1 ≤ 60 := ht
    cases k with
    | true =>
      cases r with
      | lf =>
        rw [show (Tr.nd l .lf).rot true = none by cases l <;> rfl]
        go_enter Try.func86, Try.ntmps86
        go_wp2_with fail
        refine (trLeaf_any (.nd l .lf) _).mono ?_; rintro e w1 ⟨rfl, rfl⟩
        simp only [Tr.isLf]
        go_wp2_with fail
        refine (trSides_any l .lf _ (by omega)).mono ?_; rintro e w1 ⟨rfl, hb1⟩
        go_wp2_with fail
        refine (trLeaf_any .lf _).mono ?_; rintro e w2 ⟨rfl, rfl⟩
        simp only [Tr.isLf]
        go_wp2_with fail
        go_ret2
        exact ⟨rfl, hb1⟩
      | nd p q =>
        have hd : p.carets + q.carets + 1 ≤ 59 := by simp only [Tr.carets] at hc; omega
        have hl : l.carets ≤ 60 := by omega
        rw [show (Tr.nd l (.nd p q)).rot true = some (.nd (.nd l p) q) by rfl]
        go_enter Try.func86, Try.ntmps86
        go_wp2_with fail
        refine (trLeaf_any (.nd l (.nd p q)) _).mono ?_; rintro e w1 ⟨rfl, rfl⟩
        simp only [Tr.isLf]
        go_wp2_with fail
        refine (trSides_any l (.nd p q) _ (by omega)).mono ?_; rintro e w1 ⟨rfl, hb1⟩
        go_wp2_with fail
        refine (trLeaf_any (.nd p q) _).mono ?_; rintro e w2 ⟨rfl, rfl⟩
        simp only [Tr.isLf]
        go_wp2_with fail
        refine (trSides_any p q _ (by omega)).mono ?_; rintro e w2 ⟨rfl, hb2⟩
        go_wp2_with fail
        refine (trOf_any l p _ (by omega)).mono ?_; rintro e w3 ⟨rfl, rfl⟩
        go_wp2_with fail
        refine (trOf_any (.nd l p) q _ (by simp only [Tr.carets]; omega)).mono ?_; rintro e w4 ⟨rfl, rfl⟩
        go_wp2_with fail
        go_ret2
        exact ⟨rfl, nx hb1 hb2⟩
    | false =>
      cases l with
      | lf =>
        rw [show (Tr.nd .lf r).rot false = none by cases r <;> rfl]
        go_enter Try.func86, Try.ntmps86
        go_wp2_with fail
        refine (trLeaf_any (.nd .lf r) _).mono ?_; rintro e w1 ⟨rfl, rfl⟩
        simp only [Tr.isLf]
        go_wp2_with fail
        refine (trSides_any .lf r _ (by omega)).mono ?_; rintro e w1 ⟨rfl, hb1⟩
        go_wp2_with fail
        refine (trLeaf_any .lf _).mono ?_; rintro e w2 ⟨rfl, rfl⟩
        simp only [Tr.isLf]
        go_wp2_with fail
        go_ret2
        exact ⟨rfl, hb1⟩
      | nd p q =>
        have hd : p.carets + q.carets + 1 ≤ 59 := by simp only [Tr.carets] at hc; omega
        have hl : r.carets ≤ 60 := by omega
        rw [show (Tr.nd (.nd p q) r).rot false = some (.nd p (.nd q r)) by rfl]
        go_enter Try.func86, Try.ntmps86
        go_wp2_with fail
        refine (trLeaf_any (.nd (.nd p q) r) _).mono ?_; rintro e w1 ⟨rfl, rfl⟩
        simp only [Tr.isLf]
        go_wp2_with fail
        refine (trSides_any (.nd p q) r _ (by omega)).mono ?_; rintro e w1 ⟨rfl, hb1⟩
        go_wp2_with fail
        refine (trLeaf_any (.nd p q) _).mono ?_; rintro e w2 ⟨rfl, rfl⟩
        simp only [Tr.isLf]
        go_wp2_with fail
        refine (trSides_any p q _ (by omega)).mono ?_; rintro e w2 ⟨rfl, hb2⟩
        go_wp2_with fail
        refine (trOf_any q r _ (by omega)).mono ?_; rintro e w3 ⟨rfl, rfl⟩
        go_wp2_with fail
        refine (trOf_any p (.nd q r) _ (by simp only [Tr.carets]; omega)).mono ?_; rintro e w4 ⟨rfl, rfl⟩
        go_wp2_with fail
        go_ret2
        exact ⟨rfl, nx hb1 hb2⟩

/-- What a turn hands back: a node of the tree, or none. -/
def RotP (o : Option Tr) (w : World) (e : Ending) (w' : World) : Prop :=
  match o with
  | some u => ∃ b, NodeAt w' u b ∧ Below w.heap.size w w' ∧ e = .returned (.pointer (some ⟨b, 0, none⟩))
  | none => Below w.heap.size w w' ∧ e = .returned (.pointer none)


set_option maxRecDepth 100000 in
set_option maxHeartbeats 1000000 in
theorem rotated_any (t : Tr) (b : Nat) (w : World) (h : NodeAt w t b) :
    Calls Try.prog 93 #[.pointer (some ⟨b, 0, none⟩)] w (RotP (t.rot false) w) := by
  have H := Lib.hid h
  cases t with
  | lf =>
    rw [rot_lf]
    clear h
    go_enter Try.func93, Try.ntmps93
    go_wp2_with fail
    refine (isLeaf_any .lf b _ H.out).mono ?_; rintro e w1 ⟨rfl, rfl⟩
    simp only [Tr.isLf]
    go_wp2_with fail
    go_ret
    exact ⟨Below.refl _ _, rfl⟩
  | nd l r =>
    obtain ⟨bl, br, h, hl, hr⟩ := h
    have h1 := two_left h
    have h2 := two_right h
    have HL := Lib.hid hl
    have HR := Lib.hid hr
    clear h hl hr
    cases l with
    | lf =>
      rw [show (Tr.nd .lf r).rot false = none by cases r <;> rfl]
      go_enter Try.func93, Try.ntmps93
      go_wp2_with fail
      refine (isLeaf_any _ b _ H.out).mono ?_; rintro e w1 ⟨rfl, rfl⟩
      simp only [Tr.isLf]
      go_wp2_with fail
      refine (isLeaf_any .lf bl _ HL.out).mono ?_; rintro e w1 ⟨rfl, rfl⟩
      simp only [Tr.isLf]
      go_wp2_with fail
      go_ret
      exact ⟨Below.refl _ _, rfl⟩
    | nd p q =>
      rw [show (Tr.nd (.nd p q) r).rot false = some (.nd p (.nd q r)) by rfl]
      obtain ⟨cp, cq, kk, kp, kq⟩ := HL.out
      have k1 := two_left kk
      have k2 := two_right kk
      have KP := Lib.hid kp
      have KQ := Lib.hid kq
      clear kk kp kq
      have hb0 := (Below.refl w.heap.size w).drew
      have A0' : Hid (∀ w', Below w.heap.size w w' → (fun (w' : World) => w'.cell? ⟨b, 0, none⟩ = some (.pointer (some ⟨bl, 0, none⟩)) ∧ w'.cell? ⟨b, 1, none⟩ = some (.pointer (some ⟨br, 0, none⟩)) ∧ w'.cell? ⟨bl, 0, none⟩ = some (.pointer (some ⟨cp, 0, none⟩)) ∧ w'.cell? ⟨bl, 1, none⟩ = some (.pointer (some ⟨cq, 0, none⟩))) w') := fun w' hb => ⟨(below_two9 hb h1 h2).1, (below_two9 hb h1 h2).2, (below_two9 hb k1 k2).1, (below_two9 hb k1 k2).2⟩
      go_enter Try.func93, Try.ntmps93
      go_wp2_with fail
      refine (isLeaf_any _ b _ H.out).mono ?_; rintro e w1 ⟨rfl, rfl⟩
      simp only [Tr.isLf]
      go_wp2_with fail
      refine (isLeaf_any (.nd p q) bl _ HL.out).mono ?_; rintro e w1 ⟨rfl, rfl⟩
      simp only [Tr.isLf]
      go_wp2_with fail
      refine wp_region_held_drew (S := (fun (w' : World) => w'.cell? ⟨b, 0, none⟩ = some (.pointer (some ⟨bl, 0, none⟩)) ∧ w'.cell? ⟨b, 1, none⟩ = some (.pointer (some ⟨br, 0, none⟩)) ∧ w'.cell? ⟨bl, 0, none⟩ = some (.pointer (some ⟨cp, 0, none⟩)) ∧ w'.cell? ⟨bl, 1, none⟩ = some (.pointer (some ⟨cq, 0, none⟩)))) (by kernel_rfl) ⟨h1, h2, k1, k2⟩ (fun hH0 => ?_)
      refine wpAnyH_take (i := 0) (oi := ?oi201) (v := ?vv201) ?hi201 ?hn201 ?hf201 ?hr201 ?hq201 (Or.inl ⟨?hg201, ?hy201⟩) hH0 ?rest201
      case hi201 => (simp only [List.getElem?_toArray, List.getElem?_cons_zero]; rfl)
      case hn201 => kernel_rfl
      case hf201 => kernel_rfl
      case hr201 => kernel_rfl
      case hg201 => rfl
      case hy201 => (intro w hSw; (try dsimp only at hSw); go_simp; first | done | with_reducible rfl)
      case hq201 => exact fun _ _ _ h => h
      try dsimp only [Act.put]
      refine wpAnyH_take (i := 1) (oi := ?oi202) (v := ?vv202) ?hi202 ?hn202 ?hf202 ?hr202 ?hq202 (Or.inl ⟨?hg202, ?hy202⟩) hH0 ?rest202
      case hi202 => (simp only [List.getElem?_toArray, List.getElem?_cons_succ, List.getElem?_cons_zero]; rfl)
      case hn202 => kernel_rfl
      case hf202 => kernel_rfl
      case hr202 => kernel_rfl
      case hg202 => rfl
      case hy202 => (intro w hSw; (try dsimp only at hSw); go_simp; first | done | with_reducible rfl)
      case hq202 => exact fun _ _ _ h => h
      try dsimp only [Act.put]
      refine wpAnyH_take (i := 2) (oi := ?oi203) (v := ?vv203) ?hi203 ?hn203 ?hf203 ?hr203 ?hq203 (Or.inl ⟨?hg203, ?hy203⟩) hH0 ?rest203
      case hi203 => (simp only [List.getElem?_toArray, List.getElem?_cons_succ, List.getElem?_cons_zero]; rfl)
      case hn203 => kernel_rfl
      case hf203 => kernel_rfl
      case hr203 => kernel_rfl
      case hg203 => rfl
      case hy203 => (intro w hSw; (try dsimp only at hSw); go_simp; first | done | with_reducible rfl)
      case hq203 => exact fun _ _ _ h => h
      try dsimp only [Act.put]
      refine wpAnyH_take (i := 3) (oi := ?oi204) (v := ?vv204) ?hi204 ?hn204 ?hf204 ?hr204 ?hq204 (Or.inl ⟨?hg204, ?hy204⟩) hH0 ?rest204
      case hi204 => (simp only [List.getElem?_toArray, List.getElem?_cons_succ, List.getElem?_cons_zero]; rfl)
      case hn204 => kernel_rfl
      case hf204 => kernel_rfl
      case hr204 => kernel_rfl
      case hg204 => rfl
      case hy204 => (intro w hSw; (try dsimp only at hSw); go_simp; first | done | with_reducible rfl)
      case hq204 => exact fun _ _ _ h => h
      try dsimp only [Act.put]
      refine wpAnyH_take (i := 4) (oi := ?oi205) (v := ?vv205) ?hi205 ?hn205 ?hf205 ?hr205 ?hq205 (Or.inl ⟨?hg205, ?hy205⟩) hH0 ?rest205
      case hi205 => (simp only [List.getElem?_toArray, List.getElem?_cons_succ, List.getElem?_cons_zero]; rfl)
      case hn205 => kernel_rfl
      case hf205 => kernel_rfl
      case hr205 => kernel_rfl
      case hg205 => rfl
      case hy205 => (intro w hSw; (try dsimp only at hSw); go_simp; first | done | with_reducible rfl)
      case hq205 => exact fun _ _ _ h => h
      try dsimp only [Act.put]
      refine wpAnyH_take (i := 5) (oi := ?oi206) (v := ?vv206) ?hi206 ?hn206 ?hf206 ?hr206 ?hq206 (Or.inl ⟨?hg206, ?hy206⟩) hH0 ?rest206
      case hi206 => (simp only [List.getElem?_toArray, List.getElem?_cons_succ, List.getElem?_cons_zero]; rfl)
      case hn206 => kernel_rfl
      case hf206 => kernel_rfl
      case hr206 => kernel_rfl
      case hg206 => rfl
      case hy206 => (intro w hSw; (try dsimp only at hSw); go_simp; first | done | with_reducible rfl)
      case hq206 => exact fun _ _ _ h => h
      try dsimp only [Act.put]
      refine wpAnyH_take (i := 6) (oi := ?oi207) (v := ?vv207) ?hi207 ?hn207 ?hf207 ?hr207 ?hq207 (Or.inl ⟨?hg207, ?hy207⟩) hH0 ?rest207
      case hi207 => (simp only [List.getElem?_toArray, List.getElem?_cons_succ, List.getElem?_cons_zero]; rfl)
      case hn207 => kernel_rfl
      case hf207 => kernel_rfl
      case hr207 => kernel_rfl
      case hg207 => rfl
      case hy207 => (intro w hSw; (try dsimp only at hSw); go_simp; first | done | with_reducible rfl)
      case hq207 => exact fun _ _ _ h => h
      try dsimp only [Act.put]
      refine wpAnyH_take (i := 7) (oi := ?oi208) (v := ?vv208) ?hi208 ?hn208 ?hf208 ?hr208 ?hq208 (Or.inl ⟨?hg208, ?hy208⟩) hH0 ?rest208
      case hi208 => (simp only [List.getElem?_toArray, List.getElem?_cons_succ, List.getElem?_cons_zero]; rfl)
      case hn208 => kernel_rfl
      case hf208 => kernel_rfl
      case hr208 => kernel_rfl
      case hg208 => rfl
      case hy208 => (intro w hSw; (try dsimp only at hSw); go_simp; first | done | with_reducible rfl)
      case hq208 => exact fun _ _ _ h => h
      try dsimp only [Act.put]
      refine wpAnyH_take (i := 8) (oi := ?oi209) (v := ?vv209) ?hi209 ?hn209 ?hf209 ?hr209 ?hq209 (Or.inl ⟨?hg209, ?hy209⟩) hH0 ?rest209
      case hi209 => (simp only [List.getElem?_toArray, List.getElem?_cons_succ, List.getElem?_cons_zero]; rfl)
      case hn209 => kernel_rfl
      case hf209 => kernel_rfl
      case hr209 => kernel_rfl
      case hg209 => rfl
      case hy209 => (intro w hSw; (try dsimp only at hSw); go_simp; first | done | with_reducible rfl)
      case hq209 => exact fun _ _ _ h => h
      try dsimp only [Act.put]
      refine wpAnyH_take (i := 9) (oi := ?oi210) (v := ?vv210) ?hi210 ?hn210 ?hf210 ?hr210 ?hq210 (Or.inl ⟨?hg210, ?hy210⟩) hH0 ?rest210
      case hi210 => (simp only [List.getElem?_toArray, List.getElem?_cons_succ, List.getElem?_cons_zero]; rfl)
      case hn210 => kernel_rfl
      case hf210 => kernel_rfl
      case hr210 => kernel_rfl
      case hg210 => rfl
      case hy210 => (intro w hSw; (try dsimp only at hSw); go_simp; first | done | with_reducible rfl)
      case hq210 => exact fun _ _ _ h => h
      try dsimp only [Act.put]
      refine wpAnyH_take (i := 10) (oi := ?oi211) (v := ?vv211) ?hi211 ?hn211 ?hf211 ?hr211 ?hq211 (Or.inl ⟨?hg211, ?hy211⟩) hH0 ?rest211
      case hi211 => (simp only [List.getElem?_toArray, List.getElem?_cons_succ, List.getElem?_cons_zero]; rfl)
      case hn211 => kernel_rfl
      case hf211 => kernel_rfl
      case hr211 => kernel_rfl
      case hg211 => rfl
      case hy211 => (intro w hSw; (try dsimp only at hSw); go_simp; first | done | with_reducible rfl)
      case hq211 => exact fun _ _ _ h => h
      try dsimp only [Act.put]
      refine wpAnyH_take (i := 11) (oi := ?oi212) (v := ?vv212) ?hi212 ?hn212 ?hf212 ?hr212 ?hq212 (Or.inl ⟨?hg212, ?hy212⟩) hH0 ?rest212
      case hi212 => (simp only [List.getElem?_toArray, List.getElem?_cons_succ, List.getElem?_cons_zero]; rfl)
      case hn212 => kernel_rfl
      case hf212 => kernel_rfl
      case hr212 => kernel_rfl
      case hg212 => rfl
      case hy212 => (intro w hSw; (try dsimp only at hSw); go_simp; first | done | with_reducible rfl)
      case hq212 => exact fun _ _ _ h => h
      try dsimp only [Act.put]
      refine wpAnyH_take (i := 12) (oi := ?oi213) (v := ?vv213) ?hi213 ?hn213 ?hf213 ?hr213 ?hq213 (Or.inl ⟨?hg213, ?hy213⟩) hH0 ?rest213
      case hi213 => (simp only [List.getElem?_toArray, List.getElem?_cons_succ, List.getElem?_cons_zero]; rfl)
      case hn213 => kernel_rfl
      case hf213 => kernel_rfl
      case hr213 => kernel_rfl
      case hg213 => rfl
      case hy213 => (intro w hSw; (try dsimp only at hSw); go_simp; first | done | with_reducible rfl)
      case hq213 => exact fun _ _ _ h => h
      try dsimp only [Act.put]
      refine wpAnyH_take (i := 13) (oi := ?oi214) (v := ?vv214) ?hi214 ?hn214 ?hf214 ?hr214 ?hq214 (Or.inl ⟨?hg214, ?hy214⟩) hH0 ?rest214
      case hi214 => (simp only [List.getElem?_toArray, List.getElem?_cons_succ, List.getElem?_cons_zero]; rfl)
      case hn214 => kernel_rfl
      case hf214 => kernel_rfl
      case hr214 => kernel_rfl
      case hg214 => rfl
      case hy214 => (intro w hSw; (try dsimp only at hSw); go_simp; first | done | with_reducible rfl)
      case hq214 => exact fun _ _ _ h => h
      try dsimp only [Act.put]
      refine wpAnyH_take (i := 14) (oi := ?oi215) (v := ?vv215) ?hi215 ?hn215 ?hf215 ?hr215 ?hq215 (Or.inl ⟨?hg215, ?hy215⟩) hH0 ?rest215
      case hi215 => (simp only [List.getElem?_toArray, List.getElem?_cons_succ, List.getElem?_cons_zero]; rfl)
      case hn215 => kernel_rfl
      case hf215 => kernel_rfl
      case hr215 => kernel_rfl
      case hg215 => rfl
      case hy215 => (intro w hSw; (try dsimp only at hSw); go_simp; first | done | with_reducible rfl)
      case hq215 => exact fun _ _ _ h => h
      try dsimp only [Act.put]
      refine wpAnyH_take (i := 15) (oi := ?oi216) (v := ?vv216) ?hi216 ?hn216 ?hf216 ?hr216 ?hq216 (Or.inl ⟨?hg216, ?hy216⟩) hH0 ?rest216
      case hi216 => (simp only [List.getElem?_toArray, List.getElem?_cons_succ, List.getElem?_cons_zero]; rfl)
      case hn216 => kernel_rfl
      case hf216 => kernel_rfl
      case hr216 => kernel_rfl
      case hg216 => rfl
      case hy216 => (intro w hSw; (try dsimp only at hSw); go_simp; first | done | with_reducible rfl)
      case hq216 => exact fun _ _ _ h => h
      try dsimp only [Act.put]
      refine wpAnyH_take (i := 16) (oi := ?oi217) (v := ?vv217) ?hi217 ?hn217 ?hf217 ?hr217 ?hq217 (Or.inl ⟨?hg217, ?hy217⟩) hH0 ?rest217
      case hi217 => (simp only [List.getElem?_toArray, List.getElem?_cons_succ, List.getElem?_cons_zero]; rfl)
      case hn217 => kernel_rfl
      case hf217 => kernel_rfl
      case hr217 => kernel_rfl
      case hg217 => rfl
      case hy217 => (intro w hSw; (try dsimp only at hSw); go_simp; first | done | with_reducible rfl)
      case hq217 => exact fun _ _ _ h => h
      try dsimp only [Act.put]
      refine wpAnyH_take (i := 17) (oi := ?oi218) (v := ?vv218) ?hi218 ?hn218 ?hf218 ?hr218 ?hq218 (Or.inl ⟨?hg218, ?hy218⟩) hH0 ?rest218
      case hi218 => (simp only [List.getElem?_toArray, List.getElem?_cons_succ, List.getElem?_cons_zero]; rfl)
      case hn218 => kernel_rfl
      case hf218 => kernel_rfl
      case hr218 => kernel_rfl
      case hg218 => rfl
      case hy218 => (intro w hSw; (try dsimp only at hSw); go_simp; first | done | with_reducible rfl)
      case hq218 => exact fun _ _ _ h => h
      try dsimp only [Act.put]
      refine wpAnyH_take (i := 18) (oi := ?oi219) (v := ?vv219) ?hi219 ?hn219 ?hf219 ?hr219 ?hq219 (Or.inl ⟨?hg219, ?hy219⟩) hH0 ?rest219
      case hi219 => (simp only [List.getElem?_toArray, List.getElem?_cons_succ, List.getElem?_cons_zero]; rfl)
      case hn219 => kernel_rfl
      case hf219 => kernel_rfl
      case hr219 => kernel_rfl
      case hg219 => rfl
      case hy219 => (intro w hSw; (try dsimp only at hSw); go_simp; first | done | with_reducible rfl)
      case hq219 => exact fun _ _ _ h => h
      try dsimp only [Act.put]
      refine held_one 19 rfl (by kernel_rfl) (fun K hK => ?_)
      go_simp
      
      go_wp2_with fail
      have hH1 : (fun (w' : World) => w'.cell? ⟨b, 0, none⟩ = some (.pointer (some ⟨bl, 0, none⟩)) ∧ w'.cell? ⟨b, 1, none⟩ = some (.pointer (some ⟨br, 0, none⟩)) ∧ w'.cell? ⟨bl, 0, none⟩ = some (.pointer (some ⟨cp, 0, none⟩)) ∧ w'.cell? ⟨bl, 1, none⟩ = some (.pointer (some ⟨cq, 0, none⟩))) _ := A0'.out (w.drew.alloc (.cells #[.pointer (some ⟨cq, 0, none⟩), .pointer (some ⟨br, 0, none⟩)] 128 (0, 0))) (nxAlloc hb0 _)
      refine hK.out (fun (w' : World) => w'.cell? ⟨b, 0, none⟩ = some (.pointer (some ⟨bl, 0, none⟩)) ∧ w'.cell? ⟨b, 1, none⟩ = some (.pointer (some ⟨br, 0, none⟩)) ∧ w'.cell? ⟨bl, 0, none⟩ = some (.pointer (some ⟨cp, 0, none⟩)) ∧ w'.cell? ⟨bl, 1, none⟩ = some (.pointer (some ⟨cq, 0, none⟩))) _ _ (fun _ h => h) hH1 ?_
      clear hK K
      try dsimp only [Act.put]
      refine wpAnyH_take (i := 20) (oi := ?oi220) (v := ?vv220) ?hi220 ?hn220 ?hf220 ?hr220 ?hq220 (Or.inl ⟨?hg220, ?hy220⟩) hH1 ?rest220
      case hi220 => (simp only [List.getElem?_toArray, List.getElem?_cons_succ, List.getElem?_cons_zero]; rfl)
      case hn220 => kernel_rfl
      case hf220 => kernel_rfl
      case hr220 => kernel_rfl
      case hg220 => rfl
      case hy220 => (intro w hSw; (try dsimp only at hSw); go_simp; first | done | with_reducible rfl)
      case hq220 => exact fun _ _ _ h => h
      try dsimp only [Act.put]
      refine held_one 21 rfl (by kernel_rfl) (fun K hK => ?_)
      go_simp
      
      go_wp2_with fail
      have hH2 : (fun (w' : World) => w'.cell? ⟨b, 0, none⟩ = some (.pointer (some ⟨bl, 0, none⟩)) ∧ w'.cell? ⟨b, 1, none⟩ = some (.pointer (some ⟨br, 0, none⟩)) ∧ w'.cell? ⟨bl, 0, none⟩ = some (.pointer (some ⟨cp, 0, none⟩)) ∧ w'.cell? ⟨bl, 1, none⟩ = some (.pointer (some ⟨cq, 0, none⟩))) _ := A0'.out ((w.drew.alloc (.cells #[.pointer (some ⟨cq, 0, none⟩), .pointer (some ⟨br, 0, none⟩)] 128 (0, 0))).alloc (.cells #[.pointer (some ⟨cp, 0, none⟩), .pointer (some ⟨w.heap.size, 0, none⟩)] 128 (0, 0))) (nxAlloc (nxAlloc hb0 _) _)
      refine hK.out (fun (w' : World) => w'.cell? ⟨b, 0, none⟩ = some (.pointer (some ⟨bl, 0, none⟩)) ∧ w'.cell? ⟨b, 1, none⟩ = some (.pointer (some ⟨br, 0, none⟩)) ∧ w'.cell? ⟨bl, 0, none⟩ = some (.pointer (some ⟨cp, 0, none⟩)) ∧ w'.cell? ⟨bl, 1, none⟩ = some (.pointer (some ⟨cq, 0, none⟩))) _ _ (fun _ h => h) hH2 ?_
      clear hK K
      try dsimp only [Act.put]
      refine wpAnyH_take (i := 22) (oi := ?oi221) (v := ?vv221) ?hi221 ?hn221 ?hf221 ?hr221 ?hq221 (Or.inl ⟨?hg221, ?hy221⟩) hH2 ?rest221
      case hi221 => (simp only [List.getElem?_toArray, List.getElem?_cons_succ, List.getElem?_cons_zero]; rfl)
      case hn221 => kernel_rfl
      case hf221 => kernel_rfl
      case hr221 => kernel_rfl
      case hg221 => rfl
      case hy221 => (intro w hSw; (try dsimp only at hSw); go_simp; first | done | with_reducible rfl)
      case hq221 => exact fun _ _ _ h => h
      try dsimp only [Act.put]
      refine wpAnyH_done (by kernel_rfl) ?_ _
      simp only [List.setIfInBounds_toArray, List.set_cons_zero, List.set_cons_succ]
      have hN := node_new KP.out (nxAlloc hb0 _) (node_new KQ.out hb0 (HR.out.keep hb0))
      have hsz : (w.drew.alloc (.cells #[.pointer (some ⟨cq, 0, none⟩), .pointer (some ⟨br, 0, none⟩)] 128 (0, 0))).heap.size = w.heap.size + 1 := by simp
      rw [hsz] at hN
      have HN := Lib.hid hN
      clear hN hsz
      go_wp2_with fail
      go_ret
      exact ⟨_, HN.out, nxAlloc (nxAlloc hb0 _) _, rfl⟩

set_option maxRecDepth 100000 in
set_option maxHeartbeats 1000000 in
theorem rotatedBack_any (t : Tr) (b : Nat) (w : World) (h : NodeAt w t b) :
    Calls Try.prog 94 #[.pointer (some ⟨b, 0, none⟩)] w (RotP (t.rot true) w) := by
  have H := Lib.hid h
  cases t with
  | lf =>
    rw [rot_lf]
    clear h
    go_enter Try.func94, Try.ntmps94
    go_wp2_with fail
    refine (isLeaf_any .lf b _ H.out).mono ?_; rintro e w1 ⟨rfl, rfl⟩
    simp only [Tr.isLf]
    go_wp2_with fail
    go_ret
    exact ⟨Below.refl _ _, rfl⟩
  | nd l r =>
    obtain ⟨bl, br, h, hl, hr⟩ := h
    have h1 := two_left h
    have h2 := two_right h
    have HL := Lib.hid hl
    have HR := Lib.hid hr
    clear h hl hr
    cases r with
    | lf =>
      rw [show (Tr.nd l .lf).rot true = none by cases l <;> rfl]
      go_enter Try.func94, Try.ntmps94
      go_wp2_with fail
      refine (isLeaf_any _ b _ H.out).mono ?_; rintro e w1 ⟨rfl, rfl⟩
      simp only [Tr.isLf]
      go_wp2_with fail
      refine (isLeaf_any .lf br _ HR.out).mono ?_; rintro e w1 ⟨rfl, rfl⟩
      simp only [Tr.isLf]
      go_wp2_with fail
      go_ret
      exact ⟨Below.refl _ _, rfl⟩
    | nd p q =>
      rw [show (Tr.nd l (.nd p q)).rot true = some (.nd (.nd l p) q) by rfl]
      obtain ⟨cp, cq, kk, kp, kq⟩ := HR.out
      have k1 := two_left kk
      have k2 := two_right kk
      have KP := Lib.hid kp
      have KQ := Lib.hid kq
      clear kk kp kq
      have hb0 := (Below.refl w.heap.size w).drew
      have A0' : Hid (∀ w', Below w.heap.size w w' → (fun (w' : World) => w'.cell? ⟨b, 0, none⟩ = some (.pointer (some ⟨bl, 0, none⟩)) ∧ w'.cell? ⟨b, 1, none⟩ = some (.pointer (some ⟨br, 0, none⟩)) ∧ w'.cell? ⟨br, 0, none⟩ = some (.pointer (some ⟨cp, 0, none⟩)) ∧ w'.cell? ⟨br, 1, none⟩ = some (.pointer (some ⟨cq, 0, none⟩))) w') := fun w' hb => ⟨(below_two9 hb h1 h2).1, (below_two9 hb h1 h2).2, (below_two9 hb k1 k2).1, (below_two9 hb k1 k2).2⟩
      go_enter Try.func94, Try.ntmps94
      go_wp2_with fail
      refine (isLeaf_any _ b _ H.out).mono ?_; rintro e w1 ⟨rfl, rfl⟩
      simp only [Tr.isLf]
      go_wp2_with fail
      refine (isLeaf_any (.nd p q) br _ HR.out).mono ?_; rintro e w1 ⟨rfl, rfl⟩
      simp only [Tr.isLf]
      go_wp2_with fail
      refine wp_region_held_drew (S := (fun (w' : World) => w'.cell? ⟨b, 0, none⟩ = some (.pointer (some ⟨bl, 0, none⟩)) ∧ w'.cell? ⟨b, 1, none⟩ = some (.pointer (some ⟨br, 0, none⟩)) ∧ w'.cell? ⟨br, 0, none⟩ = some (.pointer (some ⟨cp, 0, none⟩)) ∧ w'.cell? ⟨br, 1, none⟩ = some (.pointer (some ⟨cq, 0, none⟩)))) (by kernel_rfl) ⟨h1, h2, k1, k2⟩ (fun hH0 => ?_)
      refine wpAnyH_take (i := 0) (oi := ?oi401) (v := ?vv401) ?hi401 ?hn401 ?hf401 ?hr401 ?hq401 (Or.inl ⟨?hg401, ?hy401⟩) hH0 ?rest401
      case hi401 => (simp only [List.getElem?_toArray, List.getElem?_cons_zero]; rfl)
      case hn401 => kernel_rfl
      case hf401 => kernel_rfl
      case hr401 => kernel_rfl
      case hg401 => rfl
      case hy401 => (intro w hSw; (try dsimp only at hSw); go_simp; first | done | with_reducible rfl)
      case hq401 => exact fun _ _ _ h => h
      try dsimp only [Act.put]
      refine wpAnyH_take (i := 1) (oi := ?oi402) (v := ?vv402) ?hi402 ?hn402 ?hf402 ?hr402 ?hq402 (Or.inl ⟨?hg402, ?hy402⟩) hH0 ?rest402
      case hi402 => (simp only [List.getElem?_toArray, List.getElem?_cons_succ, List.getElem?_cons_zero]; rfl)
      case hn402 => kernel_rfl
      case hf402 => kernel_rfl
      case hr402 => kernel_rfl
      case hg402 => rfl
      case hy402 => (intro w hSw; (try dsimp only at hSw); go_simp; first | done | with_reducible rfl)
      case hq402 => exact fun _ _ _ h => h
      try dsimp only [Act.put]
      refine wpAnyH_take (i := 2) (oi := ?oi403) (v := ?vv403) ?hi403 ?hn403 ?hf403 ?hr403 ?hq403 (Or.inl ⟨?hg403, ?hy403⟩) hH0 ?rest403
      case hi403 => (simp only [List.getElem?_toArray, List.getElem?_cons_succ, List.getElem?_cons_zero]; rfl)
      case hn403 => kernel_rfl
      case hf403 => kernel_rfl
      case hr403 => kernel_rfl
      case hg403 => rfl
      case hy403 => (intro w hSw; (try dsimp only at hSw); go_simp; first | done | with_reducible rfl)
      case hq403 => exact fun _ _ _ h => h
      try dsimp only [Act.put]
      refine wpAnyH_take (i := 3) (oi := ?oi404) (v := ?vv404) ?hi404 ?hn404 ?hf404 ?hr404 ?hq404 (Or.inl ⟨?hg404, ?hy404⟩) hH0 ?rest404
      case hi404 => (simp only [List.getElem?_toArray, List.getElem?_cons_succ, List.getElem?_cons_zero]; rfl)
      case hn404 => kernel_rfl
      case hf404 => kernel_rfl
      case hr404 => kernel_rfl
      case hg404 => rfl
      case hy404 => (intro w hSw; (try dsimp only at hSw); go_simp; first | done | with_reducible rfl)
      case hq404 => exact fun _ _ _ h => h
      try dsimp only [Act.put]
      refine wpAnyH_take (i := 4) (oi := ?oi405) (v := ?vv405) ?hi405 ?hn405 ?hf405 ?hr405 ?hq405 (Or.inl ⟨?hg405, ?hy405⟩) hH0 ?rest405
      case hi405 => (simp only [List.getElem?_toArray, List.getElem?_cons_succ, List.getElem?_cons_zero]; rfl)
      case hn405 => kernel_rfl
      case hf405 => kernel_rfl
      case hr405 => kernel_rfl
      case hg405 => rfl
      case hy405 => (intro w hSw; (try dsimp only at hSw); go_simp; first | done | with_reducible rfl)
      case hq405 => exact fun _ _ _ h => h
      try dsimp only [Act.put]
      refine wpAnyH_take (i := 5) (oi := ?oi406) (v := ?vv406) ?hi406 ?hn406 ?hf406 ?hr406 ?hq406 (Or.inl ⟨?hg406, ?hy406⟩) hH0 ?rest406
      case hi406 => (simp only [List.getElem?_toArray, List.getElem?_cons_succ, List.getElem?_cons_zero]; rfl)
      case hn406 => kernel_rfl
      case hf406 => kernel_rfl
      case hr406 => kernel_rfl
      case hg406 => rfl
      case hy406 => (intro w hSw; (try dsimp only at hSw); go_simp; first | done | with_reducible rfl)
      case hq406 => exact fun _ _ _ h => h
      try dsimp only [Act.put]
      refine wpAnyH_take (i := 6) (oi := ?oi407) (v := ?vv407) ?hi407 ?hn407 ?hf407 ?hr407 ?hq407 (Or.inl ⟨?hg407, ?hy407⟩) hH0 ?rest407
      case hi407 => (simp only [List.getElem?_toArray, List.getElem?_cons_succ, List.getElem?_cons_zero]; rfl)
      case hn407 => kernel_rfl
      case hf407 => kernel_rfl
      case hr407 => kernel_rfl
      case hg407 => rfl
      case hy407 => (intro w hSw; (try dsimp only at hSw); go_simp; first | done | with_reducible rfl)
      case hq407 => exact fun _ _ _ h => h
      try dsimp only [Act.put]
      refine wpAnyH_take (i := 7) (oi := ?oi408) (v := ?vv408) ?hi408 ?hn408 ?hf408 ?hr408 ?hq408 (Or.inl ⟨?hg408, ?hy408⟩) hH0 ?rest408
      case hi408 => (simp only [List.getElem?_toArray, List.getElem?_cons_succ, List.getElem?_cons_zero]; rfl)
      case hn408 => kernel_rfl
      case hf408 => kernel_rfl
      case hr408 => kernel_rfl
      case hg408 => rfl
      case hy408 => (intro w hSw; (try dsimp only at hSw); go_simp; first | done | with_reducible rfl)
      case hq408 => exact fun _ _ _ h => h
      try dsimp only [Act.put]
      refine wpAnyH_take (i := 8) (oi := ?oi409) (v := ?vv409) ?hi409 ?hn409 ?hf409 ?hr409 ?hq409 (Or.inl ⟨?hg409, ?hy409⟩) hH0 ?rest409
      case hi409 => (simp only [List.getElem?_toArray, List.getElem?_cons_succ, List.getElem?_cons_zero]; rfl)
      case hn409 => kernel_rfl
      case hf409 => kernel_rfl
      case hr409 => kernel_rfl
      case hg409 => rfl
      case hy409 => (intro w hSw; (try dsimp only at hSw); go_simp; first | done | with_reducible rfl)
      case hq409 => exact fun _ _ _ h => h
      try dsimp only [Act.put]
      refine wpAnyH_take (i := 9) (oi := ?oi410) (v := ?vv410) ?hi410 ?hn410 ?hf410 ?hr410 ?hq410 (Or.inl ⟨?hg410, ?hy410⟩) hH0 ?rest410
      case hi410 => (simp only [List.getElem?_toArray, List.getElem?_cons_succ, List.getElem?_cons_zero]; rfl)
      case hn410 => kernel_rfl
      case hf410 => kernel_rfl
      case hr410 => kernel_rfl
      case hg410 => rfl
      case hy410 => (intro w hSw; (try dsimp only at hSw); go_simp; first | done | with_reducible rfl)
      case hq410 => exact fun _ _ _ h => h
      try dsimp only [Act.put]
      refine wpAnyH_take (i := 10) (oi := ?oi411) (v := ?vv411) ?hi411 ?hn411 ?hf411 ?hr411 ?hq411 (Or.inl ⟨?hg411, ?hy411⟩) hH0 ?rest411
      case hi411 => (simp only [List.getElem?_toArray, List.getElem?_cons_succ, List.getElem?_cons_zero]; rfl)
      case hn411 => kernel_rfl
      case hf411 => kernel_rfl
      case hr411 => kernel_rfl
      case hg411 => rfl
      case hy411 => (intro w hSw; (try dsimp only at hSw); go_simp; first | done | with_reducible rfl)
      case hq411 => exact fun _ _ _ h => h
      try dsimp only [Act.put]
      refine wpAnyH_take (i := 11) (oi := ?oi412) (v := ?vv412) ?hi412 ?hn412 ?hf412 ?hr412 ?hq412 (Or.inl ⟨?hg412, ?hy412⟩) hH0 ?rest412
      case hi412 => (simp only [List.getElem?_toArray, List.getElem?_cons_succ, List.getElem?_cons_zero]; rfl)
      case hn412 => kernel_rfl
      case hf412 => kernel_rfl
      case hr412 => kernel_rfl
      case hg412 => rfl
      case hy412 => (intro w hSw; (try dsimp only at hSw); go_simp; first | done | with_reducible rfl)
      case hq412 => exact fun _ _ _ h => h
      try dsimp only [Act.put]
      refine wpAnyH_take (i := 13) (oi := ?oi413) (v := ?vv413) ?hi413 ?hn413 ?hf413 ?hr413 ?hq413 (Or.inl ⟨?hg413, ?hy413⟩) hH0 ?rest413
      case hi413 => (simp only [List.getElem?_toArray, List.getElem?_cons_succ, List.getElem?_cons_zero]; rfl)
      case hn413 => kernel_rfl
      case hf413 => kernel_rfl
      case hr413 => kernel_rfl
      case hg413 => rfl
      case hy413 => (intro w hSw; (try dsimp only at hSw); go_simp; first | done | with_reducible rfl)
      case hq413 => exact fun _ _ _ h => h
      try dsimp only [Act.put]
      refine wpAnyH_take (i := 14) (oi := ?oi414) (v := ?vv414) ?hi414 ?hn414 ?hf414 ?hr414 ?hq414 (Or.inl ⟨?hg414, ?hy414⟩) hH0 ?rest414
      case hi414 => (simp only [List.getElem?_toArray, List.getElem?_cons_succ, List.getElem?_cons_zero]; rfl)
      case hn414 => kernel_rfl
      case hf414 => kernel_rfl
      case hr414 => kernel_rfl
      case hg414 => rfl
      case hy414 => (intro w hSw; (try dsimp only at hSw); go_simp; first | done | with_reducible rfl)
      case hq414 => exact fun _ _ _ h => h
      try dsimp only [Act.put]
      refine wpAnyH_take (i := 15) (oi := ?oi415) (v := ?vv415) ?hi415 ?hn415 ?hf415 ?hr415 ?hq415 (Or.inl ⟨?hg415, ?hy415⟩) hH0 ?rest415
      case hi415 => (simp only [List.getElem?_toArray, List.getElem?_cons_succ, List.getElem?_cons_zero]; rfl)
      case hn415 => kernel_rfl
      case hf415 => kernel_rfl
      case hr415 => kernel_rfl
      case hg415 => rfl
      case hy415 => (intro w hSw; (try dsimp only at hSw); go_simp; first | done | with_reducible rfl)
      case hq415 => exact fun _ _ _ h => h
      try dsimp only [Act.put]
      refine wpAnyH_take (i := 16) (oi := ?oi416) (v := ?vv416) ?hi416 ?hn416 ?hf416 ?hr416 ?hq416 (Or.inl ⟨?hg416, ?hy416⟩) hH0 ?rest416
      case hi416 => (simp only [List.getElem?_toArray, List.getElem?_cons_succ, List.getElem?_cons_zero]; rfl)
      case hn416 => kernel_rfl
      case hf416 => kernel_rfl
      case hr416 => kernel_rfl
      case hg416 => rfl
      case hy416 => (intro w hSw; (try dsimp only at hSw); go_simp; first | done | with_reducible rfl)
      case hq416 => exact fun _ _ _ h => h
      try dsimp only [Act.put]
      refine wpAnyH_take (i := 17) (oi := ?oi417) (v := ?vv417) ?hi417 ?hn417 ?hf417 ?hr417 ?hq417 (Or.inl ⟨?hg417, ?hy417⟩) hH0 ?rest417
      case hi417 => (simp only [List.getElem?_toArray, List.getElem?_cons_succ, List.getElem?_cons_zero]; rfl)
      case hn417 => kernel_rfl
      case hf417 => kernel_rfl
      case hr417 => kernel_rfl
      case hg417 => rfl
      case hy417 => (intro w hSw; (try dsimp only at hSw); go_simp; first | done | with_reducible rfl)
      case hq417 => exact fun _ _ _ h => h
      try dsimp only [Act.put]
      refine wpAnyH_take (i := 18) (oi := ?oi418) (v := ?vv418) ?hi418 ?hn418 ?hf418 ?hr418 ?hq418 (Or.inl ⟨?hg418, ?hy418⟩) hH0 ?rest418
      case hi418 => (simp only [List.getElem?_toArray, List.getElem?_cons_succ, List.getElem?_cons_zero]; rfl)
      case hn418 => kernel_rfl
      case hf418 => kernel_rfl
      case hr418 => kernel_rfl
      case hg418 => rfl
      case hy418 => (intro w hSw; (try dsimp only at hSw); go_simp; first | done | with_reducible rfl)
      case hq418 => exact fun _ _ _ h => h
      try dsimp only [Act.put]
      refine wpAnyH_take (i := 19) (oi := ?oi419) (v := ?vv419) ?hi419 ?hn419 ?hf419 ?hr419 ?hq419 (Or.inl ⟨?hg419, ?hy419⟩) hH0 ?rest419
      case hi419 => (simp only [List.getElem?_toArray, List.getElem?_cons_succ, List.getElem?_cons_zero]; rfl)
      case hn419 => kernel_rfl
      case hf419 => kernel_rfl
      case hr419 => kernel_rfl
      case hg419 => rfl
      case hy419 => (intro w hSw; (try dsimp only at hSw); go_simp; first | done | with_reducible rfl)
      case hq419 => exact fun _ _ _ h => h
      try dsimp only [Act.put]
      refine held_one 12 rfl (by kernel_rfl) (fun K hK => ?_)
      go_simp
      
      go_wp2_with fail
      have hH1 : (fun (w' : World) => w'.cell? ⟨b, 0, none⟩ = some (.pointer (some ⟨bl, 0, none⟩)) ∧ w'.cell? ⟨b, 1, none⟩ = some (.pointer (some ⟨br, 0, none⟩)) ∧ w'.cell? ⟨br, 0, none⟩ = some (.pointer (some ⟨cp, 0, none⟩)) ∧ w'.cell? ⟨br, 1, none⟩ = some (.pointer (some ⟨cq, 0, none⟩))) _ := A0'.out (w.drew.alloc (.cells #[.pointer (some ⟨bl, 0, none⟩), .pointer (some ⟨cp, 0, none⟩)] 128 (0, 0))) (nxAlloc hb0 _)
      refine hK.out (fun (w' : World) => w'.cell? ⟨b, 0, none⟩ = some (.pointer (some ⟨bl, 0, none⟩)) ∧ w'.cell? ⟨b, 1, none⟩ = some (.pointer (some ⟨br, 0, none⟩)) ∧ w'.cell? ⟨br, 0, none⟩ = some (.pointer (some ⟨cp, 0, none⟩)) ∧ w'.cell? ⟨br, 1, none⟩ = some (.pointer (some ⟨cq, 0, none⟩))) _ _ (fun _ h => h) hH1 ?_
      clear hK K
      try dsimp only [Act.put]
      refine wpAnyH_take (i := 20) (oi := ?oi420) (v := ?vv420) ?hi420 ?hn420 ?hf420 ?hr420 ?hq420 (Or.inl ⟨?hg420, ?hy420⟩) hH1 ?rest420
      case hi420 => (simp only [List.getElem?_toArray, List.getElem?_cons_succ, List.getElem?_cons_zero]; rfl)
      case hn420 => kernel_rfl
      case hf420 => kernel_rfl
      case hr420 => kernel_rfl
      case hg420 => rfl
      case hy420 => (intro w hSw; (try dsimp only at hSw); go_simp; first | done | with_reducible rfl)
      case hq420 => exact fun _ _ _ h => h
      try dsimp only [Act.put]
      refine held_one 21 rfl (by kernel_rfl) (fun K hK => ?_)
      go_simp
      
      go_wp2_with fail
      have hH2 : (fun (w' : World) => w'.cell? ⟨b, 0, none⟩ = some (.pointer (some ⟨bl, 0, none⟩)) ∧ w'.cell? ⟨b, 1, none⟩ = some (.pointer (some ⟨br, 0, none⟩)) ∧ w'.cell? ⟨br, 0, none⟩ = some (.pointer (some ⟨cp, 0, none⟩)) ∧ w'.cell? ⟨br, 1, none⟩ = some (.pointer (some ⟨cq, 0, none⟩))) _ := A0'.out ((w.drew.alloc (.cells #[.pointer (some ⟨bl, 0, none⟩), .pointer (some ⟨cp, 0, none⟩)] 128 (0, 0))).alloc (.cells #[.pointer (some ⟨w.heap.size, 0, none⟩), .pointer (some ⟨cq, 0, none⟩)] 128 (0, 0))) (nxAlloc (nxAlloc hb0 _) _)
      refine hK.out (fun (w' : World) => w'.cell? ⟨b, 0, none⟩ = some (.pointer (some ⟨bl, 0, none⟩)) ∧ w'.cell? ⟨b, 1, none⟩ = some (.pointer (some ⟨br, 0, none⟩)) ∧ w'.cell? ⟨br, 0, none⟩ = some (.pointer (some ⟨cp, 0, none⟩)) ∧ w'.cell? ⟨br, 1, none⟩ = some (.pointer (some ⟨cq, 0, none⟩))) _ _ (fun _ h => h) hH2 ?_
      clear hK K
      try dsimp only [Act.put]
      refine wpAnyH_take (i := 22) (oi := ?oi421) (v := ?vv421) ?hi421 ?hn421 ?hf421 ?hr421 ?hq421 (Or.inl ⟨?hg421, ?hy421⟩) hH2 ?rest421
      case hi421 => (simp only [List.getElem?_toArray, List.getElem?_cons_succ, List.getElem?_cons_zero]; rfl)
      case hn421 => kernel_rfl
      case hf421 => kernel_rfl
      case hr421 => kernel_rfl
      case hg421 => rfl
      case hy421 => (intro w hSw; (try dsimp only at hSw); go_simp; first | done | with_reducible rfl)
      case hq421 => exact fun _ _ _ h => h
      try dsimp only [Act.put]
      refine wpAnyH_done (by kernel_rfl) ?_ _
      simp only [List.setIfInBounds_toArray, List.set_cons_zero, List.set_cons_succ]
      have hN := node_new (node_new HL.out hb0 (KP.out.keep hb0)) (Below.refl _ _) (KQ.out.keep (nxAlloc hb0 _))
      have hsz : (w.drew.alloc (.cells #[.pointer (some ⟨bl, 0, none⟩), .pointer (some ⟨cp, 0, none⟩)] 128 (0, 0))).heap.size = w.heap.size + 1 := by simp
      rw [hsz] at hN
      have HN := Lib.hid hN
      clear hN hsz
      go_wp2_with fail
      go_ret
      exact ⟨_, HN.out, nxAlloc (nxAlloc hb0 _) _, rfl⟩
end Go.Proofs.Ytllnfbenaeeloaa

/-! At -/
namespace Go.Proofs.Ytllnfbenaeeloaa
open Go.RowKit

theorem eqFn (f b : Nat) (w : World) : (binOp .eql 114 (.func (.func f) #[.pointer (some ⟨b, 0, none⟩)] #[]) .nilFunc).run Try.prog w = .ok (.bool false) w := by kernel_rfl
theorem eqNil (w : World) : (binOp .eql 114 .nilFunc .nilFunc).run Try.prog w = .ok (.bool true) w := by kernel_rfl

def AtPost (o : Option Tr) (w : World) (e : Ending) (w' : World) : Prop :=
  match o with
  | some u => ∃ b, NodeAt w u b ∧ e = .returned (.pointer (some ⟨b, 0, none⟩)) ∧ w = w'
  | none => e = .returned (.pointer none) ∧ w = w'

end Go.Proofs.Ytllnfbenaeeloaa

/-! SpecAt -/
namespace Go.Proofs.Ytllnfbenaeeloaa
open Go.RowKit

def subO (a b : ByteArray) : Option Tr :=
  match treeOf a with
  | some t => t.sub b.data.toList
  | none => none

theorem sub_long {t : Tr} {l : List UInt8} (h : t.carets < l.length) : t.sub l = none := by
  cases k : t.sub l with
  | none => rfl
  | some u => have := sub_carets _ _ _ k; omega

end Go.Proofs.Ytllnfbenaeeloaa

/-! Br2 -/
namespace Go.Proofs.Ytllnfbenaeeloaa
open Go.RowKit

theorem trOf_two (a b : ByteArray) (w : World) (ha : a.size ≤ 1000000) (hb : b.size ≤ 1000000) :
    Calls Try.prog 88 #[.string a, .string b] w fun e w' => e = .returned (.string (⟨#[40]⟩ ++ a ++ b ++ ⟨#[41]⟩)) ∧ w = w' := by
  go_enter Try.func88, Try.ntmps88
  go_wp2_with fail
  go_ret
  exact ⟨rfl, rfl⟩

/-- The answer of brAt: where there is none, some text and false. -/
def AtV (o : Option Tr) (m : Nat) (v : Value) : Prop :=
  match o with
  | some u => v = .tuple #[.string u.str, .bool true]
  | none => ∃ s : ByteArray, s.size ≤ m ∧ v = .tuple #[.string s, .bool false]
def GivesAt (o : Option Tr) (m : Nat) (w : World) (e : Ending) (w' : World) : Prop := ∃ v, AtV o m v ∧ Below w.heap.size w w' ∧ e = .returned v

theorem tail_list {s : ByteArray} {c : UInt8} {cs : List UInt8} (h : s.data.toList = c :: cs) : (s.extract 1 s.size).data.toList = cs := by
  rw [ext_end, h]; rfl
theorem byte0 {s : ByteArray} {c : UInt8} {cs : List UInt8} (h : s.data.toList = c :: cs) : ∃ hz : 0 < s.size, ((s[0]'hz).toNat : Int) = (c.toNat : Int) := by
  have hb := byteAt_drop (s := s) (a := 0) (c := c) (r := cs) (by simpa using h)
  exact ⟨hb.1, (byteAt_eq s ((0 : Nat) : Int) hb.1).symm.trans hb.2⟩
theorem u8_ne {c : UInt8} {n : Nat} (hn : n < 256) (h : c ≠ UInt8.ofNat n) : ¬ (c.toNat : Int) = (n : Int) := fun e => h (u8_eq hn e)

set_option maxRecDepth 100000 in
set_option maxHeartbeats 1000000 in
theorem brAt_any (k : Bool) : ∀ (p : List UInt8) (t : Tr) (s : ByteArray) (w : World), s.data.toList = p → t.carets ≤ 60 → p.length ≤ 100 →
    Calls Try.prog 63 #[.string t.str, .string s, .bool k] w (GivesAt (t.rotAt k p) (400 * (p.length + 1)) w) := by
  intro p
  induction p with
  | nil =>
    intro t s w hs ht _
    have hz : s.size = 0 := by rw [Lib.size_eq, hs]; rfl
    have e2 : s.toList = [] := by rw [Lib.toList_data, hs]
    have hs0 : s = ⟨#[]⟩ := ba_ext (by rw [hs])
    rw [rotAt_nil]
    have hR := fun w => brRotate_any k t w ht
    have hfin : ∀ w', Below w.heap.size w w' → GivesAt (t.rot k) (400 * (([] : List UInt8).length + 1)) w (.returned (ansV (t.rot k))) w' := by
      intro w' hb
      refine ⟨_, ?_, hb, rfl⟩
      cases t.rot k with
      | none => exact ⟨⟨#[]⟩, Nat.zero_le _, rfl⟩
      | some u => rfl
    have HF := Lib.hid hfin
    clear hfin hs
    subst hs0
    unfold ansV at hR HF
    generalize trS (t.rot k) = A at hR HF
    generalize trB (t.rot k) = B at hR HF
    go_enter Try.func63, Try.ntmps63
    go_wp2_with fail
    refine (hR _).mono ?_; rintro e w1 ⟨rfl, hb1⟩
    go_wp2_with fail
    go_ret2
    exact HF.out _ hb1
  | cons c cs ih =>
    intro t s w hs ht hp
    have hp' : cs.length ≤ 99 := by simp at hp; omega
    have hz : s.size ≤ 9223372036854775806 := by rw [Lib.size_eq, hs]; show cs.length + 1 ≤ _; omega
    have hz1 : 1 ≤ s.size := by rw [Lib.size_eq, hs]; show 1 ≤ cs.length + 1; omega
    have hne : (s.toList == []) = false := by rw [Lib.toList_data, hs]; rfl
    have hne2 : s.toList.isEmpty = false := by rw [Lib.toList_data, hs]; rfl
    obtain ⟨hz0, hx⟩ := byte0 hs
    have ht1 := tail_list hs
    have HX := Lib.hid hx
    have HT := Lib.hid ht1
    have hm : Hid ((c :: cs).length = cs.length + 1) := rfl
    cases t with
    | lf =>
      rw [show Tr.lf.rotAt k (c :: cs) = none by rfl]
      clear hs ih hx ht1
      go_enter Try.func63, Try.ntmps63
      go_wp2_with fail
      refine (trLeaf_any .lf _).mono ?_; rintro e w1 ⟨rfl, rfl⟩
      simp only [Tr.isLf]
      go_wp2_with fail
      go_ret2
      exact ⟨_, ⟨⟨#[]⟩, Nat.zero_le _, rfl⟩, Below.refl _ _, rfl⟩
    | nd l r =>
      have hc : l.carets + r.carets + 1 ≤ 60 := ht
      have sl : l.str.size ≤ 200 := by have := l.str_size; omega
      have sr : r.str.size ≤ 200 := by have := r.str_size; omega
      by_cases h48 : c = 48
      · have h0 : Hid ((((s[0]'hz0).toNat : Int) == 48) = true) := by show (_ == _) = true; rw [HX.out, h48]; rfl
        have h0' : Hid ((((s[0]'hz0).toNat : Int) != 48) = false) := by show (_ != _) = false; rw [HX.out, h48]; rfl
        have hJ := fun w => ih l (s.extract 1 s.size) w HT.out (by omega) (by omega)
        rw [show (Tr.nd l r).rotAt k (c :: cs) = (l.rotAt k cs).map (fun x => .nd x r) by rw [Tr.rotAt, if_pos h48]]
        cases hg : l.rotAt k cs with
        | none =>
          rw [hg] at hJ
          have hJ' : ∀ w, Calls Try.prog 63 #[.string l.str, .string (s.extract 1 s.size), .bool k] w (fun e w' => ∃ s', s'.size ≤ 400 * (cs.length + 1) ∧ Below w.heap.size w w' ∧ e = .returned (.tuple #[.string s', .bool false])) := fun w => (hJ w).mono fun e w' ⟨v, ⟨s', h1, h2⟩, h3, h4⟩ => ⟨s', h1, h3, by rw [h4, h2]⟩
          clear hs ih hx ht1 hJ hg
          go_enter Try.func63, Try.ntmps63
          go_wp2_with fail
          refine (trLeaf_any (.nd l r) _).mono ?_; rintro e w1 ⟨rfl, rfl⟩
          simp only [Tr.isLf]
          have g0 := h0'.out
          go_wp2_with fail
          refine (trSides_any l r _ (by omega)).mono ?_; rintro e w1 ⟨rfl, hb1⟩
          have g1 := h0.out
          go_wp2_with fail
          refine (hJ' _).mono ?_; rintro e w2 ⟨s', hs', hb2, rfl⟩
          have hs2 : s'.size ≤ 1000000 := by omega
          go_wp2_with fail
          refine (trOf_two s' r.str _ (by omega) (by omega)).mono ?_; rintro e w3 ⟨rfl, rfl⟩
          go_wp2_with fail
          go_ret2
          refine ⟨_, ⟨_, ?_, rfl⟩, nx hb1 hb2, rfl⟩
          simp only [ByteArray.size_append]
          have e1 : (⟨#[40]⟩ : ByteArray).size = 1 := rfl
          have e2 : (⟨#[41]⟩ : ByteArray).size = 1 := rfl
          omega
        | some u =>
          rw [hg] at hJ
          have hcu := rotAt_carets _ hg
          have hJ' : ∀ w, Calls Try.prog 63 #[.string l.str, .string (s.extract 1 s.size), .bool k] w (fun e w' => Below w.heap.size w w' ∧ e = .returned (.tuple #[.string u.str, .bool true])) := fun w => (hJ w).mono fun e w' ⟨v, h2, h3, h4⟩ => ⟨h3, by rw [h4, h2]⟩
          clear hs ih hx ht1 hJ hg
          go_enter Try.func63, Try.ntmps63
          go_wp2_with fail
          refine (trLeaf_any (.nd l r) _).mono ?_; rintro e w1 ⟨rfl, rfl⟩
          simp only [Tr.isLf]
          have g0 := h0'.out
          go_wp2_with fail
          refine (trSides_any l r _ (by omega)).mono ?_; rintro e w1 ⟨rfl, hb1⟩
          have g1 := h0.out
          go_wp2_with fail
          refine (hJ' _).mono ?_; rintro e w2 ⟨hb2, rfl⟩
          go_wp2_with fail
          refine (trOf_any u r _ (by omega)).mono ?_; rintro e w3 ⟨rfl, rfl⟩
          go_wp2_with fail
          go_ret2
          exact ⟨_, rfl, nx hb1 hb2, rfl⟩
      · have h0 : Hid ((((s[0]'hz0).toNat : Int) == 48) = false) := by show (_ == _) = false; rw [HX.out]; simpa using u8_ne (n := 48) (by omega) h48
        have h0' : Hid ((((s[0]'hz0).toNat : Int) != 48) = true) := by show (_ != _) = true; rw [HX.out]; simpa using u8_ne (n := 48) (by omega) h48
        by_cases h49 : c = 49
        · have h1' : Hid ((((s[0]'hz0).toNat : Int) != 49) = false) := by show (_ != _) = false; rw [HX.out, h49]; rfl
          have hJ := fun w => ih r (s.extract 1 s.size) w HT.out (by omega) (by omega)
          rw [show (Tr.nd l r).rotAt k (c :: cs) = (r.rotAt k cs).map (fun x => .nd l x) by rw [Tr.rotAt, if_neg h48, if_pos h49]]
          cases hg : r.rotAt k cs with
          | none =>
            rw [hg] at hJ
            have hJ' : ∀ w, Calls Try.prog 63 #[.string r.str, .string (s.extract 1 s.size), .bool k] w (fun e w' => ∃ s', s'.size ≤ 400 * (cs.length + 1) ∧ Below w.heap.size w w' ∧ e = .returned (.tuple #[.string s', .bool false])) := fun w => (hJ w).mono fun e w' ⟨v, ⟨s', h1, h2⟩, h3, h4⟩ => ⟨s', h1, h3, by rw [h4, h2]⟩
            clear hs ih hx ht1 hJ hg
            go_enter Try.func63, Try.ntmps63
            go_wp2_with fail
            refine (trLeaf_any (.nd l r) _).mono ?_; rintro e w1 ⟨rfl, rfl⟩
            simp only [Tr.isLf]
            have g0 := h0'.out
            have g2 := h1'.out
            go_wp2_with fail
            refine (trSides_any l r _ (by omega)).mono ?_; rintro e w1 ⟨rfl, hb1⟩
            have g1 := h0.out
            go_wp2_with fail
            refine (hJ' _).mono ?_; rintro e w2 ⟨s', hs', hb2, rfl⟩
            have hs2 : s'.size ≤ 1000000 := by omega
            go_wp2_with fail
            refine (trOf_two l.str s' _ (by omega) (by omega)).mono ?_; rintro e w3 ⟨rfl, rfl⟩
            go_wp2_with fail
            go_ret2
            refine ⟨_, ⟨_, ?_, rfl⟩, nx hb1 hb2, rfl⟩
            simp only [ByteArray.size_append]
            have e1 : (⟨#[40]⟩ : ByteArray).size = 1 := rfl
            have e2 : (⟨#[41]⟩ : ByteArray).size = 1 := rfl
            omega
          | some u =>
            rw [hg] at hJ
            have hcu := rotAt_carets _ hg
            have hJ' : ∀ w, Calls Try.prog 63 #[.string r.str, .string (s.extract 1 s.size), .bool k] w (fun e w' => Below w.heap.size w w' ∧ e = .returned (.tuple #[.string u.str, .bool true])) := fun w => (hJ w).mono fun e w' ⟨v, h2, h3, h4⟩ => ⟨h3, by rw [h4, h2]⟩
            clear hs ih hx ht1 hJ hg
            go_enter Try.func63, Try.ntmps63
            go_wp2_with fail
            refine (trLeaf_any (.nd l r) _).mono ?_; rintro e w1 ⟨rfl, rfl⟩
            simp only [Tr.isLf]
            have g0 := h0'.out
            have g2 := h1'.out
            go_wp2_with fail
            refine (trSides_any l r _ (by omega)).mono ?_; rintro e w1 ⟨rfl, hb1⟩
            have g1 := h0.out
            go_wp2_with fail
            refine (hJ' _).mono ?_; rintro e w2 ⟨hb2, rfl⟩
            go_wp2_with fail
            refine (trOf_any l u _ (by omega)).mono ?_; rintro e w3 ⟨rfl, rfl⟩
            go_wp2_with fail
            go_ret2
            exact ⟨_, rfl, nx hb1 hb2, rfl⟩
        · have h1' : Hid ((((s[0]'hz0).toNat : Int) != 49) = true) := by show (_ != _) = true; rw [HX.out]; simpa using u8_ne (n := 49) (by omega) h49
          rw [show (Tr.nd l r).rotAt k (c :: cs) = none by rw [Tr.rotAt, if_neg h48, if_neg h49]]
          clear hs ih hx ht1
          go_enter Try.func63, Try.ntmps63
          go_wp2_with fail
          refine (trLeaf_any (.nd l r) _).mono ?_; rintro e w1 ⟨rfl, rfl⟩
          simp only [Tr.isLf]
          have g0 := h0'.out
          have g2 := h1'.out
          go_wp2_with fail
          go_ret2
          exact ⟨_, ⟨⟨#[]⟩, Nat.zero_le _, rfl⟩, Below.refl _ _, rfl⟩

/-- Which function makes a turn. -/
def turnF (k : Bool) : FuncId := if k = true then 94 else 93
theorem turn_any (k : Bool) (t : Tr) (b : Nat) (w : World) (h : NodeAt w t b) : Calls Try.prog (turnF k) #[.pointer (some ⟨b, 0, none⟩)] w (RotP (t.rot k) w) := by
  cases k with
  | true => exact rotatedBack_any t b w h
  | false => exact rotated_any t b w h
theorem turn_call (k : Bool) (args : Array Value) (w : World) : (callFunc (turnF k) args).run Try.prog w = .ok (.enter (turnF k) args) w := by
  cases k with
  | true => kernel_rfl
  | false => kernel_rfl
def fnV (k : Bool) : Value := .func (Fn.func (turnF k)) #[] #[]

set_option maxRecDepth 100000 in
set_option maxHeartbeats 2000000 in
theorem turnedAt_any (k : Bool) : ∀ (p : List UInt8) (t : Tr) (b : Nat) (s : ByteArray) (w : World), s.data.toList = p → NodeAt w t b → p.length ≤ 1048576 →
    Calls Try.prog 96 #[.pointer (some ⟨b, 0, none⟩), .string s, .func (Fn.func (turnF k)) #[] #[]] w (RotP (t.rotAt k p) w) := by
  have hcall := turn_call k
  intro p
  induction p with
  | nil =>
    intro t b s w hs hn _
    have hs0 : s = ⟨#[]⟩ := ba_ext (by rw [hs])
    rw [rotAt_nil]
    have hR := turn_any k t b w hn
    generalize turnF k = fk at *
    clear hs hn
    subst hs0
    cases hg : t.rot k with
    | none =>
      rw [hg] at hR
      go_enter Try.func96, Try.ntmps96
      go_wp2_with fail
      refine hR.mono ?_; rintro e w1 ⟨hb1, rfl⟩
      go_wp2_with fail
      go_ret
      exact ⟨hb1, rfl⟩
    | some u =>
      rw [hg] at hR
      go_enter Try.func96, Try.ntmps96
      go_wp2_with fail
      refine hR.mono ?_; rintro e w1 ⟨b1, hn1, hb1, rfl⟩
      go_wp2_with fail
      go_ret
      exact ⟨b1, hn1, hb1, rfl⟩
  | cons c cs ih =>
    intro t b s w hs hn hp
    have hp' : cs.length ≤ 1048576 := by simp at hp; omega
    have hz : s.size ≤ 9223372036854775806 := by rw [Lib.size_eq, hs]; show cs.length + 1 ≤ _; omega
    have hz1 : 1 ≤ s.size := by rw [Lib.size_eq, hs]; show 1 ≤ cs.length + 1; omega
    have hz9 : cs.length + 1 ≤ 1048576 := by simpa using hp
    have hne : (s.toList == []) = false := by rw [Lib.toList_data, hs]; rfl
    have hne2 : s.toList.isEmpty = false := by rw [Lib.toList_data, hs]; rfl
    obtain ⟨hz0, hx⟩ := byte0 hs
    have HX := Lib.hid hx
    have HT := Lib.hid (tail_list hs)
    have H := Lib.hid hn
    generalize turnF k = fk at *
    cases t with
    | lf =>
      rw [show Tr.lf.rotAt k (c :: cs) = none by rfl]
      clear hs ih hx hn
      go_enter Try.func96, Try.ntmps96
      go_wp2_with fail
      refine (isLeaf_any .lf b _ H.out).mono ?_; rintro e w1 ⟨rfl, rfl⟩
      simp only [Tr.isLf]
      go_wp2_with fail
      go_ret
      exact ⟨Below.refl _ _, rfl⟩
    | nd l r =>
      obtain ⟨bl, br, h, hl, hr⟩ := hn
      have h1 := two_left h
      have h2 := two_right h
      have HL := Lib.hid hl
      have HR := Lib.hid hr
      clear h hl hr
      by_cases h48 : c = 48
      · have h0 : Hid ((((s[0]'hz0).toNat : Int) == 48) = true) := by show (_ == _) = true; rw [HX.out, h48]; rfl
        have hJ := fun w h => ih l bl (s.extract 1 s.size) w HT.out h (by omega)
        rw [show (Tr.nd l r).rotAt k (c :: cs) = (l.rotAt k cs).map (fun x => .nd x r) by rw [Tr.rotAt, if_pos h48]]
        cases hg : l.rotAt k cs with
        | none =>
          rw [hg] at hJ
          have hJ' : ∀ w, NodeAt w l bl → Calls Try.prog 96 #[.pointer (some ⟨bl, 0, none⟩), .string (s.extract 1 s.size), .func (Fn.func fk) #[] #[]] w (fun e w' => Below w.heap.size w w' ∧ e = .returned (.pointer none)) := hJ
          clear hs ih hx hJ hg
          go_enter Try.func96, Try.ntmps96
          go_wp2_with fail
          refine (isLeaf_any _ b _ H.out).mono ?_; rintro e w1 ⟨rfl, rfl⟩
          simp only [Tr.isLf]
          go_wp2_with fail
          go_region
          have g1 := h0.out
          go_wp2_with fail
          refine (hJ' _ (HL.out.keep (Below.refl _ _).drew)).mono ?_; rintro e w2 ⟨hb2, rfl⟩
          go_wp2_with fail
          go_ret
          exact ⟨nx (Below.refl _ _).drew hb2, rfl⟩
        | some u =>
          rw [hg] at hJ
          have hJ' : ∀ w, NodeAt w l bl → Calls Try.prog 96 #[.pointer (some ⟨bl, 0, none⟩), .string (s.extract 1 s.size), .func (Fn.func fk) #[] #[]] w (fun e w' => ∃ b', NodeAt w' u b' ∧ Below w.heap.size w w' ∧ e = .returned (.pointer (some ⟨b', 0, none⟩))) := hJ
          clear hs ih hx hJ hg
          go_enter Try.func96, Try.ntmps96
          go_wp2_with fail
          refine (isLeaf_any _ b _ H.out).mono ?_; rintro e w1 ⟨rfl, rfl⟩
          simp only [Tr.isLf]
          go_wp2_with fail
          go_region
          have g1 := h0.out
          go_wp2_with fail
          refine (hJ' _ (HL.out.keep (Below.refl _ _).drew)).mono ?_; rintro e w2 ⟨b', hn', hb2, rfl⟩
          go_wp2_with fail
          go_ret
          exact ⟨_, node_new hn' (Below.refl _ _) (HR.out.keep (nx (Below.refl _ _).drew hb2)), nxAlloc (nx (Below.refl _ _).drew hb2) _, rfl⟩
      · have h0 : Hid ((((s[0]'hz0).toNat : Int) == 48) = false) := by show (_ == _) = false; rw [HX.out]; simpa using u8_ne (n := 48) (by omega) h48
        by_cases h49 : c = 49
        · have h1' : Hid ((((s[0]'hz0).toNat : Int) == 49) = true) := by show (_ == _) = true; rw [HX.out, h49]; rfl
          have hJ := fun w h => ih r br (s.extract 1 s.size) w HT.out h (by omega)
          rw [show (Tr.nd l r).rotAt k (c :: cs) = (r.rotAt k cs).map (fun x => .nd l x) by rw [Tr.rotAt, if_neg h48, if_pos h49]]
          cases hg : r.rotAt k cs with
          | none =>
            rw [hg] at hJ
            have hJ' : ∀ w, NodeAt w r br → Calls Try.prog 96 #[.pointer (some ⟨br, 0, none⟩), .string (s.extract 1 s.size), .func (Fn.func fk) #[] #[]] w (fun e w' => Below w.heap.size w w' ∧ e = .returned (.pointer none)) := hJ
            clear hs ih hx hJ hg
            go_enter Try.func96, Try.ntmps96
            go_wp2_with fail
            refine (isLeaf_any _ b _ H.out).mono ?_; rintro e w1 ⟨rfl, rfl⟩
            simp only [Tr.isLf]
            go_wp2_with fail
            go_region
            have g1 := h0.out
            have g2 := h1'.out
            go_wp2_with fail
            refine (hJ' _ (HR.out.keep (Below.refl _ _).drew)).mono ?_; rintro e w2 ⟨hb2, rfl⟩
            go_wp2_with fail
            go_ret
            exact ⟨nx (Below.refl _ _).drew hb2, rfl⟩
          | some u =>
            rw [hg] at hJ
            have hJ' : ∀ w, NodeAt w r br → Calls Try.prog 96 #[.pointer (some ⟨br, 0, none⟩), .string (s.extract 1 s.size), .func (Fn.func fk) #[] #[]] w (fun e w' => ∃ b', NodeAt w' u b' ∧ Below w.heap.size w w' ∧ e = .returned (.pointer (some ⟨b', 0, none⟩))) := hJ
            clear hs ih hx hJ hg
            go_enter Try.func96, Try.ntmps96
            go_wp2_with fail
            refine (isLeaf_any _ b _ H.out).mono ?_; rintro e w1 ⟨rfl, rfl⟩
            simp only [Tr.isLf]
            go_wp2_with fail
            go_region
            have g1 := h0.out
            have g2 := h1'.out
            go_wp2_with fail
            refine (hJ' _ (HR.out.keep (Below.refl _ _).drew)).mono ?_; rintro e w2 ⟨b', hn', hb2, rfl⟩
            go_wp2_with fail
            go_ret
            exact ⟨_, node_new (HL.out.keep (Below.refl _ _).drew) hb2 hn', nxAlloc (nx (Below.refl _ _).drew hb2) _, rfl⟩
        · have h1' : Hid ((((s[0]'hz0).toNat : Int) == 49) = false) := by show (_ == _) = false; rw [HX.out]; simpa using u8_ne (n := 49) (by omega) h49
          rw [show (Tr.nd l r).rotAt k (c :: cs) = none by rw [Tr.rotAt, if_neg h48, if_neg h49]]
          clear hs ih hx
          go_enter Try.func96, Try.ntmps96
          go_wp2_with fail
          refine (isLeaf_any _ b _ H.out).mono ?_; rintro e w1 ⟨rfl, rfl⟩
          simp only [Tr.isLf]
          go_wp2_with fail
          go_region
          have g1 := h0.out
          have g2 := h1'.out
          go_wp2_with fail
          go_ret
          exact ⟨(Below.refl _ _).drew, rfl⟩
end Go.Proofs.Ytllnfbenaeeloaa

/-! Br3 -/
namespace Go.Proofs.Ytllnfbenaeeloaa
open Go.RowKit

/-- A tree rotated at an address, if there are both. -/
def turnO (k : Bool) (a b : ByteArray) : Option Tr :=
  match treeOf a with
  | some t => t.rotAt k b.data.toList
  | none => none
theorem turnO_carets {k : Bool} {a b : ByteArray} {u : Tr} (h : turnO k a b = some u) : u.carets ≤ 8 := by
  unfold turnO at h
  split at h
  · next t ht => have := (treeOf_some ht).2; have := rotAt_carets _ h; omega
  · simp at h

end Go.Proofs.Ytllnfbenaeeloaa

/-! CatT -/
namespace Go.Proofs.Ytllnfbenaeeloaa
open Go.RowKit

/-- A call that hands back a slice of texts of its own, or none. -/
def GivesOwn (ss : List ByteArray) (w : World) (e : Ending) (w' : World) : Prop := ∃ v, OwnS w.heap.size w' v ss ∧ Below w.heap.size w w' ∧ e = .returned v

/-- A slice of texts as a source: its length, and that its cells can be read. -/
def SrcT (w : World) (u : Value) (xs : List ByteArray) : Prop := SrcV w u (xs.map (Value.string)) ∧ ∃ oa c, u = .slice oa xs.length c
theorem SrcT.keep {w w' : World} {u : Value} {xs : List ByteArray} (h : SrcT w u xs) (hb : Below w.heap.size w w') : SrcT w' u xs := ⟨h.1.keep hb, h.2⟩
theorem SrcT.of {w : World} {u : Value} {xs : List ByteArray} (h : SrcV w u (xs.map (Value.string))) : SrcT w u xs := by
  refine ⟨h, ?_⟩
  rcases h with ⟨rfl, hx⟩ | ⟨ad, c, rfl, _⟩
  · have : xs = [] := by simpa using hx
    subst this
    exact ⟨none, 0, rfl⟩
  · exact ⟨some ad, c, by rw [List.length_map]⟩
theorem oneTs (xs : List ByteArray) : ∀ u ∈ xs.map (Value.string), u.oneCell' = true := by
  intro u hu
  obtain ⟨x, _, rfl⟩ := List.mem_map.1 hu
  rfl

set_option maxRecDepth 100000 in
set_option maxHeartbeats 2000000 in
theorem growS_nil (n : Nat) (w : World) (hn : n ≤ 100000) :
    Calls Try.prog 129 #[.slice none 0 0, .int .i64 n] w (GivesOwn [] w) := by
  obtain ⟨i0, hi, hz0, hz1, hz2⟩ := info_parts info_str
  have h1 : (0 : Int) ≤ (n : Int) := by omega
  by_cases h0 : n = 0
  · subst h0
    go_enter Try.func129, Try.ntmps129
    go_wp2_with fail
    go_ret
    exact ⟨_, OwnS.nil _ _, Below.refl _ _, rfl⟩
  · have h2 : (0 : Int) < (n : Int) := by omega
    have happ := Lib.run_append_nil_zeros (P := Try.prog) w 49 3 49 9 i0 (.string ⟨#[]⟩) .i64 .i64 Try.underlying49 Try.underlying3 hi hz0 n (by omega) (by omega) (by omega) (by rw [hz2]; omega)
    have hge := grownCap_ge w n 0 9
    have hle := grownCap_le_maxLen w n 0 9 (by unfold maxLen; omega)
    have hown : (w.drew.alloc (.cells (Builtin.zeroCells (Value.string ⟨#[]⟩).cells n ++ Builtin.zeroCells (Value.string ⟨#[]⟩).cells (grownCap w n 0 9 - n)) 9)).ownsRow w.heap.size 9 1 (.slice (some ⟨w.heap.size, 0, none⟩) 0 (grownCap w n 0 9)) 0 [] :=
      World.ownsRow_made w.drew _ _ (Nat.le_refl _) hle (by rw [Array.size_append, size_zeroCells, size_zeroCells]; show n * 1 + _ * 1 = _; omega)
    have hbel : Below w.heap.size w (w.drew.alloc (.cells (Builtin.zeroCells (Value.string ⟨#[]⟩).cells n ++ Builtin.zeroCells (Value.string ⟨#[]⟩).cells (grownCap w n 0 9 - n)) 9)) := nxAlloc ((Below.refl _ _).drew) _
    unfold maxLen at hle
    generalize grownCap w n 0 9 = gc at *
    have HO := Lib.hid hown
    clear hown
    have HA := Lib.hid happ
    clear happ h0
    go_enter Try.func129, Try.ntmps129
    go_wp2_with (at_builtin; refine Lib.wpList_append_run _ rfl _ _ _ _ rfl _ _ rfl rfl _ _ HA.out ?_)
    go_ret
    exact ⟨_, HO.out, hbel, rfl⟩

/-- Slices in a row of their own, and what can be read of them. -/
def PartsS (w : World) (g : Nat) (us : List Value) (ps : List (List ByteArray)) : Prop := g < w.heap.size ∧ us.length = ps.length ∧ ∀ i, i < ps.length → w.cell? ⟨g, i, none⟩ = some (us.getD i undef) ∧ SrcT w (us.getD i undef) (ps.getD i [])
theorem PartsS.keep {w w' : World} {g : Nat} {us : List Value} {ps : List (List ByteArray)} (h : PartsS w g us ps) (hb : Below w.heap.size w w') : PartsS w' g us ps :=
  ⟨Nat.lt_of_lt_of_le h.1 hb.size, h.2.1, fun i hi => ⟨(hb.cell (p := ⟨g, i, none⟩) h.1).trans (h.2.2 i hi).1, (h.2.2 i hi).2.keep hb⟩⟩
theorem flatS_take {ps : List (List ByteArray)} {k : Nat} (h : k < ps.length) : (ps.take (k + 1)).flatten = (ps.take k).flatten ++ ps.getD k [] := by
  rw [List.take_succ_eq_append_getElem h, List.flatten_append]
  simp [h]
def flS (ps : List (List ByteArray)) (k : Nat) : Nat := (ps.take k).flatten.length
theorem flatS_le (ps : List (List ByteArray)) (k : Nat) : (ps.take k).flatten.length ≤ ps.flatten.length := by
  have := congrArg List.flatten (List.take_append_drop k ps)
  rw [List.flatten_append] at this
  have := congrArg List.length this
  rw [List.length_append] at this; omega

set_option maxRecDepth 100000 in
set_option maxHeartbeats 4000000 in
theorem concatS_any (g n : Nat) (us : List Value) (ps : List (List ByteArray)) (w : World) (h : PartsS w g us ps) (hn : ps.length = n) (hn9 : n ≤ 100) (hf : ps.flatten.length ≤ 10000) :
    Calls Try.prog 112 #[.slice (some ⟨g, 0, none⟩) n n] w (GivesOwn ps.flatten w) := by
  obtain ⟨i0, hi, hz0, hz1, hz2⟩ := info_parts info_str
  have HP := Lib.hid h
  have HN := Lib.hid hn
  obtain ⟨F, hF⟩ : ∃ F, F = ps.flatten.length := ⟨_, rfl⟩
  rw [← hF] at hf
  have hG := fun w => growS_nil F w (by omega)
  have HF := Lib.hid hF
  clear hF
  clear h hn
  go_enter Try.func112, Try.ntmps112
  go_wp2_with fail
  go_loop [3, 11] (fun m i => ∃ k : Nat, i = .int .i64 k ∧ k ≤ n ∧ m = .int .i64 ((flS ps k : Nat) : Int)) (fun _ i => n - (intOf i).toNat)
  case atStart => exact ⟨0, rfl, Nat.zero_le _, rfl⟩
  case round =>
    obtain ⟨k, rfl, hk, rfl⟩ := hrel
    by_cases hlt : k < n
    · have hlt' : (k : Int) < (n : Int) := by omega
      obtain ⟨c1, _, oa, c, hu⟩ := HP.out.2.2 k (by rw [HN.out]; exact hlt)
      rw [hu] at c1
      have hst : flS ps (k + 1) = flS ps k + (ps.getD k []).length := by
        have h8 := congrArg List.length (flatS_take (ps := ps) (k := k) (by rw [HN.out]; exact hlt))
        rwa [List.length_append] at h8
      have hle : flS ps (k + 1) ≤ F := by rw [HF.out]; exact flatS_le ps (k + 1)
      have HS := Lib.hid hst
      have h0 : (0 : Int) ≤ (flS ps k : Int) + ((ps.getD k []).length : Int) := by omega
      have h9 : flS ps k + (ps.getD k []).length ≤ 10000 := by omega
      generalize flS ps k = a at *
      generalize (ps.getD k []).length = b at *
      clear hu hst hle
      go_wp2_with fail
      go_round
      case rel => exact ⟨k + 1, by go_num, by omega, by rw [HS.out]; go_num⟩
      case measure => simp [intOf]; omega
    · obtain rfl : k = n := by omega
      rw [show flS ps k = F by rw [HF.out]; unfold flS; rw [show ps.take k = ps by rw [← HN.out]; exact List.take_length]]
      go_wp2_with fail
      refine (hG _).mono ?_; rintro e w1 ⟨v1, own1, hb1, rfl⟩
      go_wp2_with fail
      go_loopw [6, 27] (fun u i wr => ∃ q : Nat, i = .int .i64 q ∧ q ≤ k ∧ OwnS w.heap.size wr u (ps.take q).flatten ∧ Below w.heap.size w wr) (fun _ i _ => k - (intOf i).toNat)
      case atStart => exact ⟨0, rfl, Nat.zero_le _, own1, hb1⟩
      case round =>
        obtain ⟨q, rfl, hq, hown, hbw⟩ := hrel
        by_cases hlq : q < k
        · have hlq' : (q : Int) < (k : Int) := by omega
          have hPk := (HP.out.keep hbw).2.2 q (by rw [HN.out]; exact hlq)
          obtain ⟨c1, hsv, oa, c, hu⟩ := hPk
          rw [hu] at c1 hsv
          have hst := flatS_take (ps := ps) (k := q) (by rw [HN.out]; exact hlq)
          have hle := flatS_le ps (q + 1)
          rw [hst, List.length_append, ← HF.out] at hle
          have hone := oneTs (ps.getD q [])
          have hyl : ((ps.getD q []).map (Value.string)).length = (ps.getD q []).length := List.length_map _
          have HS := Lib.hid hst
          unfold OwnS at hown
          generalize (ps.take q).flatten = xa at *
          generalize ps.getD q [] = xb at *
          clear hu hst
          go_wp2_with (at_builtin; refine wpList_appSrc rfl _ _ 49 rfl w.heap.size 9 i0 (.string ⟨#[]⟩) 16 Try.underlying49 hi hz0 hz1 hz2 rfl _ _ _ rfl hown _ _ rfl hsv hone (by unfold maxLen; omega) (by omega) hbw.size ?_; intro v9 w9 o9 b9 n9)
          have hown1 : OwnS w.heap.size w9 v9 (xa ++ xb) := by
            unfold OwnS
            rw [List.length_append, List.map_append, ← hyl]
            exact o9
          have hbw9 := hbw.trans b9
          clear o9 b9 n9 hown hbw hsv
          go_wp2_with fail
          go_roundw
          case rel => exact ⟨q + 1, by go_num, by omega, by rw [HS.out]; exact hown1, hbw9⟩
          case measure => simp [intOf]; omega
        · obtain rfl : q = k := by omega
          have hx : ps.take q = ps := by rw [← HN.out]; exact List.take_length
          rw [hx] at hown
          clear hx
          go_wp2_with fail
          go_ret
          exact ⟨_, hown, hbw, rfl⟩
end Go.Proofs.Ytllnfbenaeeloaa

/-! TreeO -/
namespace Go.Proofs.Ytllnfbenaeeloaa
open Go.RowKit

theorem keep_cell {w w' : World} {b o : Nat} {v : Value} (hb : Below w.heap.size w w') (h : w.cell? ⟨b, o, none⟩ = some v) : w'.cell? ⟨b, o, none⟩ = some v :=
  (hb.cell (p := ⟨b, o, none⟩) (World.block_lt_of_cell? _ _ h)).trans h

theorem treeOf_any (t : Tr) (w : World) (h : t.carets ≤ 1000) : Calls Try.prog 66 #[.string t.str] w (GivesNode t w) := by
  have hz := t.str_size
  have hp := place_any (t.str.size + 1) t.str
  rw [parse_str t _ (by have := t.text_len; omega)] at hp
  have hp' : ∀ w, Calls Try.prog 92 #[.string t.str] w (PlaceOk t [] t.str w) := fun w => hp w (by omega) (by omega)
  clear hz hp
  go_enter Try.func66, Try.ntmps66
  go_wp2_with fail
  refine (hp' _).mono ?_; rintro e w1 ⟨b1, s1, hs1, hz1, hn1, hb1, rfl⟩
  clear hs1 hz1
  go_wp2_with fail
  go_ret
  exact ⟨b1, hn1, hb1, rfl⟩

end Go.Proofs.Ytllnfbenaeeloaa

/-! Pl1 -/
namespace Go.Proofs.Ytllnfbenaeeloaa
open Go.RowKit

theorem OwnS.srcB {base : Nat} {w : World} {v : Value} {L : List ByteArray} (h : OwnS base w v L) : SrcV w v (L.map Value.string) := by
  rcases h.2 with ⟨hv, hn⟩ | ⟨g, cap, cur, hv, hb, hr⟩
  · left
    exact ⟨hv, by rw [List.length_eq_zero_iff.1 hn]; rfl⟩
  · subst hv
    refine .inr ⟨⟨g, 0, none⟩, cap, by simp, fun j x hj => ?_⟩
    have hj' : j < L.length := by have := (List.getElem?_eq_some_iff.1 hj).1; simpa using this
    rw [addr_add, World.ownsRow.cellAt h j (by omega), hj]
theorem OwnS.srcT {base : Nat} {w : World} {v : Value} {L : List ByteArray} (h : OwnS base w v L) : ∃ oa c, v = .slice oa L.length c ∧ SrcT w v L := by
  have h1 := SrcT.of h.srcB
  obtain ⟨oa, c, e⟩ := h1.2
  exact ⟨oa, c, e, h1⟩
theorem cell_newB (w : World) (cs : Array Value) (t : TypeId) (j : Nat) {u : Value} (h : cs[j]? = some u) : (w.alloc (.cells cs t (0, 0))).cell? ⟨w.heap.size, j, none⟩ = some u := by
  have := heap_alloc_at w (.cells cs t (0, 0))
  unfold World.cell?
  simp only [this]
  simpa using h

theorem here1_yes {k : Bool} {t : Tr} (h : (t.rot k).isSome = true) (here : ByteArray) : t.here1 k here = [here] := by unfold Tr.here1; rw [if_pos h]
theorem here1_no {k : Bool} {t : Tr} (h : (t.rot k).isSome = false) (here : ByteArray) : t.here1 k here = [] := by unfold Tr.here1; rw [if_neg (by simp [h])]

set_option maxRecDepth 100000 in
set_option maxHeartbeats 2000000 in
theorem brPlaces_any (k : Bool) (t : Tr) : ∀ (here : ByteArray) (w : World), t.carets ≤ 60 → here.size + t.carets ≤ 1000 →
    Calls Try.prog 62 #[.string t.str, .string here, .bool k] w (GivesOwn (t.spots k here) w) := by
  obtain ⟨i0, hi, hz0, hz1, hz2⟩ := info_parts info_str
  induction t with
  | lf =>
    intro here w ht hh
    go_enter Try.func62, Try.ntmps62
    go_wp2_with fail
    refine (trLeaf_any .lf _).mono ?_; rintro e w1 ⟨rfl, rfl⟩
    simp only [Tr.isLf]
    go_wp2_with fail
    go_ret
    exact ⟨_, OwnS.nil _ _, Below.refl _ _, rfl⟩
  | nd l r ihl ihr =>
    intro here w ht hh
    have ht' : l.carets + r.carets + 1 ≤ 60 := ht
    have hh' : here.size + (l.carets + r.carets + 1) ≤ 1000 := hh
    have ll := spots_len (k := k) l (here ++ ⟨#[48]⟩)
    have lr := spots_len (k := k) r (here ++ ⟨#[49]⟩)
    have hC : (Tr.nd l r).spots k here = (Tr.nd l r).here1 k here ++ (l.spots k (here ++ ⟨#[48]⟩) ++ r.spots k (here ++ ⟨#[49]⟩)) := rfl
    have s0 : (here ++ (⟨#[48]⟩ : ByteArray)).size = here.size + 1 := ByteArray.size_append
    have s1 : (here ++ (⟨#[49]⟩ : ByteArray)).size = here.size + 1 := ByteArray.size_append
    have jl := fun w => ihl (here ++ ⟨#[48]⟩) w (by omega) (by omega)
    have jr := fun w => ihr (here ++ ⟨#[49]⟩) w (by omega) (by omega)
    have hR := fun w => brRotate_any k (.nd l r) w ht
    rw [hC]
    generalize l.spots k (here ++ ⟨#[48]⟩) = L1 at *
    generalize r.spots k (here ++ ⟨#[49]⟩) = L2 at *
    have hz9 : here.size ≤ 1000 := by omega
    have h1n : L1.length ≤ 60 := by omega
    have h2n : L2.length ≤ 60 := by omega
    have hb0 := Below.refl w.heap.size w
    have sl : l.str.size ≤ 200 := by have := l.str_size; omega
    have sr : r.str.size ≤ 200 := by have := r.str_size; omega
    clear ihl ihr s0 s1 ll lr hC
    cases hg : ((Tr.nd l r).rot k) with
    | none =>
      rw [here1_no (by rw [hg]; rfl), List.nil_append]
      rw [hg] at hR
      have hR' : ∀ w, Calls Try.prog 86 #[.string (Tr.nd l r).str, .bool k] w (Gives (.tuple #[.string ⟨#[]⟩, .bool false]) w) := hR
      clear hR hg
      have own0 : ∀ w', OwnS w.heap.size w' (.slice none 0 0) [] := fun w' => OwnS.nil _ _
      go_enter Try.func62, Try.ntmps62
      go_wp2_with fail
      refine (trLeaf_any (.nd l r) _).mono ?_; rintro e w1 ⟨rfl, rfl⟩
      simp only [Tr.isLf]
      go_wp2_with fail
      refine (hR' _).mono ?_; rintro e w2 ⟨rfl, hb2⟩
      have hbw2 := nx hb0 hb2
      have own2 := own0 w2
      clear own0 hR'
      have hA9 : ([] : List ByteArray).length ≤ 1 := by simp
      go_wp2_with fail
      refine (trSides_any l r _ (by omega)).mono ?_; rintro e w3 ⟨rfl, hb3⟩
      replace own2 := own2.keep hb3
      have hbw3 := nx hbw2 hb3
      go_wp2_with fail
      refine (jl _).mono ?_; rintro e w4 ⟨v4, own4, hb4, rfl⟩
      replace own2 := own2.keep hb4
      have hbw4 := nx hbw3 hb4
      have src4 := own4.srcB
      have one4 := oneS L1
      have ly4 : (L1.map Value.string).length = L1.length := List.length_map _
      unfold OwnS at own2
      go_wp2_with (at_builtin; refine wpList_appSrc rfl _ _ 49 rfl w.heap.size 9 i0 (.string ⟨#[]⟩) 16 Try.underlying49 hi hz0 hz1 hz2 rfl _ _ _ rfl own2 _ _ rfl src4 one4 (by unfold maxLen; omega) (by omega) hbw4.size ?_; intro v5 w5 o9 b9 n9)
      have own5 : OwnS w.heap.size w5 v5 (([] : List ByteArray) ++ L1) := by
        unfold OwnS
        rw [List.length_append, List.map_append, ← ly4]
        exact o9
      have hbw5 := hbw4.trans b9
      clear o9 b9 n9 own4 src4 own2 hb3 hb4 hbw3 hbw4
      go_wp2_with fail
      refine (jr _).mono ?_; rintro e w6 ⟨v6, own6, hb6, rfl⟩
      replace own5 := own5.keep hb6
      have hbw6 := nx hbw5 hb6
      have src6 := own6.srcB
      have one6 := oneS L2
      have ly6 : (L2.map Value.string).length = L2.length := List.length_map _
      have la5 : (([] : List ByteArray) ++ L1).length ≤ 61 := by rw [List.length_append]; omega
      unfold OwnS at own5
      generalize hX5 : ([] : List ByteArray) ++ L1 = X5 at *
      have HX5 := Lib.hid hX5
      clear hX5
      go_wp2_with (at_builtin; refine wpList_appSrc rfl _ _ 49 rfl w.heap.size 9 i0 (.string ⟨#[]⟩) 16 Try.underlying49 hi hz0 hz1 hz2 rfl _ _ _ rfl own5 _ _ rfl src6 one6 (by unfold maxLen; omega) (by omega) hbw6.size ?_; intro v7 w7 o9 b9 n9)
      have own7 : OwnS w.heap.size w7 v7 (X5 ++ L2) := by
        unfold OwnS
        rw [List.length_append, List.map_append, ← ly6]
        exact o9
      rw [show X5 ++ L2 = L1 ++ L2 by rw [← HX5.out]; simp] at own7
      have hbw7 := hbw6.trans b9
      clear o9 b9 n9 own5 src6 own6 hbw5 hbw6 hb6
      go_wp2_with fail
      go_ret
      exact ⟨_, own7, hbw7, rfl⟩
    | some u =>
      rw [here1_yes (by rw [hg]; rfl)]
      rw [hg] at hR
      have hR' : ∀ w, Calls Try.prog 86 #[.string (Tr.nd l r).str, .bool k] w (Gives (.tuple #[.string u.str, .bool true]) w) := hR
      have su : u.str.size ≤ 200 := by have := u.str_size; have := rot_carets hg; have : (Tr.nd l r).carets = l.carets + r.carets + 1 := rfl; omega
      clear hR hg
      go_enter Try.func62, Try.ntmps62
      go_wp2_with fail
      refine (trLeaf_any (.nd l r) _).mono ?_; rintro e w1 ⟨rfl, rfl⟩
      simp only [Tr.isLf]
      go_wp2_with fail
      refine (hR' _).mono ?_; rintro e w2 ⟨rfl, hb2⟩
      have hbw2 := nx hb0 hb2
      have hown : w2.ownsRow w.heap.size 9 1 (.slice none 0 0) 0 [] := World.ownsRow_nil _ _ _ _
      clear hR'
      go_wp2_with (at_builtin; refine wpList_append_own _ rfl _ _ 49 rfl w.heap.size 9 i0 (.string ⟨#[]⟩) 1 16 Try.underlying49 hi hz0 hz1 hz2 rfl (by decide) _ _ _ rfl (hown.alloc _) ⟨w2.heap.size, 0, none⟩ 1 1 [.string here] rfl rfl (new1 _ _ _) (oneS [here]) (by unfold maxLen; omega) (by omega) (size_al hbw2 _) ?_; intro v' w9 hown' hgrow hnn)
      have hbw9 := below_app hbw2 hown (Nat.le_refl _) hgrow
      have own9 : OwnS w.heap.size w9 v' ([] ++ [here]) := OwnS.app (A := []) (B := [here]) hown'
      rw [List.nil_append] at own9
      clear hown hown' hgrow hnn hbw2 hb2
      have hA9 : [here].length ≤ 1 := by simp
      go_wp2_with fail
      refine (trSides_any l r _ (by omega)).mono ?_; rintro e w3 ⟨rfl, hb3⟩
      replace own9 := own9.keep hb3
      have hbw3 := nx hbw9 hb3
      go_wp2_with fail
      refine (jl _).mono ?_; rintro e w4 ⟨v4, own4, hb4, rfl⟩
      replace own9 := own9.keep hb4
      have hbw4 := nx hbw3 hb4
      have src4 := own4.srcB
      have one4 := oneS L1
      have ly4 : (L1.map Value.string).length = L1.length := List.length_map _
      unfold OwnS at own9
      go_wp2_with (at_builtin; refine wpList_appSrc rfl _ _ 49 rfl w.heap.size 9 i0 (.string ⟨#[]⟩) 16 Try.underlying49 hi hz0 hz1 hz2 rfl _ _ _ rfl own9 _ _ rfl src4 one4 (by unfold maxLen; omega) (by omega) hbw4.size ?_; intro v5 w5 o9 b9 n9)
      have own5 : OwnS w.heap.size w5 v5 ([here] ++ L1) := by
        unfold OwnS
        rw [List.length_append, List.map_append, ← ly4]
        exact o9
      have hbw5 := hbw4.trans b9
      clear o9 b9 n9 own4 src4 own9 hb3 hb4 hbw3 hbw4
      go_wp2_with fail
      refine (jr _).mono ?_; rintro e w6 ⟨v6, own6, hb6, rfl⟩
      replace own5 := own5.keep hb6
      have hbw6 := nx hbw5 hb6
      have src6 := own6.srcB
      have one6 := oneS L2
      have ly6 : (L2.map Value.string).length = L2.length := List.length_map _
      have la5 : ([here] ++ L1).length ≤ 61 := by rw [List.length_append]; omega
      unfold OwnS at own5
      generalize hX5 : [here] ++ L1 = X5 at *
      have HX5 := Lib.hid hX5
      clear hX5
      go_wp2_with (at_builtin; refine wpList_appSrc rfl _ _ 49 rfl w.heap.size 9 i0 (.string ⟨#[]⟩) 16 Try.underlying49 hi hz0 hz1 hz2 rfl _ _ _ rfl own5 _ _ rfl src6 one6 (by unfold maxLen; omega) (by omega) hbw6.size ?_; intro v7 w7 o9 b9 n9)
      have own7 : OwnS w.heap.size w7 v7 (X5 ++ L2) := by
        unfold OwnS
        rw [List.length_append, List.map_append, ← ly6]
        exact o9
      rw [show X5 ++ L2 = [here] ++ (L1 ++ L2) by rw [← HX5.out]; simp] at own7
      have hbw7 := hbw6.trans b9
      clear o9 b9 n9 own5 src6 own6 hbw5 hbw6 hb6
      go_wp2_with fail
      go_ret
      exact ⟨_, own7, hbw7, rfl⟩
end Go.Proofs.Ytllnfbenaeeloaa

/-! NrP -/
namespace Go.Proofs.Ytllnfbenaeeloaa

/-- Texts in order. -/
def leB (a b : ByteArray) : Bool := decide (¬ b.data.toList < a.data.toList)
theorem u8_irrefl (a : UInt8) : ¬ a < a := UInt8.lt_irrefl a
theorem leB_total (a b : ByteArray) : leB a b = true ∨ leB b a = true := by
  unfold leB
  by_cases h : b.data.toList < a.data.toList
  · right
    simp only [decide_eq_true_eq]
    exact List.lt_asymm h
  · left; simpa using h
theorem leB_trans {a b c : ByteArray} (h : leB a b = true) (k : leB b c = true) : leB a c = true := by
  unfold leB at *
  simp only [decide_eq_true_eq] at *
  exact List.le_trans (α := UInt8) h k
theorem leB_antisymm {a b : ByteArray} (h : leB a b = true) (k : leB b a = true) : a = b := by
  unfold leB at *
  simp only [decide_eq_true_eq] at *
  exact ba_ext (List.le_antisymm (α := UInt8) h k)

/-- How many texts at the beginning are less. -/
def frontB (x : ByteArray) (l : List ByteArray) : Nat := (l.takeWhile (fun y => decide (y.data.toList < x.data.toList))).length
def insB (x : ByteArray) (l : List ByteArray) : List ByteArray := l.take (frontB x l) ++ [x] ++ l.drop (frontB x l)
theorem frontB_nil (x : ByteArray) : frontB x [] = 0 := rfl
theorem insB_cons (x y : ByteArray) (l : List ByteArray) : insB x (y :: l) = if y.data.toList < x.data.toList then y :: insB x l else x :: y :: l := by
  unfold insB frontB
  rw [List.takeWhile_cons]
  by_cases h : y.data.toList < x.data.toList
  · simp [h]
  · simp [h]
theorem frontB_cons (x y : ByteArray) (l : List ByteArray) : frontB x (y :: l) = if y.data.toList < x.data.toList then frontB x l + 1 else 0 := by
  unfold frontB
  rw [List.takeWhile_cons]
  by_cases h : y.data.toList < x.data.toList
  · simp [h]
  · simp [h]
theorem frontB_le (x : ByteArray) (l : List ByteArray) : frontB x l ≤ l.length := by
  unfold frontB; exact (List.takeWhile_sublist _).length_le
theorem frontB_lt {x : ByteArray} : ∀ {l : List ByteArray} {k : Nat}, k < frontB x l → (l.getD k ⟨#[]⟩).data.toList < x.data.toList := by
  intro l
  induction l with
  | nil => intro k h; rw [frontB_nil] at h; omega
  | cons y l ih =>
    intro k h
    rw [frontB_cons] at h
    split at h
    · next g =>
      cases k with
      | zero => exact g
      | succ k => exact ih (by omega)
    · omega
theorem frontB_at {x : ByteArray} : ∀ {l : List ByteArray}, frontB x l < l.length → ¬ (l.getD (frontB x l) ⟨#[]⟩).data.toList < x.data.toList := by
  intro l
  induction l with
  | nil => intro h; simp at h
  | cons y l ih =>
    intro h
    rw [frontB_cons] at h ⊢
    split
    · next g => rw [if_pos g] at h; exact ih (by simpa using h)
    · next g => exact g
theorem insB_perm (x : ByteArray) (l : List ByteArray) : List.Perm (insB x l) (x :: l) := by
  unfold insB
  have h1 : List.Perm (l.take (frontB x l) ++ [x] ++ l.drop (frontB x l)) (x :: (l.take (frontB x l) ++ l.drop (frontB x l))) := by
    rw [List.append_assoc]
    exact List.perm_middle
  rwa [List.take_append_drop] at h1
theorem insB_length (x : ByteArray) (l : List ByteArray) : (insB x l).length = l.length + 1 := by simpa using (insB_perm x l).length_eq
theorem insB_sorted {x : ByteArray} : ∀ {l : List ByteArray}, l.Pairwise (fun a b => leB a b = true) → (insB x l).Pairwise (fun a b => leB a b = true) := by
  intro l
  induction l with
  | nil => intro _; simp [insB, frontB]
  | cons y l ih =>
    intro h
    rw [List.pairwise_cons] at h
    rw [insB_cons]
    split
    · next g =>
      rw [List.pairwise_cons]
      refine ⟨fun z hz => ?_, ih h.2⟩
      have := (insB_perm x l).mem_iff.1 hz
      rcases List.mem_cons.1 this with rfl | hz
      · unfold leB; simp only [decide_eq_true_eq]; exact List.lt_asymm g
      · exact h.1 z hz
    · next g =>
      have hxy : leB x y = true := by unfold leB; simpa using g
      rw [List.pairwise_cons]
      refine ⟨fun z hz => ?_, by rw [List.pairwise_cons]; exact h⟩
      rcases List.mem_cons.1 hz with rfl | hz
      · exact hxy
      · exact leB_trans hxy (h.1 z hz)
/-- All put in order one by one. -/
def insAll (l acc : List ByteArray) : List ByteArray := l.foldl (fun acc x => insB x acc) acc
theorem insAll_perm (l : List ByteArray) : ∀ acc, List.Perm (insAll l acc) (l ++ acc) := by
  induction l with
  | nil => intro acc; exact List.Perm.refl _
  | cons x l ih =>
    intro acc
    show List.Perm (insAll l (insB x acc)) _
    refine (ih (insB x acc)).trans ?_
    refine ((insB_perm x acc).append_left l).trans ?_
    exact List.perm_middle
theorem insAll_sorted (l : List ByteArray) : ∀ acc, acc.Pairwise (fun a b => leB a b = true) → (insAll l acc).Pairwise (fun a b => leB a b = true) := by
  induction l with
  | nil => intro acc h; exact h
  | cons x l ih => intro acc h; exact ih _ (insB_sorted h)
theorem insAll_length (l acc : List ByteArray) : (insAll l acc).length = l.length + acc.length := by rw [(insAll_perm l acc).length_eq, List.length_append]
theorem insAll_append (l m acc : List ByteArray) : insAll (l ++ m) acc = insAll m (insAll l acc) := by unfold insAll; rw [List.foldl_append]
theorem insAll_one (x : ByteArray) (acc : List ByteArray) : insAll [x] acc = insB x acc := rfl
/-- Whatever is in order and holds the same texts is that list. -/
theorem insAll_unique {l m : List ByteArray} (hp : List.Perm m l) (hs : m.Pairwise (fun a b => leB a b = true)) : m = insAll l [] := by
  have h1 : List.Perm m (insAll l []) := hp.trans (by have := insAll_perm l []; rw [List.append_nil] at this; exact this.symm)
  exact List.Perm.eq_of_pairwise (fun a b _ _ h k => leB_antisymm h k) hs (insAll_sorted l [] List.Pairwise.nil) h1

/-- The trees behind turns at addresses (those that can be made). -/
def turnL (k : Bool) (t : Tr) (as1 : List ByteArray) : List ByteArray := as1.map fun a => match t.rotAt k a.data.toList with | some u => u.str | none => ⟨#[]⟩
def reachT (t : Tr) : List ByteArray := turnL false t (t.spots false ⟨#[]⟩) ++ turnL true t (t.spots true ⟨#[]⟩)
def nearT (t : Tr) : List ByteArray := insAll (reachT t) []
theorem turnL_len (k : Bool) (t : Tr) (as1 : List ByteArray) : (turnL k t as1).length = as1.length := by simp [turnL]
theorem reachT_len (t : Tr) : (reachT t).length ≤ 2 * t.carets := by
  have h1 := spots_len (k := false) t ⟨#[]⟩
  have h2 := spots_len (k := true) t ⟨#[]⟩
  unfold reachT; rw [List.length_append, turnL_len, turnL_len]; omega
theorem nearT_len (t : Tr) : (nearT t).length ≤ 2 * t.carets := by
  have := reachT_len t
  unfold nearT; rw [insAll_length]; simpa using this
end Go.Proofs.Ytllnfbenaeeloaa

/-! Nb1 -/
namespace Go.Proofs.Ytllnfbenaeeloaa
open Go.RowKit

theorem less_list : ∀ (x y : List UInt8), Go.Op.bytesLess x y = decide (x < y) := by
  intro x
  induction x with
  | nil => intro y; cases y <;> simp [Go.Op.bytesLess]
  | cons a x ih =>
    intro y
    cases y with
    | nil => simp [Go.Op.bytesLess]
    | cons b y =>
      rw [Go.Op.bytesLess, ih y, Bool.eq_iff_iff]
      simp [List.cons_lt_cons_iff]
theorem less_eq (a b : ByteArray) : Go.Op.bytesLess a.toList b.toList = decide (a.data.toList < b.data.toList) := by
  rw [less_list, Lib.toList_data, Lib.toList_data]

/-- An append at a step of a region, of a source that may be empty. -/
theorem step_append_src {P : Program} {w : World} {ops : Array Oper} {o : Oper} {a : Act} {K : Act → World → Prop} {Q : Exit → Act → World → Prop} {E : Prop} (hgd : o.guard = none) (s x : Operand) (t : TypeId)
    (ho : o.op = .call { callee := .builtin .append, args := #[s, x], argTypes := #[t, t] })
    (base : Nat) (e : TypeId) (i : TypeInfo) (z : Value) (bytes : Nat) (ht : P.underlying t = some (.slice e)) (hi : P.info? e = some i) (hz : i.zero = some z)
    (hsize : i.size = 1) (hby : i.bytes = bytes) (hzs : z.cells.size = 1)
    (v : Value) (n : Nat) (xs : List Value) (hs : a.eval s = v) (hown : w.ownsRow base e 1 v n xs)
    (ad : Addr) (c nl : Nat) (ys : List Value) (hnl : ys.length = nl) (hx : a.eval x = .slice (some ad) nl c) (hc : ∀ j u, ys[j]? = some u → w.cell? (ad.add j) = some u) (h1 : ∀ y ∈ ys, y.oneCell' = true)
    (h63 : n + ys.length ≤ maxLen) (hbytes : (n + ys.length) * bytes ≤ 140737488355328) (hbase : base ≤ w.heap.size)
    (h : ∀ v' w', w'.ownsRow base e 1 v' (n + ys.length) (xs ++ ys) → w.grownBy w' v.ownBlock → K (a.put o.dst v') w') :
    if Region.wanted o (yielded ops a.tmps) = true then Oper.wp P o a w K Q else E := by
  subst hnl
  have hw : Region.wanted o (yielded ops a.tmps) = true := by simp [Region.wanted, hgd]
  rw [if_pos hw]
  obtain ⟨v', w', hr, h2, h3, _, _⟩ := run_append_own_at (P := P) w base t o.type e i z 1 bytes ht hi hz hsize hby hzs (by decide) v n xs hown ad ys.length c ys (by simp) hc h1 h63 hbytes hbase
  unfold Oper.wp execOp
  simp only [ho, resolve, invoke, builtin, Sem.run_bind, Sem.run_pure, Result.andThen_ok, List.map_toArray, List.map_cons, List.map_nil, hs, hx, hr]
  exact h v' w' h2 h3

theorem step_append_none {P : Program} {w : World} {ops : Array Oper} {o : Oper} {a : Act} {K : Act → World → Prop} {Q : Exit → Act → World → Prop} {E : Prop} (hgd : o.guard = none) (s x : Operand) (t : TypeId)
    (ho : o.op = .call { callee := .builtin .append, args := #[s, x], argTypes := #[t, t] })
    (base : Nat) (e : TypeId) (i : TypeInfo) (ht : P.underlying t = some (.slice e)) (hi : P.info? e = some i)
    (v : Value) (n : Nat) (xs : List Value) (hs : a.eval s = v) (hown : w.ownsRow base e 1 v n xs) (hx : a.eval x = .slice none 0 0)
    (h : K (a.put o.dst v) w) : if Region.wanted o (yielded ops a.tmps) = true then Oper.wp P o a w K Q else E := by
  have hw : Region.wanted o (yielded ops a.tmps) = true := by simp [Region.wanted, hgd]
  rw [if_pos hw]
  have hrun := run_append_owned_none (P := P) (w := w) base t o.type e i 1 ht hi v n xs hown
  unfold Oper.wp
  simp [execOp, ho, resolve, invoke, builtin, hs, hx, hrun, Result.andThen]
  exact h
end Go.Proofs.Ytllnfbenaeeloaa

/-! MgP -/
namespace Go.Proofs.Ytllnfbenaeeloaa

def ltB (a b : ByteArray) : Prop := Go.Op.bytesLess a.toList b.toList = true
theorem ltB_iff {a b : ByteArray} : ltB a b ↔ a.data.toList < b.data.toList := by
  unfold ltB
  rw [less_list, Lib.toList_data, Lib.toList_data]
  simp
theorem ltB_irrefl (a : ByteArray) : ¬ ltB a a := by rw [ltB_iff]; exact List.lt_irrefl _
theorem ltB_trans {a b c : ByteArray} (h : ltB a b) (k : ltB b c) : ltB a c := by rw [ltB_iff] at *; exact List.lt_trans h k
theorem ltB_tri (a b : ByteArray) : ltB a b ∨ a = b ∨ ltB b a := by
  rw [ltB_iff, ltB_iff]
  by_cases h : a.data.toList < b.data.toList
  · exact Or.inl h
  · by_cases k : b.data.toList < a.data.toList
    · exact Or.inr (Or.inr k)
    · exact Or.inr (Or.inl (ba_ext (List.le_antisymm (α := UInt8) k h)))
theorem IncS.lt {ss : List ByteArray} (h : IncS ss) {i j : Nat} (hi : i < j) (hj : j < ss.length) : ltB (ss.getD i ⟨#[]⟩) (ss.getD j ⟨#[]⟩) := h i j hi hj
theorem getD_mem9 {ss : List ByteArray} {i : Nat} (h : i < ss.length) : ss.getD i ⟨#[]⟩ ∈ ss := by
  rw [List.getD_eq_getElem?_getD, List.getElem?_eq_getElem h]; exact List.getElem_mem h
theorem mem_getD9 {ss : List ByteArray} {x : ByteArray} (h : x ∈ ss) : ∃ i, i < ss.length ∧ ss.getD i ⟨#[]⟩ = x := by
  obtain ⟨i, hi, e⟩ := List.mem_iff_getElem.1 h
  exact ⟨i, hi, by simp [List.getD_eq_getElem?_getD, hi, e]⟩
/-- What a merge has made of the first a and b texts. -/
structure Mg (A B : List ByteArray) (a b : Nat) (O : List ByteArray) : Prop where
  inc : IncS O
  mem : ∀ x, x ∈ O ↔ x ∈ A.take a ∨ x ∈ B.take b
  fa : ∀ x ∈ O, ∀ i, a ≤ i → i < A.length → ¬ ltB (A.getD i ⟨#[]⟩) x
  fb : ∀ x ∈ O, ∀ i, b ≤ i → i < B.length → ¬ ltB (B.getD i ⟨#[]⟩) x
  len : O.length ≤ a + b
theorem Mg.start (A B : List ByteArray) : Mg A B 0 0 [] := ⟨fun i j _ hj => by simp at hj, by simp, by simp, by simp, by simp⟩
theorem Mg.swap {A B O : List ByteArray} {a b : Nat} (h : Mg A B a b O) : Mg B A b a O := ⟨h.inc, fun x => by rw [h.mem x, or_comm], h.fb, h.fa, by have := h.len; omega⟩
theorem IncS.snoc {O : List ByteArray} {s : ByteArray} (h : IncS O) (k : ∀ x ∈ O, ltB x s) : IncS (O ++ [s]) := by
  intro i j hi hj
  simp only [List.length_append, List.length_cons, List.length_nil] at hj
  rcases Nat.lt_or_ge j O.length with h1 | h1
  · have e1 : (O ++ [s]).getD i ⟨#[]⟩ = O.getD i ⟨#[]⟩ := by simp [List.getD_eq_getElem?_getD, List.getElem?_append_left (show i < O.length by omega)]
    have e2 : (O ++ [s]).getD j ⟨#[]⟩ = O.getD j ⟨#[]⟩ := by simp [List.getD_eq_getElem?_getD, List.getElem?_append_left h1]
    rw [e1, e2]; exact h i j hi h1
  · obtain rfl : j = O.length := by omega
    have e1 : (O ++ [s]).getD i ⟨#[]⟩ = O.getD i ⟨#[]⟩ := by simp [List.getD_eq_getElem?_getD, List.getElem?_append_left (show i < O.length by omega)]
    have e2 : (O ++ [s]).getD O.length ⟨#[]⟩ = s := by simp [List.getD_eq_getElem?_getD]
    rw [e1, e2]; exact k _ (getD_mem9 (by omega))
theorem Mg.base {A B O : List ByteArray} {a b : Nat} (hA : IncS A) (hB : IncS B) (_h : Mg A B a b O) (hs : b < B.length → ¬ ltB (B.getD b ⟨#[]⟩) (A.getD a ⟨#[]⟩)) :
    (∀ i, a + 1 ≤ i → i < A.length → ¬ ltB (A.getD i ⟨#[]⟩) (A.getD a ⟨#[]⟩)) ∧ ∀ i, b ≤ i → i < B.length → ¬ ltB (B.getD i ⟨#[]⟩) (A.getD a ⟨#[]⟩) := by
  refine ⟨fun i h1 h2 h3 => ltB_irrefl _ (ltB_trans h3 (hA.lt (show a < i by omega) h2)), fun i h1 h2 h3 => ?_⟩
  rcases Nat.lt_or_ge b i with h4 | h4
  · exact hs (by omega) (ltB_trans (hB.lt h4 h2) h3)
  · obtain rfl : i = b := by omega
    exact hs h2 h3
theorem take_memA {A : List ByteArray} {a : Nat} (ha : a < A.length) (x : ByteArray) : x ∈ A.take (a + 1) ↔ x ∈ A.take a ∨ x = A.getD a ⟨#[]⟩ := by
  rw [take_snocS ha, List.mem_append, List.mem_singleton]
/-- The next one is new. -/
theorem Mg.new {A B O : List ByteArray} {a b : Nat} (hA : IncS A) (hB : IncS B) (h : Mg A B a b O) (ha : a < A.length) (hs : b < B.length → ¬ ltB (B.getD b ⟨#[]⟩) (A.getD a ⟨#[]⟩))
    (hn : O = [] ∨ O.getD (O.length - 1) ⟨#[]⟩ ≠ A.getD a ⟨#[]⟩) : Mg A B (a + 1) b (O ++ [A.getD a ⟨#[]⟩]) := by
  obtain ⟨b1, b2⟩ := h.base hA hB hs
  have hlt : ∀ x ∈ O, ltB x (A.getD a ⟨#[]⟩) := by
    intro x hx
    rcases hn with hn | hn
    · rw [hn] at hx; simp at hx
    · have hpos : 0 < O.length := List.length_pos_of_mem hx
      have hl : ltB (O.getD (O.length - 1) ⟨#[]⟩) (A.getD a ⟨#[]⟩) := by
        rcases ltB_tri (O.getD (O.length - 1) ⟨#[]⟩) (A.getD a ⟨#[]⟩) with h1 | h1 | h1
        · exact h1
        · exact absurd h1 hn
        · exact absurd h1 (h.fa _ (getD_mem9 (by omega)) a (Nat.le_refl _) ha)
      obtain ⟨i, hi, rfl⟩ := mem_getD9 hx
      rcases Nat.lt_or_ge i (O.length - 1) with h1 | h1
      · exact ltB_trans (h.inc.lt h1 (by omega)) hl
      · obtain rfl : i = O.length - 1 := by omega
        exact hl
  refine ⟨h.inc.snoc hlt, fun x => ?_, fun x hx i h1 h2 => ?_, fun x hx i h1 h2 => ?_, by have := h.len; simp; omega⟩
  · rw [List.mem_append, List.mem_singleton, h.mem x, take_memA ha]
    constructor
    · rintro ((h1 | h1) | h1)
      · exact Or.inl (Or.inl h1)
      · exact Or.inr h1
      · exact Or.inl (Or.inr h1)
    · rintro ((h1 | h1) | h1)
      · exact Or.inl (Or.inl h1)
      · exact Or.inr h1
      · exact Or.inl (Or.inr h1)
  · rcases List.mem_append.1 hx with h3 | h3
    · exact h.fa x h3 i (by omega) h2
    · simp only [List.mem_singleton] at h3; subst h3; exact b1 i h1 h2
  · rcases List.mem_append.1 hx with h3 | h3
    · exact h.fb x h3 i h1 h2
    · simp only [List.mem_singleton] at h3; subst h3; exact b2 i h1 h2
/-- The next one is there. -/
theorem Mg.old {A B O : List ByteArray} {a b : Nat} (h : Mg A B a b O) (ha : a < A.length) (hpos : 0 < O.length) (hn : O.getD (O.length - 1) ⟨#[]⟩ = A.getD a ⟨#[]⟩) : Mg A B (a + 1) b O := by
  have hm : A.getD a ⟨#[]⟩ ∈ O := hn ▸ getD_mem9 (by omega)
  refine ⟨h.inc, fun x => ?_, fun x hx i h1 h2 => h.fa x hx i (by omega) h2, h.fb, by have := h.len; omega⟩
  rw [take_memA ha]
  constructor
  · intro hx
    rcases (h.mem x).1 hx with h1 | h1
    · exact Or.inl (Or.inl h1)
    · exact Or.inr h1
  · rintro ((h1 | h1) | h1)
    · exact (h.mem x).2 (Or.inl h1)
    · rw [h1]; exact hm
    · exact (h.mem x).2 (Or.inr h1)
theorem Mg.done {A B O : List ByteArray} (h : Mg A B A.length B.length O) : IncS O ∧ ∀ x, x ∈ O ↔ x ∈ A ∨ x ∈ B := ⟨h.inc, fun x => by rw [h.mem x, List.take_length, List.take_length]⟩
end Go.Proofs.Ytllnfbenaeeloaa

/-! ChP -/
namespace Go.Proofs.Ytllnfbenaeeloaa
/-- The right comb. -/
def combR8 : Nat → Tr
  | 0 => .lf
  | n + 1 => .nd .lf (combR8 n)
theorem spots_none_comb (t : Tr) : ∀ here, t.spots false here = [] → t = combR8 t.carets := by
  induction t with
  | lf => intro here _; rfl
  | nd l r _ ihr =>
    intro here h
    rw [Tr.spots, List.append_eq_nil_iff, List.append_eq_nil_iff] at h
    have hr := ihr _ h.2.2
    cases l with
    | lf =>
      simp only [Tr.carets, Nat.zero_add]
      show Tr.nd .lf r = .nd .lf (combR8 r.carets)
      rw [← hr]
    | nd a b =>
      exfalso
      have h1 := h.1
      unfold Tr.here1 at h1
      rw [if_pos (by rfl)] at h1
      simp at h1
theorem nextT_none_comb {t : Tr} (h : nextT t = none) : t = combR8 t.carets := by
  cases k : t.spots false ⟨#[]⟩ with
  | nil => exact spots_none_comb t _ k
  | cons a as1 =>
    obtain ⟨u, _, h2⟩ := nextT_cons k
    rw [h] at h2; cases h2
theorem chainF_last (k : Nat) : ∀ t : Tr, t.lw ≤ k → (chainF k t).getLast? = some (combR8 t.carets) := by
  induction k with
  | zero =>
    intro t h
    have hn : nextT t = none := by
      cases g : nextT t with
      | none => rfl
      | some u => have := nextT_lw g; omega
    show [t].getLast? = _
    rw [← nextT_none_comb hn]; rfl
  | succ k ih =>
    intro t h
    rw [chainF]
    cases g : nextT t with
    | none => show [t].getLast? = _; rw [← nextT_none_comb g]; rfl
    | some u =>
      have h1 := nextT_lw g
      have h2 := ih u (by omega)
      rw [nextT_carets g] at h2
      have h3 := (chainF_len k u).2
      simp only
      rw [List.getLast?_cons, h2]; rfl
theorem chainT_last (t : Tr) : (chainT t).getLast? = some (combR8 t.carets) := chainF_last _ t (Nat.le_refl _)
theorem dropLast_last {α : Type} {l : List α} {x : α} (h : l.getLast? = some x) : l = l.dropLast ++ [x] := by
  induction l with
  | nil => simp at h
  | cons a l ih =>
    cases l with
    | nil => simp at h; subst h; rfl
    | cons b l =>
      rw [List.getLast?_cons_cons] at h
      rw [List.dropLast_cons_cons, List.cons_append, ← ih h]
/-- From one to the other over the right comb. -/
def betweenT (a b : Tr) : List Tr := chainT a ++ (chainT b).dropLast.reverse
theorem between_eq {a b : Tr} (h : a.carets = b.carets) : (chainT a).dropLast ++ (chainT b).reverse = betweenT a b := by
  have h1 := dropLast_last (chainT_last a)
  have h2 := dropLast_last (chainT_last b)
  unfold betweenT
  rw [show (chainT b).reverse = combR8 b.carets :: (chainT b).dropLast.reverse by
    conv => lhs; rw [h2]
    simp]
  conv => rhs; rw [h1]
  rw [h]; simp
end Go.Proofs.Ytllnfbenaeeloaa

/-! DiP -/
namespace Go.Proofs.Ytllnfbenaeeloaa

theorem rot_back {k : Bool} {t u : Tr} (h : t.rot k = some u) : u.rot (!k) = some t := by
  unfold Tr.rot at h
  split at h
  · injection h with h; subst h; rfl
  · injection h with h; subst h; rfl
  · simp at h
theorem rotAt_back {k : Bool} : ∀ (p : List UInt8) {t u : Tr}, t.rotAt k p = some u → u.rotAt (!k) p = some t := by
  intro p
  induction p with
  | nil => intro t u h; rw [rotAt_nil] at h ⊢; exact rot_back h
  | cons c cs ih =>
    intro t u h
    cases t with
    | lf => simp [Tr.rotAt] at h
    | nd l r =>
      rw [Tr.rotAt] at h
      split at h
      · next hc =>
        cases g : l.rotAt k cs with
        | none => rw [g] at h; simp at h
        | some x => rw [g] at h; simp at h; subst h; rw [Tr.rotAt, if_pos hc, ih g]; rfl
      · next hc =>
        split at h
        · next hd =>
          cases g : r.rotAt k cs with
          | none => rw [g] at h; simp at h
          | some x => rw [g] at h; simp at h; subst h; rw [Tr.rotAt, if_neg hc, if_pos hd, ih g]; rfl
        · simp at h
/-- Each address at which a tree can be rotated is among the places. -/
theorem spots_all {k : Bool} : ∀ (p : List UInt8) (t : Tr) (here : ByteArray), (t.rotAt k p).isSome = true → ∃ a ∈ t.spots k here, a.data.toList = here.data.toList ++ p := by
  intro p
  induction p with
  | nil =>
    intro t here h
    rw [rotAt_nil] at h
    cases t with
    | lf => rw [rot_lf] at h; simp at h
    | nd l r => exact ⟨here, by rw [Tr.spots]; unfold Tr.here1; rw [if_pos h]; simp, by simp⟩
  | cons c cs ih =>
    intro t here h
    have e : ∀ c : UInt8, (here ++ (⟨#[c]⟩ : ByteArray)).data.toList = here.data.toList ++ [c] := fun c => by simp
    cases t with
    | lf => simp [Tr.rotAt] at h
    | nd l r =>
      rw [Tr.rotAt] at h
      split at h
      · next hc =>
        subst hc
        obtain ⟨a, ha, hd⟩ := ih l (here ++ ⟨#[48]⟩) (by simpa using h)
        exact ⟨a, by rw [Tr.spots]; simp [ha], by rw [hd, e]; simp⟩
      · split at h
        · next hc =>
          subst hc
          obtain ⟨a, ha, hd⟩ := ih r (here ++ ⟨#[49]⟩) (by simpa using h)
          exact ⟨a, by rw [Tr.spots]; simp [ha], by rw [hd, e]; simp⟩
        · simp at h

/-- One turn. -/
def Turn (t u : Tr) : Prop := ∃ k p, t.rotAt k p = some u
theorem Turn.back {t u : Tr} : Turn t u → Turn u t := fun ⟨k, p, h⟩ => ⟨!k, p, rotAt_back p h⟩
theorem Turn.carets {t u : Tr} : Turn t u → u.carets = t.carets := fun ⟨_, p, h⟩ => rotAt_carets p h
theorem turnL_mem {k : Bool} {t : Tr} {s : ByteArray} : s ∈ turnL k t (t.spots k ⟨#[]⟩) ↔ ∃ p u, t.rotAt k p = some u ∧ s = u.str := by
  unfold turnL
  rw [List.mem_map]
  constructor
  · rintro ⟨a, ha, hs⟩
    obtain ⟨u, hu⟩ := spots_mem0 ha
    rw [hu] at hs
    exact ⟨_, u, hu, hs.symm⟩
  · rintro ⟨p, u, hu, rfl⟩
    obtain ⟨a, ha, hd⟩ := spots_all p t ⟨#[]⟩ (by rw [hu]; rfl)
    refine ⟨a, ha, ?_⟩
    have : a.data.toList = p := by simpa using hd
    rw [this, hu]
theorem nearT_mem {t : Tr} {s : ByteArray} : s ∈ nearT t ↔ ∃ u, Turn t u ∧ s = u.str := by
  have hp := insAll_perm (reachT t) []
  unfold nearT
  rw [hp.mem_iff, List.append_nil]
  unfold reachT
  rw [List.mem_append, turnL_mem, turnL_mem]
  constructor
  · rintro (⟨p, u, h, rfl⟩ | ⟨p, u, h, rfl⟩)
    · exact ⟨u, ⟨_, p, h⟩, rfl⟩
    · exact ⟨u, ⟨_, p, h⟩, rfl⟩
  · rintro ⟨u, ⟨k, p, h⟩, rfl⟩
    cases k with
    | false => exact Or.inl ⟨p, u, h, rfl⟩
    | true => exact Or.inr ⟨p, u, h, rfl⟩

/-- The trees of the neighbours' texts. -/
def nearL (t : Tr) : List Tr := (nearT t).map fun s => (treeOf s).getD .lf
theorem nearL_str {t : Tr} (ht : t.carets ≤ 8) : (nearL t).map Tr.str = nearT t := by
  unfold nearL
  rw [List.map_map]
  conv => rhs; rw [← List.map_id (nearT t)]
  refine List.map_congr_left fun s hs => ?_
  obtain ⟨u, hu, rfl⟩ := nearT_mem.1 hs
  have := hu.carets
  simp [treeOf_str u (by omega)]
theorem nearL_mem {t u : Tr} (ht : t.carets ≤ 8) : u ∈ nearL t ↔ Turn t u := by
  unfold nearL
  rw [List.mem_map]
  constructor
  · rintro ⟨s, hs, rfl⟩
    obtain ⟨u, hu, rfl⟩ := nearT_mem.1 hs
    have := hu.carets
    rw [treeOf_str u (by omega)]; exact hu
  · intro hu
    have := hu.carets
    exact ⟨u.str, nearT_mem.2 ⟨u, hu, rfl⟩, by rw [treeOf_str u (by omega)]; rfl⟩
theorem nearL_carets {t u : Tr} (ht : t.carets ≤ 8) (h : u ∈ nearL t) : u.carets = t.carets := ((nearL_mem ht).1 h).carets
theorem nearL_len (t : Tr) : (nearL t).length ≤ 2 * t.carets := by unfold nearL; rw [List.length_map]; exact nearT_len t

/-- A walk of so many turns. -/
def Wk : Nat → Tr → Tr → Prop
  | 0, a, b => a = b
  | n + 1, a, b => ∃ c, Wk n a c ∧ Turn c b
theorem Wk.carets : ∀ {n : Nat} {a b : Tr}, Wk n a b → b.carets = a.carets := by
  intro n
  induction n with
  | zero => intro a b h; rw [show a = b from h]
  | succ n ih => rintro a b ⟨c, h1, h2⟩; rw [h2.carets, ih h1]
theorem Wk.trans : ∀ {n : Nat} {m : Nat} {a b c : Tr}, Wk m a b → Wk n b c → Wk (m + n) a c := by
  intro n
  induction n with
  | zero => intro m a b c h k; rw [← (show b = c from k)]; exact h
  | succ n ih => rintro m a b c h ⟨d, k1, k2⟩; exact ⟨d, ih h k1, k2⟩
theorem Wk.one {a b : Tr} (h : Turn a b) : Wk 1 a b := ⟨a, rfl, h⟩
theorem Wk.back : ∀ {n : Nat} {a b : Tr}, Wk n a b → Wk n b a := by
  intro n
  induction n with
  | zero => intro a b h; exact (show a = b from h).symm
  | succ n ih => rintro a b ⟨c, h1, h2⟩; have := (Wk.one h2.back).trans (ih h1); rwa [Nat.add_comm] at this
theorem Wk.part : ∀ {n : Nat} {m : Nat} {a b : Tr}, Wk (m + n) a b → ∃ c, Wk m a c ∧ Wk n c b := by
  intro n
  induction n with
  | zero => intro m a b h; exact ⟨b, h, rfl⟩
  | succ n ih => rintro m a b ⟨d, h1, h2⟩; obtain ⟨c, k1, k2⟩ := ih h1; exact ⟨c, k1, d, k2, h2⟩
theorem nextT_turn {t u : Tr} (h : nextT t = some u) : Turn t u := by
  unfold nextT at h
  split at h
  · simp at h
  · next a _ _ => exact ⟨false, a.data.toList, h⟩
theorem wk_comb (n : Nat) : ∀ t : Tr, t.lw ≤ n → ∃ k, k ≤ t.lw ∧ Wk k t (combR8 t.carets) := by
  induction n with
  | zero =>
    intro t h
    cases g : nextT t with
    | none => exact ⟨0, Nat.zero_le _, nextT_none_comb g⟩
    | some u => have := nextT_lw g; omega
  | succ n ih =>
    intro t h
    cases g : nextT t with
    | none => exact ⟨0, Nat.zero_le _, nextT_none_comb g⟩
    | some u =>
      have h1 := nextT_lw g
      obtain ⟨k, hk1, hk⟩ := ih u (by omega)
      rw [nextT_carets g] at hk
      exact ⟨1 + k, by omega, (Wk.one (nextT_turn g)).trans hk⟩
theorem wk_ex9 {a b : Tr} (h : a.carets = b.carets) : ∃ n, n ≤ a.lw + b.lw ∧ Wk n a b := by
  obtain ⟨m, h1, hm⟩ := wk_comb _ a (Nat.le_refl _)
  obtain ⟨n, h2, hn⟩ := wk_comb _ b (Nat.le_refl _)
  rw [← h] at hn
  exact ⟨_, by omega, hm.trans hn.back⟩
theorem wk_ex {a b : Tr} (h : a.carets = b.carets) : ∃ n, Wk n a b := let ⟨n, _, hn⟩ := wk_ex9 h; ⟨n, hn⟩
theorem least_ex {P : Nat → Prop} (h : ∃ n, P n) : ∃ n, P n ∧ ∀ m, m < n → ¬ P m := by
  obtain ⟨n, hn⟩ := h
  induction n using Nat.strongRecOn with
  | _ n ih =>
    by_cases k : ∃ m, m < n ∧ P m
    · obtain ⟨m, h1, h2⟩ := k; exact ih m h1 h2
    · exact ⟨n, hn, fun m h1 h2 => k ⟨m, h1, h2⟩⟩
/-- The distance. -/
noncomputable def wkD (a b : Tr) : Nat := if h : a.carets = b.carets then Classical.choose (least_ex (wk_ex h)) else 0
theorem wkD_is {a b : Tr} (h : a.carets = b.carets) : Wk (wkD a b) a b ∧ ∀ m, m < wkD a b → ¬ Wk m a b := by
  unfold wkD; rw [dif_pos h]; exact Classical.choose_spec (least_ex (wk_ex h))

theorem wkD_le {a b : Tr} (h : a.carets = b.carets) : wkD a b ≤ a.lw + b.lw := by
  obtain ⟨n, h1, h2⟩ := wk_ex9 h
  rcases Nat.lt_or_ge n (wkD a b) with h3 | h3
  · exact absurd h2 ((wkD_is h).2 n h3)
  · omega
theorem wkD_le50 {a b : Tr} (h : a.carets = b.carets) (h5 : a.carets ≤ 5) : wkD a b ≤ 50 := by
  have h1 := wkD_le h
  have h2 := lw_le a
  have h3 := lw_le b
  have h4 : a.carets * a.carets ≤ 5 * 5 := Nat.mul_le_mul h5 h5
  rw [← h] at h3
  omega
/-- First reached with so many turns. -/
def Fst (n : Nat) (a b : Tr) : Prop := Wk n a b ∧ ∀ m, m < n → ¬ Wk m a b
theorem fst_some {a b : Tr} {d i : Nat} (h : Fst d a b) (hi : i ≤ d) : ∃ c, Fst i a c := by
  obtain ⟨n, rfl⟩ : ∃ n, d = i + n := ⟨d - i, by omega⟩
  obtain ⟨c, h1, h2⟩ := h.1.part
  exact ⟨c, h1, fun m hm k => h.2 (m + n) (by omega) (k.trans h2)⟩
theorem fst_succ {a t : Tr} {i : Nat} : Fst (i + 1) a t ↔ (∃ c, Fst i a c ∧ Turn c t) ∧ ∀ m, m ≤ i → ¬ Wk m a t := by
  constructor
  · rintro ⟨⟨c, h1, h2⟩, h3⟩
    exact ⟨⟨c, ⟨h1, fun m hm k => h3 (m + 1) (by omega) ⟨c, k, h2⟩⟩, h2⟩, fun m hm => h3 m (by omega)⟩
  · rintro ⟨⟨c, h1, h2⟩, h3⟩
    exact ⟨⟨c, h1.1, h2⟩, fun m hm => h3 m (by omega)⟩

theorem nodup_sub_len {α : Type} : ∀ {l m : List α}, l.Pairwise (· ≠ ·) → (∀ x ∈ l, x ∈ m) → l.length ≤ m.length := by
  intro l
  induction l with
  | nil => intro m _ _; simp
  | cons a l ih =>
    intro m h hs
    rw [List.pairwise_cons] at h
    obtain ⟨p, q, rfl⟩ := List.append_of_mem (hs a (by simp))
    have := ih (m := p ++ q) h.2 (fun x hx => by
      have h1 := hs x (by simp [hx])
      simp only [List.mem_append, List.mem_cons] at h1 ⊢
      rcases h1 with h1 | h1 | h1
      · exact Or.inl h1
      · exact absurd h1.symm (h.1 x hx)
      · exact Or.inr h1)
    simp only [List.length_append, List.length_cons] at this ⊢
    omega
end Go.Proofs.Ytllnfbenaeeloaa

/-! SpT -/
namespace Go.Proofs.Ytllnfbenaeeloaa
open Go.RowKit

theorem ltP_A9 : ltP 1 = qA := by rfl
theorem ltP_A9' : ltP (-1) = invP qA := by rfl
theorem ltP_B9 : ltP 2 = qB := by rfl
theorem ltP_B9' : ltP (-2) = invP qB := by rfl
theorem phi_mul8 {x : Int} (h0 : x ≠ 0) (h1 : -2 ≤ x) (h2 : x ≤ 2) (p : Pr) : phi (mulP p (ltP x)) ≤ phi p + 1 := by
  have h := phi_red _ (rawP p (ltP x)) rfl
  have hx : x = 1 ∨ x = -1 ∨ x = 2 ∨ x = -2 := by omega
  unfold mulP
  rcases hx with rfl | rfl | rfl | rfl
  · rw [ltP_A9] at *; have := phi_A p; omega
  · rw [ltP_A9'] at *; have := phi_A' p; omega
  · rw [ltP_B9] at *; have := phi_B p; omega
  · rw [ltP_B9'] at *; have := phi_B' p; omega
theorem phi_mul9 {j : Nat} (hj : j < 4) (p : Pr) : phi (mulP p (ltP (fourL.getD j 0))) ≤ phi p + 1 := by
  obtain ⟨f1, f2, f3⟩ := fourL_get j hj
  exact phi_mul8 f1 f2 f3 p
theorem rch_phi {n : Nat} {p : Pr} (h : Rch gL n p) : phi p ≤ n + 2 := by
  induction n generalizing p with
  | zero =>
    obtain ⟨w, _, hl, rfl⟩ := h
    rw [List.length_eq_zero_iff.1 hl]; show phi idP ≤ 2; decide
  | succ n ih =>
    obtain ⟨q, x, h1, h2, rfl⟩ := h.last
    have hq := ih h1
    obtain ⟨j, hj, rfl⟩ := four_iff.1 h2
    rw [gL_four hj]
    have := phi_mul9 hj q
    omega
/-- Pairs of spheres are so small that their texts are read back. -/
theorem sphL_eight {n : Nat} (hn : n ≤ 6) {p : Pr} (h : SphL n p) : okP p ∧ p.1.carets ≤ 8 ∧ p.2.carets ≤ 8 := by
  have h1 := rch_phi h.1
  have h2 := h.1.ok gL_ok
  have h3 := h2
  unfold phi at h1
  unfold okP at h3
  exact ⟨h2, by omega, by omega⟩
theorem near_eight {n j : Nat} (hn : n ≤ 5) {q : Pr} (h : SphL n q) (hj : j < 4) : okP (mulP q (ltP (fourL.getD j 0))) ∧ (mulP q (ltP (fourL.getD j 0))).1.carets ≤ 8 ∧ (mulP q (ltP (fourL.getD j 0))).2.carets ≤ 8 := by
  have h1 := rch_phi h.1
  have h2 := phi_mul9 hj q
  have h3 := mulP_ok (h.1.ok gL_ok) (ltP_ok (fourL.getD j 0)).1
  have h4 := h3
  unfold phi at h1 h2
  unfold okP at h4
  exact ⟨h3, by omega, by omega⟩

/-- The pairs of a sphere in the order of their texts. -/
structure SphS (r : Nat) (P : List Pr) : Prop where
  inc : IncS (P.map pTx)
  mem : ∀ p, p ∈ P ↔ SphL r p
theorem map_getD9 {P : List Pr} {i : Nat} (h : i < P.length) : (P.map pTx).getD i ⟨#[]⟩ = pTx (P.getD i idP) := by
  simp [List.getD_eq_getElem?_getD, h]
theorem SphS.nd {r : Nat} {P : List Pr} (h : SphS r P) : P.Pairwise (· ≠ ·) := by
  rw [List.pairwise_iff_getElem]
  intro i j hi hj hij e
  have h1 := h.inc.lt hij (by simpa using hj)
  rw [map_getD9 hi, map_getD9 hj] at h1
  have e1 : P.getD i idP = P[i] := by simp [List.getD_eq_getElem?_getD, hi]
  have e2 : P.getD j idP = P[j] := by simp [List.getD_eq_getElem?_getD, hj]
  rw [e1, e2, e] at h1
  exact ltB_irrefl _ h1
theorem SphS.len {r : Nat} {P : List Pr} (h : SphS r P) (hr : r ≤ 5) : P.length ≤ 1365 :=
  Nat.le_trans (nodup_sub_len h.nd (fun p hp => sph_list ((h.mem p).1 hp))) (sphList_len hr)
theorem SphS.zero : SphS 0 [idP] := ⟨fun i j hi hj => by simp at hj; omega, fun p => by
  rw [List.mem_singleton]; exact sph_zero.symm⟩
theorem mem_pTx {r : Nat} {P : List Pr} (h : SphS r P) (hr : r ≤ 5) {p : Pr} (h1 : okP p) (h2 : p.1.carets ≤ 8) : pTx p ∈ P.map pTx ↔ SphL r p := by
  rw [List.mem_map, ← h.mem]
  constructor
  · rintro ⟨q, hq, e⟩
    obtain ⟨k1, k2, _⟩ := sphL_eight (show r ≤ 6 by omega) ((h.mem q).1 hq)
    rw [← pTx_inj9 k1 k2 h1 h2 e]; exact hq
  · exact fun hp => ⟨p, hp, rfl⟩
/-- The texts of products of the first so many with letters, and of the next one with its first m letters. -/
def nextS (P : List Pr) (j m : Nat) : List ByteArray := ((P.take j).flatMap fun q => fourL.map fun x => pTx (mulP q (ltP x))) ++ (fourL.map fun x => pTx (mulP (P.getD j idP) (ltP x))).take m
theorem nextS_zero (P : List Pr) : nextS P 0 0 = [] := by simp [nextS]
theorem nextS_len (P : List Pr) (j m : Nat) : (nextS P j m).length ≤ 4 * P.length + 4 := by
  unfold nextS
  have h : ∀ Q : List Pr, (Q.flatMap fun q => fourL.map fun x => pTx (mulP q (ltP x))).length = 4 * Q.length := by
    intro Q
    induction Q with
    | nil => rfl
    | cons a L ih => simp only [List.flatMap_cons, List.length_append, List.length_map, List.length_cons]; rw [ih]; simp [fourL]; omega
  rw [List.length_append, h, List.length_take, List.length_take, List.length_map]
  show 4 * min j P.length + min m 4 ≤ _
  omega
theorem nextS_letter {P : List Pr} {j m : Nat} (hm : m < 4) : nextS P j (m + 1) = nextS P j m ++ [pTx (mulP (P.getD j idP) (ltP (fourL.getD m 0)))] := by
  unfold nextS
  rw [List.append_assoc]
  congr 1
  match m, hm with
  | 0, _ => rfl
  | 1, _ => rfl
  | 2, _ => rfl
  | 3, _ => rfl
theorem nextS_next {P : List Pr} {j : Nat} (hj : j < P.length) : nextS P j 4 = nextS P (j + 1) 0 := by
  unfold nextS
  rw [List.take_succ_eq_append_getElem hj, List.flatMap_append]
  simp [List.getD_eq_getElem?_getD, hj, fourL]
theorem nextS_mem {P : List Pr} (x : ByteArray) : x ∈ nextS P P.length 0 ↔ ∃ q i, q ∈ P ∧ i < 4 ∧ x = pTx (mulP q (ltP (fourL.getD i 0))) := by
  unfold nextS
  rw [List.take_length, List.take_zero, List.append_nil, List.mem_flatMap]
  constructor
  · rintro ⟨q, hq, hx⟩
    rw [List.mem_map] at hx
    obtain ⟨y, hy, rfl⟩ := hx
    obtain ⟨i, hi, e⟩ := List.mem_iff_getElem.1 hy
    exact ⟨q, i, hq, hi, by have : fourL.getD i 0 = y := by simp [List.getD_eq_getElem?_getD, hi, e]
                            rw [this]⟩
  · rintro ⟨q, i, hq, hi, rfl⟩
    refine ⟨q, hq, ?_⟩
    have hi' : i < fourL.length := hi
    exact List.mem_map.2 ⟨fourL.getD i 0, by simp [List.getD_eq_getElem?_getD, hi'], rfl⟩
/-- Of the first j texts those that are not kept out. -/
def keepS (out : ByteArray → Bool) (S : List ByteArray) (j : Nat) : List ByteArray := (S.take j).filter fun x => !out x
theorem keepS_succ (out : ByteArray → Bool) {S : List ByteArray} {j : Nat} (h : j < S.length) : keepS out S (j + 1) = keepS out S j ++ (if out (S.getD j ⟨#[]⟩) = true then [] else [S.getD j ⟨#[]⟩]) := by
  unfold keepS
  rw [take_snocS h, List.filter_append]
  congr 1
  by_cases h9 : out (S.getD j ⟨#[]⟩) = true
  · rw [if_pos h9]; simp only [List.filter_cons, h9, List.filter_nil]; rfl
  · rw [if_neg h9]; simp only [Bool.not_eq_true] at h9; simp only [List.filter_cons, h9, List.filter_nil]; rfl
theorem keepS_len (out : ByteArray → Bool) (S : List ByteArray) (j : Nat) : (keepS out S j).length ≤ S.length := Nat.le_trans (List.length_filter_le _ _) (by rw [List.length_take]; omega)
theorem inc_iff {S : List ByteArray} : IncS S ↔ S.Pairwise ltB := by
  rw [List.pairwise_iff_getElem]
  constructor
  · intro h i j hi hj hij
    have := h.lt hij hj
    simpa [List.getD_eq_getElem?_getD, hi, hj] using this
  · intro h i j hij hj
    have := h i j (by omega) hj hij
    show ltB _ _
    simpa [List.getD_eq_getElem?_getD, show i < S.length by omega, hj] using this
theorem keepS_inc (out : ByteArray → Bool) {S : List ByteArray} (h : IncS S) (j : Nat) : IncS (keepS out S j) := by
  rw [inc_iff] at *
  exact (h.sublist (List.take_sublist _ _)).filter _
/-- The next sphere. -/
theorem sphS_next {r : Nat} (hr : r ≤ 4) {P : List Pr} (hP : SphS r P) {out : ByteArray → Bool} (ho : ∀ p, okP p → p.1.carets ≤ 8 → p.2.carets ≤ 8 → (out (pTx p) = true ↔ SphL r p ∨ befL r p)) {S : List ByteArray} (hS : IncS S) (hm : ∀ x, x ∈ S ↔ x ∈ nextS P P.length 0) : ∃ Q, SphS (r + 1) Q ∧ Q.map pTx = keepS out S S.length := by
  have hback : ∀ x ∈ S, ∃ p, (okP p ∧ p.1.carets ≤ 8 ∧ p.2.carets ≤ 8) ∧ Near4 (SphL r) p ∧ x = pTx p := by
    intro x hx
    obtain ⟨q, i, hq, hi, rfl⟩ := (nextS_mem x).1 ((hm x).1 hx)
    have hq' := (hP.mem q).1 hq
    exact ⟨_, near_eight (by omega) hq' hi, ⟨q, i, hq', hi, rfl⟩, rfl⟩
  have hcut : ∀ x ∈ S, pTx ((cutP x).getD idP) = x := by
    intro x hx
    obtain ⟨p, ⟨h1, h2, _⟩, _, rfl⟩ := hback x hx
    rw [cut_pTx9 h1 h2]; rfl
  have hQ : ((keepS out S S.length).map fun x => (cutP x).getD idP).map pTx = keepS out S S.length := by
    rw [List.map_map]
    conv => rhs; rw [← List.map_id (keepS out S S.length)]
    refine List.map_congr_left fun x hx => hcut x ?_
    unfold keepS at hx
    rw [List.take_length] at hx
    exact (List.mem_filter.1 hx).1
  refine ⟨(keepS out S S.length).map fun x => (cutP x).getD idP, ⟨by rw [hQ]; exact keepS_inc out hS _, fun p => ?_⟩, hQ⟩
  have hstep : SphL (r + 1) p ↔ Near4 (SphL r) p ∧ ¬ SphL r p ∧ ¬ befL r p := by
    show Sph gL (r + 1) p ↔ _
    rw [sph_step gL_ok gL_neg, near_iff]
    refine and_congr_right fun _ => and_congr_right fun _ => ⟨fun h ⟨m, e, k⟩ => h m e k, fun h m e k => h ⟨m, e, k⟩⟩
  rw [hstep, List.mem_map]
  unfold keepS
  rw [List.take_length]
  constructor
  · rintro ⟨x, hx, rfl⟩
    obtain ⟨hx1, hx2⟩ := List.mem_filter.1 hx
    obtain ⟨p, ⟨h1, h2, h3⟩, h4, rfl⟩ := hback x hx1
    rw [cut_pTx9 h1 h2]
    have h5 := ho p h1 h2 h3
    simp only [Option.getD_some]
    refine ⟨h4, fun h => ?_, fun h => ?_⟩
    · rw [h5.2 (Or.inl h)] at hx2; simp at hx2
    · rw [h5.2 (Or.inr h)] at hx2; simp at hx2
  · rintro ⟨⟨q, i, h1, h2, rfl⟩, h3, h4⟩
    obtain ⟨k1, k2, k3⟩ := near_eight (show r ≤ 5 by omega) h1 h2
    refine ⟨pTx (mulP q (ltP (fourL.getD i 0))), List.mem_filter.2 ⟨(hm _).2 ((nextS_mem _).2 ⟨q, i, (hP.mem q).2 h1, h2, rfl⟩), ?_⟩, by rw [cut_pTx9 k1 k2]; rfl⟩
    cases h9 : out (pTx (mulP q (ltP (fourL.getD i 0)))) with
    | false => rfl
    | true =>
      rcases (ho _ k1 k2 k3).1 h9 with h | h
      · exact absurd h h3
      · exact absurd h h4
end Go.Proofs.Ytllnfbenaeeloaa
