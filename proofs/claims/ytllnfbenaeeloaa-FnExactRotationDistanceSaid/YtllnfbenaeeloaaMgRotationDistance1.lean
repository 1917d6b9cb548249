/- Texts that the claim needs, part 2. -/
import Derived.Test.YtllnfbenaeeloaaMgRotationDistance0
import Derived.Maps.AppendAt
import Derived.Laws.AppendOwnNone
import Derived.Lib.AppendZeros
import Derived.Deep.RegionWith
import Derived.Deep.AppendLies
import Derived.Lib.SmallJoins
/-! Br1 -/
namespace Go.Proofs.Ytllnfbenaeeloaa
open Go.RowKit

theorem below_two9 {w w' : World} (hb : Below w.heap.size w w') {b : Nat} {u v : Value} (h1 : w.cell? ⟨b, 0, none⟩ = some u) (h2 : w.cell? ⟨b, 1, none⟩ = some v) : w'.cell? ⟨b, 0, none⟩ = some u ∧ w'.cell? ⟨b, 1, none⟩ = some v :=
  ⟨(hb.cell (p := ⟨b, 0, none⟩) (World.block_lt_of_cell? w _ h1)).trans h1, (hb.cell (p := ⟨b, 1, none⟩) (World.block_lt_of_cell? w _ h2)).trans h2⟩

set_option maxRecDepth 100000 in
theorem brRotate_any (k : Bool) (t : Tr) (w : World) (ht : t.carets ≤ 60) :
    Calls Try.prog 86 #[.string t.str, .bool k] w (Gives (ansV (t.rot k)) w) := by
  cases t with
  | lf =>
    rw [rot_lf]
    go_enter Try.func86, Try.ntmps86
    go_wp2_with fail
    refine (trLeaf_any .lf _).mono ?_; rintro e w1 ⟨rfl, rfl⟩
    simp only [Tr.isLf]
    go_wp2_with fail
    go_ret2
    exact ⟨rfl, Below.refl _ _⟩
  | nd l r =>
    have hc : l.carets + r.carets + 1 ≤ 60 := ht
    cases k with
    | true =>
      cases r with
      | lf =>
        rw [show (Tr.nd l .lf).rot true = none by cases l <;> rfl]
        go_enter Try.func86, Try.ntmps86
        go_wp2_with fail
        refine (trLeaf_any (.nd l .lf) _).mono ?_; rintro e w1 ⟨rfl, rfl⟩
        simp only [Tr.isLf]
        go_wp2_with fail
        refine (trSides_any l .lf _ (by omega)).mono ?_; rintro e w1 ⟨rfl, hb1⟩
        go_wp2_with fail
        refine (trLeaf_any .lf _).mono ?_; rintro e w2 ⟨rfl, rfl⟩
        simp only [Tr.isLf]
        go_wp2_with fail
        go_ret2
        exact ⟨rfl, hb1⟩
      | nd p q =>
        have hd : p.carets + q.carets + 1 ≤ 59 := by simp only [Tr.carets] at hc; omega
        have hl : l.carets ≤ 60 := by omega
        rw [show (Tr.nd l (.nd p q)).rot true = some (.nd (.nd l p) q) by rfl]
        go_enter Try.func86, Try.ntmps86
        go_wp2_with fail
        refine (trLeaf_any (.nd l (.nd p q)) _).mono ?_; rintro e w1 ⟨rfl, rfl⟩
        simp only [Tr.isLf]
        go_wp2_with fail
        refine (trSides_any l (.nd p q) _ (by omega)).mono ?_; rintro e w1 ⟨rfl, hb1⟩
        go_wp2_with fail
        refine (trLeaf_any (.nd p q) _).mono ?_; rintro e w2 ⟨rfl, rfl⟩
        simp only [Tr.isLf]
        go_wp2_with fail
        refine (trSides_any p q _ (by omega)).mono ?_; rintro e w2 ⟨rfl, hb2⟩
        go_wp2_with fail
        refine (trOf_any l p _ (by omega)).mono ?_; rintro e w3 ⟨rfl, rfl⟩
        go_wp2_with fail
        refine (trOf_any (.nd l p) q _ (by simp only [Tr.carets]; omega)).mono ?_; rintro e w4 ⟨rfl, rfl⟩
        go_wp2_with fail
        go_ret2
        exact ⟨rfl, nx hb1 hb2⟩
    | false =>
      cases l with
      | lf =>
        rw [show (Tr.nd .lf r).rot false = none by cases r <;> rfl]
        go_enter Try.func86, Try.ntmps86
        go_wp2_with fail
        refine (trLeaf_any (.nd .lf r) _).mono ?_; rintro e w1 ⟨rfl, rfl⟩
        simp only [Tr.isLf]
        go_wp2_with fail
        refine (trSides_any .lf r _ (by omega)).mono ?_; rintro e w1 ⟨rfl, hb1⟩
        go_wp2_with fail
        refine (trLeaf_any .lf _).mono ?_; rintro e w2 ⟨rfl, rfl⟩
        simp only [Tr.isLf]
        go_wp2_with fail
        go_ret2
        exact ⟨rfl, hb1⟩
      | nd p q =>
        have hd : p.carets + q.carets + 1 ≤ 59 := by simp only [Tr.carets] at hc; omega
        have hl : r.carets ≤ 60 := by omega
        rw [show (Tr.nd (.nd p q) r).rot false = some (.nd p (.nd q r)) by rfl]
        go_enter Try.func86, Try.ntmps86
        go_wp2_with fail
        refine (trLeaf_any (.nd (.nd p q) r) _).mono ?_; rintro e w1 ⟨rfl, rfl⟩
        simp only [Tr.isLf]
        go_wp2_with fail
        refine (trSides_any (.nd p q) r _ (by omega)).mono ?_; rintro e w1 ⟨rfl, hb1⟩
        go_wp2_with fail
        refine (trLeaf_any (.nd p q) _).mono ?_; rintro e w2 ⟨rfl, rfl⟩
        simp only [Tr.isLf]
        go_wp2_with fail
        refine (trSides_any p q _ (by omega)).mono ?_; rintro e w2 ⟨rfl, hb2⟩
        go_wp2_with fail
        refine (trOf_any q r _ (by omega)).mono ?_; rintro e w3 ⟨rfl, rfl⟩
        go_wp2_with fail
        refine (trOf_any p (.nd q r) _ (by simp only [Tr.carets]; omega)).mono ?_; rintro e w4 ⟨rfl, rfl⟩
        go_wp2_with fail
        go_ret2
        exact ⟨rfl, nx hb1 hb2⟩

/-- What a turn hands back: a node of the tree, or none. -/
def RotP (o : Option Tr) (w : World) (e : Ending) (w' : World) : Prop :=
  match o with
  | some u => ∃ b, NodeAt w' u b ∧ Below w.heap.size w w' ∧ e = .returned (.pointer (some ⟨b, 0, none⟩))
  | none => Below w.heap.size w w' ∧ e = .returned (.pointer none)


set_option maxRecDepth 100000 in
set_option maxHeartbeats 1000000 in
theorem rotated_any (t : Tr) (b : Nat) (w : World) (h : NodeAt w t b) :
    Calls Try.prog 93 #[.pointer (some ⟨b, 0, none⟩)] w (RotP (t.rot false) w) := by
  have H := Lib.hid h
  cases t with
  | lf =>
    rw [rot_lf]
    clear h
    go_enter Try.func93, Try.ntmps93
    go_wp2_with fail
    refine (isLeaf_any .lf b _ H.out).mono ?_; rintro e w1 ⟨rfl, rfl⟩
    simp only [Tr.isLf]
    go_wp2_with fail
    go_ret
    exact ⟨Below.refl _ _, rfl⟩
  | nd l r =>
    obtain ⟨bl, br, h, hl, hr⟩ := h
    have h1 := two_left h
    have h2 := two_right h
    have HL := Lib.hid hl
    have HR := Lib.hid hr
    clear h hl hr
    cases l with
    | lf =>
      rw [show (Tr.nd .lf r).rot false = none by cases r <;> rfl]
      go_enter Try.func93, Try.ntmps93
      go_wp2_with fail
      refine (isLeaf_any _ b _ H.out).mono ?_; rintro e w1 ⟨rfl, rfl⟩
      simp only [Tr.isLf]
      go_wp2_with fail
      refine (isLeaf_any .lf bl _ HL.out).mono ?_; rintro e w1 ⟨rfl, rfl⟩
      simp only [Tr.isLf]
      go_wp2_with fail
      go_ret
      exact ⟨Below.refl _ _, rfl⟩
    | nd p q =>
      rw [show (Tr.nd (.nd p q) r).rot false = some (.nd p (.nd q r)) by rfl]
      obtain ⟨cp, cq, kk, kp, kq⟩ := HL.out
      have k1 := two_left kk
      have k2 := two_right kk
      have KP := Lib.hid kp
      have KQ := Lib.hid kq
      clear kk kp kq
      have hb0 := (Below.refl w.heap.size w).drew
      have A0' : Hid (∀ w', Below w.heap.size w w' → (fun (w' : World) => w'.cell? ⟨b, 0, none⟩ = some (.pointer (some ⟨bl, 0, none⟩)) ∧ w'.cell? ⟨b, 1, none⟩ = some (.pointer (some ⟨br, 0, none⟩)) ∧ w'.cell? ⟨bl, 0, none⟩ = some (.pointer (some ⟨cp, 0, none⟩)) ∧ w'.cell? ⟨bl, 1, none⟩ = some (.pointer (some ⟨cq, 0, none⟩))) w') := fun w' hb => ⟨(below_two9 hb h1 h2).1, (below_two9 hb h1 h2).2, (below_two9 hb k1 k2).1, (below_two9 hb k1 k2).2⟩
      go_enter Try.func93, Try.ntmps93
      go_wp2_with fail
      refine (isLeaf_any _ b _ H.out).mono ?_; rintro e w1 ⟨rfl, rfl⟩
      simp only [Tr.isLf]
      go_wp2_with fail
      refine (isLeaf_any (.nd p q) bl _ HL.out).mono ?_; rintro e w1 ⟨rfl, rfl⟩
      simp only [Tr.isLf]
      go_wp2_with fail
      refine wp_region_held_drew (S := (fun (w' : World) => w'.cell? ⟨b, 0, none⟩ = some (.pointer (some ⟨bl, 0, none⟩)) ∧ w'.cell? ⟨b, 1, none⟩ = some (.pointer (some ⟨br, 0, none⟩)) ∧ w'.cell? ⟨bl, 0, none⟩ = some (.pointer (some ⟨cp, 0, none⟩)) ∧ w'.cell? ⟨bl, 1, none⟩ = some (.pointer (some ⟨cq, 0, none⟩)))) (by kernel_rfl) ⟨h1, h2, k1, k2⟩ (fun hH0 => ?_)
      refine wpAnyH_take (i := 0) (oi := ?oi201) (v := ?vv201) ?hi201 ?hn201 ?hf201 ?hr201 ?hq201 (Or.inl ⟨?hg201, ?hy201⟩) hH0 ?rest201
      case hi201 => (simp only [List.getElem?_toArray, List.getElem?_cons_zero]; rfl)
      case hn201 => kernel_rfl
      case hf201 => kernel_rfl
      case hr201 => kernel_rfl
      case hg201 => rfl
      case hy201 => (intro w hSw; (try dsimp only at hSw); go_simp; first | done | with_reducible rfl)
      case hq201 => exact fun _ _ _ h => h
      try dsimp only [Act.put]
      refine wpAnyH_take (i := 1) (oi := ?oi202) (v := ?vv202) ?hi202 ?hn202 ?hf202 ?hr202 ?hq202 (Or.inl ⟨?hg202, ?hy202⟩) hH0 ?rest202
      case hi202 => (simp only [List.getElem?_toArray, List.getElem?_cons_succ, List.getElem?_cons_zero]; rfl)
      case hn202 => kernel_rfl
      case hf202 => kernel_rfl
      case hr202 => kernel_rfl
      case hg202 => rfl
      case hy202 => (intro w hSw; (try dsimp only at hSw); go_simp; first | done | with_reducible rfl)
      case hq202 => exact fun _ _ _ h => h
      try dsimp only [Act.put]
      refine wpAnyH_take (i := 2) (oi := ?oi203) (v := ?vv203) ?hi203 ?hn203 ?hf203 ?hr203 ?hq203 (Or.inl ⟨?hg203, ?hy203⟩) hH0 ?rest203
      case hi203 => (simp only [List.getElem?_toArray, List.getElem?_cons_succ, List.getElem?_cons_zero]; rfl)
      case hn203 => kernel_rfl
      case hf203 => kernel_rfl
      case hr203 => kernel_rfl
      case hg203 => rfl
      case hy203 => (intro w hSw; (try dsimp only at hSw); go_simp; first | done | with_reducible rfl)
      case hq203 => exact fun _ _ _ h => h
      try dsimp only [Act.put]
      refine wpAnyH_take (i := 3) (oi := ?oi204) (v := ?vv204) ?hi204 ?hn204 ?hf204 ?hr204 ?hq204 (Or.inl ⟨?hg204, ?hy204⟩) hH0 ?rest204
      case hi204 => (simp only [List.getElem?_toArray, List.getElem?_cons_succ, List.getElem?_cons_zero]; rfl)
      case hn204 => kernel_rfl
      case hf204 => kernel_rfl
      case hr204 => kernel_rfl
      case hg204 => rfl
      case hy204 => (intro w hSw; (try dsimp only at hSw); go_simp; first | done | with_reducible rfl)
      case hq204 => exact fun _ _ _ h => h
      try dsimp only [Act.put]
      refine wpAnyH_take (i := 4) (oi := ?oi205) (v := ?vv205) ?hi205 ?hn205 ?hf205 ?hr205 ?hq205 (Or.inl ⟨?hg205, ?hy205⟩) hH0 ?rest205
      case hi205 => (simp only [List.getElem?_toArray, List.getElem?_cons_succ, List.getElem?_cons_zero]; rfl)
      case hn205 => kernel_rfl
      case hf205 => kernel_rfl
      case hr205 => kernel_rfl
      case hg205 => rfl
      case hy205 => (intro w hSw; (try dsimp only at hSw); go_simp; first | done | with_reducible rfl)
      case hq205 => exact fun _ _ _ h => h
      try dsimp only [Act.put]
      refine wpAnyH_take (i := 5) (oi := ?oi206) (v := ?vv206) ?hi206 ?hn206 ?hf206 ?hr206 ?hq206 (Or.inl ⟨?hg206, ?hy206⟩) hH0 ?rest206
      case hi206 => (simp only [List.getElem?_toArray, List.getElem?_cons_succ, List.getElem?_cons_zero]; rfl)
      case hn206 => kernel_rfl
      case hf206 => kernel_rfl
      case hr206 => kernel_rfl
      case hg206 => rfl
      case hy206 => (intro w hSw; (try dsimp only at hSw); go_simp; first | done | with_reducible rfl)
      case hq206 => exact fun _ _ _ h => h
      try dsimp only [Act.put]
      refine wpAnyH_take (i := 6) (oi := ?oi207) (v := ?vv207) ?hi207 ?hn207 ?hf207 ?hr207 ?hq207 (Or.inl ⟨?hg207, ?hy207⟩) hH0 ?rest207
      case hi207 => (simp only [List.getElem?_toArray, List.getElem?_cons_succ, List.getElem?_cons_zero]; rfl)
      case hn207 => kernel_rfl
      case hf207 => kernel_rfl
      case hr207 => kernel_rfl
      case hg207 => rfl
      case hy207 => (intro w hSw; (try dsimp only at hSw); go_simp; first | done | with_reducible rfl)
      case hq207 => exact fun _ _ _ h => h
      try dsimp only [Act.put]
      refine wpAnyH_take (i := 7) (oi := ?oi208) (v := ?vv208) ?hi208 ?hn208 ?hf208 ?hr208 ?hq208 (Or.inl ⟨?hg208, ?hy208⟩) hH0 ?rest208
      case hi208 => (simp only [List.getElem?_toArray, List.getElem?_cons_succ, List.getElem?_cons_zero]; rfl)
      case hn208 => kernel_rfl
      case hf208 => kernel_rfl
      case hr208 => kernel_rfl
      case hg208 => rfl
      case hy208 => (intro w hSw; (try dsimp only at hSw); go_simp; first | done | with_reducible rfl)
      case hq208 => exact fun _ _ _ h => h
      try dsimp only [Act.put]
      refine wpAnyH_take (i := 8) (oi := ?oi209) (v := ?vv209) ?hi209 ?hn209 ?hf209 ?hr209 ?hq209 (Or.inl ⟨?hg209, ?hy209⟩) hH0 ?rest209
      case hi209 => (simp only [List.getElem?_toArray, List.getElem?_cons_succ, List.getElem?_cons_zero]; rfl)
      case hn209 => kernel_rfl
      case hf209 => kernel_rfl
      case hr209 => kernel_rfl
      case hg209 => rfl
      case hy209 => (intro w hSw; (try dsimp only at hSw); go_simp; first | done | with_reducible rfl)
      case hq209 => exact fun _ _ _ h => h
      try dsimp only [Act.put]
      refine wpAnyH_take (i := 9) (oi := ?oi210) (v := ?vv210) ?hi210 ?hn210 ?hf210 ?hr210 ?hq210 (Or.inl ⟨?hg210, ?hy210⟩) hH0 ?rest210
      case hi210 => (simp only [List.getElem?_toArray, List.getElem?_cons_succ, List.getElem?_cons_zero]; rfl)
      case hn210 => kernel_rfl
      case hf210 => kernel_rfl
      case hr210 => kernel_rfl
      case hg210 => rfl
      case hy210 => (intro w hSw; (try dsimp only at hSw); go_simp; first | done | with_reducible rfl)
      case hq210 => exact fun _ _ _ h => h
      try dsimp only [Act.put]
      refine wpAnyH_take (i := 10) (oi := ?oi211) (v := ?vv211) ?hi211 ?hn211 ?hf211 ?hr211 ?hq211 (Or.inl ⟨?hg211, ?hy211⟩) hH0 ?rest211
      case hi211 => (simp only [List.getElem?_toArray, List.getElem?_cons_succ, List.getElem?_cons_zero]; rfl)
      case hn211 => kernel_rfl
      case hf211 => kernel_rfl
      case hr211 => kernel_rfl
      case hg211 => rfl
      case hy211 => (intro w hSw; (try dsimp only at hSw); go_simp; first | done | with_reducible rfl)
      case hq211 => exact fun _ _ _ h => h
      try dsimp only [Act.put]
      refine wpAnyH_take (i := 11) (oi := ?oi212) (v := ?vv212) ?hi212 ?hn212 ?hf212 ?hr212 ?hq212 (Or.inl ⟨?hg212, ?hy212⟩) hH0 ?rest212
      case hi212 => (simp only [List.getElem?_toArray, List.getElem?_cons_succ, List.getElem?_cons_zero]; rfl)
      case hn212 => kernel_rfl
      case hf212 => kernel_rfl
      case hr212 => kernel_rfl
      case hg212 => rfl
      case hy212 => (intro w hSw; (try dsimp only at hSw); go_simp; first | done | with_reducible rfl)
      case hq212 => exact fun _ _ _ h => h
      try dsimp only [Act.put]
      refine wpAnyH_take (i := 12) (oi := ?oi213) (v := ?vv213) ?hi213 ?hn213 ?hf213 ?hr213 ?hq213 (Or.inl ⟨?hg213, ?hy213⟩) hH0 ?rest213
      case hi213 => (simp only [List.getElem?_toArray, List.getElem?_cons_succ, List.getElem?_cons_zero]; rfl)
      case hn213 => kernel_rfl
      case hf213 => kernel_rfl
      case hr213 => kernel_rfl
      case hg213 => rfl
      case hy213 => (intro w hSw; (try dsimp only at hSw); go_simp; first | done | with_reducible rfl)
      case hq213 => exact fun _ _ _ h => h
      try dsimp only [Act.put]
      refine wpAnyH_take (i := 13) (oi := ?oi214) (v := ?vv214) ?hi214 ?hn214 ?hf214 ?hr214 ?hq214 (Or.inl ⟨?hg214, ?hy214⟩) hH0 ?rest214
      case hi214 => (simp only [List.getElem?_toArray, List.getElem?_cons_succ, List.getElem?_cons_zero]; rfl)
      case hn214 => kernel_rfl
      case hf214 => kernel_rfl
      case hr214 => kernel_rfl
      case hg214 => rfl
      case hy214 => (intro w hSw; (try dsimp only at hSw); go_simp; first | done | with_reducible rfl)
      case hq214 => exact fun _ _ _ h => h
      try dsimp only [Act.put]
      refine wpAnyH_take (i := 14) (oi := ?oi215) (v := ?vv215) ?hi215 ?hn215 ?hf215 ?hr215 ?hq215 (Or.inl ⟨?hg215, ?hy215⟩) hH0 ?rest215
      case hi215 => (simp only [List.getElem?_toArray, List.getElem?_cons_succ, List.getElem?_cons_zero]; rfl)
      case hn215 => kernel_rfl
      case hf215 => kernel_rfl
      case hr215 => kernel_rfl
      case hg215 => rfl
      case hy215 => (intro w hSw; (try dsimp only at hSw); go_simp; first | done | with_reducible rfl)
      case hq215 => exact fun _ _ _ h => h
      try dsimp only [Act.put]
      refine wpAnyH_take (i := 15) (oi := ?oi216) (v := ?vv216) ?hi216 ?hn216 ?hf216 ?hr216 ?hq216 (Or.inl ⟨?hg216, ?hy216⟩) hH0 ?rest216
      case hi216 => (simp only [List.getElem?_toArray, List.getElem?_cons_succ, List.getElem?_cons_zero]; rfl)
      case hn216 => kernel_rfl
      case hf216 => kernel_rfl
      case hr216 => kernel_rfl
      case hg216 => rfl
      case hy216 => (intro w hSw; (try dsimp only at hSw); go_simp; first | done | with_reducible rfl)
      case hq216 => exact fun _ _ _ h => h
      try dsimp only [Act.put]
      refine wpAnyH_take (i := 16) (oi := ?oi217) (v := ?vv217) ?hi217 ?hn217 ?hf217 ?hr217 ?hq217 (Or.inl ⟨?hg217, ?hy217⟩) hH0 ?rest217
      case hi217 => (simp only [List.getElem?_toArray, List.getElem?_cons_succ, List.getElem?_cons_zero]; rfl)
      case hn217 => kernel_rfl
      case hf217 => kernel_rfl
      case hr217 => kernel_rfl
      case hg217 => rfl
      case hy217 => (intro w hSw; (try dsimp only at hSw); go_simp; first | done | with_reducible rfl)
      case hq217 => exact fun _ _ _ h => h
      try dsimp only [Act.put]
      refine wpAnyH_take (i := 17) (oi := ?oi218) (v := ?vv218) ?hi218 ?hn218 ?hf218 ?hr218 ?hq218 (Or.inl ⟨?hg218, ?hy218⟩) hH0 ?rest218
      case hi218 => (simp only [List.getElem?_toArray, List.getElem?_cons_succ, List.getElem?_cons_zero]; rfl)
      case hn218 => kernel_rfl
      case hf218 => kernel_rfl
      case hr218 => kernel_rfl
      case hg218 => rfl
      case hy218 => (intro w hSw; (try dsimp only at hSw); go_simp; first | done | with_reducible rfl)
      case hq218 => exact fun _ _ _ h => h
      try dsimp only [Act.put]
      refine wpAnyH_take (i := 18) (oi := ?oi219) (v := ?vv219) ?hi219 ?hn219 ?hf219 ?hr219 ?hq219 (Or.inl ⟨?hg219, ?hy219⟩) hH0 ?rest219
      case hi219 => (simp only [List.getElem?_toArray, List.getElem?_cons_succ, List.getElem?_cons_zero]; rfl)
      case hn219 => kernel_rfl
      case hf219 => kernel_rfl
      case hr219 => kernel_rfl
      case hg219 => rfl
      case hy219 => (intro w hSw; (try dsimp only at hSw); go_simp; first | done | with_reducible rfl)
      case hq219 => exact fun _ _ _ h => h
      try dsimp only [Act.put]
      refine held_one 19 rfl (by kernel_rfl) (fun K hK => ?_)
      go_simp
      
      go_wp2_with fail
      have hH1 : (fun (w' : World) => w'.cell? ⟨b, 0, none⟩ = some (.pointer (some ⟨bl, 0, none⟩)) ∧ w'.cell? ⟨b, 1, none⟩ = some (.pointer (some ⟨br, 0, none⟩)) ∧ w'.cell? ⟨bl, 0, none⟩ = some (.pointer (some ⟨cp, 0, none⟩)) ∧ w'.cell? ⟨bl, 1, none⟩ = some (.pointer (some ⟨cq, 0, none⟩))) _ := A0'.out (w.drew.alloc (.cells #[.pointer (some ⟨cq, 0, none⟩), .pointer (some ⟨br, 0, none⟩)] 128 (0, 0))) (nxAlloc hb0 _)
      refine hK.out (fun (w' : World) => w'.cell? ⟨b, 0, none⟩ = some (.pointer (some ⟨bl, 0, none⟩)) ∧ w'.cell? ⟨b, 1, none⟩ = some (.pointer (some ⟨br, 0, none⟩)) ∧ w'.cell? ⟨bl, 0, none⟩ = some (.pointer (some ⟨cp, 0, none⟩)) ∧ w'.cell? ⟨bl, 1, none⟩ = some (.pointer (some ⟨cq, 0, none⟩))) _ _ (fun _ h => h) hH1 ?_
      clear hK K
      try dsimp only [Act.put]
      refine wpAnyH_take (i := 20) (oi := ?oi220) (v := ?vv220) ?hi220 ?hn220 ?hf220 ?hr220 ?hq220 (Or.inl ⟨?hg220, ?hy220⟩) hH1 ?rest220
      case hi220 => (simp only [List.getElem?_toArray, List.getElem?_cons_succ, List.getElem?_cons_zero]; rfl)
      case hn220 => kernel_rfl
      case hf220 => kernel_rfl
      case hr220 => kernel_rfl
      case hg220 => rfl
      case hy220 => (intro w hSw; (try dsimp only at hSw); go_simp; first | done | with_reducible rfl)
      case hq220 => exact fun _ _ _ h => h
      try dsimp only [Act.put]
      refine held_one 21 rfl (by kernel_rfl) (fun K hK => ?_)
      go_simp
      
      go_wp2_with fail
      have hH2 : (fun (w' : World) => w'.cell? ⟨b, 0, none⟩ = some (.pointer (some ⟨bl, 0, none⟩)) ∧ w'.cell? ⟨b, 1, none⟩ = some (.pointer (some ⟨br, 0, none⟩)) ∧ w'.cell? ⟨bl, 0, none⟩ = some (.pointer (some ⟨cp, 0, none⟩)) ∧ w'.cell? ⟨bl, 1, none⟩ = some (.pointer (some ⟨cq, 0, none⟩))) _ := A0'.out ((w.drew.alloc (.cells #[.pointer (some ⟨cq, 0, none⟩), .pointer (some ⟨br, 0, none⟩)] 128 (0, 0))).alloc (.cells #[.pointer (some ⟨cp, 0, none⟩), .pointer (some ⟨w.heap.size, 0, none⟩)] 128 (0, 0))) (nxAlloc (nxAlloc hb0 _) _)
      refine hK.out (fun (w' : World) => w'.cell? ⟨b, 0, none⟩ = some (.pointer (some ⟨bl, 0, none⟩)) ∧ w'.cell? ⟨b, 1, none⟩ = some (.pointer (some ⟨br, 0, none⟩)) ∧ w'.cell? ⟨bl, 0, none⟩ = some (.pointer (some ⟨cp, 0, none⟩)) ∧ w'.cell? ⟨bl, 1, none⟩ = some (.pointer (some ⟨cq, 0, none⟩))) _ _ (fun _ h => h) hH2 ?_
      clear hK K
      try dsimp only [Act.put]
      refine wpAnyH_take (i := 22) (oi := ?oi221) (v := ?vv221) ?hi221 ?hn221 ?hf221 ?hr221 ?hq221 (Or.inl ⟨?hg221, ?hy221⟩) hH2 ?rest221
      case hi221 => (simp only [List.getElem?_toArray, List.getElem?_cons_succ, List.getElem?_cons_zero]; rfl)
      case hn221 => kernel_rfl
      case hf221 => kernel_rfl
      case hr221 => kernel_rfl
      case hg221 => rfl
      case hy221 => (intro w hSw; (try dsimp only at hSw); go_simp; first | done | with_reducible rfl)
      case hq221 => exact fun _ _ _ h => h
      try dsimp only [Act.put]
      refine wpAnyH_done (by kernel_rfl) ?_ _
      simp only [List.setIfInBounds_toArray, List.set_cons_zero, List.set_cons_succ]
      have hN := node_new KP.out (nxAlloc hb0 _) (node_new KQ.out hb0 (HR.out.keep hb0))
      have hsz : (w.drew.alloc (.cells #[.pointer (some ⟨cq, 0, none⟩), .pointer (some ⟨br, 0, none⟩)] 128 (0, 0))).heap.size = w.heap.size + 1 := by simp
      rw [hsz] at hN
      have HN := Lib.hid hN
      clear hN hsz
      go_wp2_with fail
      go_ret
      exact ⟨_, HN.out, nxAlloc (nxAlloc hb0 _) _, rfl⟩

set_option maxRecDepth 100000 in
set_option maxHeartbeats 1000000 in
theorem rotatedBack_any (t : Tr) (b : Nat) (w : World) (h : NodeAt w t b) :
    Calls Try.prog 94 #[.pointer (some ⟨b, 0, none⟩)] w (RotP (t.rot true) w) := by
  have H := Lib.hid h
  cases t with
  | lf =>
    rw [rot_lf]
    clear h
    go_enter Try.func94, Try.ntmps94
    go_wp2_with fail
    refine (isLeaf_any .lf b _ H.out).mono ?_; rintro e w1 ⟨rfl, rfl⟩
    simp only [Tr.isLf]
    go_wp2_with fail
    go_ret
    exact ⟨Below.refl _ _, rfl⟩
  | nd l r =>
    obtain ⟨bl, br, h, hl, hr⟩ := h
    have h1 := two_left h
    have h2 := two_right h
    have HL := Lib.hid hl
    have HR := Lib.hid hr
    clear h hl hr
    cases r with
    | lf =>
      rw [show (Tr.nd l .lf).rot true = none by cases l <;> rfl]
      go_enter Try.func94, Try.ntmps94
      go_wp2_with fail
      refine (isLeaf_any _ b _ H.out).mono ?_; rintro e w1 ⟨rfl, rfl⟩
      simp only [Tr.isLf]
      go_wp2_with fail
      refine (isLeaf_any .lf br _ HR.out).mono ?_; rintro e w1 ⟨rfl, rfl⟩
      simp only [Tr.isLf]
      go_wp2_with fail
      go_ret
      exact ⟨Below.refl _ _, rfl⟩
    | nd p q =>
      rw [show (Tr.nd l (.nd p q)).rot true = some (.nd (.nd l p) q) by rfl]
      obtain ⟨cp, cq, kk, kp, kq⟩ := HR.out
      have k1 := two_left kk
      have k2 := two_right kk
      have KP := Lib.hid kp
      have KQ := Lib.hid kq
      clear kk kp kq
      have hb0 := (Below.refl w.heap.size w).drew
      have A0' : Hid (∀ w', Below w.heap.size w w' → (fun (w' : World) => w'.cell? ⟨b, 0, none⟩ = some (.pointer (some ⟨bl, 0, none⟩)) ∧ w'.cell? ⟨b, 1, none⟩ = some (.pointer (some ⟨br, 0, none⟩)) ∧ w'.cell? ⟨br, 0, none⟩ = some (.pointer (some ⟨cp, 0, none⟩)) ∧ w'.cell? ⟨br, 1, none⟩ = some (.pointer (some ⟨cq, 0, none⟩))) w') := fun w' hb => ⟨(below_two9 hb h1 h2).1, (below_two9 hb h1 h2).2, (below_two9 hb k1 k2).1, (below_two9 hb k1 k2).2⟩
      go_enter Try.func94, Try.ntmps94
      go_wp2_with fail
      refine (isLeaf_any _ b _ H.out).mono ?_; rintro e w1 ⟨rfl, rfl⟩
      simp only [Tr.isLf]
      go_wp2_with fail
      refine (isLeaf_any (.nd p q) br _ HR.out).mono ?_; rintro e w1 ⟨rfl, rfl⟩
      simp only [Tr.isLf]
      go_wp2_with fail
      refine wp_region_held_drew (S := (fun (w' : World) => w'.cell? ⟨b, 0, none⟩ = some (.pointer (some ⟨bl, 0, none⟩)) ∧ w'.cell? ⟨b, 1, none⟩ = some (.pointer (some ⟨br, 0, none⟩)) ∧ w'.cell? ⟨br, 0, none⟩ = some (.pointer (some ⟨cp, 0, none⟩)) ∧ w'.cell? ⟨br, 1, none⟩ = some (.pointer (some ⟨cq, 0, none⟩)))) (by kernel_rfl) ⟨h1, h2, k1, k2⟩ (fun hH0 => ?_)
      refine wpAnyH_take (i := 0) (oi := ?oi401) (v := ?vv401) ?hi401 ?hn401 ?hf401 ?hr401 ?hq401 (Or.inl ⟨?hg401, ?hy401⟩) hH0 ?rest401
      case hi401 => (simp only [List.getElem?_toArray, List.getElem?_cons_zero]; rfl)
      case hn401 => kernel_rfl
      case hf401 => kernel_rfl
      case hr401 => kernel_rfl
      case hg401 => rfl
      case hy401 => (intro w hSw; (try dsimp only at hSw); go_simp; first | done | with_reducible rfl)
      case hq401 => exact fun _ _ _ h => h
      try dsimp only [Act.put]
      refine wpAnyH_take (i := 1) (oi := ?oi402) (v := ?vv402) ?hi402 ?hn402 ?hf402 ?hr402 ?hq402 (Or.inl ⟨?hg402, ?hy402⟩) hH0 ?rest402
      case hi402 => (simp only [List.getElem?_toArray, List.getElem?_cons_succ, List.getElem?_cons_zero]; rfl)
      case hn402 => kernel_rfl
      case hf402 => kernel_rfl
      case hr402 => kernel_rfl
      case hg402 => rfl
      case hy402 => (intro w hSw; (try dsimp only at hSw); go_simp; first | done | with_reducible rfl)
      case hq402 => exact fun _ _ _ h => h
      try dsimp only [Act.put]
      refine wpAnyH_take (i := 2) (oi := ?oi403) (v := ?vv403) ?hi403 ?hn403 ?hf403 ?hr403 ?hq403 (Or.inl ⟨?hg403, ?hy403⟩) hH0 ?rest403
      case hi403 => (simp only [List.getElem?_toArray, List.getElem?_cons_succ, List.getElem?_cons_zero]; rfl)
      case hn403 => kernel_rfl
      case hf403 => kernel_rfl
      case hr403 => kernel_rfl
      case hg403 => rfl
      case hy403 => (intro w hSw; (try dsimp only at hSw); go_simp; first | done | with_reducible rfl)
      case hq403 => exact fun _ _ _ h => h
      try dsimp only [Act.put]
      refine wpAnyH_take (i := 3) (oi := ?oi404) (v := ?vv404) ?hi404 ?hn404 ?hf404 ?hr404 ?hq404 (Or.inl ⟨?hg404, ?hy404⟩) hH0 ?rest404
      case hi404 => (simp only [List.getElem?_toArray, List.getElem?_cons_succ, List.getElem?_cons_zero]; rfl)
      case hn404 => kernel_rfl
      case hf404 => kernel_rfl
      case hr404 => kernel_rfl
      case hg404 => rfl
      case hy404 => (intro w hSw; (try dsimp only at hSw); go_simp; first | done | with_reducible rfl)
      case hq404 => exact fun _ _ _ h => h
      try dsimp only [Act.put]
      refine wpAnyH_take (i := 4) (oi := ?oi405) (v := ?vv405) ?hi405 ?hn405 ?hf405 ?hr405 ?hq405 (Or.inl ⟨?hg405, ?hy405⟩) hH0 ?rest405
      case hi405 => (simp only [List.getElem?_toArray, List.getElem?_cons_succ, List.getElem?_cons_zero]; rfl)
      case hn405 => kernel_rfl
      case hf405 => kernel_rfl
      case hr405 => kernel_rfl
      case hg405 => rfl
      case hy405 => (intro w hSw; (try dsimp only at hSw); go_simp; first | done | with_reducible rfl)
      case hq405 => exact fun _ _ _ h => h
      try dsimp only [Act.put]
      refine wpAnyH_take (i := 5) (oi := ?oi406) (v := ?vv406) ?hi406 ?hn406 ?hf406 ?hr406 ?hq406 (Or.inl ⟨?hg406, ?hy406⟩) hH0 ?rest406
      case hi406 => (simp only [List.getElem?_toArray, List.getElem?_cons_succ, List.getElem?_cons_zero]; rfl)
      case hn406 => kernel_rfl
      case hf406 => kernel_rfl
      case hr406 => kernel_rfl
      case hg406 => rfl
      case hy406 => (intro w hSw; (try dsimp only at hSw); go_simp; first | done | with_reducible rfl)
      case hq406 => exact fun _ _ _ h => h
      try dsimp only [Act.put]
      refine wpAnyH_take (i := 6) (oi := ?oi407) (v := ?vv407) ?hi407 ?hn407 ?hf407 ?hr407 ?hq407 (Or.inl ⟨?hg407, ?hy407⟩) hH0 ?rest407
      case hi407 => (simp only [List.getElem?_toArray, List.getElem?_cons_succ, List.getElem?_cons_zero]; rfl)
      case hn407 => kernel_rfl
      case hf407 => kernel_rfl
      case hr407 => kernel_rfl
      case hg407 => rfl
      case hy407 => (intro w hSw; (try dsimp only at hSw); go_simp; first | done | with_reducible rfl)
      case hq407 => exact fun _ _ _ h => h
      try dsimp only [Act.put]
      refine wpAnyH_take (i := 7) (oi := ?oi408) (v := ?vv408) ?hi408 ?hn408 ?hf408 ?hr408 ?hq408 (Or.inl ⟨?hg408, ?hy408⟩) hH0 ?rest408
      case hi408 => (simp only [List.getElem?_toArray, List.getElem?_cons_succ, List.getElem?_cons_zero]; rfl)
      case hn408 => kernel_rfl
      case hf408 => kernel_rfl
      case hr408 => kernel_rfl
      case hg408 => rfl
      case hy408 => (intro w hSw; (try dsimp only at hSw); go_simp; first | done | with_reducible rfl)
      case hq408 => exact fun _ _ _ h => h
      try dsimp only [Act.put]
      refine wpAnyH_take (i := 8) (oi := ?oi409) (v := ?vv409) ?hi409 ?hn409 ?hf409 ?hr409 ?hq409 (Or.inl ⟨?hg409, ?hy409⟩) hH0 ?rest409
      case hi409 => (simp only [List.getElem?_toArray, List.getElem?_cons_succ, List.getElem?_cons_zero]; rfl)
      case hn409 => kernel_rfl
      case hf409 => kernel_rfl
      case hr409 => kernel_rfl
      case hg409 => rfl
      case hy409 => (intro w hSw; (try dsimp only at hSw); go_simp; first | done | with_reducible rfl)
      case hq409 => exact fun _ _ _ h => h
      try dsimp only [Act.put]
      refine wpAnyH_take (i := 9) (oi := ?oi410) (v := ?vv410) ?hi410 ?hn410 ?hf410 ?hr410 ?hq410 (Or.inl ⟨?hg410, ?hy410⟩) hH0 ?rest410
      case hi410 => (simp only [List.getElem?_toArray, List.getElem?_cons_succ, List.getElem?_cons_zero]; rfl)
      case hn410 => kernel_rfl
      case hf410 => kernel_rfl
      case hr410 => kernel_rfl
      case hg410 => rfl
      case hy410 => (intro w hSw; (try dsimp only at hSw); go_simp; first | done | with_reducible rfl)
      case hq410 => exact fun _ _ _ h => h
      try dsimp only [Act.put]
      refine wpAnyH_take (i := 10) (oi := ?oi411) (v := ?vv411) ?hi411 ?hn411 ?hf411 ?hr411 ?hq411 (Or.inl ⟨?hg411, ?hy411⟩) hH0 ?rest411
      case hi411 => (simp only [List.getElem?_toArray, List.getElem?_cons_succ, List.getElem?_cons_zero]; rfl)
      case hn411 => kernel_rfl
      case hf411 => kernel_rfl
      case hr411 => kernel_rfl
      case hg411 => rfl
      case hy411 => (intro w hSw; (try dsimp only at hSw); go_simp; first | done | with_reducible rfl)
      case hq411 => exact fun _ _ _ h => h
      try dsimp only [Act.put]
      refine wpAnyH_take (i := 11) (oi := ?oi412) (v := ?vv412) ?hi412 ?hn412 ?hf412 ?hr412 ?hq412 (Or.inl ⟨?hg412, ?hy412⟩) hH0 ?rest412
      case hi412 => (simp only [List.getElem?_toArray, List.getElem?_cons_succ, List.getElem?_cons_zero]; rfl)
      case hn412 => kernel_rfl
      case hf412 => kernel_rfl
      case hr412 => kernel_rfl
      case hg412 => rfl
      case hy412 => (intro w hSw; (try dsimp only at hSw); go_simp; first | done | with_reducible rfl)
      case hq412 => exact fun _ _ _ h => h
      try dsimp only [Act.put]
      refine wpAnyH_take (i := 13) (oi := ?oi413) (v := ?vv413) ?hi413 ?hn413 ?hf413 ?hr413 ?hq413 (Or.inl ⟨?hg413, ?hy413⟩) hH0 ?rest413
      case hi413 => (simp only [List.getElem?_toArray, List.getElem?_cons_succ, List.getElem?_cons_zero]; rfl)
      case hn413 => kernel_rfl
      case hf413 => kernel_rfl
      case hr413 => kernel_rfl
      case hg413 => rfl
      case hy413 => (intro w hSw; (try dsimp only at hSw); go_simp; first | done | with_reducible rfl)
      case hq413 => exact fun _ _ _ h => h
      try dsimp only [Act.put]
      refine wpAnyH_take (i := 14) (oi := ?oi414) (v := ?vv414) ?hi414 ?hn414 ?hf414 ?hr414 ?hq414 (Or.inl ⟨?hg414, ?hy414⟩) hH0 ?rest414
      case hi414 => (simp only [List.getElem?_toArray, List.getElem?_cons_succ, List.getElem?_cons_zero]; rfl)
      case hn414 => kernel_rfl
      case hf414 => kernel_rfl
      case hr414 => kernel_rfl
      case hg414 => rfl
      case hy414 => (intro w hSw; (try dsimp only at hSw); go_simp; first | done | with_reducible rfl)
      case hq414 => exact fun _ _ _ h => h
      try dsimp only [Act.put]
      refine wpAnyH_take (i := 15) (oi := ?oi415) (v := ?vv415) ?hi415 ?hn415 ?hf415 ?hr415 ?hq415 (Or.inl ⟨?hg415, ?hy415⟩) hH0 ?rest415
      case hi415 => (simp only [List.getElem?_toArray, List.getElem?_cons_succ, List.getElem?_cons_zero]; rfl)
      case hn415 => kernel_rfl
      case hf415 => kernel_rfl
      case hr415 => kernel_rfl
      case hg415 => rfl
      case hy415 => (intro w hSw; (try dsimp only at hSw); go_simp; first | done | with_reducible rfl)
      case hq415 => exact fun _ _ _ h => h
      try dsimp only [Act.put]
      refine wpAnyH_take (i := 16) (oi := ?oi416) (v := ?vv416) ?hi416 ?hn416 ?hf416 ?hr416 ?hq416 (Or.inl ⟨?hg416, ?hy416⟩) hH0 ?rest416
      case hi416 => (simp only [List.getElem?_toArray, List.getElem?_cons_succ, List.getElem?_cons_zero]; rfl)
      case hn416 => kernel_rfl
      case hf416 => kernel_rfl
      case hr416 => kernel_rfl
      case hg416 => rfl
      case hy416 => (intro w hSw; (try dsimp only at hSw); go_simp; first | done | with_reducible rfl)
      case hq416 => exact fun _ _ _ h => h
      try dsimp only [Act.put]
      refine wpAnyH_take (i := 17) (oi := ?oi417) (v := ?vv417) ?hi417 ?hn417 ?hf417 ?hr417 ?hq417 (Or.inl ⟨?hg417, ?hy417⟩) hH0 ?rest417
      case hi417 => (simp only [List.getElem?_toArray, List.getElem?_cons_succ, List.getElem?_cons_zero]; rfl)
      case hn417 => kernel_rfl
      case hf417 => kernel_rfl
      case hr417 => kernel_rfl
      case hg417 => rfl
      case hy417 => (intro w hSw; (try dsimp only at hSw); go_simp; first | done | with_reducible rfl)
      case hq417 => exact fun _ _ _ h => h
      try dsimp only [Act.put]
      refine wpAnyH_take (i := 18) (oi := ?oi418) (v := ?vv418) ?hi418 ?hn418 ?hf418 ?hr418 ?hq418 (Or.inl ⟨?hg418, ?hy418⟩) hH0 ?rest418
      case hi418 => (simp only [List.getElem?_toArray, List.getElem?_cons_succ, List.getElem?_cons_zero]; rfl)
      case hn418 => kernel_rfl
      case hf418 => kernel_rfl
      case hr418 => kernel_rfl
      case hg418 => rfl
      case hy418 => (intro w hSw; (try dsimp only at hSw); go_simp; first | done | with_reducible rfl)
      case hq418 => exact fun _ _ _ h => h
      try dsimp only [Act.put]
      refine wpAnyH_take (i := 19) (oi := ?oi419) (v := ?vv419) ?hi419 ?hn419 ?hf419 ?hr419 ?hq419 (Or.inl ⟨?hg419, ?hy419⟩) hH0 ?rest419
      case hi419 => (simp only [List.getElem?_toArray, List.getElem?_cons_succ, List.getElem?_cons_zero]; rfl)
      case hn419 => kernel_rfl
      case hf419 => kernel_rfl
      case hr419 => kernel_rfl
      case hg419 => rfl
      case hy419 => (intro w hSw; (try dsimp only at hSw); go_simp; first | done | with_reducible rfl)
      case hq419 => exact fun _ _ _ h => h
      try dsimp only [Act.put]
      refine held_one 12 rfl (by kernel_rfl) (fun K hK => ?_)
      go_simp
      
      go_wp2_with fail
      have hH1 : (fun (w' : World) => w'.cell? ⟨b, 0, none⟩ = some (.pointer (some ⟨bl, 0, none⟩)) ∧ w'.cell? ⟨b, 1, none⟩ = some (.pointer (some ⟨br, 0, none⟩)) ∧ w'.cell? ⟨br, 0, none⟩ = some (.pointer (some ⟨cp, 0, none⟩)) ∧ w'.cell? ⟨br, 1, none⟩ = some (.pointer (some ⟨cq, 0, none⟩))) _ := A0'.out (w.drew.alloc (.cells #[.pointer (some ⟨bl, 0, none⟩), .pointer (some ⟨cp, 0, none⟩)] 128 (0, 0))) (nxAlloc hb0 _)
      refine hK.out (fun (w' : World) => w'.cell? ⟨b, 0, none⟩ = some (.pointer (some ⟨bl, 0, none⟩)) ∧ w'.cell? ⟨b, 1, none⟩ = some (.pointer (some ⟨br, 0, none⟩)) ∧ w'.cell? ⟨br, 0, none⟩ = some (.pointer (some ⟨cp, 0, none⟩)) ∧ w'.cell? ⟨br, 1, none⟩ = some (.pointer (some ⟨cq, 0, none⟩))) _ _ (fun _ h => h) hH1 ?_
      clear hK K
      try dsimp only [Act.put]
      refine wpAnyH_take (i := 20) (oi := ?oi420) (v := ?vv420) ?hi420 ?hn420 ?hf420 ?hr420 ?hq420 (Or.inl ⟨?hg420, ?hy420⟩) hH1 ?rest420
      case hi420 => (simp only [List.getElem?_toArray, List.getElem?_cons_succ, List.getElem?_cons_zero]; rfl)
      case hn420 => kernel_rfl
      case hf420 => kernel_rfl
      case hr420 => kernel_rfl
      case hg420 => rfl
      case hy420 => (intro w hSw; (try dsimp only at hSw); go_simp; first | done | with_reducible rfl)
      case hq420 => exact fun _ _ _ h => h
      try dsimp only [Act.put]
      refine held_one 21 rfl (by kernel_rfl) (fun K hK => ?_)
      go_simp
      
      go_wp2_with fail
      have hH2 : (fun (w' : World) => w'.cell? ⟨b, 0, none⟩ = some (.pointer (some ⟨bl, 0, none⟩)) ∧ w'.cell? ⟨b, 1, none⟩ = some (.pointer (some ⟨br, 0, none⟩)) ∧ w'.cell? ⟨br, 0, none⟩ = some (.pointer (some ⟨cp, 0, none⟩)) ∧ w'.cell? ⟨br, 1, none⟩ = some (.pointer (some ⟨cq, 0, none⟩))) _ := A0'.out ((w.drew.alloc (.cells #[.pointer (some ⟨bl, 0, none⟩), .pointer (some ⟨cp, 0, none⟩)] 128 (0, 0))).alloc (.cells #[.pointer (some ⟨w.heap.size, 0, none⟩), .pointer (some ⟨cq, 0, none⟩)] 128 (0, 0))) (nxAlloc (nxAlloc hb0 _) _)
      refine hK.out (fun (w' : World) => w'.cell? ⟨b, 0, none⟩ = some (.pointer (some ⟨bl, 0, none⟩)) ∧ w'.cell? ⟨b, 1, none⟩ = some (.pointer (some ⟨br, 0, none⟩)) ∧ w'.cell? ⟨br, 0, none⟩ = some (.pointer (some ⟨cp, 0, none⟩)) ∧ w'.cell? ⟨br, 1, none⟩ = some (.pointer (some ⟨cq, 0, none⟩))) _ _ (fun _ h => h) hH2 ?_
      clear hK K
      try dsimp only [Act.put]
      refine wpAnyH_take (i := 22) (oi := ?oi421) (v := ?vv421) ?hi421 ?hn421 ?hf421 ?hr421 ?hq421 (Or.inl ⟨?hg421, ?hy421⟩) hH2 ?rest421
      case hi421 => (simp only [List.getElem?_toArray, List.getElem?_cons_succ, List.getElem?_cons_zero]; rfl)
      case hn421 => kernel_rfl
      case hf421 => kernel_rfl
      case hr421 => kernel_rfl
      case hg421 => rfl
      case hy421 => (intro w hSw; (try dsimp only at hSw); go_simp; first | done | with_reducible rfl)
      case hq421 => exact fun _ _ _ h => h
      try dsimp only [Act.put]
      refine wpAnyH_done (by kernel_rfl) ?_ _
      simp only [List.setIfInBounds_toArray, List.set_cons_zero, List.set_cons_succ]
      have hN := node_new (node_new HL.out hb0 (KP.out.keep hb0)) (Below.refl _ _) (KQ.out.keep (nxAlloc hb0 _))
      have hsz : (w.drew.alloc (.cells #[.pointer (some ⟨bl, 0, none⟩), .pointer (some ⟨cp, 0, none⟩)] 128 (0, 0))).heap.size = w.heap.size + 1 := by simp
      rw [hsz] at hN
      have HN := Lib.hid hN
      clear hN hsz
      go_wp2_with fail
      go_ret
      exact ⟨_, HN.out, nxAlloc (nxAlloc hb0 _) _, rfl⟩
end Go.Proofs.Ytllnfbenaeeloaa

/-! At -/
namespace Go.Proofs.Ytllnfbenaeeloaa
open Go.RowKit

theorem eqFn (f b : Nat) (w : World) : (binOp .eql 114 (.func (.func f) #[.pointer (some ⟨b, 0, none⟩)] #[]) .nilFunc).run Try.prog w = .ok (.bool false) w := by kernel_rfl
theorem eqNil (w : World) : (binOp .eql 114 .nilFunc .nilFunc).run Try.prog w = .ok (.bool true) w := by kernel_rfl

def AtPost (o : Option Tr) (w : World) (e : Ending) (w' : World) : Prop :=
  match o with
  | some u => ∃ b, NodeAt w u b ∧ e = .returned (.pointer (some ⟨b, 0, none⟩)) ∧ w = w'
  | none => e = .returned (.pointer none) ∧ w = w'

end Go.Proofs.Ytllnfbenaeeloaa

/-! SpecAt -/
namespace Go.Proofs.Ytllnfbenaeeloaa
open Go.RowKit

def subO (a b : ByteArray) : Option Tr :=
  match treeOf a with
  | some t => t.sub b.data.toList
  | none => none

theorem sub_long {t : Tr} {l : List UInt8} (h : t.carets < l.length) : t.sub l = none := by
  cases k : t.sub l with
  | none => rfl
  | some u => have := sub_carets _ _ _ k; omega

end Go.Proofs.Ytllnfbenaeeloaa

/-! Br2 -/
namespace Go.Proofs.Ytllnfbenaeeloaa
open Go.RowKit

theorem trOf_two (a b : ByteArray) (w : World) (ha : a.size ≤ 1000000) (hb : b.size ≤ 1000000) :
    Calls Try.prog 88 #[.string a, .string b] w fun e w' => e = .returned (.string (⟨#[40]⟩ ++ a ++ b ++ ⟨#[41]⟩)) ∧ w = w' := by
  go_enter Try.func88, Try.ntmps88
  go_wp2_with fail
  go_ret
  exact ⟨rfl, rfl⟩

/-- The answer of brAt: where there is none, some text and false. -/
def AtV (o : Option Tr) (m : Nat) (v : Value) : Prop :=
  match o with
  | some u => v = .tuple #[.string u.str, .bool true]
  | none => ∃ s : ByteArray, s.size ≤ m ∧ v = .tuple #[.string s, .bool false]
def GivesAt (o : Option Tr) (m : Nat) (w : World) (e : Ending) (w' : World) : Prop := ∃ v, AtV o m v ∧ Below w.heap.size w w' ∧ e = .returned v

theorem tail_list {s : ByteArray} {c : UInt8} {cs : List UInt8} (h : s.data.toList = c :: cs) : (s.extract 1 s.size).data.toList = cs := by
  rw [ext_end, h]; rfl
theorem byte0 {s : ByteArray} {c : UInt8} {cs : List UInt8} (h : s.data.toList = c :: cs) : ∃ hz : 0 < s.size, ((s[0]'hz).toNat : Int) = (c.toNat : Int) := by
  have hb := byteAt_drop (s := s) (a := 0) (c := c) (r := cs) (by simpa using h)
  exact ⟨hb.1, (byteAt_eq s ((0 : Nat) : Int) hb.1).symm.trans hb.2⟩
theorem u8_ne {c : UInt8} {n : Nat} (hn : n < 256) (h : c ≠ UInt8.ofNat n) : ¬ (c.toNat : Int) = (n : Int) := fun e => h (u8_eq hn e)

set_option maxRecDepth 100000 in
set_option maxHeartbeats 1000000 in
theorem brAt_any (k : Bool) : ∀ (p : List UInt8) (t : Tr) (s : ByteArray) (w : World), s.data.toList = p → t.carets ≤ 60 → p.length ≤ 100 →
    Calls Try.prog 63 #[.string t.str, .string s, .bool k] w (GivesAt (t.rotAt k p) (400 * (p.length + 1)) w) := by
  intro p
  induction p with
  | nil =>
    intro t s w hs ht _
    have hz : s.size = 0 := by rw [Lib.size_eq, hs]; rfl
    have e2 : s.toList = [] := by rw [Lib.toList_data, hs]
    have hs0 : s = ⟨#[]⟩ := ba_ext (by rw [hs])
    rw [rotAt_nil]
    have hR := fun w => brRotate_any k t w ht
    have hfin : ∀ w', Below w.heap.size w w' → GivesAt (t.rot k) (400 * (([] : List UInt8).length + 1)) w (.returned (ansV (t.rot k))) w' := by
      intro w' hb
      refine ⟨_, ?_, hb, rfl⟩
      cases t.rot k with
      | none => exact ⟨⟨#[]⟩, Nat.zero_le _, rfl⟩
      | some u => rfl
    have HF := Lib.hid hfin
    clear hfin hs
    subst hs0
    unfold ansV at hR HF
    generalize trS (t.rot k) = A at hR HF
    generalize trB (t.rot k) = B at hR HF
    go_enter Try.func63, Try.ntmps63
    go_wp2_with fail
    refine (hR _).mono ?_; rintro e w1 ⟨rfl, hb1⟩
    go_wp2_with fail
    go_ret2
    exact HF.out _ hb1
  | cons c cs ih =>
    intro t s w hs ht hp
    have hp' : cs.length ≤ 99 := by simp at hp; omega
    have hz : s.size ≤ 9223372036854775806 := by rw [Lib.size_eq, hs]; show cs.length + 1 ≤ _; omega
    have hz1 : 1 ≤ s.size := by rw [Lib.size_eq, hs]; show 1 ≤ cs.length + 1; omega
    have hne : (s.toList == []) = false := by rw [Lib.toList_data, hs]; rfl
    have hne2 : s.toList.isEmpty = false := by rw [Lib.toList_data, hs]; rfl
    obtain ⟨hz0, hx⟩ := byte0 hs
    have ht1 := tail_list hs
    have HX := Lib.hid hx
    have HT := Lib.hid ht1
    have hm : Hid ((c :: cs).length = cs.length + 1) := rfl
    cases t with
    | lf =>
      rw [show Tr.lf.rotAt k (c :: cs) = none by rfl]
      clear hs ih hx ht1
      go_enter Try.func63, Try.ntmps63
      go_wp2_with fail
      refine (trLeaf_any .lf _).mono ?_; rintro e w1 ⟨rfl, rfl⟩
      simp only [Tr.isLf]
      go_wp2_with fail
      go_ret2
      exact ⟨_, ⟨⟨#[]⟩, Nat.zero_le _, rfl⟩, Below.refl _ _, rfl⟩
    | nd l r =>
      have hc : l.carets + r.carets + 1 ≤ 60 := ht
      have sl : l.str.size ≤ 200 := by have := l.str_size; omega
      have sr : r.str.size ≤ 200 := by have := r.str_size; omega
      by_cases h48 : c = 48
      · have h0 : Hid ((((s[0]'hz0).toNat : Int) == 48) = true) := by show (_ == _) = true; rw [HX.out, h48]; rfl
        have h0' : Hid ((((s[0]'hz0).toNat : Int) != 48) = false) := by show (_ != _) = false; rw [HX.out, h48]; rfl
        have hJ := fun w => ih l (s.extract 1 s.size) w HT.out (by omega) (by omega)
        rw [show (Tr.nd l r).rotAt k (c :: cs) = (l.rotAt k cs).map (fun x => .nd x r) by rw [Tr.rotAt, if_pos h48]]
        cases hg : l.rotAt k cs with
        | none =>
          rw [hg] at hJ
          have hJ' : ∀ w, Calls Try.prog 63 #[.string l.str, .string (s.extract 1 s.size), .bool k] w (fun e w' => ∃ s', s'.size ≤ 400 * (cs.length + 1) ∧ Below w.heap.size w w' ∧ e = .returned (.tuple #[.string s', .bool false])) := fun w => (hJ w).mono fun e w' ⟨v, ⟨s', h1, h2⟩, h3, h4⟩ => ⟨s', h1, h3, by rw [h4, h2]⟩
          clear hs ih hx ht1 hJ hg
          go_enter Try.func63, Try.ntmps63
          go_wp2_with fail
          refine (trLeaf_any (.nd l r) _).mono ?_; rintro e w1 ⟨rfl, rfl⟩
          simp only [Tr.isLf]
          have g0 := h0'.out
          go_wp2_with fail
          refine (trSides_any l r _ (by omega)).mono ?_; rintro e w1 ⟨rfl, hb1⟩
          have g1 := h0.out
          go_wp2_with fail
          refine (hJ' _).mono ?_; rintro e w2 ⟨s', hs', hb2, rfl⟩
          have hs2 : s'.size ≤ 1000000 := by omega
          go_wp2_with fail
          refine (trOf_two s' r.str _ (by omega) (by omega)).mono ?_; rintro e w3 ⟨rfl, rfl⟩
          go_wp2_with fail
          go_ret2
          refine ⟨_, ⟨_, ?_, rfl⟩, nx hb1 hb2, rfl⟩
          simp only [ByteArray.size_append]
          have e1 : (⟨#[40]⟩ : ByteArray).size = 1 := rfl
          have e2 : (⟨#[41]⟩ : ByteArray).size = 1 := rfl
          omega
        | some u =>
          rw [hg] at hJ
          have hcu := rotAt_carets _ hg
          have hJ' : ∀ w, Calls Try.prog 63 #[.string l.str, .string (s.extract 1 s.size), .bool k] w (fun e w' => Below w.heap.size w w' ∧ e = .returned (.tuple #[.string u.str, .bool true])) := fun w => (hJ w).mono fun e w' ⟨v, h2, h3, h4⟩ => ⟨h3, by rw [h4, h2]⟩
          clear hs ih hx ht1 hJ hg
          go_enter Try.func63, Try.ntmps63
          go_wp2_with fail
          refine (trLeaf_any (.nd l r) _).mono ?_; rintro e w1 ⟨rfl, rfl⟩
          simp only [Tr.isLf]
          have g0 := h0'.out
          go_wp2_with fail
          refine (trSides_any l r _ (by omega)).mono ?_; rintro e w1 ⟨rfl, hb1⟩
          have g1 := h0.out
          go_wp2_with fail
          refine (hJ' _).mono ?_; rintro e w2 ⟨hb2, rfl⟩
          go_wp2_with fail
          refine (trOf_any u r _ (by omega)).mono ?_; rintro e w3 ⟨rfl, rfl⟩
          go_wp2_with fail
          go_ret2
          exact ⟨_, rfl, nx hb1 hb2, rfl⟩
      · have h0 : Hid ((((s[0]'hz0).toNat : Int) == 48) = false) := by show (_ == _) = false; rw [HX.out]; simpa using u8_ne (n := 48) (by omega) h48
        have h0' : Hid ((((s[0]'hz0).toNat : Int) != 48) = true) := by show (_ != _) = true; rw [HX.out]; simpa using u8_ne (n := 48) (by omega) h48
        by_cases h49 : c = 49
        · have h1' : Hid ((((s[0]'hz0).toNat : Int) != 49) = false) := by show (_ != _) = false; rw [HX.out, h49]; rfl
          have hJ := fun w => ih r (s.extract 1 s.size) w HT.out (by omega) (by omega)
          rw [show (Tr.nd l r).rotAt k (c :: cs) = (r.rotAt k cs).map (fun x => .nd l x) by rw [Tr.rotAt, if_neg h48, if_pos h49]]
          cases hg : r.rotAt k cs with
          | none =>
            rw [hg] at hJ
            have hJ' : ∀ w, Calls Try.prog 63 #[.string r.str, .string (s.extract 1 s.size), .bool k] w (fun e w' => ∃ s', s'.size ≤ 400 * (cs.length + 1) ∧ Below w.heap.size w w' ∧ e = .returned (.tuple #[.string s', .bool false])) := fun w => (hJ w).mono fun e w' ⟨v, ⟨s', h1, h2⟩, h3, h4⟩ => ⟨s', h1, h3, by rw [h4, h2]⟩
            clear hs ih hx ht1 hJ hg
            go_enter Try.func63, Try.ntmps63
            go_wp2_with fail
            refine (trLeaf_any (.nd l r) _).mono ?_; rintro e w1 ⟨rfl, rfl⟩
            simp only [Tr.isLf]
            have g0 := h0'.out
            have g2 := h1'.out
            go_wp2_with fail
            refine (trSides_any l r _ (by omega)).mono ?_; rintro e w1 ⟨rfl, hb1⟩
            have g1 := h0.out
            go_wp2_with fail
            refine (hJ' _).mono ?_; rintro e w2 ⟨s', hs', hb2, rfl⟩
            have hs2 : s'.size ≤ 1000000 := by omega
            go_wp2_with fail
            refine (trOf_two l.str s' _ (by omega) (by omega)).mono ?_; rintro e w3 ⟨rfl, rfl⟩
            go_wp2_with fail
            go_ret2
            refine ⟨_, ⟨_, ?_, rfl⟩, nx hb1 hb2, rfl⟩
            simp only [ByteArray.size_append]
            have e1 : (⟨#[40]⟩ : ByteArray).size = 1 := rfl
            have e2 : (⟨#[41]⟩ : ByteArray).size = 1 := rfl
            omega
          | some u =>
            rw [hg] at hJ
            have hcu := rotAt_carets _ hg
            have hJ' : ∀ w, Calls Try.prog 63 #[.string r.str, .string (s.extract 1 s.size), .bool k] w (fun e w' => Below w.heap.size w w' ∧ e = .returned (.tuple #[.string u.str, .bool true])) := fun w => (hJ w).mono fun e w' ⟨v, h2, h3, h4⟩ => ⟨h3, by rw [h4, h2]⟩
            clear hs ih hx ht1 hJ hg
            go_enter Try.func63, Try.ntmps63
            go_wp2_with fail
            refine (trLeaf_any (.nd l r) _).mono ?_; rintro e w1 ⟨rfl, rfl⟩
            simp only [Tr.isLf]
            have g0 := h0'.out
            have g2 := h1'.out
            go_wp2_with fail
            refine (trSides_any l r _ (by omega)).mono ?_; rintro e w1 ⟨rfl, hb1⟩
            have g1 := h0.out
            go_wp2_with fail
            refine (hJ' _).mono ?_; rintro e w2 ⟨hb2, rfl⟩
            go_wp2_with fail
            refine (trOf_any l u _ (by omega)).mono ?_; rintro e w3 ⟨rfl, rfl⟩
            go_wp2_with fail
            go_ret2
            exact ⟨_, rfl, nx hb1 hb2, rfl⟩
        · have h1' : Hid ((((s[0]'hz0).toNat : Int) != 49) = true) := by show (_ != _) = true; rw [HX.out]; simpa using u8_ne (n := 49) (by omega) h49
          rw [show (Tr.nd l r).rotAt k (c :: cs) = none by rw [Tr.rotAt, if_neg h48, if_neg h49]]
          clear hs ih hx ht1
          go_enter Try.func63, Try.ntmps63
          go_wp2_with fail
          refine (trLeaf_any (.nd l r) _).mono ?_; rintro e w1 ⟨rfl, rfl⟩
          simp only [Tr.isLf]
          have g0 := h0'.out
          have g2 := h1'.out
          go_wp2_with fail
          go_ret2
          exact ⟨_, ⟨⟨#[]⟩, Nat.zero_le _, rfl⟩, Below.refl _ _, rfl⟩

/-- Which function makes a turn. -/
def turnF (k : Bool) : FuncId := if k = true then 94 else 93
theorem turn_any (k : Bool) (t : Tr) (b : Nat) (w : World) (h : NodeAt w t b) : Calls Try.prog (turnF k) #[.pointer (some ⟨b, 0, none⟩)] w (RotP (t.rot k) w) := by
  cases k with
  | true => exact rotatedBack_any t b w h
  | false => exact rotated_any t b w h
theorem turn_call (k : Bool) (args : Array Value) (w : World) : (callFunc (turnF k) args).run Try.prog w = .ok (.enter (turnF k) args) w := by
  cases k with
  | true => kernel_rfl
  | false => kernel_rfl
def fnV (k : Bool) : Value := .func (Fn.func (turnF k)) #[] #[]

set_option maxRecDepth 100000 in
set_option maxHeartbeats 2000000 in
theorem turnedAt_any (k : Bool) : ∀ (p : List UInt8) (t : Tr) (b : Nat) (s : ByteArray) (w : World), s.data.toList = p → NodeAt w t b → p.length ≤ 1048576 →
    Calls Try.prog 96 #[.pointer (some ⟨b, 0, none⟩), .string s, .func (Fn.func (turnF k)) #[] #[]] w (RotP (t.rotAt k p) w) := by
  have hcall := turn_call k
  intro p
  induction p with
  | nil =>
    intro t b s w hs hn _
    have hs0 : s = ⟨#[]⟩ := ba_ext (by rw [hs])
    rw [rotAt_nil]
    have hR := turn_any k t b w hn
    generalize turnF k = fk at *
    clear hs hn
    subst hs0
    cases hg : t.rot k with
    | none =>
      rw [hg] at hR
      go_enter Try.func96, Try.ntmps96
      go_wp2_with fail
      refine hR.mono ?_; rintro e w1 ⟨hb1, rfl⟩
      go_wp2_with fail
      go_ret
      exact ⟨hb1, rfl⟩
    | some u =>
      rw [hg] at hR
      go_enter Try.func96, Try.ntmps96
      go_wp2_with fail
      refine hR.mono ?_; rintro e w1 ⟨b1, hn1, hb1, rfl⟩
      go_wp2_with fail
      go_ret
      exact ⟨b1, hn1, hb1, rfl⟩
  | cons c cs ih =>
    intro t b s w hs hn hp
    have hp' : cs.length ≤ 1048576 := by simp at hp; omega
    have hz : s.size ≤ 9223372036854775806 := by rw [Lib.size_eq, hs]; show cs.length + 1 ≤ _; omega
    have hz1 : 1 ≤ s.size := by rw [Lib.size_eq, hs]; show 1 ≤ cs.length + 1; omega
    have hz9 : cs.length + 1 ≤ 1048576 := by simpa using hp
    have hne : (s.toList == []) = false := by rw [Lib.toList_data, hs]; rfl
    have hne2 : s.toList.isEmpty = false := by rw [Lib.toList_data, hs]; rfl
    obtain ⟨hz0, hx⟩ := byte0 hs
    have HX := Lib.hid hx
    have HT := Lib.hid (tail_list hs)
    have H := Lib.hid hn
    generalize turnF k = fk at *
    cases t with
    | lf =>
      rw [show Tr.lf.rotAt k (c :: cs) = none by rfl]
      clear hs ih hx hn
      go_enter Try.func96, Try.ntmps96
      go_wp2_with fail
      refine (isLeaf_any .lf b _ H.out).mono ?_; rintro e w1 ⟨rfl, rfl⟩
      simp only [Tr.isLf]
      go_wp2_with fail
      go_ret
      exact ⟨Below.refl _ _, rfl⟩
    | nd l r =>
      obtain ⟨bl, br, h, hl, hr⟩ := hn
      have h1 := two_left h
      have h2 := two_right h
      have HL := Lib.hid hl
      have HR := Lib.hid hr
      clear h hl hr
      by_cases h48 : c = 48
      · have h0 : Hid ((((s[0]'hz0).toNat : Int) == 48) = true) := by show (_ == _) = true; rw [HX.out, h48]; rfl
        have hJ := fun w h => ih l bl (s.extract 1 s.size) w HT.out h (by omega)
        rw [show (Tr.nd l r).rotAt k (c :: cs) = (l.rotAt k cs).map (fun x => .nd x r) by rw [Tr.rotAt, if_pos h48]]
        cases hg : l.rotAt k cs with
        | none =>
          rw [hg] at hJ
          have hJ' : ∀ w, NodeAt w l bl → Calls Try.prog 96 #[.pointer (some ⟨bl, 0, none⟩), .string (s.extract 1 s.size), .func (Fn.func fk) #[] #[]] w (fun e w' => Below w.heap.size w w' ∧ e = .returned (.pointer none)) := hJ
          clear hs ih hx hJ hg
          go_enter Try.func96, Try.ntmps96
          go_wp2_with fail
          refine (isLeaf_any _ b _ H.out).mono ?_; rintro e w1 ⟨rfl, rfl⟩
          simp only [Tr.isLf]
          go_wp2_with fail
          go_region
          have g1 := h0.out
          go_wp2_with fail
          refine (hJ' _ (HL.out.keep (Below.refl _ _).drew)).mono ?_; rintro e w2 ⟨hb2, rfl⟩
          go_wp2_with fail
          go_ret
          exact ⟨nx (Below.refl _ _).drew hb2, rfl⟩
        | some u =>
          rw [hg] at hJ
          have hJ' : ∀ w, NodeAt w l bl → Calls Try.prog 96 #[.pointer (some ⟨bl, 0, none⟩), .string (s.extract 1 s.size), .func (Fn.func fk) #[] #[]] w (fun e w' => ∃ b', NodeAt w' u b' ∧ Below w.heap.size w w' ∧ e = .returned (.pointer (some ⟨b', 0, none⟩))) := hJ
          clear hs ih hx hJ hg
          go_enter Try.func96, Try.ntmps96
          go_wp2_with fail
          refine (isLeaf_any _ b _ H.out).mono ?_; rintro e w1 ⟨rfl, rfl⟩
          simp only [Tr.isLf]
          go_wp2_with fail
          go_region
          have g1 := h0.out
          go_wp2_with fail
          refine (hJ' _ (HL.out.keep (Below.refl _ _).drew)).mono ?_; rintro e w2 ⟨b', hn', hb2, rfl⟩
          go_wp2_with fail
          go_ret
          exact ⟨_, node_new hn' (Below.refl _ _) (HR.out.keep (nx (Below.refl _ _).drew hb2)), nxAlloc (nx (Below.refl _ _).drew hb2) _, rfl⟩
      · have h0 : Hid ((((s[0]'hz0).toNat : Int) == 48) = false) := by show (_ == _) = false; rw [HX.out]; simpa using u8_ne (n := 48) (by omega) h48
        by_cases h49 : c = 49
        · have h1' : Hid ((((s[0]'hz0).toNat : Int) == 49) = true) := by show (_ == _) = true; rw [HX.out, h49]; rfl
          have hJ := fun w h => ih r br (s.extract 1 s.size) w HT.out h (by omega)
          rw [show (Tr.nd l r).rotAt k (c :: cs) = (r.rotAt k cs).map (fun x => .nd l x) by rw [Tr.rotAt, if_neg h48, if_pos h49]]
          cases hg : r.rotAt k cs with
          | none =>
            rw [hg] at hJ
            have hJ' : ∀ w, NodeAt w r br → Calls Try.prog 96 #[.pointer (some ⟨br, 0, none⟩), .string (s.extract 1 s.size), .func (Fn.func fk) #[] #[]] w (fun e w' => Below w.heap.size w w' ∧ e = .returned (.pointer none)) := hJ
            clear hs ih hx hJ hg
            go_enter Try.func96, Try.ntmps96
            go_wp2_with fail
            refine (isLeaf_any _ b _ H.out).mono ?_; rintro e w1 ⟨rfl, rfl⟩
            simp only [Tr.isLf]
            go_wp2_with fail
            go_region
            have g1 := h0.out
            have g2 := h1'.out
            go_wp2_with fail
            refine (hJ' _ (HR.out.keep (Below.refl _ _).drew)).mono ?_; rintro e w2 ⟨hb2, rfl⟩
            go_wp2_with fail
            go_ret
            exact ⟨nx (Below.refl _ _).drew hb2, rfl⟩
          | some u =>
            rw [hg] at hJ
            have hJ' : ∀ w, NodeAt w r br → Calls Try.prog 96 #[.pointer (some ⟨br, 0, none⟩), .string (s.extract 1 s.size), .func (Fn.func fk) #[] #[]] w (fun e w' => ∃ b', NodeAt w' u b' ∧ Below w.heap.size w w' ∧ e = .returned (.pointer (some ⟨b', 0, none⟩))) := hJ
            clear hs ih hx hJ hg
            go_enter Try.func96, Try.ntmps96
            go_wp2_with fail
            refine (isLeaf_any _ b _ H.out).mono ?_; rintro e w1 ⟨rfl, rfl⟩
            simp only [Tr.isLf]
            go_wp2_with fail
            go_region
            have g1 := h0.out
            have g2 := h1'.out
            go_wp2_with fail
            refine (hJ' _ (HR.out.keep (Below.refl _ _).drew)).mono ?_; rintro e w2 ⟨b', hn', hb2, rfl⟩
            go_wp2_with fail
            go_ret
            exact ⟨_, node_new (HL.out.keep (Below.refl _ _).drew) hb2 hn', nxAlloc (nx (Below.refl _ _).drew hb2) _, rfl⟩
        · have h1' : Hid ((((s[0]'hz0).toNat : Int) == 49) = false) := by show (_ == _) = false; rw [HX.out]; simpa using u8_ne (n := 49) (by omega) h49
          rw [show (Tr.nd l r).rotAt k (c :: cs) = none by rw [Tr.rotAt, if_neg h48, if_neg h49]]
          clear hs ih hx
          go_enter Try.func96, Try.ntmps96
          go_wp2_with fail
          refine (isLeaf_any _ b _ H.out).mono ?_; rintro e w1 ⟨rfl, rfl⟩
          simp only [Tr.isLf]
          go_wp2_with fail
          go_region
          have g1 := h0.out
          have g2 := h1'.out
          go_wp2_with fail
          go_ret
          exact ⟨(Below.refl _ _).drew, rfl⟩
end Go.Proofs.Ytllnfbenaeeloaa

/-! Br3 -/
namespace Go.Proofs.Ytllnfbenaeeloaa
open Go.RowKit

/-- A tree rotated at an address, if there are both. -/
def turnO (k : Bool) (a b : ByteArray) : Option Tr :=
  match treeOf a with
  | some t => t.rotAt k b.data.toList
  | none => none
theorem turnO_carets {k : Bool} {a b : ByteArray} {u : Tr} (h : turnO k a b = some u) : u.carets ≤ 8 := by
  unfold turnO at h
  split at h
  · next t ht => have := (treeOf_some ht).2; have := rotAt_carets _ h; omega
  · simp at h

end Go.Proofs.Ytllnfbenaeeloaa

/-! Src -/
namespace Go.Proofs.Ytllnfbenaeeloaa
open Go.RowKit

theorem CellsS.form0 {b1 : Nat} {w : World} {v : Value} {xs : List ByteArray} (h : CellsS b1 w v xs) :
    ∃ oa cap, v = .slice oa xs.length cap ∧ xs.length ≤ cap ∧ cap ≤ maxLen ∧ ∀ i, i < xs.length → ∃ g, oa = some ⟨g, 0, none⟩ ∧ b1 ≤ g ∧ g < w.heap.size ∧ w.cell? ⟨g, i, none⟩ = some (.string (xs.getD i ⟨#[]⟩)) := by
  rcases h with ⟨rfl, rfl⟩ | ⟨g, cap, rfl, h1, h2, h3, h4, h5, _⟩
  · exact ⟨none, 0, rfl, Nat.le_refl _, Nat.zero_le _, fun i hi => by simp at hi⟩
  · exact ⟨some ⟨g, 0, none⟩, cap, rfl, h3, h4, fun i hi => ⟨g, rfl, h1, h2, h5 i hi⟩⟩

theorem CellsS.at1 {b1 : Nat} {w : World} {g n cap : Nat} {ss : List ByteArray} (h : CellsS b1 w (.slice (some ⟨g, 0, none⟩) n cap) ss) {i : Nat} {t : ByteArray} (hi : ss[i]? = some t) : w.cell? ⟨g, i, none⟩ = some (.string t) := by
  rcases h with ⟨h, _⟩ | ⟨g', cap', h, _, _, _, _, hc, _⟩
  · cases h
  · cases h
    have hl := (List.getElem?_eq_some_iff.1 hi).1
    rw [hc i hl]
    simp [List.getD_eq_getElem?_getD, hi]

/-- A slice value from which the cells ys can be read. -/
def SrcV (w : World) (u : Value) (ys : List Value) : Prop :=
  (u = .slice none 0 0 ∧ ys = []) ∨ ∃ ad c, u = .slice (some ad) ys.length c ∧ ∀ j x, ys[j]? = some x → w.cell? (ad.add j) = some x

theorem SrcV.keep {w w' : World} {u : Value} {ys : List Value} (h : SrcV w u ys) (hb : Below w.heap.size w w') : SrcV w' u ys := by
  rcases h with h | ⟨ad, c, h1, h2⟩
  · exact .inl h
  · refine .inr ⟨ad, c, h1, fun j x hj => ?_⟩
    have hc := h2 j x hj
    exact (hb.cell (World.block_lt_of_cell? w _ hc)).trans hc

theorem wpList_appSrc {P : Program} {w : World} {ops : Array Oper} {rest : List Oper} {o : Oper} {a : Act} {Q : Exit → Act → World → Prop} (hgd : o.guard = none) (s x : Operand) (t : TypeId)
    (ho : o.op = .call { callee := .builtin .append, args := #[s, x], argTypes := #[t, t] })
    (base : Nat) (e : TypeId) (i : TypeInfo) (z : Value) (bytes : Nat) (ht : P.underlying t = some (.slice e)) (hi : P.info? e = some i) (hz : i.zero = some z)
    (hsize : i.size = 1) (hby : i.bytes = bytes) (hzs : z.cells.size = 1)
    (v : Value) (n : Nat) (xs : List Value) (hs : a.eval s = v) (hown : w.ownsRow base e 1 v n xs)
    (u : Value) (ys : List Value) (hx : a.eval x = u) (hsrc : SrcV w u ys) (h1 : ∀ y ∈ ys, y.oneCell' = true)
    (h63 : n + ys.length ≤ maxLen) (hbytes : (n + ys.length) * bytes ≤ 140737488355328) (hbase : base ≤ w.heap.size)
    (h : ∀ v' w', w'.ownsRow base e 1 v' (n + ys.length) (xs ++ ys) → Below base w w' → (v' = .slice none 0 0 → v = .slice none 0 0) → wpList P ops Q rest (a.put o.dst v') w') : wpList P ops Q (o :: rest) a w := by
  rcases hsrc with ⟨rfl, rfl⟩ | ⟨ad, c, rfl, hc⟩
  · refine wpList_append_own_none hgd s x t ho base e i 1 ht hi v n xs hs hown hx ?_
    exact h v w (by simpa using hown) (Below.refl _ _) id
  · refine wpList_append_own w hgd s x t ho base e i z 1 bytes ht hi hz hsize hby hzs (by decide) v n xs hs hown ad ys.length c ys hx (by simp) hc h1 h63 hbytes hbase ?_
    intro v' w' hown' hg hn
    exact h v' w' hown' ((Below.refl base w).grown hg hbase (fun k hk => ownsRow_ge hown k hk)) (fun e => (hn.1 e).1)

theorem row_shape {w : World} {base : Nat} {e : TypeId} {size : Nat} {v : Value} {n : Nat} {xs : List Value} (h : w.ownsRow base e size v n xs) (hn : v ≠ .slice none 0 0) : ∃ g cap, v = .slice (some ⟨g, 0, none⟩) n cap ∧ base ≤ g := by
  rcases h.2 with ⟨hv, _⟩ | ⟨g, cap, cur, hv, hb, _⟩
  · exact absurd hv hn
  · exact ⟨g, cap, hv, hb⟩

/-- An empty slice in a block of its own. -/
theorem ownsRow_empty (w : World) (e : TypeId) : (w.alloc (.cells #[] e (0, 0))).ownsRow w.heap.size e 1 (.slice (some ⟨w.heap.size, 0, none⟩) 0 0) 0 [] :=
  World.ownsRow_made w #[] 0 (Nat.le_refl _) (Nat.zero_le _) rfl

/-- The parts of a slice of the call's own, as sources. -/
theorem src_take {base : Nat} {w : World} {e : TypeId} {g n cap : Nat} {xs : List Value} (h : w.ownsRow base e 1 (.slice (some ⟨g, 0, none⟩) n cap) n xs) (k : Nat) (hk : k ≤ n) (c : Nat) : SrcV w (.slice (some ⟨g, 0, none⟩) k c) (xs.take k) := by
  have hl := h.1
  refine .inr ⟨_, c, by rw [List.length_take]; congr 1; omega, fun j x hj => ?_⟩
  have hj' := (List.getElem?_eq_some_iff.1 hj).1
  rw [List.length_take] at hj'
  rw [List.getElem?_take_of_lt (by omega)] at hj
  rw [addr_add, World.ownsRow.cellAt h j (by omega)]
  exact hj
theorem src_drop {base : Nat} {w : World} {e : TypeId} {g n cap : Nat} {xs : List Value} (h : w.ownsRow base e 1 (.slice (some ⟨g, 0, none⟩) n cap) n xs) (k : Nat) (hk : k ≤ n) (c : Nat) : SrcV w (.slice (some ⟨g, k, none⟩) (n - k) c) (xs.drop k) := by
  have hl := h.1
  refine .inr ⟨_, c, by rw [List.length_drop]; congr 1; omega, fun j x hj => ?_⟩
  have hj' := (List.getElem?_eq_some_iff.1 hj).1
  rw [List.length_drop] at hj'
  rw [List.getElem?_drop] at hj
  have ea : (⟨g, k, none⟩ : Addr).add j = ⟨g, k + j, none⟩ := by
    unfold Addr.add
    split
    · next h0 => rw [h0]; simp
    · rfl
  rw [ea, World.ownsRow.cellAt h (k + j) (by omega)]
  exact hj
theorem src_cells {b1 : Nat} {w : World} {g n cap : Nat} {xs : List ByteArray} (h : CellsS b1 w (.slice (some ⟨g, 0, none⟩) n cap) xs) (k : Nat) (hk : k ≤ xs.length) (c : Nat) : SrcV w (.slice (some ⟨g, 0, none⟩) k c) ((xs.take k).map Value.string) := by
  rcases h with ⟨h, _⟩ | ⟨g', cap', h, _, _, _, _, hc, _⟩
  · cases h
  · cases h
    refine .inr ⟨_, c, by rw [List.length_map, List.length_take]; congr 1; omega, fun j x hj => ?_⟩
    have hj' := (List.getElem?_eq_some_iff.1 hj).1
    rw [List.length_map, List.length_take] at hj'
    rw [List.getElem?_map, List.getElem?_take_of_lt (by omega), List.getElem?_eq_getElem (by omega)] at hj
    have hx := hc j (by omega)
    rw [List.getD_eq_getElem?_getD, List.getElem?_eq_getElem (by omega)] at hx
    rw [addr_add, hx]
    exact hj
theorem src_end {w : World} (a : Option Addr) (c : Nat) (h : a = none → c = 0) : SrcV w (.slice a 0 c) [] := by
  cases a with
  | none => rw [h rfl]; exact .inl ⟨rfl, rfl⟩
  | some ad => exact .inr ⟨ad, c, rfl, fun j x hj => by simp at hj⟩
end Go.Proofs.Ytllnfbenaeeloaa

/-! CatT -/
namespace Go.Proofs.Ytllnfbenaeeloaa
open Go.RowKit

/-- A call that hands back a slice of texts of its own, or none. -/
def GivesOwn (ss : List ByteArray) (w : World) (e : Ending) (w' : World) : Prop := ∃ v, OwnS w.heap.size w' v ss ∧ Below w.heap.size w w' ∧ e = .returned v

/-- A slice of texts as a source: its length, and that its cells can be read. -/
def SrcT (w : World) (u : Value) (xs : List ByteArray) : Prop := SrcV w u (xs.map (Value.string)) ∧ ∃ oa c, u = .slice oa xs.length c
theorem SrcT.keep {w w' : World} {u : Value} {xs : List ByteArray} (h : SrcT w u xs) (hb : Below w.heap.size w w') : SrcT w' u xs := ⟨h.1.keep hb, h.2⟩
theorem SrcT.of {w : World} {u : Value} {xs : List ByteArray} (h : SrcV w u (xs.map (Value.string))) : SrcT w u xs := by
  refine ⟨h, ?_⟩
  rcases h with ⟨rfl, hx⟩ | ⟨ad, c, rfl, _⟩
  · have : xs = [] := by simpa using hx
    subst this
    exact ⟨none, 0, rfl⟩
  · exact ⟨some ad, c, by rw [List.length_map]⟩
theorem oneTs (xs : List ByteArray) : ∀ u ∈ xs.map (Value.string), u.oneCell' = true := by
  intro u hu
  obtain ⟨x, _, rfl⟩ := List.mem_map.1 hu
  rfl

set_option maxRecDepth 100000 in
set_option maxHeartbeats 2000000 in
theorem growS_nil (n : Nat) (w : World) (hn : n ≤ 100000) :
    Calls Try.prog 129 #[.slice none 0 0, .int .i64 n] w (GivesOwn [] w) := by
  obtain ⟨i0, hi, hz0, hz1, hz2⟩ := info_parts info_str
  have h1 : (0 : Int) ≤ (n : Int) := by omega
  by_cases h0 : n = 0
  · subst h0
    go_enter Try.func129, Try.ntmps129
    go_wp2_with fail
    go_ret
    exact ⟨_, OwnS.nil _ _, Below.refl _ _, rfl⟩
  · have h2 : (0 : Int) < (n : Int) := by omega
    have happ := Lib.run_append_nil_zeros (P := Try.prog) w 49 3 49 9 i0 (.string ⟨#[]⟩) .i64 .i64 Try.underlying49 Try.underlying3 hi hz0 n (by omega) (by omega) (by omega) (by rw [hz2]; omega)
    have hge := grownCap_ge w n 0 9
    have hle := grownCap_le_maxLen w n 0 9 (by unfold maxLen; omega)
    have hown : (w.drew.alloc (.cells (Builtin.zeroCells (Value.string ⟨#[]⟩).cells n ++ Builtin.zeroCells (Value.string ⟨#[]⟩).cells (grownCap w n 0 9 - n)) 9)).ownsRow w.heap.size 9 1 (.slice (some ⟨w.heap.size, 0, none⟩) 0 (grownCap w n 0 9)) 0 [] :=
      World.ownsRow_made w.drew _ _ (Nat.le_refl _) hle (by rw [Array.size_append, size_zeroCells, size_zeroCells]; show n * 1 + _ * 1 = _; omega)
    have hbel : Below w.heap.size w (w.drew.alloc (.cells (Builtin.zeroCells (Value.string ⟨#[]⟩).cells n ++ Builtin.zeroCells (Value.string ⟨#[]⟩).cells (grownCap w n 0 9 - n)) 9)) := nxAlloc ((Below.refl _ _).drew) _
    unfold maxLen at hle
    generalize grownCap w n 0 9 = gc at *
    have HO := Lib.hid hown
    clear hown
    have HA := Lib.hid happ
    clear happ h0
    go_enter Try.func129, Try.ntmps129
    go_wp2_with (at_builtin; refine Lib.wpList_append_run _ rfl _ _ _ _ rfl _ _ rfl rfl _ _ HA.out ?_)
    go_ret
    exact ⟨_, HO.out, hbel, rfl⟩

/-- Slices in a row of their own, and what can be read of them. -/
def PartsS (w : World) (g : Nat) (us : List Value) (ps : List (List ByteArray)) : Prop := g < w.heap.size ∧ us.length = ps.length ∧ ∀ i, i < ps.length → w.cell? ⟨g, i, none⟩ = some (us.getD i undef) ∧ SrcT w (us.getD i undef) (ps.getD i [])
theorem PartsS.keep {w w' : World} {g : Nat} {us : List Value} {ps : List (List ByteArray)} (h : PartsS w g us ps) (hb : Below w.heap.size w w') : PartsS w' g us ps :=
  ⟨Nat.lt_of_lt_of_le h.1 hb.size, h.2.1, fun i hi => ⟨(hb.cell (p := ⟨g, i, none⟩) h.1).trans (h.2.2 i hi).1, (h.2.2 i hi).2.keep hb⟩⟩
theorem flatS_take {ps : List (List ByteArray)} {k : Nat} (h : k < ps.length) : (ps.take (k + 1)).flatten = (ps.take k).flatten ++ ps.getD k [] := by
  rw [List.take_succ_eq_append_getElem h, List.flatten_append]
  simp [h]
def flS (ps : List (List ByteArray)) (k : Nat) : Nat := (ps.take k).flatten.length
theorem flatS_le (ps : List (List ByteArray)) (k : Nat) : (ps.take k).flatten.length ≤ ps.flatten.length := by
  have := congrArg List.flatten (List.take_append_drop k ps)
  rw [List.flatten_append] at this
  have := congrArg List.length this
  rw [List.length_append] at this; omega

set_option maxRecDepth 100000 in
set_option maxHeartbeats 4000000 in
theorem concatS_any (g n : Nat) (us : List Value) (ps : List (List ByteArray)) (w : World) (h : PartsS w g us ps) (hn : ps.length = n) (hn9 : n ≤ 100) (hf : ps.flatten.length ≤ 10000) :
    Calls Try.prog 112 #[.slice (some ⟨g, 0, none⟩) n n] w (GivesOwn ps.flatten w) := by
  obtain ⟨i0, hi, hz0, hz1, hz2⟩ := info_parts info_str
  have HP := Lib.hid h
  have HN := Lib.hid hn
  obtain ⟨F, hF⟩ : ∃ F, F = ps.flatten.length := ⟨_, rfl⟩
  rw [← hF] at hf
  have hG := fun w => growS_nil F w (by omega)
  have HF := Lib.hid hF
  clear hF
  clear h hn
  go_enter Try.func112, Try.ntmps112
  go_wp2_with fail
  go_loop [3, 11] (fun m i => ∃ k : Nat, i = .int .i64 k ∧ k ≤ n ∧ m = .int .i64 ((flS ps k : Nat) : Int)) (fun _ i => n - (intOf i).toNat)
  case atStart => exact ⟨0, rfl, Nat.zero_le _, rfl⟩
  case round =>
    obtain ⟨k, rfl, hk, rfl⟩ := hrel
    by_cases hlt : k < n
    · have hlt' : (k : Int) < (n : Int) := by omega
      obtain ⟨c1, _, oa, c, hu⟩ := HP.out.2.2 k (by rw [HN.out]; exact hlt)
      rw [hu] at c1
      have hst : flS ps (k + 1) = flS ps k + (ps.getD k []).length := by
        have h8 := congrArg List.length (flatS_take (ps := ps) (k := k) (by rw [HN.out]; exact hlt))
        rwa [List.length_append] at h8
      have hle : flS ps (k + 1) ≤ F := by rw [HF.out]; exact flatS_le ps (k + 1)
      have HS := Lib.hid hst
      have h0 : (0 : Int) ≤ (flS ps k : Int) + ((ps.getD k []).length : Int) := by omega
      have h9 : flS ps k + (ps.getD k []).length ≤ 10000 := by omega
      generalize flS ps k = a at *
      generalize (ps.getD k []).length = b at *
      clear hu hst hle
      go_wp2_with fail
      go_round
      case rel => exact ⟨k + 1, by go_num, by omega, by rw [HS.out]; go_num⟩
      case measure => simp [intOf]; omega
    · obtain rfl : k = n := by omega
      rw [show flS ps k = F by rw [HF.out]; unfold flS; rw [show ps.take k = ps by rw [← HN.out]; exact List.take_length]]
      go_wp2_with fail
      refine (hG _).mono ?_; rintro e w1 ⟨v1, own1, hb1, rfl⟩
      go_wp2_with fail
      go_loopw [6, 27] (fun u i wr => ∃ q : Nat, i = .int .i64 q ∧ q ≤ k ∧ OwnS w.heap.size wr u (ps.take q).flatten ∧ Below w.heap.size w wr) (fun _ i _ => k - (intOf i).toNat)
      case atStart => exact ⟨0, rfl, Nat.zero_le _, own1, hb1⟩
      case round =>
        obtain ⟨q, rfl, hq, hown, hbw⟩ := hrel
        by_cases hlq : q < k
        · have hlq' : (q : Int) < (k : Int) := by omega
          have hPk := (HP.out.keep hbw).2.2 q (by rw [HN.out]; exact hlq)
          obtain ⟨c1, hsv, oa, c, hu⟩ := hPk
          rw [hu] at c1 hsv
          have hst := flatS_take (ps := ps) (k := q) (by rw [HN.out]; exact hlq)
          have hle := flatS_le ps (q + 1)
          rw [hst, List.length_append, ← HF.out] at hle
          have hone := oneTs (ps.getD q [])
          have hyl : ((ps.getD q []).map (Value.string)).length = (ps.getD q []).length := List.length_map _
          have HS := Lib.hid hst
          unfold OwnS at hown
          generalize (ps.take q).flatten = xa at *
          generalize ps.getD q [] = xb at *
          clear hu hst
          go_wp2_with (at_builtin; refine wpList_appSrc rfl _ _ 49 rfl w.heap.size 9 i0 (.string ⟨#[]⟩) 16 Try.underlying49 hi hz0 hz1 hz2 rfl _ _ _ rfl hown _ _ rfl hsv hone (by unfold maxLen; omega) (by omega) hbw.size ?_; intro v9 w9 o9 b9 n9)
          have hown1 : OwnS w.heap.size w9 v9 (xa ++ xb) := by
            unfold OwnS
            rw [List.length_append, List.map_append, ← hyl]
            exact o9
          have hbw9 := hbw.trans b9
          clear o9 b9 n9 hown hbw hsv
          go_wp2_with fail
          go_roundw
          case rel => exact ⟨q + 1, by go_num, by omega, by rw [HS.out]; exact hown1, hbw9⟩
          case measure => simp [intOf]; omega
        · obtain rfl : q = k := by omega
          have hx : ps.take q = ps := by rw [← HN.out]; exact List.take_length
          rw [hx] at hown
          clear hx
          go_wp2_with fail
          go_ret
          exact ⟨_, hown, hbw, rfl⟩
end Go.Proofs.Ytllnfbenaeeloaa

/-! Mir -/
namespace Go.Proofs.Ytllnfbenaeeloaa
open Go.RowKit

/-- A call that hands back a node of a tree. -/
def GivesNode (t : Tr) (w : World) (e : Ending) (w' : World) : Prop :=
  ∃ b : Nat, NodeAt w' t b ∧ Below w.heap.size w w' ∧ e = .returned (.pointer (some ⟨b, 0, none⟩))

theorem below_two {w w1 : World} {b : Nat} {u v : Value} (hb : Below w.heap.size w w1) (h1 : w.cell? ⟨b, 0, none⟩ = some u) (h2 : w.cell? ⟨b, 1, none⟩ = some v) :
    w1.cell? ⟨b, 0, none⟩ = some u ∧ w1.cell? ⟨b, 1, none⟩ = some v := by
  have hl := World.block_lt_of_cell? w _ h1
  exact ⟨(hb.cell (p := ⟨b, 0, none⟩) hl).trans h1, (hb.cell (p := ⟨b, 1, none⟩) hl).trans h2⟩

end Go.Proofs.Ytllnfbenaeeloaa

/-! TreeO -/
namespace Go.Proofs.Ytllnfbenaeeloaa
open Go.RowKit

theorem keep_cell {w w' : World} {b o : Nat} {v : Value} (hb : Below w.heap.size w w') (h : w.cell? ⟨b, o, none⟩ = some v) : w'.cell? ⟨b, o, none⟩ = some v :=
  (hb.cell (p := ⟨b, o, none⟩) (World.block_lt_of_cell? _ _ h)).trans h

theorem treeOf_any (t : Tr) (w : World) (h : t.carets ≤ 1000) : Calls Try.prog 66 #[.string t.str] w (GivesNode t w) := by
  have hz := t.str_size
  have hp := place_any (t.str.size + 1) t.str
  rw [parse_str t _ (by have := t.text_len; omega)] at hp
  have hp' : ∀ w, Calls Try.prog 92 #[.string t.str] w (PlaceOk t [] t.str w) := fun w => hp w (by omega) (by omega)
  clear hz hp
  go_enter Try.func66, Try.ntmps66
  go_wp2_with fail
  refine (hp' _).mono ?_; rintro e w1 ⟨b1, s1, hs1, hz1, hn1, hb1, rfl⟩
  clear hs1 hz1
  go_wp2_with fail
  go_ret
  exact ⟨b1, hn1, hb1, rfl⟩

end Go.Proofs.Ytllnfbenaeeloaa

/-! Pl1 -/
namespace Go.Proofs.Ytllnfbenaeeloaa
open Go.RowKit

theorem OwnS.srcB {base : Nat} {w : World} {v : Value} {L : List ByteArray} (h : OwnS base w v L) : SrcV w v (L.map Value.string) := by
  rcases h.2 with ⟨hv, hn⟩ | ⟨g, cap, cur, hv, hb, hr⟩
  · left
    exact ⟨hv, by rw [List.length_eq_zero_iff.1 hn]; rfl⟩
  · subst hv
    refine .inr ⟨⟨g, 0, none⟩, cap, by simp, fun j x hj => ?_⟩
    have hj' : j < L.length := by have := (List.getElem?_eq_some_iff.1 hj).1; simpa using this
    rw [addr_add, World.ownsRow.cellAt h j (by omega), hj]
theorem OwnS.srcT {base : Nat} {w : World} {v : Value} {L : List ByteArray} (h : OwnS base w v L) : ∃ oa c, v = .slice oa L.length c ∧ SrcT w v L := by
  have h1 := SrcT.of h.srcB
  obtain ⟨oa, c, e⟩ := h1.2
  exact ⟨oa, c, e, h1⟩
theorem cell_newB (w : World) (cs : Array Value) (t : TypeId) (j : Nat) {u : Value} (h : cs[j]? = some u) : (w.alloc (.cells cs t (0, 0))).cell? ⟨w.heap.size, j, none⟩ = some u := by
  have := heap_alloc_at w (.cells cs t (0, 0))
  unfold World.cell?
  simp only [this]
  simpa using h

theorem here1_yes {k : Bool} {t : Tr} (h : (t.rot k).isSome = true) (here : ByteArray) : t.here1 k here = [here] := by unfold Tr.here1; rw [if_pos h]
theorem here1_no {k : Bool} {t : Tr} (h : (t.rot k).isSome = false) (here : ByteArray) : t.here1 k here = [] := by unfold Tr.here1; rw [if_neg (by simp [h])]

set_option maxRecDepth 100000 in
set_option maxHeartbeats 2000000 in
theorem brPlaces_any (k : Bool) (t : Tr) : ∀ (here : ByteArray) (w : World), t.carets ≤ 60 → here.size + t.carets ≤ 1000 →
    Calls Try.prog 62 #[.string t.str, .string here, .bool k] w (GivesOwn (t.spots k here) w) := by
  obtain ⟨i0, hi, hz0, hz1, hz2⟩ := info_parts info_str
  induction t with
  | lf =>
    intro here w ht hh
    go_enter Try.func62, Try.ntmps62
    go_wp2_with fail
    refine (trLeaf_any .lf _).mono ?_; rintro e w1 ⟨rfl, rfl⟩
    simp only [Tr.isLf]
    go_wp2_with fail
    go_ret
    exact ⟨_, OwnS.nil _ _, Below.refl _ _, rfl⟩
  | nd l r ihl ihr =>
    intro here w ht hh
    have ht' : l.carets + r.carets + 1 ≤ 60 := ht
    have hh' : here.size + (l.carets + r.carets + 1) ≤ 1000 := hh
    have ll := spots_len (k := k) l (here ++ ⟨#[48]⟩)
    have lr := spots_len (k := k) r (here ++ ⟨#[49]⟩)
    have hC : (Tr.nd l r).spots k here = (Tr.nd l r).here1 k here ++ (l.spots k (here ++ ⟨#[48]⟩) ++ r.spots k (here ++ ⟨#[49]⟩)) := rfl
    have s0 : (here ++ (⟨#[48]⟩ : ByteArray)).size = here.size + 1 := ByteArray.size_append
    have s1 : (here ++ (⟨#[49]⟩ : ByteArray)).size = here.size + 1 := ByteArray.size_append
    have jl := fun w => ihl (here ++ ⟨#[48]⟩) w (by omega) (by omega)
    have jr := fun w => ihr (here ++ ⟨#[49]⟩) w (by omega) (by omega)
    have hR := fun w => brRotate_any k (.nd l r) w ht
    rw [hC]
    generalize l.spots k (here ++ ⟨#[48]⟩) = L1 at *
    generalize r.spots k (here ++ ⟨#[49]⟩) = L2 at *
    have hz9 : here.size ≤ 1000 := by omega
    have h1n : L1.length ≤ 60 := by omega
    have h2n : L2.length ≤ 60 := by omega
    have hb0 := Below.refl w.heap.size w
    have sl : l.str.size ≤ 200 := by have := l.str_size; omega
    have sr : r.str.size ≤ 200 := by have := r.str_size; omega
    clear ihl ihr s0 s1 ll lr hC
    cases hg : ((Tr.nd l r).rot k) with
    | none =>
      rw [here1_no (by rw [hg]; rfl), List.nil_append]
      rw [hg] at hR
      have hR' : ∀ w, Calls Try.prog 86 #[.string (Tr.nd l r).str, .bool k] w (Gives (.tuple #[.string ⟨#[]⟩, .bool false]) w) := hR
      clear hR hg
      have own0 : ∀ w', OwnS w.heap.size w' (.slice none 0 0) [] := fun w' => OwnS.nil _ _
      go_enter Try.func62, Try.ntmps62
      go_wp2_with fail
      refine (trLeaf_any (.nd l r) _).mono ?_; rintro e w1 ⟨rfl, rfl⟩
      simp only [Tr.isLf]
      go_wp2_with fail
      refine (hR' _).mono ?_; rintro e w2 ⟨rfl, hb2⟩
      have hbw2 := nx hb0 hb2
      have own2 := own0 w2
      clear own0 hR'
      have hA9 : ([] : List ByteArray).length ≤ 1 := by simp
      go_wp2_with fail
      refine (trSides_any l r _ (by omega)).mono ?_; rintro e w3 ⟨rfl, hb3⟩
      replace own2 := own2.keep hb3
      have hbw3 := nx hbw2 hb3
      go_wp2_with fail
      refine (jl _).mono ?_; rintro e w4 ⟨v4, own4, hb4, rfl⟩
      replace own2 := own2.keep hb4
      have hbw4 := nx hbw3 hb4
      have src4 := own4.srcB
      have one4 := oneS L1
      have ly4 : (L1.map Value.string).length = L1.length := List.length_map _
      unfold OwnS at own2
      go_wp2_with (at_builtin; refine wpList_appSrc rfl _ _ 49 rfl w.heap.size 9 i0 (.string ⟨#[]⟩) 16 Try.underlying49 hi hz0 hz1 hz2 rfl _ _ _ rfl own2 _ _ rfl src4 one4 (by unfold maxLen; omega) (by omega) hbw4.size ?_; intro v5 w5 o9 b9 n9)
      have own5 : OwnS w.heap.size w5 v5 (([] : List ByteArray) ++ L1) := by
        unfold OwnS
        rw [List.length_append, List.map_append, ← ly4]
        exact o9
      have hbw5 := hbw4.trans b9
      clear o9 b9 n9 own4 src4 own2 hb3 hb4 hbw3 hbw4
      go_wp2_with fail
      refine (jr _).mono ?_; rintro e w6 ⟨v6, own6, hb6, rfl⟩
      replace own5 := own5.keep hb6
      have hbw6 := nx hbw5 hb6
      have src6 := own6.srcB
      have one6 := oneS L2
      have ly6 : (L2.map Value.string).length = L2.length := List.length_map _
      have la5 : (([] : List ByteArray) ++ L1).length ≤ 61 := by rw [List.length_append]; omega
      unfold OwnS at own5
      generalize hX5 : ([] : List ByteArray) ++ L1 = X5 at *
      have HX5 := Lib.hid hX5
      clear hX5
      go_wp2_with (at_builtin; refine wpList_appSrc rfl _ _ 49 rfl w.heap.size 9 i0 (.string ⟨#[]⟩) 16 Try.underlying49 hi hz0 hz1 hz2 rfl _ _ _ rfl own5 _ _ rfl src6 one6 (by unfold maxLen; omega) (by omega) hbw6.size ?_; intro v7 w7 o9 b9 n9)
      have own7 : OwnS w.heap.size w7 v7 (X5 ++ L2) := by
        unfold OwnS
        rw [List.length_append, List.map_append, ← ly6]
        exact o9
      rw [show X5 ++ L2 = L1 ++ L2 by rw [← HX5.out]; simp] at own7
      have hbw7 := hbw6.trans b9
      clear o9 b9 n9 own5 src6 own6 hbw5 hbw6 hb6
      go_wp2_with fail
      go_ret
      exact ⟨_, own7, hbw7, rfl⟩
    | some u =>
      rw [here1_yes (by rw [hg]; rfl)]
      rw [hg] at hR
      have hR' : ∀ w, Calls Try.prog 86 #[.string (Tr.nd l r).str, .bool k] w (Gives (.tuple #[.string u.str, .bool true]) w) := hR
      have su : u.str.size ≤ 200 := by have := u.str_size; have := rot_carets hg; have : (Tr.nd l r).carets = l.carets + r.carets + 1 := rfl; omega
      clear hR hg
      go_enter Try.func62, Try.ntmps62
      go_wp2_with fail
      refine (trLeaf_any (.nd l r) _).mono ?_; rintro e w1 ⟨rfl, rfl⟩
      simp only [Tr.isLf]
      go_wp2_with fail
      refine (hR' _).mono ?_; rintro e w2 ⟨rfl, hb2⟩
      have hbw2 := nx hb0 hb2
      have hown : w2.ownsRow w.heap.size 9 1 (.slice none 0 0) 0 [] := World.ownsRow_nil _ _ _ _
      clear hR'
      go_wp2_with (at_builtin; refine wpList_append_own _ rfl _ _ 49 rfl w.heap.size 9 i0 (.string ⟨#[]⟩) 1 16 Try.underlying49 hi hz0 hz1 hz2 rfl (by decide) _ _ _ rfl (hown.alloc _) ⟨w2.heap.size, 0, none⟩ 1 1 [.string here] rfl rfl (new1 _ _ _) (oneS [here]) (by unfold maxLen; omega) (by omega) (size_al hbw2 _) ?_; intro v' w9 hown' hgrow hnn)
      have hbw9 := below_app hbw2 hown (Nat.le_refl _) hgrow
      have own9 : OwnS w.heap.size w9 v' ([] ++ [here]) := OwnS.app (A := []) (B := [here]) hown'
      rw [List.nil_append] at own9
      clear hown hown' hgrow hnn hbw2 hb2
      have hA9 : [here].length ≤ 1 := by simp
      go_wp2_with fail
      refine (trSides_any l r _ (by omega)).mono ?_; rintro e w3 ⟨rfl, hb3⟩
      replace own9 := own9.keep hb3
      have hbw3 := nx hbw9 hb3
      go_wp2_with fail
      refine (jl _).mono ?_; rintro e w4 ⟨v4, own4, hb4, rfl⟩
      replace own9 := own9.keep hb4
      have hbw4 := nx hbw3 hb4
      have src4 := own4.srcB
      have one4 := oneS L1
      have ly4 : (L1.map Value.string).length = L1.length := List.length_map _
      unfold OwnS at own9
      go_wp2_with (at_builtin; refine wpList_appSrc rfl _ _ 49 rfl w.heap.size 9 i0 (.string ⟨#[]⟩) 16 Try.underlying49 hi hz0 hz1 hz2 rfl _ _ _ rfl own9 _ _ rfl src4 one4 (by unfold maxLen; omega) (by omega) hbw4.size ?_; intro v5 w5 o9 b9 n9)
      have own5 : OwnS w.heap.size w5 v5 ([here] ++ L1) := by
        unfold OwnS
        rw [List.length_append, List.map_append, ← ly4]
        exact o9
      have hbw5 := hbw4.trans b9
      clear o9 b9 n9 own4 src4 own9 hb3 hb4 hbw3 hbw4
      go_wp2_with fail
      refine (jr _).mono ?_; rintro e w6 ⟨v6, own6, hb6, rfl⟩
      replace own5 := own5.keep hb6
      have hbw6 := nx hbw5 hb6
      have src6 := own6.srcB
      have one6 := oneS L2
      have ly6 : (L2.map Value.string).length = L2.length := List.length_map _
      have la5 : ([here] ++ L1).length ≤ 61 := by rw [List.length_append]; omega
      unfold OwnS at own5
      generalize hX5 : [here] ++ L1 = X5 at *
      have HX5 := Lib.hid hX5
      clear hX5
      go_wp2_with (at_builtin; refine wpList_appSrc rfl _ _ 49 rfl w.heap.size 9 i0 (.string ⟨#[]⟩) 16 Try.underlying49 hi hz0 hz1 hz2 rfl _ _ _ rfl own5 _ _ rfl src6 one6 (by unfold maxLen; omega) (by omega) hbw6.size ?_; intro v7 w7 o9 b9 n9)
      have own7 : OwnS w.heap.size w7 v7 (X5 ++ L2) := by
        unfold OwnS
        rw [List.length_append, List.map_append, ← ly6]
        exact o9
      rw [show X5 ++ L2 = [here] ++ (L1 ++ L2) by rw [← HX5.out]; simp] at own7
      have hbw7 := hbw6.trans b9
      clear o9 b9 n9 own5 src6 own6 hbw5 hbw6 hb6
      go_wp2_with fail
      go_ret
      exact ⟨_, own7, hbw7, rfl⟩
end Go.Proofs.Ytllnfbenaeeloaa

/-! Nb1 -/
namespace Go.Proofs.Ytllnfbenaeeloaa
open Go.RowKit

theorem less_list : ∀ (x y : List UInt8), Go.Op.bytesLess x y = decide (x < y) := by
  intro x
  induction x with
  | nil => intro y; cases y <;> simp [Go.Op.bytesLess]
  | cons a x ih =>
    intro y
    cases y with
    | nil => simp [Go.Op.bytesLess]
    | cons b y =>
      rw [Go.Op.bytesLess, ih y, Bool.eq_iff_iff]
      simp [List.cons_lt_cons_iff]
theorem less_eq (a b : ByteArray) : Go.Op.bytesLess a.toList b.toList = decide (a.data.toList < b.data.toList) := by
  rw [less_list, Lib.toList_data, Lib.toList_data]

/-- An append at a step of a region, of a source that may be empty. -/
theorem step_append_src {P : Program} {w : World} {ops : Array Oper} {o : Oper} {a : Act} {K : Act → World → Prop} {Q : Exit → Act → World → Prop} {E : Prop} (hgd : o.guard = none) (s x : Operand) (t : TypeId)
    (ho : o.op = .call { callee := .builtin .append, args := #[s, x], argTypes := #[t, t] })
    (base : Nat) (e : TypeId) (i : TypeInfo) (z : Value) (bytes : Nat) (ht : P.underlying t = some (.slice e)) (hi : P.info? e = some i) (hz : i.zero = some z)
    (hsize : i.size = 1) (hby : i.bytes = bytes) (hzs : z.cells.size = 1)
    (v : Value) (n : Nat) (xs : List Value) (hs : a.eval s = v) (hown : w.ownsRow base e 1 v n xs)
    (ad : Addr) (c nl : Nat) (ys : List Value) (hnl : ys.length = nl) (hx : a.eval x = .slice (some ad) nl c) (hc : ∀ j u, ys[j]? = some u → w.cell? (ad.add j) = some u) (h1 : ∀ y ∈ ys, y.oneCell' = true)
    (h63 : n + ys.length ≤ maxLen) (hbytes : (n + ys.length) * bytes ≤ 140737488355328) (hbase : base ≤ w.heap.size)
    (h : ∀ v' w', w'.ownsRow base e 1 v' (n + ys.length) (xs ++ ys) → w.grownBy w' v.ownBlock → K (a.put o.dst v') w') :
    if Region.wanted o (yielded ops a.tmps) = true then Oper.wp P o a w K Q else E := by
  subst hnl
  have hw : Region.wanted o (yielded ops a.tmps) = true := by simp [Region.wanted, hgd]
  rw [if_pos hw]
  obtain ⟨v', w', hr, h2, h3, _, _⟩ := run_append_own_at (P := P) w base t o.type e i z 1 bytes ht hi hz hsize hby hzs (by decide) v n xs hown ad ys.length c ys (by simp) hc h1 h63 hbytes hbase
  unfold Oper.wp execOp
  simp only [ho, resolve, invoke, builtin, Sem.run_bind, Sem.run_pure, Result.andThen_ok, List.map_toArray, List.map_cons, List.map_nil, hs, hx, hr]
  exact h v' w' h2 h3

theorem step_append_none {P : Program} {w : World} {ops : Array Oper} {o : Oper} {a : Act} {K : Act → World → Prop} {Q : Exit → Act → World → Prop} {E : Prop} (hgd : o.guard = none) (s x : Operand) (t : TypeId)
    (ho : o.op = .call { callee := .builtin .append, args := #[s, x], argTypes := #[t, t] })
    (base : Nat) (e : TypeId) (i : TypeInfo) (ht : P.underlying t = some (.slice e)) (hi : P.info? e = some i)
    (v : Value) (n : Nat) (xs : List Value) (hs : a.eval s = v) (hown : w.ownsRow base e 1 v n xs) (hx : a.eval x = .slice none 0 0)
    (h : K (a.put o.dst v) w) : if Region.wanted o (yielded ops a.tmps) = true then Oper.wp P o a w K Q else E := by
  have hw : Region.wanted o (yielded ops a.tmps) = true := by simp [Region.wanted, hgd]
  rw [if_pos hw]
  have hrun := run_append_owned_none (P := P) (w := w) base t o.type e i 1 ht hi v n xs hown
  unfold Oper.wp
  simp [execOp, ho, resolve, invoke, builtin, hs, hx, hrun, Result.andThen]
  exact h
end Go.Proofs.Ytllnfbenaeeloaa

/-! Dots -/
namespace Go.Proofs.Ytllnfbenaeeloaa

/-- The index of the leaf n in a text that begins at 'off', or -1. -/
def posFrom : List UInt8 → Nat → Int → Int
  | [], _, _ => -1
  | c :: r, off, n => if c = 46 then (if n = 0 then off else posFrom r (off + 1) (n - 1)) else posFrom r (off + 1) n

theorem posFrom_range : ∀ (l : List UInt8) (off : Nat) (n : Int), posFrom l off n = -1 ∨ (off ≤ posFrom l off n ∧ posFrom l off n < off + l.length) := by
  intro l
  induction l with
  | nil => intro off n; exact .inl rfl
  | cons c r ih =>
    intro off n
    rw [posFrom]
    have h1 := ih (off + 1) n
    have h2 := ih (off + 1) (n - 1)
    simp only [List.length_cons]
    repeat' split
    all_goals omega

theorem posFrom_neg : ∀ (l : List UInt8) (off : Nat) (n : Int), n < 0 → posFrom l off n = -1 := by
  intro l
  induction l with
  | nil => intro off n _; rfl
  | cons c r ih =>
    intro off n h
    rw [posFrom, ih _ _ h, ih _ (n - 1) (by omega)]
    have h0 : ¬ n = 0 := by omega
    simp [h0]

theorem posFrom_big : ∀ (l : List UInt8) (off : Nat) (n : Int), (l.count 46 : Int) ≤ n → posFrom l off n = -1 := by
  intro l
  induction l with
  | nil => intro off n _; rfl
  | cons c r ih =>
    intro off n h
    rw [posFrom]
    rw [List.count_cons] at h
    split
    · next hc => rw [if_neg (by simp [hc] at h; omega)]; exact ih _ _ (by simp [hc] at h; omega)
    · next hc => exact ih _ _ (by simp [hc] at h; omega)

theorem posFrom_in : ∀ (l : List UInt8) (off : Nat) (n : Int), 0 ≤ n → n < (l.count 46 : Int) → off ≤ posFrom l off n := by
  intro l
  induction l with
  | nil => intro off n h k; simp at k; omega
  | cons c r ih =>
    intro off n h k
    rw [posFrom]
    rw [List.count_cons] at k
    split
    · next hc =>
      split
      · omega
      · have := ih (off + 1) (n - 1) (by omega) (by simp [hc] at k; omega); omega
    · next hc => have := ih (off + 1) n h (by simp [hc] at k; omega); omega

theorem text_dots (t : Tr) : t.text.count 46 = t.carets + 1 := by
  induction t with
  | lf => rfl
  | nd l r ihl ihr => simp [Tr.text, Tr.carets, List.count_append, ihl, ihr]; omega

/-- The text of a tree with another text in place of a leaf. -/
def graftS (s : ByteArray) (n : Int) (o : ByteArray) : ByteArray :=
  s.extract 0 (posFrom s.data.toList 0 n).toNat ++ o ++ s.extract ((posFrom s.data.toList 0 n).toNat + 1) s.size

theorem pos_str (t : Tr) (n : Int) : (0 ≤ n ∧ n ≤ t.carets ∧ 0 ≤ posFrom t.str.data.toList 0 n ∧ posFrom t.str.data.toList 0 n < t.str.size) ∨ ((n < 0 ∨ t.carets < n) ∧ posFrom t.str.data.toList 0 n = -1) := by
  rw [Tr.str_list]
  have hr := posFrom_range t.text 0 n
  have hz := t.str_size
  have hl := t.text_len
  have hd := text_dots t
  by_cases h1 : n < 0
  · exact .inr ⟨.inl h1, posFrom_neg _ _ _ h1⟩
  · by_cases h2 : (t.carets : Int) < n
    · exact .inr ⟨.inr h2, posFrom_big _ _ _ (by rw [hd]; omega)⟩
    · have := posFrom_in t.text 0 n (by omega) (by rw [hd]; omega)
      exact .inl (by omega)

theorem graft_size (t : Tr) (n : Int) (o : ByteArray) (h : 0 ≤ posFrom t.str.data.toList 0 n) (k : posFrom t.str.data.toList 0 n < t.str.size) : (graftS t.str n o).size = t.str.size - 1 + o.size := by
  unfold graftS
  simp only [ByteArray.size_append, ByteArray.size_extract]
  omega

end Go.Proofs.Ytllnfbenaeeloaa

/-! ExpoP -/
namespace Go.Proofs.Ytllnfbenaeeloaa

/-- Does a text begin with an exposed caret? -/
def expB (l : List UInt8) : Bool := l.take 4 == [40, 46, 46, 41]

/-- The left leaves of the exposed carets of a text, n leaves being in front of it. -/
def exL : List UInt8 → Int → List Int
  | [], _ => []
  | c :: r, n => (if expB (c :: r) then [n] else []) ++ exL r (if c = 46 then n + 1 else n)

theorem exL_length : ∀ (l : List UInt8) (n : Int), (exL l n).length ≤ l.length := by
  intro l
  induction l with
  | nil => intro n; simp [exL]
  | cons c r ih => intro n; have := ih (if c = 46 then n + 1 else n); rw [exL]; simp only [List.length_append, List.length_cons]; split <;> simp <;> omega

/-- What the spec's scan, which looks one byte back, has still to tell at index k. -/
def pend (l : List UInt8) (k : Nat) (n : Int) : List Int := if 0 < k ∧ expB (l.drop (k - 1)) = true then [n] else []

theorem expB_cons {c : UInt8} {r : List UInt8} (h : expB (c :: r) = true) : c = 40 ∧ 3 ≤ r.length := by
  unfold expB at h
  simp only [beq_iff_eq] at h
  have h1 := congrArg List.length h
  have h2 := congrArg List.head? h
  simp at h1 h2
  exact ⟨h2, by omega⟩

theorem exL_step {l r : List UInt8} {k : Nat} {c : UInt8} {n : Int} (h : l.drop k = c :: r) :
    exL (l.drop k) n = pend l (k + 1) (if c = 46 then n + 1 else n) ++ exL (l.drop (k + 1)) (if c = 46 then n + 1 else n) := by
  have hr : l.drop (k + 1) = r := drop_succ h
  rw [hr, h, exL]
  congr 1
  unfold pend
  rw [Nat.add_sub_cancel, h]
  cases hb : expB (c :: r) with
  | false => simp
  | true =>
    have := (expB_cons hb).1
    subst this
    simp

theorem expB_extract (s : ByteArray) (k : Nat) (h : 0 < k) : expB (s.data.toList.drop (k - 1)) = ((s.extract (k - 1) (k + 3)).toList == [40, 46, 46, 41]) := by
  unfold expB
  rw [Lib.extract_toList]
  have : k + 3 - (k - 1) = 4 := by omega
  rw [this]

theorem expB_here (s : ByteArray) (k : Nat) : expB (s.data.toList.drop k) = ((s.data.toList.drop k).take 4 == [40, 46, 46, 41]) := rfl

theorem expB_drop {l : List UInt8} {k : Nat} (h : expB (l.drop k) = true) : k + 4 ≤ l.length := by
  cases hd : l.drop k with
  | nil => rw [hd] at h; simp [expB] at h
  | cons c r =>
    rw [hd] at h
    have := (expB_cons h).2
    have := congrArg List.length hd
    simp at this
    omega

theorem pend_zero (l : List UInt8) (n : Int) : pend l 0 n = [] := by simp [pend]

end Go.Proofs.Ytllnfbenaeeloaa

/-! DropP -/
namespace Go.Proofs.Ytllnfbenaeeloaa

theorem posFrom_shift : ∀ (l : List UInt8) (off : Nat) (q : Int), posFrom l off q = if posFrom l 0 q = -1 then -1 else posFrom l 0 q + off := by
  intro l
  induction l with
  | nil => intro off q; rfl
  | cons c r ih =>
    intro off q
    have h1 := ih (off + 1) (q - 1)
    have h2 := ih (0 + 1) (q - 1)
    have h3 := ih (off + 1) q
    have h4 := ih (0 + 1) q
    have r1 := posFrom_range r 0 (q - 1)
    have r2 := posFrom_range r 0 q
    rw [posFrom, posFrom, h1, h2, h3, h4]
    repeat' split
    all_goals omega

/-- The leaf q is the left one of an exposed caret. -/
def dropB (l : List UInt8) (q : Int) : Bool := decide (1 ≤ posFrom l 0 q) && expB (l.drop ((posFrom l 0 q).toNat - 1))

theorem expB_two {c : UInt8} {r : List UInt8} (h : expB (c :: r) = true) : ∃ r', r = 46 :: r' := by
  unfold expB at h
  simp only [beq_iff_eq] at h
  match r with
  | [] => simp at h
  | d :: r' =>
    simp at h
    exact ⟨r', by rw [h.2.1]⟩

theorem mem_exL : ∀ (l : List UInt8) (n m : Int), n ∈ exL l m ↔ dropB l (n - m) = true := by
  intro l
  induction l with
  | nil => intro n m; simp [exL, dropB, posFrom]
  | cons c r ih =>
    intro n m
    have ih0 := ih n m
    have ih1 := ih n (m + 1)
    have e1 : n - (m + 1) = n - m - 1 := by omega
    rw [e1] at ih1
    rw [exL, List.mem_append]
    by_cases hc : c = 46
    · have hx : expB (c :: r) = false := by
        cases h : expB (c :: r) with
        | false => rfl
        | true => have := (expB_cons h).1; rw [hc] at this; exact absurd this (by decide)
      rw [hx, if_pos hc, ih1]
      simp only [Bool.false_eq_true, if_false, List.not_mem_nil, false_or]
      unfold dropB
      rw [posFrom, if_pos hc]
      by_cases hz : n - m = 0
      · rw [if_pos hz, posFrom_neg r 0 (n - m - 1) (by omega)]
        simp
      · rw [if_neg hz, posFrom_shift r (0 + 1)]
        have hr := posFrom_range r 0 (n - m - 1)
        by_cases h1 : posFrom r 0 (n - m - 1) = -1
        · rw [if_pos h1, h1]; simp
        · rw [if_neg h1]
          by_cases h0 : posFrom r 0 (n - m - 1) = 0
          · rw [h0]
            simp [hx]
          · have h2 : 1 ≤ posFrom r 0 (n - m - 1) := by omega
            obtain ⟨p, hp⟩ : ∃ p : Nat, posFrom r 0 (n - m - 1) = (p : Int) + 1 := ⟨(posFrom r 0 (n - m - 1)).toNat - 1, by omega⟩
            rw [hp]
            have t1 : ((p : Int) + 1 + ((0 + 1 : Nat) : Int)).toNat - 1 = p + 1 := by omega
            have t2 : ((p : Int) + 1).toNat - 1 = p := by omega
            rw [t1, t2, List.drop_succ_cons]
            have d1 : decide (1 ≤ (p : Int) + 1) = true := decide_eq_true (by omega)
            have d2 : decide (1 ≤ (p : Int) + 1 + ((0 + 1 : Nat) : Int)) = true := decide_eq_true (by omega)
            rw [d1, d2]
    · rw [if_neg hc, ih0]
      unfold dropB
      rw [posFrom, if_neg hc, posFrom_shift r (0 + 1)]
      have hr := posFrom_range r 0 (n - m)
      have hzero : expB (c :: r) = true → posFrom r 0 (n - m) = 0 → n = m := by
        intro h h'
        obtain ⟨r', rfl⟩ := expB_two h
        rw [posFrom, if_pos rfl] at h'
        by_cases hz : n - m = 0
        · omega
        · rw [if_neg hz, posFrom_shift r' (0 + 1)] at h'
          have := posFrom_range r' 0 (n - m - 1)
          split at h' <;> omega
      have hzero' : expB (c :: r) = true → n = m → posFrom r 0 (n - m) = 0 := by
        intro h h'
        obtain ⟨r', rfl⟩ := expB_two h
        rw [posFrom, if_pos rfl, if_pos (by omega)]; rfl
      by_cases h1 : posFrom r 0 (n - m) = -1
      · rw [if_pos h1, h1]
        simp only [show decide ((1 : Int) ≤ -1) = false from rfl, Bool.false_and, Bool.false_eq_true, or_false, iff_false]
        intro h
        split at h
        · next he =>
          have := hzero' he (by simpa using h)
          omega
        · simp at h
      · rw [if_neg h1]
        by_cases h0 : posFrom r 0 (n - m) = 0
        · rw [h0]
          simp only [show decide ((1 : Int) ≤ 0) = false from rfl, Bool.false_and, Bool.false_eq_true, or_false]
          have t1 : ((0 : Int) + ((0 + 1 : Nat) : Int)).toNat - 1 = 0 := by omega
          rw [t1, List.drop_zero]
          have d2 : decide (1 ≤ (0 : Int) + ((0 + 1 : Nat) : Int)) = true := decide_eq_true (by omega)
          rw [d2]
          cases he : expB (c :: r) with
          | false => simp
          | true => simp; exact hzero he h0
        · obtain ⟨p, hp⟩ : ∃ p : Nat, posFrom r 0 (n - m) = (p : Int) + 1 := ⟨(posFrom r 0 (n - m)).toNat - 1, by omega⟩
          rw [hp]
          have t1 : ((p : Int) + 1 + ((0 + 1 : Nat) : Int)).toNat - 1 = p + 1 := by omega
          have t2 : ((p : Int) + 1).toNat - 1 = p := by omega
          rw [t1, t2, List.drop_succ_cons]
          have d1 : decide (1 ≤ (p : Int) + 1) = true := decide_eq_true (by omega)
          have d2 : decide (1 ≤ (p : Int) + 1 + ((0 + 1 : Nat) : Int)) = true := decide_eq_true (by omega)
          rw [d1, d2]
          constructor
          · rintro (h | h)
            · split at h
              · next he =>
                have := hzero' he (by simpa using h)
                omega
              · simp at h
            · exact h
          · exact .inr

/-- The text of a tree with a leaf in place of the exposed caret that begins at index q. -/
def dropS (s : ByteArray) (q : Nat) : ByteArray := s.extract 0 q ++ ⟨#[46]⟩ ++ s.extract (q + 4) s.size

/-- Of a text, the answer of DropExposed. -/
def dropO (s : ByteArray) (n : Int) : Option ByteArray :=
  if dropB s.data.toList n = true then some (dropS s ((posFrom s.data.toList 0 n).toNat - 1)) else none

theorem dropB_true {s : ByteArray} {n : Int} (h : dropB s.data.toList n = true) : ∃ q : Nat, posFrom s.data.toList 0 n = (q : Int) + 1 ∧ q + 4 ≤ s.size ∧ expB (s.data.toList.drop q) = true ∧ 0 ≤ n := by
  unfold dropB at h
  simp only [Bool.and_eq_true, decide_eq_true_eq] at h
  obtain ⟨h1, h2⟩ := h
  refine ⟨(posFrom s.data.toList 0 n).toNat - 1, by omega, ?_, h2, ?_⟩
  · have := expB_drop h2; rw [← Lib.size_eq] at this; exact this
  · rcases Int.lt_or_le n 0 with hn | hn
    · rw [posFrom_neg _ _ _ hn] at h1; omega
    · exact hn
end Go.Proofs.Ytllnfbenaeeloaa

/-! PrT -/
namespace Go.Proofs.Ytllnfbenaeeloaa
namespace Tr
def leaves (t : Tr) : Nat := t.carets + 1
/-- The left leaves of the exposed carets, n leaves being in front. -/
def exps : Tr → Int → List Int
  | lf, _ => []
  | nd l r, n => (if l.isLf && r.isLf then [n] else []) ++ (l.exps n ++ r.exps (n + l.leaves))
/-- The tree with a leaf in place of the exposed caret with the left leaf n. -/
def dropAt : Tr → Int → Tr
  | lf, _ => lf
  | nd l r, n => if l.isLf && r.isLf then lf else if n < l.leaves then nd (l.dropAt n) r else nd l (r.dropAt (n - l.leaves))
/-- The tree with u in place of the leaf n. -/
def graft : Tr → Int → Tr → Tr
  | lf, _, u => u
  | nd l r, n, u => if n < l.leaves then nd (l.graft n u) r else nd l (r.graft (n - l.leaves) u)
end Tr

theorem leaves_nd (l r : Tr) : (Tr.nd l r).leaves = l.leaves + r.leaves := by simp [Tr.leaves, Tr.carets]; omega
theorem leaves_pos (t : Tr) : 1 ≤ t.leaves := by simp [Tr.leaves]
theorem isLf_iff (t : Tr) : t.isLf = true ↔ t = .lf := by cases t <;> simp [Tr.isLf]
theorem both_lf {l r : Tr} (h : (l.isLf && r.isLf) = true) : l = .lf ∧ r = .lf := by
  simp only [Bool.and_eq_true, isLf_iff] at h; exact h

theorem expB_len {l : List UInt8} (h : l.length < 4) : expB l = false := by
  unfold expB
  rw [beq_eq_false_iff_ne]
  intro e
  have := congrArg List.length e
  simp at this
  omega

theorem text_head (t : Tr) : (t = .lf ∧ t.text = [46]) ∨ ∃ r, t.text = 40 :: r := by
  cases t with
  | lf => exact .inl ⟨rfl, rfl⟩
  | nd l r => exact .inr ⟨_, rfl⟩

theorem expB_nd (l r : Tr) (q : List UInt8) : expB (40 :: (l.text ++ (r.text ++ (41 :: q)))) = (l.isLf && r.isLf) := by
  cases l with
  | lf =>
    cases r with
    | lf => rfl
    | nd a b => simp [expB, Tr.text, Tr.isLf]
  | nd a b => simp [expB, Tr.text, Tr.isLf]

theorem exL_text (t : Tr) : ∀ (q : List UInt8) (m : Int), exL (t.text ++ q) m = t.exps m ++ exL q (m + t.leaves) := by
  induction t with
  | lf => intro q m; simp [Tr.text, exL, Tr.exps, expB, Tr.leaves, Tr.carets]
  | nd l r ihl ihr =>
    intro q m
    have e : (Tr.nd l r).text ++ q = 40 :: (l.text ++ (r.text ++ (41 :: q))) := by simp [Tr.text]
    rw [e, exL, expB_nd, if_neg (show ¬ (40 : UInt8) = 46 by decide), ihl, ihr, exL, if_neg (show ¬ (41 : UInt8) = 46 by decide)]
    have h41 : expB (41 :: q) = false := by
      cases h : expB (41 :: q) with
      | false => rfl
      | true => exact absurd (expB_cons h).1 (by decide)
    rw [h41]
    have e2 : m + (l.leaves : Int) + (r.leaves : Int) = m + ((Tr.nd l r).leaves : Int) := by rw [leaves_nd]; omega
    rw [e2]
    simp [Tr.exps]

theorem exps_text (t : Tr) (m : Int) : exL t.text m = t.exps m := by
  have := exL_text t [] m
  simpa [exL] using this

theorem exps_range (t : Tr) : ∀ (n m : Int), m ∈ t.exps n → n ≤ m ∧ m + 1 < n + t.leaves := by
  induction t with
  | lf => intro n m h; simp [Tr.exps] at h
  | nd l r ihl ihr =>
    intro n m h
    have h1 := leaves_pos l
    have h2 := leaves_pos r
    rw [Tr.exps, List.mem_append, List.mem_append] at h
    rw [leaves_nd]
    rcases h with h | h | h
    · split at h
      · simp at h; omega
      · simp at h
    · have := ihl _ _ h; omega
    · have := ihr _ _ h; omega

theorem exps_shift (t : Tr) : ∀ (n d : Int), t.exps (n + d) = (t.exps n).map (· + d) := by
  induction t with
  | lf => intro n d; rfl
  | nd l r ihl ihr =>
    intro n d
    have e : n + d + (l.leaves : Int) = n + (l.leaves : Int) + d := by omega
    rw [Tr.exps, Tr.exps, ihl n d, e, ihr, List.map_append, List.map_append]
    split <;> simp

theorem exps_shift_mem (t : Tr) (n m : Int) : m ∈ t.exps n ↔ m - n ∈ t.exps 0 := by
  have := exps_shift t 0 n
  rw [Int.zero_add] at this
  rw [this, List.mem_map]
  constructor
  · rintro ⟨a, ha, rfl⟩; have : a + n - n = a := by omega
    rw [this]; exact ha
  · intro h; exact ⟨m - n, h, by omega⟩

theorem exps_length (t : Tr) : ∀ n, (t.exps n).length ≤ t.carets := by
  induction t with
  | lf => intro n; simp [Tr.exps]
  | nd l r ihl ihr =>
    intro n
    have h1 := ihl n
    have h2 := ihr (n + l.leaves)
    rw [Tr.exps]
    simp only [List.length_append, Tr.carets]
    split <;> simp <;> omega

/-- An exposed caret in a text: what is in front of it and behind it. -/
theorem exps_split (t : Tr) : ∀ n : Int, n ∈ t.exps 0 → ∃ x y : List UInt8, t.text = x ++ (40 :: 46 :: 46 :: 41 :: y) ∧ ((x.count 46 : Nat) : Int) = n ∧ (t.dropAt n).text = x ++ (46 :: y) := by
  induction t with
  | lf => intro n h; simp [Tr.exps] at h
  | nd l r ihl ihr =>
    intro n h
    rw [Tr.exps, List.mem_append, List.mem_append] at h
    cases hb : l.isLf && r.isLf with
    | true =>
      obtain ⟨rfl, rfl⟩ := both_lf hb
      simp [Tr.exps, Tr.isLf] at h
      subst h
      exact ⟨[], [], rfl, rfl, rfl⟩
    | false =>
      rw [hb] at h
      rcases h with h | h | h
      · simp at h
      · have hr := exps_range l _ _ h
        obtain ⟨x, y, e1, e2, e3⟩ := ihl n h
        refine ⟨40 :: x, y ++ (r.text ++ [41]), ?_, ?_, ?_⟩
        · simp [Tr.text, e1]
        · simp [e2]
        · rw [Tr.dropAt, hb, if_neg (by decide), if_pos (by omega)]
          simp [Tr.text, e3]
      · have hr := exps_range r _ _ h
        rw [Int.zero_add] at h hr
        obtain ⟨x, y, e1, e2, e3⟩ := ihr (n - l.leaves) ((exps_shift_mem r _ _).1 h)
        refine ⟨40 :: (l.text ++ x), y ++ [41], ?_, ?_, ?_⟩
        · simp [Tr.text, e1]
        · have := text_dots l
          simp only [List.count_cons, List.count_append]
          simp [Tr.leaves] at *
          omega
        · rw [Tr.dropAt, hb, if_neg (by decide), if_neg (by omega)]
          simp [Tr.text, e3]

/-- A leaf in a text. -/
theorem leaf_split (t : Tr) : ∀ n : Int, 0 ≤ n → n < t.leaves → ∃ x y : List UInt8, t.text = x ++ (46 :: y) ∧ ((x.count 46 : Nat) : Int) = n ∧ ∀ u : Tr, (t.graft n u).text = x ++ (u.text ++ y) := by
  induction t with
  | lf =>
    intro n h k
    simp [Tr.leaves, Tr.carets] at k
    obtain rfl : n = 0 := by omega
    exact ⟨[], [], rfl, rfl, fun u => by simp [Tr.graft]⟩
  | nd l r ihl ihr =>
    intro n h k
    rw [leaves_nd] at k
    by_cases hl : n < l.leaves
    · obtain ⟨x, y, e1, e2, e3⟩ := ihl n h hl
      refine ⟨40 :: x, y ++ (r.text ++ [41]), ?_, ?_, fun u => ?_⟩
      · simp [Tr.text, e1]
      · simp [e2]
      · rw [Tr.graft, if_pos hl]; simp [Tr.text, e3]
    · obtain ⟨x, y, e1, e2, e3⟩ := ihr (n - l.leaves) (by omega) (by omega)
      refine ⟨40 :: (l.text ++ x), y ++ [41], ?_, ?_, fun u => ?_⟩
      · simp [Tr.text, e1]
      · have := text_dots l
        simp only [List.count_cons, List.count_append]
        simp [Tr.leaves] at *
        omega
      · rw [Tr.graft, if_neg hl]; simp [Tr.text, e3]

theorem posFrom_count : ∀ (x y : List UInt8) (off : Nat), posFrom (x ++ 46 :: y) off (x.count 46 : Nat) = ((off + x.length : Nat) : Int) := by
  intro x
  induction x with
  | nil => intro y off; simp [posFrom]
  | cons c r ih =>
    intro y off
    rw [List.cons_append, posFrom]
    by_cases hc : c = 46
    · subst hc
      have hcount : ((List.count 46 (46 :: r) : Nat) : Int) = (r.count 46 : Nat) + 1 := by simp
      rw [if_pos rfl, hcount, if_neg (by omega), Int.add_sub_cancel, ih]
      simp; omega
    · have hcount : List.count 46 (c :: r) = r.count 46 := by rw [List.count_cons]; simp [hc]
      rw [if_neg hc, hcount, ih]
      simp; omega

theorem dropS_list (s : ByteArray) (q : Nat) : (dropS s q).data.toList = s.data.toList.take q ++ (46 :: s.data.toList.drop (q + 4)) := by
  unfold dropS
  simp only [ByteArray.data_append, Array.toList_append]
  rw [ext_end, Lib.extract_data]
  simp

theorem drop_str (t : Tr) (n : Int) (h : n ∈ t.exps 0) : 1 ≤ posFrom t.str.data.toList 0 n ∧ dropS t.str ((posFrom t.str.data.toList 0 n).toNat - 1) = (t.dropAt n).str := by
  obtain ⟨x, y, e1, e2, e3⟩ := exps_split t n h
  have e1' : t.text = (x ++ [40]) ++ 46 :: (46 :: 41 :: y) := by simp [e1]
  have hp : posFrom t.str.data.toList 0 n = ((x.length + 1 : Nat) : Int) := by
    have := posFrom_count (x ++ [40]) (46 :: 41 :: y) 0
    rw [← e1'] at this
    rw [Tr.str_list, ← e2]
    simpa using this
  rw [hp]
  refine ⟨by omega, ba_ext ?_⟩
  rw [dropS_list, Tr.str_list, Tr.str_list, e3, e1]
  have : ((x.length + 1 : Nat) : Int).toNat - 1 = x.length := by omega
  rw [this]
  have e4 : x ++ 40 :: 46 :: 46 :: 41 :: y = (x ++ [40, 46, 46, 41]) ++ y := by simp
  rw [List.take_left, e4, List.drop_left' (by simp)]

theorem dropB_str (t : Tr) (n : Int) : dropB t.str.data.toList n = true ↔ n ∈ t.exps 0 := by
  rw [← exps_text, mem_exL, Tr.str_list]; simp

theorem graft_str (t u : Tr) (n : Int) (h : 0 ≤ n) (k : n < t.leaves) : graftS t.str n u.str = (t.graft n u).str := by
  obtain ⟨x, y, e1, e2, e3⟩ := leaf_split t n h k
  have hp : posFrom t.str.data.toList 0 n = ((x.length : Nat) : Int) := by
    have := posFrom_count x y 0
    rw [← e1] at this
    rw [Tr.str_list, ← e2]
    simpa using this
  refine ba_ext ?_
  unfold graftS
  rw [hp]
  simp only [ByteArray.data_append, Array.toList_append]
  rw [ext_end, Lib.extract_data]
  simp only [Tr.str_list, e3, e1]
  have e4 : x ++ 46 :: y = (x ++ [46]) ++ y := by simp
  simp only [Int.toNat_natCast, Nat.sub_zero, List.drop_zero, List.take_left]
  rw [e4, List.drop_left' (by simp)]
  simp

theorem dropAt_carets (t : Tr) : ∀ n : Int, n ∈ t.exps 0 → (t.dropAt n).carets + 1 = t.carets := by
  intro n h
  obtain ⟨x, y, e1, e2, e3⟩ := exps_split t n h
  have h1 := t.text_len
  have h2 := (t.dropAt n).text_len
  have := congrArg List.length e1
  have := congrArg List.length e3
  simp at *
  omega

theorem graft_carets (t u : Tr) (n : Int) (h : 0 ≤ n) (k : n < t.leaves) : (t.graft n u).carets = t.carets + u.carets := by
  obtain ⟨x, y, e1, e2, e3⟩ := leaf_split t n h k
  have e3 := e3 u
  have h1 := t.text_len
  have h2 := (t.graft n u).text_len
  have h3 := u.text_len
  have := congrArg List.length e1
  have := congrArg List.length e3
  simp at *
  omega
end Go.Proofs.Ytllnfbenaeeloaa

/-! PrP -/
namespace Go.Proofs.Ytllnfbenaeeloaa

/-- A pair of trees. -/
abbrev Pr := Tr × Tr

/-- The left leaves with which both trees have exposed carets. -/
def both (p : Pr) : List Int := (p.1.exps 0).filter fun n => (p.2.exps 0).contains n

/-- Both carets dropped. -/
def dropP (p : Pr) (n : Int) : Pr := (p.1.dropAt n, p.2.dropAt n)

/-- Which of so many a step takes: the first choice modulo their number, or the first one. -/
def pickI (cs : List Int) (k : Nat) : Nat := match cs with
  | [] => 0
  | c :: _ => (c % k).toNat

/-- The reduced pair by choices (fuel: the number of steps that are left at most). -/
def redF : Nat → Pr → List Int → Pr
  | 0, p, _ => p
  | k + 1, p, cs => match both p with
    | [] => p
    | n :: ns => redF k (dropP p ((n :: ns).getD (pickI cs (ns.length + 1)) 0)) cs.tail
def redBy (p : Pr) (cs : List Int) : Pr := redF p.1.carets p cs
def red (p : Pr) : Pr := redBy p []

theorem mem_both {p : Pr} {n : Int} : n ∈ both p ↔ n ∈ p.1.exps 0 ∧ n ∈ p.2.exps 0 := by
  simp [both]

theorem both_length (p : Pr) : (both p).length ≤ p.1.carets :=
  Nat.le_trans (List.length_filter_le _ _) (exps_length _ _)

theorem both_empty {p : Pr} (h : p.1.carets = 0) : both p = [] := by
  have := both_length p
  exact List.length_eq_zero_iff.1 (by omega)

theorem pickI_lt (cs : List Int) (k : Nat) (h : 0 < k) : pickI cs k < k := by
  unfold pickI
  split
  · exact h
  · next c _ =>
    have h1 := Int.emod_lt_of_pos c (show (0 : Int) < k by omega)
    have h2 := Int.emod_nonneg c (show (k : Int) ≠ 0 by omega)
    omega

theorem pick_mem {p : Pr} {n : Int} {ns : List Int} (h : both p = n :: ns) (cs : List Int) : (n :: ns).getD (pickI cs (ns.length + 1)) 0 ∈ both p := by
  rw [h]
  have := pickI_lt cs (ns.length + 1) (by omega)
  rw [List.getD_eq_getElem?_getD, List.getElem?_eq_getElem (by simpa using this)]
  exact List.getElem_mem _

theorem dropP_carets {p : Pr} {n : Int} (h : n ∈ both p) : (dropP p n).1.carets + 1 = p.1.carets ∧ (dropP p n).2.carets + 1 = p.2.carets :=
  ⟨dropAt_carets _ _ (mem_both.1 h).1, dropAt_carets _ _ (mem_both.1 h).2⟩

/-- One step. -/
theorem redBy_step {p : Pr} {n : Int} {ns : List Int} (h : both p = n :: ns) (cs : List Int) :
    redBy p cs = redBy (dropP p ((n :: ns).getD (pickI cs (ns.length + 1)) 0)) cs.tail := by
  have hc := (dropP_carets (pick_mem h cs)).1
  unfold redBy
  obtain ⟨k, hk⟩ : ∃ k, p.1.carets = k + 1 := ⟨p.1.carets - 1, by omega⟩
  rw [hk, redF, h]
  have : (dropP p ((n :: ns).getD (pickI cs (ns.length + 1)) 0)).1.carets = k := by omega
  rw [this]
theorem redBy_end {p : Pr} (h : both p = []) (cs : List Int) : redBy p cs = p := by
  unfold redBy
  cases hk : p.1.carets with
  | zero => rfl
  | succ k => rw [redF, h]

theorem redF_carets (k : Nat) : ∀ (p : Pr) (cs : List Int), (redF k p cs).1.carets ≤ p.1.carets ∧ (redF k p cs).2.carets ≤ p.2.carets ∧ (redF k p cs).1.carets + p.2.carets = (redF k p cs).2.carets + p.1.carets := by
  induction k with
  | zero => intro p cs; simp [redF]; omega
  | succ k ih =>
    intro p cs
    rw [redF]
    split
    · refine ⟨Nat.le_refl _, Nat.le_refl _, by omega⟩
    · next n ns h =>
      have h1 := dropP_carets (pick_mem h cs)
      have h2 := ih (dropP p ((n :: ns).getD (pickI cs (ns.length + 1)) 0)) cs.tail
      omega
theorem redBy_carets (p : Pr) (cs : List Int) : (redBy p cs).1.carets ≤ p.1.carets ∧ (redBy p cs).2.carets ≤ p.2.carets ∧ (redBy p cs).1.carets + p.2.carets = (redBy p cs).2.carets + p.1.carets := redF_carets _ p cs

theorem redF_both (k : Nat) : ∀ (p : Pr) (cs : List Int), p.1.carets ≤ k → both (redF k p cs) = [] := by
  induction k with
  | zero => intro p cs h; rw [redF]; exact both_empty (by omega)
  | succ k ih =>
    intro p cs hk
    rw [redF]
    split
    · next h => exact h
    · next n ns h =>
      have h1 := dropP_carets (pick_mem h cs)
      exact ih _ _ (by omega)
theorem red_both (p : Pr) (cs : List Int) : both (redBy p cs) = [] := redF_both _ p cs (Nat.le_refl _)

/-- A pair is what is left of it just if it is reduced. -/
theorem red_self (p : Pr) : red p = p ↔ both p = [] := by
  constructor
  · intro h; rw [← h]; exact red_both p []
  · exact fun h => redBy_end h []

namespace Tr
/-- What a greater tree has at the leaves of one that is part of it. -/
def subs : Tr → Tr → List Tr
  | lf, g => [g]
  | nd l r, nd p q => l.subs p ++ r.subs q
  | nd _ _, lf => []
/-- A tree with others in place of its leaves, and those that are left. -/
def fillR : Tr → List Tr → Tr × List Tr
  | lf, [] => (lf, [])
  | lf, u :: us => (u, us)
  | nd l r, us => (nd (l.fillR us).1 (r.fillR (l.fillR us).2).1, (r.fillR (l.fillR us).2).2)
def fill (t : Tr) (us : List Tr) : Tr := (t.fillR us).1
end Tr

theorem below_length (a : Tr) : ∀ b : Tr, (a.subs (a.join b)).length = a.leaves := by
  induction a with
  | lf => intro b; rfl
  | nd l r ihl ihr =>
    intro b
    cases b with
    | lf =>
      have h1 := ihl .lf
      have h2 := ihr .lf
      rw [leaves_nd]
      have j : ∀ t : Tr, t.join .lf = t := fun t => by cases t <;> rfl
      rw [j] at h1 h2
      show ((Tr.nd l r).subs (.nd l r)).length = _
      simp [Tr.subs, h1, h2]
    | nd p q =>
      rw [leaves_nd]
      simp [Tr.join, Tr.subs, ihl p, ihr q]

theorem join_comm (a : Tr) : ∀ b : Tr, a.join b = b.join a := by
  induction a with
  | lf => intro b; cases b <;> rfl
  | nd l r ihl ihr =>
    intro b
    cases b with
    | lf => rfl
    | nd p q => simp [Tr.join, ihl p, ihr q]

/-- a is part of g, whose texts below a are told. -/
def sumC (us : List Tr) : Nat := (us.map Tr.carets).sum

theorem sumC_cons (u : Tr) (us : List Tr) : sumC (u :: us) = u.carets + sumC us := by simp [sumC]
theorem sumC_append (us vs : List Tr) : sumC (us ++ vs) = sumC us + sumC vs := by simp [sumC]

theorem below_carets (a : Tr) : ∀ g : Tr, a.part g = true → a.carets + sumC (a.subs g) = g.carets ∧ (a.subs g).length = a.leaves := by
  induction a with
  | lf => intro g _; simp [Tr.subs, sumC, Tr.carets, Tr.leaves]
  | nd l r ihl ihr =>
    intro g h
    cases g with
    | lf => simp [Tr.part] at h
    | nd p q =>
      simp [Tr.part] at h
      have h1 := ihl p h.1
      have h2 := ihr q h.2
      rw [leaves_nd]
      simp only [Tr.subs, sumC_append, Tr.carets, List.length_append]
      omega

theorem part_refl (a : Tr) : a.part a = true := by
  induction a with
  | lf => rfl
  | nd l r ihl ihr => simp [Tr.part, ihl, ihr]

theorem part_join (a : Tr) : ∀ b : Tr, a.part (a.join b) = true := by
  induction a with
  | lf => intro b; rfl
  | nd l r ihl ihr =>
    intro b
    cases b with
    | lf => show (Tr.nd l r).part (.nd l r) = true; exact part_refl _
    | nd p q => simp [Tr.join, Tr.part, ihl p, ihr q]
theorem part_join' (a b : Tr) : b.part (a.join b) = true := by rw [join_comm]; exact part_join b a

theorem fillR_carets (t : Tr) : ∀ us : List Tr, t.leaves ≤ us.length → (t.fillR us).1.carets + sumC (t.fillR us).2 = t.carets + sumC us ∧ (t.fillR us).2.length + t.leaves = us.length := by
  induction t with
  | lf =>
    intro us h
    cases us with
    | nil => simp [Tr.leaves] at h
    | cons u us => simp [Tr.fillR, sumC_cons, Tr.carets, Tr.leaves]
  | nd l r ihl ihr =>
    intro us h
    rw [leaves_nd] at *
    have h1 := ihl us (by omega)
    have h2 := ihr (l.fillR us).2 (by omega)
    simp only [Tr.fillR, Tr.carets]
    omega

theorem fill_carets (t : Tr) (us : List Tr) (h : us.length = t.leaves) : (t.fill us).carets = t.carets + sumC us := by
  have h1 := fillR_carets t us (by omega)
  have : (t.fillR us).2 = [] := List.length_eq_zero_iff.1 (by omega)
  rw [this] at h1
  have h2 := h1.1
  show (t.fillR us).1.carets = _
  simp [sumC] at h2 ⊢
  exact h2

/-- The text of a tree with texts in place of its leaves: the texts that are left. -/
def fillL : List UInt8 → List ByteArray → List UInt8
  | [], _ => []
  | c :: r, us => if c = 46 then (us.getD 0 ⟨#[]⟩).data.toList ++ fillL r us.tail else c :: fillL r us

theorem fillL_text (t : Tr) : ∀ (us : List Tr) (q : List UInt8), t.leaves ≤ us.length → fillL (t.text ++ q) (us.map Tr.str) = (t.fillR us).1.text ++ fillL q ((t.fillR us).2.map Tr.str) := by
  induction t with
  | lf =>
    intro us q h
    cases us with
    | nil => simp [Tr.leaves] at h
    | cons u us => simp [Tr.fillR, Tr.text, fillL, Tr.str_list]
  | nd l r ihl ihr =>
    intro us q h
    rw [leaves_nd] at h
    have e : (Tr.nd l r).text ++ q = 40 :: (l.text ++ (r.text ++ (41 :: q))) := by simp [Tr.text]
    have h1 := fillR_carets l us (by omega)
    rw [e, fillL, if_neg (by decide), ihl us _ (by omega), ihr _ _ (by omega), fillL, if_neg (by decide)]
    simp [Tr.fillR, Tr.text]

theorem fill_text (t : Tr) (us : List Tr) (h : us.length = t.leaves) : fillL t.text (us.map Tr.str) = (t.fill us).text := by
  have := fillL_text t us [] (by omega)
  show _ = (t.fillR us).1.text
  simpa [fillL] using this

/-- The product, before it is reduced. -/
def rawP (p q : Pr) : Pr := (p.1.fill (p.2.subs (p.2.join q.1)), q.2.fill (q.1.subs (p.2.join q.1)))
/-- The product. -/
def mulP (p q : Pr) : Pr := red (rawP p q)
def invP (p : Pr) : Pr := (p.2, p.1)
/-- A pair: as many leaves. -/
def okP (p : Pr) : Prop := p.1.carets = p.2.carets

theorem rawP_carets {p q : Pr} (hp : okP p) (hq : okP q) : (rawP p q).1.carets = (p.2.join q.1).carets ∧ (rawP p q).2.carets = (p.2.join q.1).carets := by
  unfold okP at *
  have h1 := below_carets p.2 _ (part_join p.2 q.1)
  have h2 := below_carets q.1 _ (part_join' p.2 q.1)
  have f1 := fill_carets p.1 (p.2.subs (p.2.join q.1)) (by rw [h1.2]; simp [Tr.leaves, hp])
  have f2 := fill_carets q.2 (q.1.subs (p.2.join q.1)) (by rw [h2.2]; simp [Tr.leaves, hq])
  show (p.1.fill _).carets = _ ∧ (q.2.fill _).carets = _
  omega
theorem rawP_ok {p q : Pr} (hp : okP p) (hq : okP q) : okP (rawP p q) := by
  have := rawP_carets hp hq; unfold okP; omega
theorem red_ok {p : Pr} (hp : okP p) (cs : List Int) : okP (redBy p cs) := by
  have := redBy_carets p cs; unfold okP at *; omega
theorem mulP_ok {p q : Pr} (hp : okP p) (hq : okP q) : okP (mulP p q) := red_ok (rawP_ok hp hq) []
theorem mulP_carets {p q : Pr} (hp : okP p) (hq : okP q) : (mulP p q).1.carets ≤ p.2.carets + q.1.carets := by
  have h1 := rawP_carets hp hq
  have h2 := redBy_carets (rawP p q) []
  have h3 := join_carets p.2 q.1
  show (redBy _ _).1.carets ≤ _
  omega
end Go.Proofs.Ytllnfbenaeeloaa

/-! PairOf -/
namespace Go.Proofs.Ytllnfbenaeeloaa

/-- The pair of two texts, if they are one. -/
def pairOf (a b : ByteArray) : Option Pr :=
  match treeOf a, treeOf b with
  | some t, some u => if t.carets = u.carets then some (t, u) else none
  | _, _ => none

theorem pairOf_some {a b : ByteArray} {p : Pr} (h : pairOf a b = some p) : a = p.1.str ∧ b = p.2.str ∧ okP p ∧ p.1.carets ≤ 8 ∧ p.2.carets ≤ 8 := by
  unfold pairOf at h
  split at h
  · next t u ht hu =>
    split at h
    · next hc =>
      injection h with h
      subst h
      obtain ⟨rfl, h1⟩ := treeOf_some ht
      obtain ⟨rfl, h2⟩ := treeOf_some hu
      exact ⟨rfl, rfl, hc, h1, h2⟩
    · simp at h
  · simp at h

theorem pairOf_str {p : Pr} (h : okP p) (k : p.1.carets ≤ 8) : pairOf p.1.str p.2.str = some p := by
  unfold pairOf
  rw [treeOf_str p.1 k, treeOf_str p.2 (by unfold okP at h; omega)]
  simp [show p.1.carets = p.2.carets from h]

/-- The texts are no pair: why. -/
theorem pairOf_none {a b : ByteArray} (h : pairOf a b = none) : treeOf a = none ∨ (∃ t : Tr, a = t.str ∧ t.carets ≤ 8 ∧ treeOf b = none) ∨ ∃ t u : Tr, a = t.str ∧ b = u.str ∧ t.carets ≤ 8 ∧ u.carets ≤ 8 ∧ ¬ t.carets = u.carets := by
  cases ha : treeOf a with
  | none => exact .inl rfl
  | some t =>
    obtain ⟨rfl, h1⟩ := treeOf_some ha
    cases hb : treeOf b with
    | none => exact .inr (.inl ⟨t, rfl, h1, rfl⟩)
    | some u =>
      obtain ⟨rfl, h2⟩ := treeOf_some hb
      refine .inr (.inr ⟨t, u, rfl, rfl, h1, h2, ?_⟩)
      intro e
      unfold pairOf at h
      rw [ha, hb] at h
      simp [e] at h
end Go.Proofs.Ytllnfbenaeeloaa

/-! PairK -/
namespace Go.Proofs.Ytllnfbenaeeloaa
open Go.RowKit

theorem two_cells {w : World} {g : Nat} {u v : Value} {t : TypeId} (h : w.heap[g]? = some (.cells #[u, v] t (0, 0))) : w.cell? ⟨g, 0, none⟩ = some u ∧ w.cell? ⟨g, 1, none⟩ = some v := by
  simp [World.cell?, h]
theorem two_facts {w : World} {g : Nat} {u v : Value} {t : TypeId} (h : w.heap[g]? = some (.cells #[u, v] t (0, 0))) : w.cell? ⟨g, 0, none⟩ = some u ∧ w.cell? ⟨g, 1, none⟩ = some v ∧ g < w.heap.size :=
  ⟨(two_cells h).1, (two_cells h).2, lt_of_block h⟩
theorem keep_two {w w' : World} {g : Nat} {u v : Value} (hb : Below w.heap.size w w') (hg : g < w.heap.size) (h : w.cell? ⟨g, 0, none⟩ = some u ∧ w.cell? ⟨g, 1, none⟩ = some v) : w'.cell? ⟨g, 0, none⟩ = some u ∧ w'.cell? ⟨g, 1, none⟩ = some v :=
  ⟨(hb.cell (p := ⟨g, 0, none⟩) hg).trans h.1, (hb.cell (p := ⟨g, 1, none⟩) hg).trans h.2⟩


theorem two_frozen {w : World} {g : Nat} {u v : Value} {t : TypeId} (h : w.heap[g]? = some (.cells #[u, v] t (0, 0))) : w.frozen? ⟨g, 0, none⟩ = false ∧ w.frozen? ⟨g, 1, none⟩ = false := by
  simp [World.frozen?, h]
theorem set_first {w : World} {g : Nat} {u v u' : Value} {t : TypeId} (h : w.heap[g]? = some (.cells #[u, v] t (0, 0))) : (w.setCell ⟨g, 0, none⟩ u').heap[g]? = some (.cells #[u', v] t (0, 0)) := Joins.block_setCell h u'
theorem set_second {w : World} {g : Nat} {u v v' : Value} {t : TypeId} (h : w.heap[g]? = some (.cells #[u, v] t (0, 0))) : (w.setCell ⟨g, 1, none⟩ v').heap[g]? = some (.cells #[u, v'] t (0, 0)) := Joins.block_setCell h v'
theorem set_two {w : World} {g : Nat} {u v : Value} (u' v' : Value) {t : TypeId} (h : w.heap[g]? = some (.cells #[u, v] t (0, 0))) : ((w.setCell ⟨g, 0, none⟩ u').setCell ⟨g, 1, none⟩ v').heap[g]? = some (.cells #[u', v'] t (0, 0)) := set_second (set_first h)
theorem heap_keep {w w' : World} {g : Nat} {o : Obj} (hb : Below w.heap.size w w') (h : w.heap[g]? = some o) : w'.heap[g]? = some o := (hb.block g (lt_of_block h)).trans h


def pS1 (o : Option Pr) : ByteArray := match o with
  | some p => p.1.str
  | none => ⟨#[]⟩
def pS2 (o : Option Pr) : ByteArray := match o with
  | some p => p.2.str
  | none => ⟨#[]⟩
/-- An answer of a pair and a bool. -/
def ansPr (o : Option Pr) : Value := .tuple #[.agg #[.string (pS1 o), .string (pS2 o)], .bool o.isSome]
end Go.Proofs.Ytllnfbenaeeloaa
