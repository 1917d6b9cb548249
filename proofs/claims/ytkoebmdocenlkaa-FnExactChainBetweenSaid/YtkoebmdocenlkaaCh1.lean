/- Walks: (link).next. -/
import Derived.Test.YtkoebmdocenlkaaPl2
import Derived.Test.YtkoebmdocenlkaaPairK
namespace Go.Proofs.Ytkoebmdocenlkaa
open Go.RowKit

theorem one_facts {w : World} {g : Nat} {u : Value} {t : TypeId} (h : w.heap[g]? = some (.cells #[u] t (0, 0))) : w.cell? ⟨g, 0, none⟩ = some u ∧ w.frozen? ⟨g, 0, none⟩ = false ∧ g < w.heap.size := by
  refine ⟨by simp [World.cell?, h], by simp [World.frozen?, h], lt_of_block h⟩
theorem set_oneB {w : World} {g : Nat} {u : Value} (u' : Value) {t : TypeId} (h : w.heap[g]? = some (.cells #[u] t (0, 0))) : (w.setCell ⟨g, 0, none⟩ u').heap[g]? = some (.cells #[u'] t (0, 0)) := Joins.block_setCell h u'

/-- What next hands back. -/
def NextP (o : Option Tr) (w : World) (e : Ending) (w' : World) : Prop :=
  match o with
  | some u => ∃ b, NodeAt w' u b ∧ Below w.heap.size w w' ∧ e = .returned (.tuple #[.agg #[.pointer (some ⟨b, 0, none⟩)], .bool true])
  | none => Below w.heap.size w w' ∧ e = .returned (.tuple #[.agg #[.pointer none], .bool false])

theorem NodeAt.grown {w w' : World} {row : Option Nat} (hg : w.grownBy w' row) : ∀ {t : Tr} {b : Nat}, NodeAt w t b → (∀ k, row = some k → ∀ u v, w.heap[k]? ≠ some (.cells #[u, v] 91 (0, 0))) → NodeAt w' t b := by
  intro t
  induction t with
  | lf =>
    intro b h hr
    have h' : w.heap[b]? = some (.cells #[.pointer none, .pointer none] 91 (0, 0)) := h
    exact (hg.block b (lt_of_block h') (fun e => hr b e.symm _ _ h')).trans h'
  | nd l r ihl ihr =>
    intro b h hr
    obtain ⟨bl, br, h, h1, h2⟩ := h
    exact ⟨bl, br, (hg.block b (lt_of_block h) (fun e => hr b e.symm _ _ h)).trans h, ihl h1 hr, ihr h2 hr⟩
theorem setOne_grown {w : World} {g : Nat} {u : Value} (u' : Value) {t : TypeId} (h : w.heap[g]? = some (.cells #[u] t (0, 0))) : w.grownBy (w.setCell ⟨g, 0, none⟩ u') (some g) := by
  exact (World.ownsRow.stored (base := 0) (e := t) (size := 1) (n := 1) (cap := 1) (xs := [u]) ⟨rfl, .inr ⟨g, 1, #[u], rfl, Nat.zero_le _, h, Nat.le_refl _, by unfold maxLen; omega, rfl, rfl⟩⟩ 0 u').2

set_option maxRecDepth 100000 in
set_option maxHeartbeats 2000000 in
theorem next_any (t : Tr) (b : Nat) (w : World) (hn : NodeAt w t b) (ht : t.carets ≤ 60) :
    Calls Try.prog 99 #[.agg #[.pointer (some ⟨b, 0, none⟩)]] w (NextP (nextT t) w) := by
  have H := Lib.hid hn
  have hz : (⟨#[]⟩ : ByteArray).size = 0 := rfl
  have hPl : ∀ b w, NodeAt w t b → Calls Try.prog 55 #[.pointer (some ⟨b, 0, none⟩), .string ⟨#[]⟩, .func (Fn.func 50) #[] #[]] w (GivesOwn (t.spots false ⟨#[]⟩) w) := fun b w h => placesFrom_any false t b ⟨#[]⟩ w h ht (by omega)
  clear hn hz
  cases hL : t.spots false ⟨#[]⟩ with
  | nil =>
    rw [nextT_nil hL]
    rw [hL] at hPl
    clear hL
    go_enter Try.func99, Try.ntmps99
    go_wp2_with fail
    have hb0 : Below w.heap.size w ((w.alloc (.cells #[.pointer (some ⟨b, 0, none⟩)] 73 (0, 0))).alloc (.cells #[.pointer none] 73 (0, 0))) := nxAlloc (nxAlloc (Below.refl _ _) _) _
    have hx0 := heap_keep (nxAlloc (Below.refl _ _) (.cells #[.pointer none] 73 (0, 0))) (heap_alloc_at w (.cells #[.pointer (some ⟨b, 0, none⟩)] 73 (0, 0)))
    have hx1 := heap_alloc_at (w.alloc (.cells #[.pointer (some ⟨b, 0, none⟩)] 73 (0, 0))) (.cells #[.pointer none] 73 (0, 0))
    have e1 : (w.alloc (.cells #[.pointer (some ⟨b, 0, none⟩)] 73 (0, 0))).heap.size = w.heap.size + 1 := by simp
    rw [e1] at hx1
    clear e1
    generalize (w.alloc (.cells #[.pointer (some ⟨b, 0, none⟩)] 73 (0, 0))).alloc (.cells #[.pointer none] 73 (0, 0)) = w0 at *
    obtain ⟨x0a, x0f, x0l⟩ := one_facts hx0
    obtain ⟨x1a, x1f, x1l⟩ := one_facts hx1
    have x1l0 := x1l
    go_wp2_with fail
    refine (hPl b _ (H.out.keep hb0)).mono ?_; rintro e w1 ⟨v1, own1, hb1, rfl⟩
    have hbw1 := nx hb0 hb1
    replace hx0 := heap_keep hb1 hx0
    replace hx1 := heap_keep hb1 hx1
    clear x0a x0f x0l x1a x1f x1l
    obtain ⟨x0a, x0f, x0l⟩ := one_facts hx0
    obtain ⟨x1a, x1f, x1l⟩ := one_facts hx1
    obtain ⟨oa1, c1, hv1, src1⟩ := own1.srcT
    have hv1' : v1 = .slice oa1 0 c1 := hv1
    subst hv1'
    clear hv1 src1 own1
    go_wp2_with fail
    have q := (one_facts (set_oneB (.pointer none) hx1)).1
    refine bodyPost_ret (v := .tuple #[.agg #[.pointer none], .bool false]) (by simp [q, results, Try.results99, go_sem]) rfl ⟨?_, rfl⟩
    exact hbw1.setCell (by show w.heap.size ≤ w.heap.size + 1; omega) _
  | cons a as1 =>
    obtain ⟨u, hu, hnx⟩ := nextT_cons hL
    rw [hnx]
    have hsz := spots_size (k := false) t ⟨#[]⟩ a (by rw [hL]; simp)
    have hz : (⟨#[]⟩ : ByteArray).size = 0 := rfl
    have hTA := fun b w h => turnedAt_any false _ t b a w rfl h (by rw [← Lib.size_eq]; omega)
    rw [hu] at hTA
    have hTA' : ∀ b w, NodeAt w t b → Calls Try.prog 82 #[.pointer (some ⟨b, 0, none⟩), .string a, .func (Fn.func 50) #[] #[]] w (fun e w' => ∃ d, NodeAt w' u d ∧ Below w.heap.size w w' ∧ e = .returned (.pointer (some ⟨d, 0, none⟩))) := hTA
    have hl9 := spots_len (k := false) t ⟨#[]⟩
    rw [hL] at hPl hl9
    clear hL hu hnx hTA hsz hz
    obtain ⟨nl, hnl⟩ : ∃ n, n = (a :: as1).length := ⟨_, rfl⟩
    have hnl1 : 1 ≤ nl := by rw [hnl]; simp
    have hnl9 : nl ≤ 60 := by omega
    have g0 : ((nl : Int) == 0) = false := by simp; omega
    go_enter Try.func99, Try.ntmps99
    go_wp2_with fail
    have hb0 : Below w.heap.size w ((w.alloc (.cells #[.pointer (some ⟨b, 0, none⟩)] 73 (0, 0))).alloc (.cells #[.pointer none] 73 (0, 0))) := nxAlloc (nxAlloc (Below.refl _ _) _) _
    have hx0 := heap_keep (nxAlloc (Below.refl _ _) (.cells #[.pointer none] 73 (0, 0))) (heap_alloc_at w (.cells #[.pointer (some ⟨b, 0, none⟩)] 73 (0, 0)))
    have hx1 := heap_alloc_at (w.alloc (.cells #[.pointer (some ⟨b, 0, none⟩)] 73 (0, 0))) (.cells #[.pointer none] 73 (0, 0))
    have e1 : (w.alloc (.cells #[.pointer (some ⟨b, 0, none⟩)] 73 (0, 0))).heap.size = w.heap.size + 1 := by simp
    rw [e1] at hx1
    clear e1
    generalize (w.alloc (.cells #[.pointer (some ⟨b, 0, none⟩)] 73 (0, 0))).alloc (.cells #[.pointer none] 73 (0, 0)) = w0 at *
    obtain ⟨x0a, x0f, x0l⟩ := one_facts hx0
    obtain ⟨x1a, x1f, x1l⟩ := one_facts hx1
    have x1l0 := x1l
    go_wp2_with fail
    refine (hPl b _ (H.out.keep hb0)).mono ?_; rintro e w1 ⟨v1, own1, hb1, rfl⟩
    have hbw1 := nx hb0 hb1
    replace hx0 := heap_keep hb1 hx0
    replace hx1 := heap_keep hb1 hx1
    clear x0a x0f x0l x1a x1f x1l
    obtain ⟨x0a, x0f, x0l⟩ := one_facts hx0
    obtain ⟨x1a, x1f, x1l⟩ := one_facts hx1
    obtain ⟨g1, c1, hv1⟩ := own1.shape (by simp)
    have hv1' : v1 = .slice (some ⟨g1, 0, none⟩) nl c1 := by rw [hv1, hnl]
    have hlt9 : 0 < nl := by omega
    have hg19 : w.heap.size + 1 < g1 := by
      have h9 := own1
      rw [hv1] at h9
      have := (World.ownsRow.lt h9 g1 rfl).1
      have := hb0.size
      have h8 := x1l0
      omega
    have ca : w1.cell? ⟨g1, 0, none⟩ = some (.string a) := by
      have h9 := own1
      rw [hv1] at h9
      have := World.ownsRow.cellAt h9 0 (by simp)
      rw [this]; rfl
    have hg1 : g1 < w1.heap.size := World.block_lt_of_cell? w1 _ ca
    subst hv1'
    clear hv1 own1 hnl hl9
    go_wp2_with fail
    have hd1 := (Below.refl w1.heap.size w1).drew
    refine wp_region_held_drew (S := (fun (w' : World) => w'.cell? ⟨w.heap.size, 0, none⟩ = some (.pointer (some ⟨b, 0, none⟩)) ∧ w'.cell? ⟨g1, 0, none⟩ = some (.string a))) (by kernel_rfl) ⟨x0a, ca⟩ (fun hH0 => ?_)
    refine wpAnyH_take (i := 0) (oi := ?oi201) (v := ?vv201) ?hi201 ?hn201 ?hf201 ?hr201 ?hq201 (Or.inl ⟨?hg201, ?hy201⟩) hH0 ?rest201
    case hi201 => (simp only [List.getElem?_toArray, List.getElem?_cons_zero]; rfl)
    case hn201 => kernel_rfl
    case hf201 => kernel_rfl
    case hr201 => kernel_rfl
    case hg201 => rfl
    case hy201 => (intro w hSw; (try dsimp only at hSw); go_simp; first | done | with_reducible rfl)
    case hq201 => exact fun _ _ _ h => h
    try dsimp only [Act.put]
    refine wpAnyH_take (i := 1) (oi := ?oi202) (v := ?vv202) ?hi202 ?hn202 ?hf202 ?hr202 ?hq202 (Or.inl ⟨?hg202, ?hy202⟩) hH0 ?rest202
    case hi202 => (simp only [List.getElem?_toArray, List.getElem?_cons_succ, List.getElem?_cons_zero]; rfl)
    case hn202 => kernel_rfl
    case hf202 => kernel_rfl
    case hr202 => kernel_rfl
    case hg202 => rfl
    case hy202 => (intro w hSw; (try dsimp only at hSw); go_simp; first | done | with_reducible rfl)
    case hq202 => exact fun _ _ _ h => h
    try dsimp only [Act.put]
    refine wpAnyH_take (i := 2) (oi := ?oi203) (v := ?vv203) ?hi203 ?hn203 ?hf203 ?hr203 ?hq203 (Or.inl ⟨?hg203, ?hy203⟩) hH0 ?rest203
    case hi203 => (simp only [List.getElem?_toArray, List.getElem?_cons_succ, List.getElem?_cons_zero]; rfl)
    case hn203 => kernel_rfl
    case hf203 => kernel_rfl
    case hr203 => kernel_rfl
    case hg203 => rfl
    case hy203 => (intro w hSw; (try dsimp only at hSw); go_simp; first | done | with_reducible rfl)
    case hq203 => exact fun _ _ _ h => h
    try dsimp only [Act.put]
    refine wpAnyH_take (i := 3) (oi := ?oi204) (v := ?vv204) ?hi204 ?hn204 ?hf204 ?hr204 ?hq204 (Or.inl ⟨?hg204, ?hy204⟩) hH0 ?rest204
    case hi204 => (simp only [List.getElem?_toArray, List.getElem?_cons_succ, List.getElem?_cons_zero]; rfl)
    case hn204 => kernel_rfl
    case hf204 => kernel_rfl
    case hr204 => kernel_rfl
    case hg204 => rfl
    case hy204 => (intro w hSw; (try dsimp only at hSw); go_simp; first | done | with_reducible rfl)
    case hq204 => exact fun _ _ _ h => h
    try dsimp only [Act.put]
    refine wpAnyH_take (i := 4) (oi := ?oi205) (v := ?vv205) ?hi205 ?hn205 ?hf205 ?hr205 ?hq205 (Or.inl ⟨?hg205, ?hy205⟩) hH0 ?rest205
    case hi205 => (simp only [List.getElem?_toArray, List.getElem?_cons_succ, List.getElem?_cons_zero]; rfl)
    case hn205 => kernel_rfl
    case hf205 => kernel_rfl
    case hr205 => kernel_rfl
    case hg205 => rfl
    case hy205 => (intro w hSw; (try dsimp only at hSw); go_simp; first | done | with_reducible rfl)
    case hq205 => exact fun _ _ _ h => h
    try dsimp only [Act.put]
    refine held_one 5 rfl (by kernel_rfl) (fun K hK => ?_)
    go_simp
    refine (hTA' b _ (H.out.keep (nx hbw1 hd1))).mono ?_; rintro e W1 ⟨d, hnd, hb2, rfl⟩
    go_wp2_with fail
    have hbz := nx hd1 hb2
    have hx1z := heap_keep hbz hx1
    obtain ⟨z1a, z1f, z1l⟩ := one_facts hx1z
    have hH1 : (fun (w' : World) => w'.cell? ⟨w.heap.size, 0, none⟩ = some (.pointer (some ⟨b, 0, none⟩)) ∧ w'.cell? ⟨g1, 0, none⟩ = some (.string a)) W1 := ⟨(hbz.cell (p := ⟨w.heap.size, 0, none⟩) x0l).trans x0a, (hbz.cell (p := ⟨g1, 0, none⟩) hg1).trans ca⟩
    refine hK.out (fun (w' : World) => w'.cell? ⟨w.heap.size, 0, none⟩ = some (.pointer (some ⟨b, 0, none⟩)) ∧ w'.cell? ⟨g1, 0, none⟩ = some (.string a)) _ _ (fun _ h => h) hH1 ?_
    clear hK K
    try dsimp only [Act.put]
    refine wpAnyH_take (i := 6) (oi := ?oi401) (v := ?vv401) ?hi401 ?hn401 ?hf401 ?hr401 ?hq401 (Or.inl ⟨?hg401, ?hy401⟩) hH1 ?rest401
    case hi401 => (simp only [List.getElem?_toArray, List.getElem?_cons_succ, List.getElem?_cons_zero]; rfl)
    case hn401 => kernel_rfl
    case hf401 => kernel_rfl
    case hr401 => kernel_rfl
    case hg401 => rfl
    case hy401 => (intro w hSw; (try dsimp only at hSw); go_simp; first | done | with_reducible rfl)
    case hq401 => exact fun _ _ _ h => h
    try dsimp only [Act.put]
    refine held_one 7 rfl (by kernel_rfl) (fun K hK => ?_)
    go_simp
    have hst := setOne_grown (.pointer (some ⟨d, 0, none⟩)) hx1z
    have hH2 : (fun (w' : World) => w'.cell? ⟨w.heap.size, 0, none⟩ = some (.pointer (some ⟨b, 0, none⟩)) ∧ w'.cell? ⟨g1, 0, none⟩ = some (.string a)) (W1.setCell ⟨w.heap.size + 1, 0, none⟩ (.pointer (some ⟨d, 0, none⟩))) := ⟨hst.cell hH1.1 (by simp), hst.cell hH1.2 (by simp only [ne_eq, Option.some.injEq]; omega)⟩
    refine hK.out (fun (w' : World) => w'.cell? ⟨w.heap.size, 0, none⟩ = some (.pointer (some ⟨b, 0, none⟩)) ∧ w'.cell? ⟨g1, 0, none⟩ = some (.string a)) _ _ (fun _ h => h) hH2 ?_
    clear hK K
    try dsimp only [Act.put]
    refine wpAnyH_take (i := 8) (oi := ?oi601) (v := ?vv601) ?hi601 ?hn601 ?hf601 ?hr601 ?hq601 (Or.inl ⟨?hg601, ?hy601⟩) hH2 ?rest601
    case hi601 => (simp only [List.getElem?_toArray, List.getElem?_cons_succ, List.getElem?_cons_zero]; rfl)
    case hn601 => kernel_rfl
    case hf601 => kernel_rfl
    case hr601 => kernel_rfl
    case hg601 => rfl
    case hy601 => (intro w hSw; (try dsimp only at hSw); go_simp; first | done | with_reducible rfl)
    case hq601 => exact fun _ _ _ h => h
    try dsimp only [Act.put]
    refine wpAnyH_done (by kernel_rfl) ?_ _
    have hfin := hnd.grown hst (fun k hk u v h => by injection hk with hk; subst hk; rw [hx1z] at h; injection h with h; injection h with h; simp at h)
    have hbf := (nx hbw1 hbz).setCell (p := ⟨w.heap.size + 1, 0, none⟩) (by show w.heap.size ≤ w.heap.size + 1; omega) (.pointer (some ⟨d, 0, none⟩))
    have q := (one_facts (set_oneB (.pointer (some ⟨d, 0, none⟩)) hx1z)).1
    have HF := Lib.hid hfin
    clear hfin hnd hst hH2 hH1
    go_wp2_with fail
    refine bodyPost_ret (v := .tuple #[.agg #[.pointer (some ⟨d, 0, none⟩)], .bool true]) (by simp [q, results, Try.results99, go_sem]) rfl ⟨d, HF.out, hbf, rfl⟩
end Go.Proofs.Ytkoebmdocenlkaa
