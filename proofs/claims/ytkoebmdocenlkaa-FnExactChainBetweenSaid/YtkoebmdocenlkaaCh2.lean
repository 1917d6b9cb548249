/- Walks: (link).toRight. -/
import Derived.Test.YtkoebmdocenlkaaCh1
namespace Go.Proofs.Ytkoebmdocenlkaa
open Go.RowKit

def ptrB (b : Nat) : Value := .pointer (some ⟨b, 0, none⟩)
theorem info_link : (Try.prog.info? 73).map (fun i => (i.zero, i.size, i.bytes)) = some (some (.agg #[.pointer none]), 1, 8) := by kernel_rfl
/-- Slices of links that a call has made. -/
def OwnL (base : Nat) (w : World) (v : Value) (bs : List Nat) : Prop := w.ownsRow base 73 1 v bs.length (bs.map ptrB)
theorem OwnL.keep {base : Nat} {w w' : World} {v : Value} {bs : List Nat} (h : OwnL base w v bs) (hb : Below w.heap.size w w') : OwnL base w' v bs := ownsRow_keep h hb
theorem OwnL.mono {base base' : Nat} {w : World} {v : Value} {bs : List Nat} (h : OwnL base w v bs) (hb : base' ≤ base) : OwnL base' w v bs := ownsRow_mono h hb
theorem OwnL.src {base : Nat} {w : World} {v : Value} {bs : List Nat} (h : OwnL base w v bs) : SrcV w v (bs.map ptrB) := by
  rcases h.2 with ⟨hv, hn⟩ | ⟨g, cap, cur, hv, hb, hr⟩
  · left
    exact ⟨hv, by rw [List.length_eq_zero_iff.1 hn]; rfl⟩
  · subst hv
    refine .inr ⟨⟨g, 0, none⟩, cap, by simp, fun j x hj => ?_⟩
    have hj' : j < bs.length := by have := (List.getElem?_eq_some_iff.1 hj).1; simpa using this
    rw [addr_add, World.ownsRow.cellAt h j (by omega), hj]
theorem OwnL.one (w : World) (b : Nat) : OwnL w.heap.size (w.alloc (.cells #[.pointer (some ⟨b, 0, none⟩)] 73 (0, 0))) (.slice (some ⟨w.heap.size, 0, none⟩) 1 1) [b] := by
  refine ⟨rfl, .inr ⟨w.heap.size, 1, #[ptrB b], rfl, Nat.le_refl _, ?_, Nat.le_refl _, by unfold maxLen; omega, rfl, rfl⟩⟩
  show (w.heap.push _)[w.heap.size]? = _
  simp [ptrB]
theorem onePtrB (bs : List Nat) : ∀ u ∈ bs.map ptrB, u.oneCell' = true := by
  intro u hu
  obtain ⟨x, _, rfl⟩ := List.mem_map.1 hu
  rfl
/-- The nodes of a list of trees. -/
def NodesL (w : World) : List Tr → List Nat → Prop
  | [], [] => True
  | t :: ts, b :: bs => NodeAt w t b ∧ NodesL w ts bs
  | _, _ => False
theorem NodesL.keep {w w' : World} (hb : Below w.heap.size w w') : ∀ {ts : List Tr} {bs : List Nat}, NodesL w ts bs → NodesL w' ts bs := by
  intro ts
  induction ts with
  | nil => intro bs h; cases bs with | nil => trivial | cons b bs => exact h.elim
  | cons t ts ih => intro bs h; cases bs with | nil => exact h.elim | cons b bs => exact ⟨h.1.keep hb, ih h.2⟩
theorem NodesL.len {w : World} : ∀ {ts : List Tr} {bs : List Nat}, NodesL w ts bs → bs.length = ts.length := by
  intro ts
  induction ts with
  | nil => intro bs h; cases bs with | nil => rfl | cons b bs => exact h.elim
  | cons t ts ih => intro bs h; cases bs with | nil => exact h.elim | cons b bs => simp [ih h.2]
theorem NodesL.get {w : World} : ∀ {ts : List Tr} {bs : List Nat}, NodesL w ts bs → ∀ i, i < ts.length → NodeAt w (ts.getD i .lf) (bs.getD i 0) := by
  intro ts
  induction ts with
  | nil => intro bs h i hi; simp at hi
  | cons t ts ih =>
    intro bs h i hi
    cases bs with
    | nil => exact h.elim
    | cons b bs =>
      cases i with
      | zero => simpa using h.1
      | succ i => simpa using ih h.2 i (by simp at hi; omega)
theorem NodesL.grown {w w' : World} {row : Option Nat} (hg : w.grownBy w' row) (hr : ∀ k, row = some k → ∀ u v, w.heap[k]? ≠ some (.cells #[u, v] 91 (0, 0))) : ∀ {ts : List Tr} {bs : List Nat}, NodesL w ts bs → NodesL w' ts bs := by
  intro ts
  induction ts with
  | nil => intro bs h; cases bs with | nil => trivial | cons b bs => exact h.elim
  | cons t ts ih => intro bs h; cases bs with | nil => exact h.elim | cons b bs => exact ⟨h.1.grown hg hr, ih h.2⟩
theorem ownL_not {base : Nat} {w : World} {v : Value} {n : Nat} {xs : List Value} (h : w.ownsRow base 73 1 v n xs) : ∀ k, v.ownBlock = some k → ∀ x y, w.heap[k]? ≠ some (.cells #[x, y] 91 (0, 0)) := by
  intro k hk x y hc
  rcases h.2 with ⟨h0, _⟩ | ⟨g, cap, cur, hv, _, hh, _⟩
  · subst h0; cases hk
  · subst hv
    cases hk
    rw [hh] at hc
    injection hc with hc
    injection hc with _ h2 _
    exact absurd h2 (by decide)
theorem wpList_appSrcG {P : Program} {w : World} {ops : Array Oper} {rest : List Oper} {o : Oper} {a : Act} {Q : Exit → Act → World → Prop} (hgd : o.guard = none) (s x : Operand) (t : TypeId)
    (ho : o.op = .call { callee := .builtin .append, args := #[s, x], argTypes := #[t, t] })
    (base : Nat) (e : TypeId) (i : TypeInfo) (z : Value) (bytes : Nat) (ht : P.underlying t = some (.slice e)) (hi : P.info? e = some i) (hz : i.zero = some z)
    (hsize : i.size = 1) (hby : i.bytes = bytes) (hzs : z.cells.size = 1)
    (v : Value) (n : Nat) (xs : List Value) (hs : a.eval s = v) (hown : w.ownsRow base e 1 v n xs)
    (u : Value) (ys : List Value) (hx : a.eval x = u) (hsrc : SrcV w u ys) (h1 : ∀ y ∈ ys, y.oneCell' = true)
    (h63 : n + ys.length ≤ maxLen) (hbytes : (n + ys.length) * bytes ≤ 140737488355328) (hbase : base ≤ w.heap.size)
    (h : ∀ v' w', w'.ownsRow base e 1 v' (n + ys.length) (xs ++ ys) → w.grownBy w' v.ownBlock → wpList P ops Q rest (a.put o.dst v') w') : wpList P ops Q (o :: rest) a w := by
  rcases hsrc with ⟨rfl, rfl⟩ | ⟨ad, c, rfl, hc⟩
  · refine wpList_append_own_none hgd s x t ho base e i 1 ht hi v n xs hs hown hx ?_
    exact h v w (by simpa using hown) ⟨rfl, rfl, rfl, Nat.le_refl _, fun _ _ _ => rfl⟩
  · refine wpList_append_own w hgd s x t ho base e i z 1 bytes ht hi hz hsize hby hzs (by decide) v n xs hs hown ad ys.length c ys hx (by simp) hc h1 h63 hbytes hbase ?_
    intro v' w' hown' hg hn
    exact h v' w' hown' hg
theorem chain65 {t : Tr} (h : t.carets ≤ 8) : (chainT t).length ≤ 65 ∧ 1 ≤ (chainT t).length := by
  have h1 := chainT_len t
  have h2 : t.carets * t.carets ≤ 8 * 8 := Nat.mul_le_mul h h
  omega
/-- A call that hands back links to trees, in a slice of its own. -/
def GivesL (ts : List Tr) (w : World) (e : Ending) (w' : World) : Prop :=
  ∃ (v : Value) (bs : List Nat), OwnL w.heap.size w' v bs ∧ NodesL w' ts bs ∧ Below w.heap.size w w' ∧ e = .returned v

set_option maxRecDepth 100000 in
set_option maxHeartbeats 2000000 in
theorem toRight_any (n : Nat) : ∀ (t : Tr) (b : Nat) (w : World), t.lw ≤ n → NodeAt w t b → t.carets ≤ 8 →
    Calls Try.prog 67 #[.agg #[.pointer (some ⟨b, 0, none⟩)]] w (GivesL (chainT t) w) := by
  obtain ⟨i0, hi, hz0, hz1, hz2⟩ := info_parts info_link
  induction n with
  | zero =>
    intro t b w hl hn ht
    have hnx : nextT t = none := by
      cases h : nextT t with
      | none => rfl
      | some u => have := nextT_lw h; omega
    rw [chainT_none hnx]
    have H := Lib.hid hn
    have hNx := fun b w h => next_any t b w h (by omega)
    rw [hnx] at hNx
    have hNx' : ∀ b w, NodeAt w t b → Calls Try.prog 99 #[.agg #[.pointer (some ⟨b, 0, none⟩)]] w (fun e w' => Below w.heap.size w w' ∧ e = .returned (.tuple #[.agg #[.pointer none], .bool false])) := hNx
    replace hNx := hNx'
    clear hn hnx hNx'
    go_enter Try.func67, Try.ntmps67
    go_wp2_with fail
    have hb0 : Below w.heap.size w ((w.alloc (.cells #[.pointer (some ⟨b, 0, none⟩)] 73 (0, 0))).alloc (.cells #[.pointer (some ⟨b, 0, none⟩)] 73 (0, 0))) := nxAlloc (nxAlloc (Below.refl _ _) _) _
    have hx0 := heap_keep (nxAlloc (Below.refl _ _) (.cells #[.pointer (some ⟨b, 0, none⟩)] 73 (0, 0))) (heap_alloc_at w (.cells #[.pointer (some ⟨b, 0, none⟩)] 73 (0, 0)))
    have own0 := OwnL.one (w.alloc (.cells #[.pointer (some ⟨b, 0, none⟩)] 73 (0, 0))) b
    have e1 : (w.alloc (.cells #[.pointer (some ⟨b, 0, none⟩)] 73 (0, 0))).heap.size = w.heap.size + 1 := by simp
    rw [e1] at own0
    clear e1
    generalize (w.alloc (.cells #[.pointer (some ⟨b, 0, none⟩)] 73 (0, 0))).alloc (.cells #[.pointer (some ⟨b, 0, none⟩)] 73 (0, 0)) = w0 at *
    obtain ⟨x0a, x0f, x0l⟩ := one_facts hx0
    try go_wp2_with fail
    refine (hNx b _ (H.out.keep hb0)).mono ?_
    rintro e w1 ⟨hb1, rfl⟩
    have hbw1 := nx hb0 hb1
    replace own0 := own0.keep hb1
    go_wp2_with fail
    go_ret
    exact ⟨_, [b], (own0.mono (Nat.le_succ _)).keep (nxAlloc (Below.refl _ _) _), ⟨(H.out.keep (nxAlloc hbw1 _)), trivial⟩, nxAlloc hbw1 _, rfl⟩
  | succ n ih =>
    intro t b w hl hn ht
    have H := Lib.hid hn
    have hNx := fun b w h => next_any t b w h (by omega)
    cases hnx : nextT t with
    | none =>
      rw [chainT_none hnx]
      rw [hnx] at hNx
      have hNx' : ∀ b w, NodeAt w t b → Calls Try.prog 99 #[.agg #[.pointer (some ⟨b, 0, none⟩)]] w (fun e w' => Below w.heap.size w w' ∧ e = .returned (.tuple #[.agg #[.pointer none], .bool false])) := hNx
      replace hNx := hNx'
      clear hn hnx hNx' ih
      go_enter Try.func67, Try.ntmps67
      go_wp2_with fail
      have hb0 : Below w.heap.size w ((w.alloc (.cells #[.pointer (some ⟨b, 0, none⟩)] 73 (0, 0))).alloc (.cells #[.pointer (some ⟨b, 0, none⟩)] 73 (0, 0))) := nxAlloc (nxAlloc (Below.refl _ _) _) _
      have hx0 := heap_keep (nxAlloc (Below.refl _ _) (.cells #[.pointer (some ⟨b, 0, none⟩)] 73 (0, 0))) (heap_alloc_at w (.cells #[.pointer (some ⟨b, 0, none⟩)] 73 (0, 0)))
      have own0 := OwnL.one (w.alloc (.cells #[.pointer (some ⟨b, 0, none⟩)] 73 (0, 0))) b
      have e1 : (w.alloc (.cells #[.pointer (some ⟨b, 0, none⟩)] 73 (0, 0))).heap.size = w.heap.size + 1 := by simp
      rw [e1] at own0
      clear e1
      generalize (w.alloc (.cells #[.pointer (some ⟨b, 0, none⟩)] 73 (0, 0))).alloc (.cells #[.pointer (some ⟨b, 0, none⟩)] 73 (0, 0)) = w0 at *
      obtain ⟨x0a, x0f, x0l⟩ := one_facts hx0
      try go_wp2_with fail
      refine (hNx b _ (H.out.keep hb0)).mono ?_
      rintro e w1 ⟨hb1, rfl⟩
      have hbw1 := nx hb0 hb1
      replace own0 := own0.keep hb1
      go_wp2_with fail
      go_ret
      exact ⟨_, [b], (own0.mono (Nat.le_succ _)).keep (nxAlloc (Below.refl _ _) _), ⟨(H.out.keep (nxAlloc hbw1 _)), trivial⟩, nxAlloc hbw1 _, rfl⟩
    | some u =>
      have hul := nextT_lw hnx
      have huc := nextT_carets hnx
      have hJ := fun d w h => ih u d w (by omega) h (by omega)
      have hlen := (chain65 (t := u) (by omega)).1
      rw [chainT_some hnx]
      rw [hnx] at hNx
      have hNx' : ∀ b w, NodeAt w t b → Calls Try.prog 99 #[.agg #[.pointer (some ⟨b, 0, none⟩)]] w (fun e w' => ∃ d, NodeAt w' u d ∧ Below w.heap.size w w' ∧ e = .returned (.tuple #[.agg #[.pointer (some ⟨d, 0, none⟩)], .bool true])) := hNx
      replace hNx := hNx'
      clear hn hnx hNx' ih hul huc hl
      go_enter Try.func67, Try.ntmps67
      go_wp2_with fail
      have hb0 : Below w.heap.size w ((w.alloc (.cells #[.pointer (some ⟨b, 0, none⟩)] 73 (0, 0))).alloc (.cells #[.pointer (some ⟨b, 0, none⟩)] 73 (0, 0))) := nxAlloc (nxAlloc (Below.refl _ _) _) _
      have hx0 := heap_keep (nxAlloc (Below.refl _ _) (.cells #[.pointer (some ⟨b, 0, none⟩)] 73 (0, 0))) (heap_alloc_at w (.cells #[.pointer (some ⟨b, 0, none⟩)] 73 (0, 0)))
      have own0 := OwnL.one (w.alloc (.cells #[.pointer (some ⟨b, 0, none⟩)] 73 (0, 0))) b
      have e1 : (w.alloc (.cells #[.pointer (some ⟨b, 0, none⟩)] 73 (0, 0))).heap.size = w.heap.size + 1 := by simp
      rw [e1] at own0
      clear e1
      generalize (w.alloc (.cells #[.pointer (some ⟨b, 0, none⟩)] 73 (0, 0))).alloc (.cells #[.pointer (some ⟨b, 0, none⟩)] 73 (0, 0)) = w0 at *
      obtain ⟨x0a, x0f, x0l⟩ := one_facts hx0
      try go_wp2_with fail
      refine (hNx b _ (H.out.keep hb0)).mono ?_
      rintro e w1 ⟨d, hnd, hb1, rfl⟩
      have hbw1 := nx hb0 hb1
      replace own0 := (own0.keep hb1).keep (nxAlloc (Below.refl w1.heap.size w1) (.cells #[.pointer (some ⟨d, 0, none⟩)] 73 (0, 0)))
      have hbw2 := nxAlloc hbw1 (.cells #[.pointer (some ⟨d, 0, none⟩)] 73 (0, 0))
      have hnd2 := hnd.keep (nxAlloc (Below.refl w1.heap.size w1) (.cells #[.pointer (some ⟨d, 0, none⟩)] 73 (0, 0)))
      have hx2 := heap_alloc_at w1 (.cells #[.pointer (some ⟨d, 0, none⟩)] 73 (0, 0))
      have HW := Lib.hid (⟨rfl, hx2, hnd2, hbw2, own0⟩ : w1.alloc (.cells #[.pointer (some ⟨d, 0, none⟩)] 73 (0, 0)) = w1.alloc (.cells #[.pointer (some ⟨d, 0, none⟩)] 73 (0, 0)) ∧ _ ∧ _ ∧ _ ∧ _)
      clear hx2 hnd2 hbw2 own0
      go_wp2_with fail
      have hbw2 := HW.out.2.2.2.1
      have own2 := HW.out.2.2.2.2
      have hnd2 := HW.out.2.2.1
      generalize w1.alloc (.cells #[.pointer (some ⟨d, 0, none⟩)] 73 (0, 0)) = w2 at *
      refine (hJ d _ hnd2).mono ?_; rintro e w3 ⟨v3, bs, own3, hns, hb3, rfl⟩
      have hbw3 := nx hbw2 hb3
      replace own2 := own2.keep hb3
      have src3 := own3.src
      have one3 := onePtrB bs
      have hbl := hns.len
      have ly3 : (bs.map ptrB).length = bs.length := List.length_map _
      have own2' : w3.ownsRow (w.heap.size + 1) 73 1 (.slice (some ⟨w.heap.size + 1, 0, none⟩) 1 1) 1 [ptrB b] := own2
      have hB3 : w.heap.size + 1 ≤ w3.heap.size := Nat.le_of_lt (World.ownsRow.lt own2' (w.heap.size + 1) rfl).2
      have hno := ownL_not own2'
      have hge := ownsRow_ge own2'
      have HNS := Lib.hid hns
      have HNO := Lib.hid hno
      have hm3 : (bs.map ptrB).length ≤ 1000 := by omega
      clear own3 own2 hns hno hbl
      go_wp2_with (at_builtin; refine wpList_appSrcG rfl _ _ 71 rfl (w.heap.size + 1) 73 i0 (.agg #[.pointer none]) 8 Try.underlying71 hi hz0 hz1 hz2 rfl _ 1 _ rfl own2' _ _ rfl src3 one3 (by unfold maxLen; omega) (by omega) hB3 ?_; intro v4 w4 o9 b9)
      have own4 : OwnL w.heap.size w4 v4 (b :: bs) := by
        refine OwnL.mono (base := w.heap.size + 1) ?_ (Nat.le_succ _)
        unfold OwnL
        rw [show (b :: bs).length = 1 + (bs.map ptrB).length by rw [ly3]; simp; omega]
        exact o9
      have hbw4 := hbw3.grown b9 hbw3.size (fun k hk => Nat.le_trans (Nat.le_succ _) (hge k hk))
      have hns4 := HNS.out.grown b9 HNO.out
      have HN4 := Lib.hid hns4
      clear o9 own2' src3 hns4
      go_wp2_with fail
      go_ret
      exact ⟨v4, b :: bs, own4, ⟨H.out.keep hbw4, HN4.out⟩, hbw4, rfl⟩
end Go.Proofs.Ytkoebmdocenlkaa
