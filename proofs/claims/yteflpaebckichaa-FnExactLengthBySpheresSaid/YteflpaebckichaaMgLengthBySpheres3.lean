/- Texts that the claim needs, part 4. -/
import Derived.Test.YteflpaebckichaaMgLengthBySpheres2
import Derived.Maps.AppendAt
import Derived.Lib.Bytealg
import Derived.Deep.RegionHeld3
import Derived.Laws.AppendOwnNone
import Derived.BigQuiet
import Derived.Lib.AppendZeros
import Derived.Deep.AppendLies
/-! Sp2 -/
namespace Go.Proofs.Yteflpaebckichaa
open Go.RowKit Go.Maps

/-- The pairs of letters; of no letter the one that does nothing. -/
def gL (x : Int) : Pr := if x = 0 then idP else ltP x
theorem gL_ok (x : Int) : okP (gL x) := by unfold gL; split; exact id_ok; exact (ltP_ok x).1
theorem gL_neg (x : Int) : gL (-x) = invP (gL x) := by
  unfold gL
  by_cases h : x = 0
  · subst h; rfl
  · rw [if_neg (by omega), if_neg h]
    unfold ltP num
    by_cases h1 : x < 0
    · rw [if_neg (by omega), if_pos h1, if_neg (by omega), if_pos h1]; rfl
    · rw [if_pos (by omega), if_neg h1, if_pos (by omega), if_neg h1, Int.neg_neg]
theorem four_iff {x : Int} : isFour [x] ↔ ∃ j, j < 4 ∧ x = fourL.getD j 0 := by
  constructor
  · intro h
    rcases h x (by simp) with rfl | rfl | rfl | rfl
    · exact ⟨0, by omega, rfl⟩
    · exact ⟨1, by omega, rfl⟩
    · exact ⟨2, by omega, rfl⟩
    · exact ⟨3, by omega, rfl⟩
  · rintro ⟨j, hj, rfl⟩ y hy
    simp at hy
    match j, hj with
    | 0, _ => simp [fourL] at hy; simp [hy]
    | 1, _ => simp [fourL] at hy; simp [hy]
    | 2, _ => simp [fourL] at hy; simp [hy]
    | 3, _ => simp [fourL] at hy; simp [hy]
theorem gL_four {j : Nat} (h : j < 4) : gL (fourL.getD j 0) = ltP (fourL.getD j 0) := by unfold gL; rw [if_neg (fourL_get j h).1]
theorem gL_chi : ∀ x, isFour [x] → chi (gL x) % 2 = 1 := by
  intro x h
  obtain ⟨j, hj, rfl⟩ := four_iff.1 h
  match j, hj with
  | 0, _ => decide +kernel
  | 1, _ => decide +kernel
  | 2, _ => decide +kernel
  | 3, _ => decide +kernel
abbrev SphL (n : Nat) : Pr → Prop := Sph gL n
def befL (n : Nat) (p : Pr) : Prop := ∃ m, n = m + 1 ∧ SphL m p
theorem near_iff {S : Pr → Prop} {p : Pr} : (∃ q x, S q ∧ isFour [x] ∧ p = mulP q (gL x)) ↔ Near4 S p := by
  constructor
  · rintro ⟨q, x, h1, h2, rfl⟩
    obtain ⟨j, hj, rfl⟩ := four_iff.1 h2
    exact ⟨q, j, h1, hj, by rw [gL_four hj]⟩
  · rintro ⟨q, j, h1, hj, rfl⟩
    exact ⟨q, _, h1, four_iff.2 ⟨j, hj, rfl⟩, by rw [gL_four hj]⟩
theorem sphL_next {n : Nat} {p : Pr} : SphL (n + 1) p ↔ Near4 (SphL n) p ∧ ¬ befL n p := by
  show Sph gL (n + 1) p ↔ _
  rw [sph_step2 gL_ok gL_neg gL_chi, near_iff]
  refine and_congr_right fun _ => ⟨fun h ⟨m, e, k⟩ => h m e k, fun h m e k => h ⟨m, e, k⟩⟩
theorem rch_carets {n : Nat} {p : Pr} (h : Rch gL n p) : p.1.carets ≤ 3 * n := by
  induction n generalizing p with
  | zero =>
    obtain ⟨w, _, hl, rfl⟩ := h
    rw [List.length_eq_zero_iff.1 hl]; exact Nat.le_refl _
  | succ n ih =>
    obtain ⟨q, x, h1, h2, rfl⟩ := h.last
    have hq := ih h1
    have ho := h1.ok gL_ok
    obtain ⟨j, hj, rfl⟩ := four_iff.1 h2
    obtain ⟨f1, f2, f3⟩ := fourL_get j hj
    have hx := (ltP_small f1 f2 f3).2.1
    have hm := mulP_carets ho (gL_ok (fourL.getD j 0))
    rw [gL_four hj] at hm ⊢
    unfold okP at ho
    omega
theorem sphL_small {n : Nat} (hn : n ≤ 5) {p : Pr} (h : SphL n p) : smallP p := ⟨h.1.ok gL_ok, by have := rch_carets h.1; omega⟩
def sphList (n : Nat) : List Pr := (List.range (bnd (n + 1))).map fun m => wdP gL (wdN m)
theorem sphList_len {n : Nat} (hn : n ≤ 5) : (sphList n).length ≤ 1365 := by
  unfold sphList
  rw [List.length_map, List.length_range]
  exact Nat.le_trans (bnd_le (show n + 1 ≤ 6 by omega)) (by decide)

/-- A row of maps of the call's own. -/
def OwnM (base : Nat) (w : World) (v : Value) (bs : List Nat) : Prop := w.ownsRow base 53 1 v bs.length (bs.map fun b => Value.map (some b))
theorem OwnM.ne {base n b : Nat} {w : World} {v : Value} {bs : List Nat} {S : Pr → Prop} (h : OwnM base w v bs) (hs : SetP w b n S) : some b ≠ v.ownBlock := by
  obtain ⟨D, ⟨es, clock, hb, _⟩, _⟩ := hs
  rcases h.2 with ⟨hv, _⟩ | ⟨g, cap, cur, hv, _, hg, _⟩
  · rw [hv]; simp [Value.ownBlock]
  · rw [hv]
    intro e
    simp [Value.ownBlock] at e
    subst e
    rw [hg] at hb
    cases hb
theorem OwnM.keep {base : Nat} {w w' : World} {v : Value} {bs : List Nat} (h : OwnM base w v bs) (hb : Below w.heap.size w w') : OwnM base w' v bs := ownsRow_keep h hb
theorem OwnM.get {base : Nat} {w : World} {v : Value} {bs : List Nat} (h : OwnM base w v bs) {i : Nat} (hi : i < bs.length) : ∃ g cap, v = .slice (some ⟨g, 0, none⟩) bs.length cap ∧ bs.length ≤ cap ∧ cap ≤ maxLen ∧ base ≤ g ∧ g < w.heap.size ∧ w.cell? ⟨g, i, none⟩ = some (.map (some (bs.getD i 0))) := by
  have h0 := h
  rcases h.2 with ⟨_, hn⟩ | ⟨g, cap, cur, rfl, hb, hg, r1, r2, _⟩
  · omega
  · refine ⟨g, cap, rfl, r1, r2, hb, lt_of_block hg, ?_⟩
    rw [World.ownsRow.cellAt h0 i (by omega)]
    simp [List.getD_eq_getElem?_getD, hi]
theorem info_sph : (Try.prog.info? 53).map (fun i => (i.zero, i.size, i.bytes)) = some (some (.map none), 1, 8) := by kernel_rfl
theorem one_map (b : Nat) : ∀ u ∈ [Value.map (some b)], u.oneCell' = true := by intro u hu; simp at hu; subst hu; rfl
theorem OwnM.snoc {base : Nat} {w : World} {v : Value} {bs : List Nat} {b : Nat} (h : w.ownsRow base 53 1 v (bs.length + 1) ((bs.map fun b => Value.map (some b)) ++ [Value.map (some b)])) : OwnM base w v (bs ++ [b]) := by
  unfold OwnM; rw [List.length_append, List.map_append]; exact h
theorem OwnM.get2 {base n : Nat} {w : World} {v : Value} {bs : List Nat} (h : OwnM base w v bs) (hn : bs.length = n) {i : Nat} (hi : i < n) : ∃ g cap, v = .slice (some ⟨g, 0, none⟩) n cap ∧ n ≤ cap ∧ cap ≤ maxLen ∧ base ≤ g ∧ g < w.heap.size ∧ w.cell? ⟨g, i, none⟩ = some (.map (some (bs.getD i 0))) := by
  subst hn; exact h.get hi
theorem SetP.kept {w w' : World} {b n : Nat} {S : Pr → Prop} {row : Option Nat} (h : SetP w b n S) (hg : w.grownBy w' row) (hne : some b ≠ row) : SetP w' b n S := SetM.kept h hg hne
theorem SetP.below {w w' : World} {b n : Nat} {S : Pr → Prop} (h : SetP w b n S) (hb : Below w.heap.size w w') : SetP w' b n S := SetM.below h hb
theorem SetP.alloc {w : World} {b n : Nat} {S : Pr → Prop} (h : SetP w b n S) (o : Obj) : SetP (w.alloc o) b n S := SetM.alloc h o
/-- A row of the spheres up to one. -/
def GivesSph (n : Nat) (w : World) (e : Ending) (w' : World) : Prop := ∃ v bs, bs.length = n + 1 ∧ OwnM w.heap.size w' v bs ∧ (∀ r, r ≤ n → SetP w' (bs.getD r 0) 6000 (SphL r)) ∧ Below w.heap.size w w' ∧ e = .returned v
theorem OwnM.one (w : World) (b : Nat) : OwnM w.heap.size (w.alloc (.cells #[.map (some b)] 53 (0, 0))) (.slice (some ⟨w.heap.size, 0, none⟩) 1 1) [b] := by
  refine ⟨rfl, .inr ⟨w.heap.size, 1, #[.map (some b)], rfl, Nat.le_refl _, ?_, Nat.le_refl _, by unfold maxLen; omega, rfl, rfl⟩⟩
  show (w.heap.push _)[w.heap.size]? = _
  simp
theorem OwnM.mono {base base' : Nat} {w : World} {v : Value} {bs : List Nat} (h : OwnM base w v bs) (hb : base' ≤ base) : OwnM base' w v bs := ownsRow_mono h hb
theorem befL_zero (p : Pr) : ¬ befL 0 p := fun ⟨m, h, _⟩ => by omega
theorem identity9_any (w : World) : Calls Try.prog 45 #[] w (Gives (.agg #[.string Tr.lf.str, .string Tr.lf.str]) w) := by
  go_enter Try.func45, Try.ntmps45
  go_wp2
  refine bodyPost_ret (v := .agg #[.string Tr.lf.str, .string Tr.lf.str]) (by simp [results, Try.results45, go_sem]; rfl) rfl ⟨rfl, ?_⟩
  exact nxAlloc (Below.refl _ _) _

set_option maxRecDepth 100000 in
set_option maxHeartbeats 4000000 in
theorem spheresUpTo_any (n : Nat) (hn5 : n ≤ 5) (w : World) : Calls Try.prog 27 #[.int .i64 n] w (GivesSph n w) := by
  obtain ⟨i0, hi, hz0, hz1, hz2⟩ := info_parts info_sph
  have hmm := @run_makeMap Try.prog
  have hki := key_pair (p := idP) (by decide) (by decide)
  go_enter Try.func27, Try.ntmps27
  go_wp2_with fail
  have hb0 := nxAlloc (Below.refl w.heap.size w) (.map #[] 0)
  have hm0 : SetP (w.alloc (.map #[] 0)) w.heap.size 0 (fun _ => False) := SetM.congr (SetM.made Try.prog 27 4 w) (fun _ => ⟨fun h => h.elim, fun ⟨_, ht, _⟩ => ht.2.2.elim⟩)
  generalize w.alloc (.map #[] 0) = w1 at *
  refine (identity9_any _).mono ?_; rintro e w2 ⟨rfl, hb2⟩
  replace hm0 : SetP w2 w.heap.size 0 _ := SetM.below hm0 hb2
  replace hb0 := nx hb0 hb2
  have HM := Lib.hid hm0
  clear hb2 hm0
  go_wp2_with (first | (go_loud (refine wpList_ins_set rfl _ _ _ 53 rfl law_pr Try.underlying53 Try.underlying4 rfl HM.out (by unfold maxLen; omega) _ _ rfl rfl hki ?_); intro w3 hm3 hg3) | go_in)
  have hS0 : SetP w3 w.heap.size 6000 (SphL 0) := SetM.mono (SetM.congr hm3 (fun z => ⟨fun h => by
      rcases h with ⟨_, h, _⟩ | h
      · exact h.2.2.elim
      · exact ⟨idP, ⟨by decide, by decide, sph_zero.2 rfl⟩, h⟩, fun ⟨p, ⟨_, _, h⟩, e⟩ => by
      rw [sph_zero.1 h] at e; exact Or.inr e⟩)) (by omega)
  have hbw3 : Below w.heap.size w w3 := hb0.grown hg3 hb0.size (fun k hk => by cases hk; exact Nat.le_refl _)
  have e1 : (w3.alloc (.cells #[.map (some w.heap.size)] 53 (0, 0))).heap.size = w3.heap.size + 1 := by simp
  have hrow : OwnM w.heap.size ((w3.alloc (.cells #[.map (some w.heap.size)] 53 (0, 0))).alloc (.map #[] 0)) (.slice (some ⟨w3.heap.size, 0, none⟩) 1 1) [w.heap.size] := (OwnM.keep (OwnM.one w3 w.heap.size) (nxAlloc (Below.refl _ _) _)).mono hbw3.size
  have hS1 : SetP ((w3.alloc (.cells #[.map (some w.heap.size)] 53 (0, 0))).alloc (.map #[] 0)) w.heap.size 6000 (SphL 0) := (hS0.alloc _).alloc _
  have hB1 : SetP ((w3.alloc (.cells #[.map (some w.heap.size)] 53 (0, 0))).alloc (.map #[] 0)) (w3.heap.size + 1) 0 (befL 0) := by
    have h9 := SetM.made Try.prog 27 4 (w3.alloc (.cells #[.map (some w.heap.size)] 53 (0, 0)))
    rw [e1] at h9
    exact SetM.congr h9 (fun _ => ⟨fun h => h.elim, fun ⟨p, ht, _⟩ => befL_zero p ht.2.2⟩)
  have hbw5 := nxAlloc (nxAlloc hbw3 (.cells #[.map (some w.heap.size)] 53 (0, 0))) (.map #[] 0)
  generalize (w3.alloc (.cells #[.map (some w.heap.size)] 53 (0, 0))).alloc (.map #[] 0) = w5 at *
  generalize w3.heap.size + 1 = cb0 at *
  generalize (Value.slice (some ⟨w3.heap.size, 0, none⟩) 1 1) = v3 at *
  clear hm3 hg3 hS0 hbw3 HM hki hb0 e1
  go_loopw [3, 4, 12] (fun u v c wr => ∃ (i : Nat) (bs : List Nat) (cb nb : Nat), i ≤ n ∧ c = .int .i64 i ∧ v = .map (some cb) ∧ Hid (bs.length = i + 1) ∧ OwnM w.heap.size wr u bs ∧ (∀ r, r ≤ i → SetP wr (bs.getD r 0) 6000 (SphL r)) ∧ SetP wr cb nb (befL i) ∧ Below w.heap.size w wr) (fun _ _ c _ => n - (intOf c).toNat)
  case atStart => exact ⟨0, [w.heap.size], cb0, 0, Nat.zero_le _, rfl, rfl, rfl, hrow, fun r hr => (by have e := Nat.le_zero.1 hr; rw [e]; exact hS1), hB1, hbw5⟩
  case round =>
    clear hrow hS1 hB1 hbw5
    obtain ⟨i, bs, cb, nb, hin, rfl, rfl, hlen, hrow, hSs, hB, hbw⟩ := hrel
    by_cases hlt : i < n
    · have hlt' : (i : Int) < (n : Int) := by omega
      obtain ⟨g, cap, rfl, r1, r2, hgb, hgl, hc⟩ := hrow.get (i := i) (by rw [hlen.out]; omega)
      have hrow0 := Lib.hid hrow
      have hil : (i : Int) < (bs.length : Int) := by have := hlen.out; omega
      have hl7 : bs.length ≤ 7 := by have := hlen.out; omega
      have hSi := hSs i (Nat.le_refl _)
      have hN := next_any (SphL i) (befL i) (fun p hp => sphL_small (by omega) hp) (sphList i) (fun p hp => sph_list hp) (by have := sphList_len (n := i) (by omega); omega) (bs.getD i 0) cb 6000 nb wr hSi hB
      have hls := sphList_len (n := i) (by omega)
      obtain ⟨bi, hbi⟩ : ∃ bi, bi = bs.getD i 0 := ⟨_, rfl⟩
      rw [← hbi] at hc hN hSi
      have HBI := Lib.hid hbi
      have HSS := Lib.hid hSs
      unfold maxLen at r2
      clear hSs hbi hrow
      go_wp2_with fail
      refine hN.mono ?_; rintro e w9 ⟨b9, hb9, hm9, hbw9, rfl⟩
      have hn9 : SetP w9 b9 6000 (SphL (i + 1)) := SetM.mono (SetP.congr hm9 (fun p _ _ => sphL_next.symm)) (by omega)
      have hrow9 := OwnM.keep hrow0.out hbw9
      have hSi9 := hSi.below hbw9
      have hSs9 : ∀ r, r ≤ i → SetP w9 (bs.getD r 0) 6000 (SphL r) := fun r hr => (HSS.out r hr).below hbw9
      have hbw8 := nx hbw hbw9
      have HSS9 := Lib.hid hSs9
      have HN9 := Lib.hid hn9
      have HSi9 := Lib.hid hSi9
      have hrowH := Lib.hid hrow9
      unfold OwnM at hrow9
      clear hN hm9 hn9 hSs9 HSS hbw9 hSi hB hbw hrow0 hc hSi9
      go_wp2_with (at_builtin; go_loud (refine wpList_append_own_at _ rfl _ _ 50 rfl w.heap.size 53 i0 (.map none) 1 8 Try.underlying50 hi hz0 hz1 hz2 rfl (by decide) _ _ _ rfl (hrow9.alloc _) ⟨w9.heap.size, 0, none⟩ 1 1 [.map (some b9)] rfl rfl (new1 _ _ _) (one_map _) (by unfold maxLen; omega) (by omega) (size_al hbw8 _) ?_); intro v' wa hown' hgrow hnn hob
                   have hrowN := OwnM.snoc hown'
                   obtain ⟨N2, hN2⟩ : ∃ N2, (bs ++ [b9]).length = N2 := ⟨_, rfl⟩
                   have hiN : (i : Int) < (N2 : Int) := by rw [← hN2]; have := hlen.out; simp; omega
                   obtain ⟨g2, cap2, rfl, q1, q2, _, _, k2⟩ := hrowN.get2 hN2 (i := i) (by omega)
                   have hbe : (bs ++ [b9]).getD i 0 = bi := by have := hlen.out; rw [HBI.out]; simp [List.getD_eq_getElem?_getD, List.getElem?_append_left (show i < bs.length by omega)]
                   rw [hbe] at k2
                   unfold maxLen at q2
                   have HN2 := Lib.hid hN2
                   clear hN2 hbe)
      have hne : ∀ b S m, SetP w9 b m S → some b ≠ (Value.slice (some ⟨g, 0, none⟩) bs.length cap).ownBlock := fun b S m h => hrowH.out.ne h
      have hgo : ∀ b S m, SetP w9 b m S → SetP wa b m S := fun b S m h => (h.alloc _).kept hgrow (hne b S m h)
      have hbwa := below_app hbw8 hrow9 (Nat.le_refl _) hgrow
      go_roundw
      case rel =>
        refine ⟨i + 1, bs ++ [b9], bi, 6000, by omega, by go_num, rfl, by show _ = _; have := hlen.out; simp [this], hrowN, fun r hr => ?_, ?_, hbwa⟩
        · rcases Nat.lt_or_ge r (i + 1) with h1 | h1
          · have : (bs ++ [b9]).getD r 0 = bs.getD r 0 := by have := hlen.out; simp [List.getD_eq_getElem?_getD, List.getElem?_append_left (show r < bs.length by omega)]
            rw [this]; exact hgo _ _ _ (HSS9.out r (by omega))
          · obtain rfl : r = i + 1 := by omega
            have : (bs ++ [b9]).getD (i + 1) 0 = b9 := by have := hlen.out; simp [List.getD_eq_getElem?_getD, this]
            rw [this]; exact hgo _ _ _ HN9.out
        · exact SetP.congr (hgo _ _ _ HSi9.out) (fun p _ _ => ⟨fun h => ⟨i, rfl, h⟩, fun ⟨m, e, h⟩ => (show i = m by omega) ▸ h⟩)
      case measure => simp [intOf]; omega
    · obtain rfl : i = n := by omega
      have HSS := Lib.hid hSs
      clear hSs
      go_wp2_with fail
      go_ret
      exact ⟨_, bs, hlen.out, hrow, HSS.out, hbw, rfl⟩
end Go.Proofs.Yteflpaebckichaa

/-! CountP -/
namespace Go.Proofs.Yteflpaebckichaa

/-- p choose k, step by step. -/
def chM (p : Nat) : Nat → Nat
  | 0 => 1
  | k + 1 => chM p k * (p - k) / (k + 1)

/-- How many lists of t trees have c carets together. -/
def listsN (t c : Nat) : Nat := chM (2 * c + t) c * t / (2 * c + t)

/-- How many trees have k carets. -/
def catN : Nat → Nat
  | 0 => 1
  | k + 1 => catN k * 2 * (2 * k + 1) / (k + 2)

theorem chM_le (p : Nat) (hp : p ≤ 40) : ∀ k, k ≤ 8 → chM p k ≤ 40 ^ k := by
  intro k
  induction k with
  | zero => intro _; simp [chM]
  | succ k ih =>
    intro h
    have h1 := ih (by omega)
    rw [chM, Nat.pow_succ]
    refine Nat.le_trans (Nat.div_le_self _ _) ?_
    exact Nat.mul_le_mul h1 (by omega)

theorem chM_bd (p k : Nat) (hp : p ≤ 40) (hk : k ≤ 8) : chM p k ≤ 6553600000000 := by
  have h1 := chM_le p hp k hk
  have h2 : 40 ^ k ≤ 40 ^ 8 := Nat.pow_le_pow_right (by omega) hk
  have h3 : (40 : Nat) ^ 8 = 6553600000000 := by decide
  omega

theorem catN_bd : ∀ k, k ≤ 8 → catN k ≤ 1430 := by decide
theorem lists_cat : ∀ k, k ≤ 8 → listsN 1 k = catN k := by decide

end Go.Proofs.Yteflpaebckichaa

/-! CountT -/
namespace Go.Proofs.Yteflpaebckichaa
open Go.RowKit

/-- An answer of a number and a bool. -/
def ansN (o : Option Nat) : Value := .tuple #[.int .i64 (o.getD 0), .bool o.isSome]
def countO (n : Int) : Option Nat := if 0 ≤ n ∧ n ≤ 8 then some (catN n.toNat) else none

end Go.Proofs.Yteflpaebckichaa

/-! Sp3 -/
namespace Go.Proofs.Yteflpaebckichaa
open Go.RowKit Go.Maps

/-- The radius of the sphere of a pair, if it is at most so much. -/
noncomputable def sphF (p : Pr) (m : Nat) : Option Nat := @dite (Option Nat) (∃ r, r ≤ m ∧ SphL r p) (Classical.propDecidable _) (fun h => some (Classical.choose h)) (fun _ => none)
theorem sphF_some {p : Pr} {m r : Nat} (h1 : r ≤ m) (h2 : SphL r p) : sphF p m = some r := by
  have h : ∃ r, r ≤ m ∧ SphL r p := ⟨r, h1, h2⟩
  unfold sphF
  rw [dif_pos h]
  exact congrArg some (sph_uniq (Classical.choose_spec h).2 h2)
theorem sphF_none {p : Pr} {m : Nat} (h : ∀ r, r ≤ m → ¬ SphL r p) : sphF p m = none := by
  unfold sphF
  rw [dif_neg (fun ⟨r, h1, h2⟩ => h r h1 h2)]
noncomputable def lbsO (a b : ByteArray) (m : Int) : Option Nat := (pairOf a b).bind fun p => if 0 ≤ m ∧ m ≤ 5 then sphF (red p) m.toNat else none
theorem red_small9 {p : Pr} (hok : okP p) (h : p.1.carets ≤ 60) : okP (red p) ∧ (red p).1.carets ≤ 60 ∧ (red p).2.carets ≤ 60 := by
  have h1 := red_ok hok []
  have h2 := redBy_carets p []
  unfold okP at hok
  exact ⟨h1, by show (redBy p []).1.carets ≤ 60; omega, by show (redBy p []).2.carets ≤ 60; omega⟩

set_option maxRecDepth 100000 in
set_option maxHeartbeats 2000000 in
theorem implLengthBySpheres_any (a b : ByteArray) (m : Int) (w : World) (ha : a.size ≤ 9223372036854775806) (hb : b.size ≤ 9223372036854775806) (_lo : -9223372036854775808 ≤ m) (_hi : m ≤ 9223372036854775807) :
    Calls Try.prog 10 #[.agg #[.string a, .string b], .int .i64 m] w (Gives (ansN (lbsO a b m)) w) := by
  have hg := fun w => implReducePair_any a b w ha hb
  unfold lbsO
  cases h : pairOf a b with
  | none =>
    rw [h] at hg
    change ∀ w, Calls _ _ _ w (Gives (.tuple #[.agg #[.string ⟨#[]⟩, .string ⟨#[]⟩], .bool false]) w) at hg
    clear h
    show Calls _ _ _ _ (Gives (.tuple #[.int .i64 0, .bool false]) w)
    go_enter Try.func10, Try.ntmps10
    go_wp2_with fail
    have hb0 : Below w.heap.size w (w.alloc (.cells #[.string a, .string b] 27 (0, 0))) := nxAlloc (Below.refl _ _) _
    have hx0 := heap_alloc_at w (.cells #[.string a, .string b] 27 (0, 0))
    generalize (w.alloc (.cells #[.string a, .string b] 27 (0, 0))) = w0 at *
    obtain ⟨hx0a, hx0b, hx0c⟩ := two_facts hx0
    obtain ⟨hx0f, hx0g⟩ := two_frozen hx0
    refine (hg _).mono ?_; rintro e w1 ⟨rfl, hb1⟩
    have hbw1 := nx hb0 hb1
    replace hx0 := heap_keep hb1 hx0
    clear hx0a hx0b hx0c hx0f hx0g
    obtain ⟨hx0a, hx0b, hx0c⟩ := two_facts hx0
    obtain ⟨hx0f, hx0g⟩ := two_frozen hx0
    clear hb1 hb0
    go_wp2_with fail
    go_ret2
    exact ⟨rfl, (hbw1.setCell (Nat.le_refl _) _).setCell (Nat.le_refl _) _⟩
  | some p =>
    rw [h] at hg
    obtain ⟨rfl, rfl, hok, hc1, hc2⟩ := pairOf_some h
    obtain ⟨k1, k2, k3⟩ := red_small9 hok (by omega)
    clear h
    change ∀ w, Calls _ _ _ w (Gives (.tuple #[.agg #[.string (red p).1.str, .string (red p).2.str], .bool true]) w) at hg
    show Calls _ _ _ _ (Gives (ansN (if 0 ≤ m ∧ m ≤ 5 then sphF (red p) m.toNat else none)) w)
    obtain ⟨R, hR⟩ : ∃ R, R = red p := ⟨_, rfl⟩
    rw [← hR] at hg k1 k2 k3 ⊢
    clear hR
    have hkR := key_pair (p := R) (by omega) (by omega)
    have hset : ∀ w1 : World, w1.heap[w.heap.size]? = some (.cells #[.string p.1.str, .string p.2.str] 27 (0, 0)) → ((w1.setCell ⟨w.heap.size, 0, none⟩ (.string R.1.str)).setCell ⟨w.heap.size, 1, none⟩ (.string R.2.str)).heap[w.heap.size]? = some (.cells #[.string R.1.str, .string R.2.str] 27 (0, 0)) := fun w1 h => set_two _ _ h
    by_cases h0 : m < 0
    · rw [if_neg (by omega)]
      show Calls _ _ _ _ (Gives (.tuple #[.int .i64 0, .bool false]) w)
      go_enter Try.func10, Try.ntmps10
      go_wp2_with fail
      have hb0 : Below w.heap.size w (w.alloc (.cells #[.string p.1.str, .string p.2.str] 27 (0, 0))) := nxAlloc (Below.refl _ _) _
      have hx0 := heap_alloc_at w (.cells #[.string p.1.str, .string p.2.str] 27 (0, 0))
      generalize (w.alloc (.cells #[.string p.1.str, .string p.2.str] 27 (0, 0))) = w0 at *
      obtain ⟨hx0a, hx0b, hx0c⟩ := two_facts hx0
      obtain ⟨hx0f, hx0g⟩ := two_frozen hx0
      refine (hg _).mono ?_; rintro e w1 ⟨rfl, hb1⟩
      have hbw1 := nx hb0 hb1
      replace hx0 := heap_keep hb1 hx0
      clear hx0a hx0b hx0c hx0f hx0g
      obtain ⟨hx0a, hx0b, hx0c⟩ := two_facts hx0
      obtain ⟨hx0f, hx0g⟩ := two_frozen hx0
      clear hb1 hb0
      have hbs := (hbw1.setCell (p := ⟨w.heap.size, 0, none⟩) (Nat.le_refl _) (.string R.1.str)).setCell (p := ⟨w.heap.size, 1, none⟩) (Nat.le_refl _) (.string R.2.str)
      have hxs := hset _ hx0
      obtain ⟨q1, q2⟩ := two_cells hxs
      go_wp2_with fail
      go_ret2
      exact ⟨rfl, hbs⟩
    by_cases h5 : 5 < m
    · rw [if_neg (by omega)]
      show Calls _ _ _ _ (Gives (.tuple #[.int .i64 0, .bool false]) w)
      go_enter Try.func10, Try.ntmps10
      go_wp2_with fail
      have hb0 : Below w.heap.size w (w.alloc (.cells #[.string p.1.str, .string p.2.str] 27 (0, 0))) := nxAlloc (Below.refl _ _) _
      have hx0 := heap_alloc_at w (.cells #[.string p.1.str, .string p.2.str] 27 (0, 0))
      generalize (w.alloc (.cells #[.string p.1.str, .string p.2.str] 27 (0, 0))) = w0 at *
      obtain ⟨hx0a, hx0b, hx0c⟩ := two_facts hx0
      obtain ⟨hx0f, hx0g⟩ := two_frozen hx0
      refine (hg _).mono ?_; rintro e w1 ⟨rfl, hb1⟩
      have hbw1 := nx hb0 hb1
      replace hx0 := heap_keep hb1 hx0
      clear hx0a hx0b hx0c hx0f hx0g
      obtain ⟨hx0a, hx0b, hx0c⟩ := two_facts hx0
      obtain ⟨hx0f, hx0g⟩ := two_frozen hx0
      clear hb1 hb0
      have hbs := (hbw1.setCell (p := ⟨w.heap.size, 0, none⟩) (Nat.le_refl _) (.string R.1.str)).setCell (p := ⟨w.heap.size, 1, none⟩) (Nat.le_refl _) (.string R.2.str)
      have hxs := hset _ hx0
      obtain ⟨q1, q2⟩ := two_cells hxs
      go_wp2_with fail
      go_ret2
      exact ⟨rfl, hbs⟩
    rw [if_pos (by omega)]
    obtain ⟨n, rfl⟩ : ∃ n : Nat, m = n := ⟨m.toNat, by omega⟩
    have hn5 : n ≤ 5 := by omega
    rw [Int.toNat_natCast]
    obtain ⟨A, hA⟩ : ∃ A, A = sphF R n := ⟨_, rfl⟩
    rw [← hA]
    have HA := Lib.hid hA
    clear hA
    have hSp := fun w => spheresUpTo_any n hn5 w
    go_enter Try.func10, Try.ntmps10
    go_wp2_with fail
    have hb0 : Below w.heap.size w (w.alloc (.cells #[.string p.1.str, .string p.2.str] 27 (0, 0))) := nxAlloc (Below.refl _ _) _
    have hx0 := heap_alloc_at w (.cells #[.string p.1.str, .string p.2.str] 27 (0, 0))
    generalize (w.alloc (.cells #[.string p.1.str, .string p.2.str] 27 (0, 0))) = w0 at *
    obtain ⟨hx0a, hx0b, hx0c⟩ := two_facts hx0
    obtain ⟨hx0f, hx0g⟩ := two_frozen hx0
    refine (hg _).mono ?_; rintro e w1 ⟨rfl, hb1⟩
    have hbw1 := nx hb0 hb1
    replace hx0 := heap_keep hb1 hx0
    clear hx0a hx0b hx0c hx0f hx0g
    obtain ⟨hx0a, hx0b, hx0c⟩ := two_facts hx0
    obtain ⟨hx0f, hx0g⟩ := two_frozen hx0
    clear hb1 hb0
    have hbs := (hbw1.setCell (p := ⟨w.heap.size, 0, none⟩) (Nat.le_refl _) (.string R.1.str)).setCell (p := ⟨w.heap.size, 1, none⟩) (Nat.le_refl _) (.string R.2.str)
    have hxs := hset _ hx0
    obtain ⟨q1, q2⟩ := two_cells hxs
    go_wp2_with fail
    generalize (w1.setCell ⟨w.heap.size, 0, none⟩ (.string R.1.str)).setCell ⟨w.heap.size, 1, none⟩ (.string R.2.str) = w2 at *
    clear hx0 hx0a hx0b hx0c hx0f hx0g hbw1 hset hg
    refine (hSp _).mono ?_; rintro e w3 ⟨v, bs, hlen, hown, hSs, hb3, rfl⟩
    obtain ⟨N, hN⟩ : ∃ N, bs.length = N := ⟨_, rfl⟩
    obtain ⟨g, cap, rfl, r1, r2, _, hgl, _⟩ := hown.get2 hN (i := 0) (by omega)
    have hNn : N = n + 1 := by omega
    have hcell : ∀ i, i < N → w3.cell? ⟨g, i, none⟩ = some (.map (some (bs.getD i 0))) := fun i hi => by
      obtain ⟨g', cap', e, _, _, _, _, hc⟩ := hown.get2 hN hi
      injection e with e _ _
      injection e with e
      injection e with e
      subst e
      exact hc
    have hy := heap_keep hb3 hxs
    have hbw3 := nx hbs hb3
    obtain ⟨ya, yb, yc⟩ := two_facts hy
    have HC := Lib.hid hcell
    have HS := Lib.hid hSs
    have HNn := Lib.hid hNn
    have hN6 : N ≤ 6 := by omega
    unfold maxLen at r2
    clear hcell hSs hlen hown hN hb3 hxs q1 q2 hSp hbs hNn
    go_wp2_with fail
    go_loopw [7, 8, 27] (fun _ _ c wr => ∃ i : Nat, i ≤ N ∧ c = .int .i64 i ∧ wr = w3 ∧ Hid (∀ r, r < i → ¬ SphL r R)) (fun _ _ c _ => N - (intOf c).toNat)
    case atStart => exact ⟨0, Nat.zero_le _, rfl, rfl, fun r hr => by omega⟩
    case round =>
      obtain ⟨i, hi, rfl, rfl, hno⟩ := hrel
      by_cases hlt : i < N
      · have hlt' : (i : Int) < (N : Int) := by omega
        have c1 := HC.out i hlt
        have hSi := HS.out i (by have := HNn.out; omega)
        obtain ⟨bi, hbi⟩ : ∃ bi, bi = bs.getD i 0 := ⟨_, rfl⟩
        rw [← hbi] at c1 hSi
        clear hbi
        obtain ⟨c, hrun, hc⟩ := SetM.look hSi law_pr Try.underlying53 Try.underlying4 (zero_bool9 wr) hkR
        by_cases hS : SphL i R
        · have hct : c = true := hc.2 ((setP_iff (by omega) (by omega)).2 hS)
          have hfin : A = some i := by rw [HA.out]; exact sphF_some (by have := HNn.out; omega) hS
          subst hct
          subst hfin
          clear hc hSi
          go_wp2_with fail
          go_ret2
          exact ⟨rfl, hbw3⟩
        · have hcf : c = false := by
            cases c with
            | false => rfl
            | true => exact absurd ((setP_iff (by omega) (by omega)).1 (hc.1 rfl)) hS
          have hno2 : ∀ r, r < i + 1 → ¬ SphL r R := fun r hr => by
            rcases Nat.lt_or_ge r i with h | h
            · exact hno.out r h
            · rw [show r = i by omega]; exact hS
          have HNO := Lib.hid hno2
          subst hcf
          clear hc hSi hno2
          go_wp2_with fail
          go_roundw
          case rel => exact ⟨i + 1, by omega, by go_num, trivial, HNO⟩
          case measure => simp [intOf]; omega
      · obtain rfl : i = N := by omega
        have hfin : A = none := by rw [HA.out]; exact sphF_none (fun r hr => hno.out r (by have := HNn.out; omega))
        subst hfin
        go_wp2_with fail
        go_ret2
        exact ⟨rfl, hbw3⟩
end Go.Proofs.Yteflpaebckichaa

/-! OrdP -/
namespace Go.Proofs.Yteflpaebckichaa
open Go.Op (bytesLess)

namespace Tr
def eqB : Tr → Tr → Bool
  | lf, lf => true
  | nd l r, nd p q => l.eqB p && r.eqB q
  | _, _ => false
/-- The order of texts, read off the trees. -/
def lt : Tr → Tr → Bool
  | lf, _ => false
  | nd _ _, lf => true
  | nd l r, nd p q => l.lt p || (l.eqB p && r.lt q)
end Tr

theorem eqB_iff (t : Tr) : ∀ u : Tr, t.eqB u = true ↔ t = u := by
  induction t with
  | lf => intro u; cases u <;> simp [Tr.eqB]
  | nd l r ihl ihr => intro u; cases u with
    | lf => simp [Tr.eqB]
    | nd p q => simp [Tr.eqB, ihl, ihr]
theorem eqB_self (t : Tr) : t.eqB t = true := (eqB_iff t t).2 rfl
theorem lt_irrefl (t : Tr) : t.lt t = false := by
  induction t with
  | lf => rfl
  | nd l r ihl ihr => simp [Tr.lt, ihl, ihr]

theorem bytesLess_text (t : Tr) : ∀ (u : Tr) (q q' : List UInt8), bytesLess (t.text ++ q) (u.text ++ q') = (t.lt u || (t.eqB u && bytesLess q q')) := by
  induction t with
  | lf =>
    intro u q q'
    cases u with
    | lf => simp [Tr.text, bytesLess, Tr.lt, Tr.eqB]
    | nd a b => simp [Tr.text, bytesLess, Tr.lt, Tr.eqB]
  | nd l r ihl ihr =>
    intro u q q'
    cases u with
    | lf => simp [Tr.text, bytesLess, Tr.lt, Tr.eqB]
    | nd a b =>
      have e1 : (Tr.nd l r).text ++ q = 40 :: (l.text ++ (r.text ++ (41 :: q))) := by simp [Tr.text]
      have e2 : (Tr.nd a b).text ++ q' = 40 :: (a.text ++ (b.text ++ (41 :: q'))) := by simp [Tr.text]
      rw [e1, e2, bytesLess, ihl, ihr, bytesLess]
      simp only [Tr.lt, Tr.eqB]
      cases l.lt a <;> cases l.eqB a <;> cases r.lt b <;> cases r.eqB b <;> simp

theorem bytesLess_str (t u : Tr) : bytesLess t.str.toList u.str.toList = t.lt u := by
  have := bytesLess_text t u [] []
  rw [Lib.toList_data, Lib.toList_data, Tr.str_list, Tr.str_list]
  simpa [bytesLess] using this

/-! Lists of trees: m trees with c carets together, in the order of their texts. -/

/-- The order of lists of as many trees. -/
def ltL : List Tr → List Tr → Bool
  | t :: ts, u :: us => t.lt u || (t.eqB u && ltL ts us)
  | _, _ => false

def mkNd : List Tr → List Tr
  | l :: r :: ts => .nd l r :: ts
  | ts => ts

/-- All lists of m trees with c carets together, in order (fuel: 2 c + m). -/
def enumF : Nat → Nat → Nat → List (List Tr)
  | 0, _, c => if c = 0 then [[]] else []
  | k + 1, m, c =>
    if m = 0 then (if c = 0 then [[]] else [])
    else (if c = 0 then [] else (enumF k (m + 1) (c - 1)).map mkNd) ++ (enumF k (m - 1) c).map (.lf :: ·)

theorem mem_enumF (k : Nat) : ∀ (m c : Nat) (ts : List Tr), 2 * c + m ≤ k → (ts ∈ enumF k m c ↔ ts.length = m ∧ (ts.map Tr.carets).sum = c) := by
  induction k with
  | zero =>
    intro m c ts h
    obtain ⟨rfl, rfl⟩ : m = 0 ∧ c = 0 := by omega
    simp [enumF]
    intro h; subst h; rfl
  | succ k ih =>
    intro m c ts h
    rw [enumF]
    by_cases hm : m = 0
    · subst hm
      rw [if_pos rfl]
      by_cases hc : c = 0
      · subst hc
        simp
        intro h; subst h; rfl
      · rw [if_neg hc]
        simp
        intro h; subst h; simp; omega
    · rw [if_neg hm, List.mem_append]
      constructor
      · rintro (h1 | h1)
        · by_cases hc : c = 0
          · simp [hc] at h1
          · rw [if_neg hc, List.mem_map] at h1
            obtain ⟨us, h2, rfl⟩ := h1
            rw [ih _ _ _ (by omega)] at h2
            match us, h2 with
            | [], h2 => simp at h2
            | [_], h2 => simp at h2; omega
            | l :: r :: us, h2 => simp [mkNd, Tr.carets] at h2 ⊢; omega
        · rw [List.mem_map] at h1
          obtain ⟨us, h2, rfl⟩ := h1
          rw [ih _ _ _ (by omega)] at h2
          simp [Tr.carets]; omega
      · rintro ⟨h1, h2⟩
        match ts, h1, h2 with
        | [], h1, h2 => simp at h1; omega
        | .lf :: ts, h1, h2 =>
          right
          rw [List.mem_map]
          refine ⟨ts, ?_, rfl⟩
          rw [ih _ _ _ (by omega)]
          simp [Tr.carets] at h1 h2; omega
        | .nd l r :: ts, h1, h2 =>
          left
          simp [Tr.carets] at h1 h2
          rw [if_neg (by omega), List.mem_map]
          refine ⟨l :: r :: ts, ?_, rfl⟩
          rw [ih _ _ _ (by omega)]
          simp; omega

theorem ltL_mkNd {ts us : List Tr} (h1 : 2 ≤ ts.length) (h2 : 2 ≤ us.length) : ltL (mkNd ts) (mkNd us) = ltL ts us := by
  match ts, us, h1, h2 with
  | l :: r :: ts, p :: q :: us, _, _ =>
    simp only [mkNd, ltL, Tr.lt, Tr.eqB]
    cases l.lt p <;> cases l.eqB p <;> cases r.lt q <;> cases r.eqB q <;> simp

theorem enumF_sorted (k : Nat) : ∀ (m c : Nat), 2 * c + m ≤ k → (enumF k m c).Pairwise (fun a b => ltL a b = true) := by
  induction k with
  | zero => intro m c h; rw [enumF]; split <;> simp
  | succ k ih =>
    intro m c h
    rw [enumF]
    split
    · split <;> simp
    · next hm =>
      rw [List.pairwise_append]
      refine ⟨?_, ?_, ?_⟩
      · split
        · simp
        · rw [List.pairwise_map]
          refine (ih (m + 1) (c - 1) (by omega)).imp_of_mem ?_
          intro a b ha hb hab
          rw [mem_enumF k _ _ _ (by omega)] at ha hb
          rw [ltL_mkNd (by omega) (by omega)]; exact hab
      · rw [List.pairwise_map]
        refine (ih (m - 1) c (by omega)).imp ?_
        intro a b hab
        simp [ltL, Tr.lt, Tr.eqB, hab]
      · intro a ha b hb
        split at ha
        · simp at ha
        · rw [List.mem_map] at ha hb
          obtain ⟨us, h1, rfl⟩ := ha
          obtain ⟨vs, h2, rfl⟩ := hb
          rw [mem_enumF k _ _ _ (by omega)] at h1
          match us, h1 with
          | [], h1 => simp at h1
          | [_], h1 => simp at h1; omega
          | l :: r :: us, _ => simp [mkNd, ltL, Tr.lt]

/-- All trees with n carets, in order. -/
def treesN (n : Nat) : List Tr := (enumF (2 * n + 1) 1 n).map fun ts => ts.headD .lf

theorem mem_treesN (n : Nat) (t : Tr) : t ∈ treesN n ↔ t.carets = n := by
  unfold treesN
  rw [List.mem_map]
  constructor
  · rintro ⟨ts, h, rfl⟩
    rw [mem_enumF _ _ _ _ (by omega)] at h
    match ts, h with
    | [t], h => simpa using h.2
  · intro h
    refine ⟨[t], ?_, rfl⟩
    rw [mem_enumF _ _ _ _ (by omega)]
    simpa using h

theorem treesN_sorted (n : Nat) : (treesN n).Pairwise (fun a b => a.lt b = true) := by
  unfold treesN
  rw [List.pairwise_map]
  refine (enumF_sorted (2 * n + 1) 1 n (by omega)).imp_of_mem ?_
  intro a b ha hb hab
  rw [mem_enumF _ _ _ _ (by omega)] at ha hb
  match a, b, ha, hb with
  | [a], [b], _, _ => simpa [ltL] using hab

theorem treesN_nodup (n : Nat) : (treesN n).Nodup := by
  refine (treesN_sorted n).imp ?_
  intro a b h e
  subst e
  rw [lt_irrefl] at h
  simp at h

/-! Counting. -/
theorem listsN_rec : ∀ c, c ≤ 8 → ∀ m, m ≤ 17 → 2 * c + m ≤ 18 → listsN (m + 1) c = (if c = 0 then 0 else listsN (m + 2) (c - 1)) + (if m = 0 then (if c = 0 then 1 else 0) else listsN m c) := by decide

theorem enumF_length (k : Nat) : ∀ (m c : Nat), 2 * c + m ≤ k → c ≤ 8 → 2 * c + m ≤ 18 → (enumF k m c).length = if m = 0 then (if c = 0 then 1 else 0) else listsN m c := by
  induction k with
  | zero =>
    intro m c h _ _
    obtain ⟨rfl, rfl⟩ : m = 0 ∧ c = 0 := by omega
    rfl
  | succ k ih =>
    intro m c h h8 h18
    rw [enumF]
    by_cases hm : m = 0
    · subst hm; simp only [if_true]; split <;> rfl
    · rw [if_neg hm, if_neg hm]
      obtain ⟨m', rfl⟩ : ∃ m', m = m' + 1 := ⟨m - 1, by omega⟩
      have hr := listsN_rec c h8 m' (by omega) (by omega)
      rw [hr, List.length_append, List.length_map]
      have h2 := ih m' c (by omega) h8 (by omega)
      have e : m' + 1 - 1 = m' := by omega
      rw [e, h2]
      congr 1
      split
      · rfl
      · next hc =>
        rw [List.length_map, ih (m' + 1 + 1) (c - 1) (by omega) (by omega) (by omega), if_neg (by omega)]

theorem treesN_length (n : Nat) (h : n ≤ 8) : (treesN n).length = listsN 1 n := by
  unfold treesN
  rw [List.length_map, enumF_length _ _ _ (by omega) h (by omega)]
  rfl

theorem enumF_fuel (k : Nat) : ∀ (j m c : Nat), 2 * c + m ≤ k → 2 * c + m ≤ j → enumF k m c = enumF j m c := by
  induction k with
  | zero =>
    intro j m c h1 h2
    obtain ⟨rfl, rfl⟩ : m = 0 ∧ c = 0 := by omega
    cases j <;> rfl
  | succ k ih =>
    intro j m c h1 h2
    cases j with
    | zero =>
      obtain ⟨rfl, rfl⟩ : m = 0 ∧ c = 0 := by omega
      rfl
    | succ j =>
      rw [enumF, enumF]
      split
      · rfl
      · rw [ih j (m - 1) c (by omega) (by omega)]
        split
        · rfl
        · rw [ih j (m + 1) (c - 1) (by omega) (by omega)]

/-- All lists of m trees with c carets together, in order. -/
def enum (m c : Nat) : List (List Tr) := enumF (2 * c + m) m c
theorem enum_rec {m c : Nat} (h : 1 ≤ m) : enum m c = (if c = 0 then [] else (enum (m + 1) (c - 1)).map mkNd) ++ (enum (m - 1) c).map (.lf :: ·) := by
  unfold enum
  obtain ⟨k, hk⟩ : ∃ k, 2 * c + m = k + 1 := ⟨2 * c + m - 1, by omega⟩
  rw [hk, enumF, if_neg (by omega), enumF_fuel k (2 * c + (m - 1)) (m - 1) c (by omega) (by omega)]
  split
  · rfl
  · rw [enumF_fuel k (2 * (c - 1) + (m + 1)) (m + 1) (c - 1) (by omega) (by omega)]
theorem mem_enum {m c : Nat} {ts : List Tr} : ts ∈ enum m c ↔ ts.length = m ∧ (ts.map Tr.carets).sum = c := mem_enumF _ _ _ _ (Nat.le_refl _)
theorem enum_length {m c : Nat} (h8 : c ≤ 8) (h : 2 * c + m ≤ 18) (hm : 1 ≤ m) : (enum m c).length = listsN m c := by
  unfold enum
  rw [enumF_length _ _ _ (Nat.le_refl _) h8 h, if_neg (by omega)]
theorem enum_zero : enum 0 0 = [[]] := rfl

/-! The walk by ranks: where a list of trees is. -/

/-- How many lists have a caret first. -/
def frontN (m c : Nat) : Nat := if c = 0 then 0 else listsN (m + 1) (c - 1)

theorem front_length {m c : Nat} (h8 : c ≤ 8) (h : 2 * c + m ≤ 18) : (if c = 0 then [] else (enum (m + 1) (c - 1)).map mkNd).length = frontN m c := by
  unfold frontN
  split
  · rfl
  · rw [List.length_map, enum_length (by omega) (by omega) (by omega)]

/-- The first tree of the list with rank r, and where the rest is: trees, carets, rank. -/
def nextF : Nat → Nat → Nat → Nat → Tr × Nat × Nat × Nat
  | 0, m, c, r => (.lf, m, c, r)
  | k + 1, m, c, r =>
    if frontN m c ≤ r then (.lf, m - 1, c, r - frontN m c)
    else (.nd (nextF k (m + 1) (c - 1) r).1 (nextF k (nextF k (m + 1) (c - 1) r).2.1 (nextF k (m + 1) (c - 1) r).2.2.1 (nextF k (m + 1) (c - 1) r).2.2.2).1,
      (nextF k (nextF k (m + 1) (c - 1) r).2.1 (nextF k (m + 1) (c - 1) r).2.2.1 (nextF k (m + 1) (c - 1) r).2.2.2).2)

theorem nextF_get (k : Nat) : ∀ (m c r : Nat) (us : List Tr), 2 * c + m ≤ k → 1 ≤ m → c ≤ 8 → 2 * c + m ≤ 18 → (enum m c)[r]? = some us →
    ∃ ts, us = (nextF k m c r).1 :: ts ∧ (nextF k m c r).2.1 + 1 = m ∧ (nextF k m c r).2.2.1 + (nextF k m c r).1.carets = c ∧ (enum (m - 1) (nextF k m c r).2.2.1)[(nextF k m c r).2.2.2]? = some ts := by
  induction k with
  | zero => intro m c r us h h1; omega
  | succ k ih =>
    intro m c r us hk hm h8 h18 hget
    have hl := front_length (m := m) h8 h18
    rw [enum_rec hm] at hget
    rw [nextF]
    by_cases hf : frontN m c ≤ r
    · rw [if_pos hf]
      rw [List.getElem?_append_right (by omega), hl, List.getElem?_map] at hget
      cases h0 : (enum (m - 1) c)[r - frontN m c]? with
      | none => rw [h0] at hget; simp at hget
      | some ts =>
        rw [h0] at hget
        simp at hget
        exact ⟨ts, hget.symm, by show m - 1 + 1 = m; omega, by simp [Tr.carets], rfl⟩
    · rw [if_neg hf]
      rw [List.getElem?_append_left (by omega)] at hget
      have hc : ¬ c = 0 := by intro h; rw [if_pos h] at hget; simp at hget
      rw [if_neg hc, List.getElem?_map] at hget
      cases h0 : (enum (m + 1) (c - 1))[r]? with
      | none => rw [h0] at hget; simp at hget
      | some vs =>
        rw [h0] at hget
        simp at hget
        obtain ⟨ts1, e1, s1, s2, s3⟩ := ih (m + 1) (c - 1) r vs (by omega) (by omega) (by omega) (by omega) h0
        have hm1 : (nextF k (m + 1) (c - 1) r).2.1 = m := by omega
        obtain ⟨ts2, e2, q1, q2, q3⟩ := ih m (nextF k (m + 1) (c - 1) r).2.2.1 (nextF k (m + 1) (c - 1) r).2.2.2 ts1 (by omega) hm (by omega) (by omega) s3
        rw [hm1]
        refine ⟨ts2, ?_, q1, ?_, q3⟩
        · rw [← hget, e1, e2]; rfl
        · simp only [Tr.carets]; omega

/-- The tree with n carets and the rank r. -/
def treeAt (n r : Nat) : Tr := (nextF (2 * n + 1) 1 n r).1
theorem treesN_get (n r : Nat) (hn : n ≤ 8) (hr : r < listsN 1 n) : (treesN n)[r]? = some (treeAt n r) := by
  have hlen := enum_length (m := 1) hn (by omega) (Nat.le_refl _)
  have hx : r < (enum 1 n).length := by omega
  obtain ⟨ts, e, _, _, _⟩ := nextF_get (2 * n + 1) 1 n r _ (by omega) (Nat.le_refl _) hn (by omega) (List.getElem?_eq_getElem hx)
  unfold treesN
  show ((enum 1 n).map _)[r]? = _
  rw [List.getElem?_map, List.getElem?_eq_getElem hx, e]
  rfl
theorem treesN_eq (n : Nat) (hn : n ≤ 8) : treesN n = (List.range (listsN 1 n)).map (treeAt n) := by
  apply List.ext_getElem?
  intro r
  by_cases hr : r < listsN 1 n
  · rw [treesN_get n r hn hr, List.getElem?_map, List.getElem?_range hr]
    rfl
  · rw [List.getElem?_eq_none (by rw [treesN_length n hn]; omega), List.getElem?_eq_none (by simp; omega)]

/-- Where a walk along a tree ends: trees, carets, rank. -/
def rkT : Tr → Nat × Nat × Nat → Nat × Nat × Nat
  | .lf, s => (s.1 - 1, s.2.1, s.2.2 + frontN s.1 s.2.1)
  | .nd l r, s => rkT r (rkT l (s.1 + 1, s.2.1 - 1, s.2.2))

theorem rkT_get (t : Tr) : ∀ (m c r i : Nat) (ts : List Tr), 1 ≤ m → c ≤ 8 → 2 * c + m ≤ 18 → t.carets ≤ c → (enum (m - 1) (c - t.carets))[i]? = some ts →
    ∃ d, rkT t (m, c, r) = (m - 1, c - t.carets, r + d) ∧ (enum m c)[d + i]? = some (t :: ts) := by
  induction t with
  | lf =>
    intro m c r i ts hm h8 h18 ht hget
    refine ⟨frontN m c, rfl, ?_⟩
    have hl := front_length (m := m) h8 h18
    rw [enum_rec hm, List.getElem?_append_right (by omega), hl, Nat.add_sub_cancel_left, List.getElem?_map]
    have : (enum (m - 1) c)[i]? = some ts := hget
    rw [this]; rfl
  | nd l r ihl ihr =>
    intro m c x i ts hm h8 h18 ht hget
    simp only [Tr.carets] at ht hget ⊢
    have e1 : c - 1 - l.carets - r.carets = c - (l.carets + r.carets + 1) := by omega
    have h2 := fun x => ihr m (c - 1 - l.carets) x i ts hm (by omega) (by omega) (by omega) (by rw [e1]; exact hget)
    obtain ⟨d0, _, g0⟩ := h2 0
    obtain ⟨d1, f1, g1⟩ := ihl (m + 1) (c - 1) x (d0 + i) (r :: ts) (by omega) (by omega) (by omega) (by omega) (by rw [Nat.add_sub_cancel]; exact g0)
    obtain ⟨d2, f2, g2⟩ := h2 (x + d1)
    have hd : d2 + i = d0 + i := by
      have hn : (enum m (c - 1 - l.carets)).Nodup := by
        refine (enumF_sorted _ m (c - 1 - l.carets) (Nat.le_refl _)).imp ?_
        intro a b h e
        subst e
        have : ∀ a : List Tr, ltL a a = false := by
          intro a; induction a with
          | nil => rfl
          | cons t ts ih => simp [ltL, lt_irrefl, ih]
        rw [this] at h; simp at h
      have hx := List.getElem?_eq_some_iff.1 g2
      have hy := List.getElem?_eq_some_iff.1 g0
      exact (List.getElem_inj hn).1 (hx.2.trans hy.2.symm)
    refine ⟨d1 + d2, ?_, ?_⟩
    · rw [rkT]
      show rkT r (rkT l (m + 1, c - 1, x)) = _
      rw [f1, Nat.add_sub_cancel, f2, e1, Nat.add_assoc x d1 d2]
    · have hl := front_length (m := m) h8 h18
      have hlt := (List.getElem?_eq_some_iff.1 g1).1
      rw [enum_length (by omega) (by omega) (by omega)] at hlt
      have hfr : frontN m c = listsN (m + 1) (c - 1) := by unfold frontN; rw [if_neg (by omega)]
      rw [enum_rec hm, List.getElem?_append_left (by rw [hl]; omega), if_neg (by omega), List.getElem?_map]
      have e2 : d1 + d2 + i = d1 + (d0 + i) := by omega
      rw [e2, g1]; rfl

/-- The rank of a tree. -/
def rankT (t : Tr) : Nat := (rkT t (1, t.carets, 0)).2.2
theorem rankT_get (t : Tr) (h : t.carets ≤ 8) : (treesN t.carets)[rankT t]? = some t := by
  obtain ⟨d, f, g⟩ := rkT_get t 1 t.carets 0 0 [] (Nat.le_refl _) h (by omega) (Nat.le_refl _) (by rw [Nat.sub_self, Nat.sub_self, enum_zero]; rfl)
  have : rankT t = d := by unfold rankT; rw [f]; simp
  rw [this]
  unfold treesN
  show ((enum 1 t.carets).map _)[d]? = _
  rw [List.getElem?_map]
  have g' : (enum 1 t.carets)[d]? = some [t] := g
  rw [g']; rfl

/-- In a sorted list as many are less than one as are in front of it. -/
theorem countP_sorted {l : List Tr} (h : l.Pairwise (fun a b => a.lt b = true)) {i : Nat} {t : Tr} (hi : l[i]? = some t) : l.countP (fun u => u.lt t) = i := by
  induction l generalizing i with
  | nil => simp at hi
  | cons a l ih =>
    rw [List.pairwise_cons] at h
    cases i with
    | zero =>
      simp at hi
      subst hi
      rw [List.countP_cons_of_neg (by rw [lt_irrefl]; simp)]
      rw [List.countP_eq_zero]
      intro b hb hba
      have := h.1 b hb
      have asym : ∀ x y : Tr, x.lt y = true → y.lt x = true → False := by
        intro x
        induction x with
        | lf => intro y h; simp [Tr.lt] at h
        | nd l r ihl ihr =>
          intro y h1 h2
          cases y with
          | lf => simp [Tr.lt] at h2
          | nd p q =>
            simp [Tr.lt, eqB_iff] at h1 h2
            rcases h1 with h1 | ⟨rfl, h1⟩
            · rcases h2 with h2 | ⟨rfl, h2⟩
              · exact ihl _ h1 h2
              · rw [lt_irrefl] at h1; simp at h1
            · rcases h2 with h2 | ⟨_, h2⟩
              · rw [lt_irrefl] at h2; simp at h2
              · exact ihr _ h1 h2
      exact asym _ _ this hba
    | succ i =>
      have hi' : l[i]? = some t := by simpa using hi
      have hm : t ∈ l := List.mem_of_getElem? hi'
      have := ih h.2 hi'
      rw [List.countP_cons_of_pos (by exact h.1 t hm), this]

theorem lt_total (t : Tr) : ∀ u : Tr, t.lt u = true ∨ t = u ∨ u.lt t = true := by
  induction t with
  | lf => intro u; cases u with
    | lf => exact .inr (.inl rfl)
    | nd p q => exact .inr (.inr rfl)
  | nd l r ihl ihr =>
    intro u
    cases u with
    | lf => exact .inl rfl
    | nd p q =>
      simp only [Tr.lt, Bool.or_eq_true, Bool.and_eq_true, eqB_iff]
      rcases ihl p with h | rfl | h
      · exact .inl (.inl h)
      · rcases ihr q with h | rfl | h
        · exact .inl (.inr ⟨rfl, h⟩)
        · exact .inr (.inl rfl)
        · exact .inr (.inr (.inr ⟨rfl, h⟩))
      · exact .inr (.inr (.inl h))

/-! The spec's list, before it is sorted. -/
/-- All trees with n + 1 carets, by the carets of the left side. -/
def rawT (n : Nat) : List Tr := (List.range (n + 1)).flatMap fun i => (treesN i).flatMap fun l => (treesN (n - i)).map fun r => .nd l r

theorem mem_rawT (n : Nat) (t : Tr) : t ∈ rawT n ↔ t.carets = n + 1 := by
  unfold rawT
  simp only [List.mem_flatMap, List.mem_range, List.mem_map, mem_treesN]
  constructor
  · rintro ⟨i, hi, l, rfl, r, hr, rfl⟩
    simp [Tr.carets]; omega
  · intro h
    cases t with
    | lf => simp [Tr.carets] at h
    | nd l r =>
      simp [Tr.carets] at h
      exact ⟨l.carets, by omega, l, rfl, r, by omega, rfl⟩

theorem nodup_flatMap {α β : Type} {l : List α} {f : α → List β} (h1 : ∀ x ∈ l, (f x).Nodup) (h2 : l.Pairwise (fun x y => ∀ b, b ∈ f x → b ∈ f y → False)) : (l.flatMap f).Nodup := by
  induction l with
  | nil => simp
  | cons a l ih =>
    rw [List.pairwise_cons] at h2
    rw [List.flatMap_cons, List.nodup_append]
    refine ⟨h1 a (by simp), ih (fun x hx => h1 x (by simp [hx])) h2.2, ?_⟩
    intro b hb c hc e
    subst e
    rw [List.mem_flatMap] at hc
    obtain ⟨y, hy, hby⟩ := hc
    exact h2.1 y hy b hb hby

theorem rawT_nodup (n : Nat) : (rawT n).Nodup := by
  unfold rawT
  refine nodup_flatMap ?_ ?_
  · intro i _
    refine nodup_flatMap ?_ ?_
    · intro l _
      rw [List.nodup_iff_pairwise_ne, List.pairwise_map]
      refine (treesN_nodup _).imp ?_
      intro a b hne e
      injection e with e1 e2
      exact hne e2
    · refine (treesN_nodup i).imp ?_
      intro l l' hne b h1 h2
      simp only [List.mem_map] at h1 h2
      obtain ⟨r, _, rfl⟩ := h1
      obtain ⟨r', _, e⟩ := h2
      injection e with e1 e2
      exact hne e1.symm
  · refine List.nodup_range.imp ?_
    intro i j hne b h1 h2
    simp only [List.mem_flatMap, List.mem_map, mem_treesN] at h1 h2
    obtain ⟨l, hl, r, _, rfl⟩ := h1
    obtain ⟨l', hl', r', _, e⟩ := h2
    injection e with e1 e2
    subst e1
    exact hne (hl.symm.trans hl')

/-- Whatever is sorted and holds the same trees is the list in order. -/
theorem sorted_eq {n : Nat} {l : List Tr} (hs : l.Pairwise (fun a b => a.lt b = true)) (hp : List.Perm l (rawT n)) : l = treesN (n + 1) := by
  have h1 : List.Perm l (treesN (n + 1)) := by
    refine hp.trans ((List.perm_ext_iff_of_nodup (rawT_nodup n) (treesN_nodup _)).2 ?_)
    intro t
    rw [mem_rawT, mem_treesN]
  refine List.Perm.eq_of_pairwise ?_ hs (treesN_sorted _) h1
  intro a b _ _ hab hba
  exfalso
  have := countP_sorted (l := [a, b]) (i := 1) (t := b) (by simpa using hab) rfl
  have h2 := countP_sorted (l := [b, a]) (i := 1) (t := a) (by simpa using hba) rfl
  have h3 := countP_sorted (l := [a, b]) (i := 0) (t := a) (by simpa using hab) rfl
  simp [lt_irrefl, hba] at h3
end Go.Proofs.Yteflpaebckichaa

/-! SmP -/
namespace Go.Proofs.Yteflpaebckichaa

def pTx (p : Pr) : ByteArray := p.1.str ++ ⟨#[62]⟩ ++ p.2.str
/-- The reduced pairs with k carets whose first tree is a. -/
def redsOf (k : Nat) (a : Tr) : List Pr := ((treesN k).filter fun b => (both (a, b)).isEmpty).map fun b => (a, b)
def redsN (k : Nat) : List Pr := (treesN k).flatMap (redsOf k)
/-- The reduced pairs with fewer than n carets. -/
def smallN (n : Nat) : List Pr := (List.range n).flatMap redsN
theorem smallN_succ (n : Nat) : smallN (n + 1) = smallN n ++ redsN n := by simp [smallN, List.range_succ]
theorem mem_redsN {k : Nat} {p : Pr} : p ∈ redsN k ↔ p.1.carets = k ∧ p.2.carets = k ∧ both p = [] := by
  simp only [redsN, redsOf, List.mem_flatMap, List.mem_map, List.mem_filter, mem_treesN, List.isEmpty_iff]
  constructor
  · rintro ⟨a, ha, b, ⟨hb, h⟩, rfl⟩; exact ⟨ha, hb, h⟩
  · rintro ⟨ha, hb, h⟩; exact ⟨p.1, ha, p.2, ⟨hb, h⟩, rfl⟩
theorem mem_smallN {n : Nat} {p : Pr} : p ∈ smallN n ↔ p.1.carets < n ∧ okP p ∧ both p = [] := by
  simp only [smallN, List.mem_flatMap, List.mem_range, mem_redsN, okP]
  constructor
  · rintro ⟨k, hk, h1, h2, h3⟩; exact ⟨by omega, by omega, h3⟩
  · rintro ⟨h1, h2, h3⟩; exact ⟨p.1.carets, h1, rfl, by omega, h3⟩
/-- The order of the texts of pairs. -/
def ltP2 (p q : Pr) : Bool := p.1.lt q.1 || (p.1.eqB q.1 && p.2.lt q.2)
theorem pTx_list (p : Pr) : (pTx p).data.toList = p.1.text ++ 62 :: p.2.text := by
  simp [pTx, Tr.str]
theorem pTx_less (p q : Pr) : Go.Op.bytesLess (pTx p).data.toList (pTx q).data.toList = ltP2 p q := by
  rw [pTx_list, pTx_list, bytesLess_text]
  unfold ltP2
  congr 2
  have h := bytesLess_text p.2 q.2 [] []
  simp only [List.append_nil, Go.Op.bytesLess, Bool.and_false, Bool.or_false] at h
  rw [Go.Op.bytesLess]
  simp [h]
theorem redsN_inc (k : Nat) : (redsN k).Pairwise fun p q => ltP2 p q = true := by
  unfold redsN
  rw [List.pairwise_flatMap]
  refine ⟨fun a _ => ?_, ?_⟩
  · unfold redsOf
    rw [List.pairwise_map]
    refine List.Pairwise.imp (fun {b c} h => ?_) (List.Pairwise.filter _ (treesN_sorted k))
    simp [ltP2, eqB_self, h]
  · refine List.Pairwise.imp (fun {a b} h x hx y hy => ?_) (treesN_sorted k)
    simp only [redsOf, List.mem_map] at hx hy
    obtain ⟨_, _, rfl⟩ := hx
    obtain ⟨_, _, rfl⟩ := hy
    simp [ltP2, h]
end Go.Proofs.Yteflpaebckichaa

/-! ParseI -/
namespace Go.Proofs.Yteflpaebckichaa
open Go.RowKit

/-- The index of the first byte c from an index on. -/
def idxB (s : ByteArray) (c : UInt8) : Int := Lib.indexByte s.data.toList c

set_option maxRecDepth 100000 in
set_option maxHeartbeats 1000000 in
theorem indexByteS_any (s : ByteArray) (c : UInt8) (w : World) :
    Calls Try.prog 110 #[.string s, .int .u8 c.toNat] w fun e w' => e = .returned (.int .i64 (idxB s c)) ∧ w = w' := by
  go_enter Try.func110, Try.ntmps110
  go_wp2
  rw [run_callFunc_extern Try.func119 (by kernel_rfl) (by kernel_rfl) (by kernel_rfl) (e := Extern.BytealgIndexByte.indexByte) (by kernel_rfl), Lib.run_indexByteString]
  simp only [Result.andThen]
  rw [Oper.upon_value]
  go_wp2
  go_ret
  refine ⟨ret_int ?_, rfl⟩
  unfold idxB
  simp

set_option maxRecDepth 100000 in
set_option maxHeartbeats 1000000 in
theorem index62_any (s : ByteArray) (w : World) :
    Calls Try.prog 99 #[.string s, .string ⟨#[62]⟩] w fun e w' => e = .returned (.int .i64 (idxB s 62)) ∧ w = w' := by
  have hI := fun w => indexByteS_any s 62 w
  have gz : ((⟨#[62]⟩ : ByteArray)[0]'(by decide)).toNat = 62 := rfl
  have ez : ((62 : UInt8).toNat : Int) = 62 := rfl
  rw [ez] at hI
  cases hq : ([62] == s.toList) with
  | true =>
    have h0 : idxB s 62 = 0 := by
      unfold idxB
      rw [← Lib.toList_data, ← (beq_iff_eq.1 hq)]
      rfl
    rw [h0]
    clear hI h0 ez
    go_enter Try.func99, Try.ntmps99
    go_wp2_with fail
    go_ret
    exact ⟨rfl, rfl⟩
  | false =>
    generalize idxB s 62 = z at *
    clear ez
    go_enter Try.func99, Try.ntmps99
    go_wp2_with fail
    refine (hI _).mono ?_; rintro e w1 ⟨rfl, rfl⟩
    go_wp2_with fail
    go_ret
    exact ⟨rfl, rfl⟩

theorem idx_spec (l : List UInt8) (c : UInt8) : (Lib.indexByte l c = -1 ∧ ∀ j : Nat, l[j]? ≠ some c) ∨ ∃ k : Nat, Lib.indexByte l c = k ∧ k < l.length ∧ l[k]? = some c ∧ ∀ j, j < k → l[j]? ≠ some c := by
  induction l with
  | nil => exact .inl ⟨rfl, fun j => by simp⟩
  | cons a l ih =>
    unfold Lib.indexByte
    by_cases h : (a == c) = true
    · rw [if_pos h]
      have : a = c := by simpa using h
      exact .inr ⟨0, rfl, by simp, by simp [this], fun j hj => by omega⟩
    · rw [if_neg h]
      have hne : a ≠ c := by simpa using h
      rcases ih with ⟨h1, h2⟩ | ⟨k, h1, h2, h3, h4⟩
      · left
        refine ⟨by rw [h1]; rfl, fun j => ?_⟩
        cases j with
        | zero => simpa using hne
        | succ j => simpa using h2 j
      · right
        refine ⟨k + 1, ?_, by simp; omega, by simpa using h3, fun j hj => ?_⟩
        · rw [h1]
          have : (((k : Nat) : Int) == -1) = false := by rw [beq_eq_false_iff_ne]; omega
          rw [this]
          simp
        · cases j with
          | zero => simpa using hne
          | succ j => simpa using h4 j (by omega)
theorem idxB_spec (s : ByteArray) (c : UInt8) : (idxB s c = -1 ∧ ∀ j : Nat, s.data.toList[j]? ≠ some c) ∨ ∃ k : Nat, idxB s c = k ∧ k < s.size ∧ s.data.toList[k]? = some c ∧ ∀ j, j < k → s.data.toList[j]? ≠ some c := by
  have := idx_spec s.data.toList c
  rw [← Lib.size_eq] at this
  exact this

def CutV (s : ByteArray) : Value := if 0 ≤ idxB s 62 then .tuple #[.string (s.extract 0 (idxB s 62).toNat), .string (s.extract ((idxB s 62).toNat + 1) s.size), .bool true] else .tuple #[.string s, .string ⟨#[]⟩, .bool false]

/-- The pieces of a text between the bytes 62, from an index on (fuel: what is left). -/
def pcs (s : ByteArray) : Nat → Nat → Nat → List ByteArray
  | 0, a, _ => [s.extract a s.size]
  | k + 1, a, i => if s.data.toList[i]? = some 62 then s.extract a i :: pcs s k (i + 1) (i + 1) else pcs s k a (i + 1)

theorem oneS1 (m : ByteArray) : ∀ u ∈ [Value.string m], u.oneCell' = true := by intro u hu; simp at hu; subst hu; rfl
theorem OwnS.snoc {base : Nat} {w : World} {v : Value} {xs : List ByteArray} {m : ByteArray} (h : w.ownsRow base 9 1 v (xs.length + 1) (xs.map Value.string ++ [Value.string m])) : OwnS base w v (xs ++ [m]) := by
  unfold OwnS; rw [List.length_append, List.map_append]; exact h

set_option maxRecDepth 100000 in
set_option maxHeartbeats 2000000 in
theorem split_any (s : ByteArray) (w : World) (hs : s.size ≤ 2000000) :
    Calls Try.prog 57 #[.string s, .int .u8 62] w fun e w' => ∃ v, OwnS w.heap.size w' v (pcs s s.size 0 0) ∧ Below w.heap.size w w' ∧ e = .returned v := by
  obtain ⟨i0, hi, hz0, hz1, hz2⟩ := info_parts info_str
  go_enter Try.func57, Try.ntmps57
  go_wp2_with fail
  go_loopw [5, 6, 7] (fun v f i wr => ∃ (a k : Nat) (xs : List ByteArray), f = .int .i64 a ∧ i = .int .i64 k ∧ a ≤ k ∧ k ≤ s.size ∧ xs.length ≤ k ∧ OwnS w.heap.size wr v xs ∧ Below w.heap.size w wr ∧ Hid (pcs s s.size 0 0 = xs ++ pcs s (s.size - k) a k)) (fun _ _ i _ => s.size - (intOf i).toNat)
  case atStart => exact ⟨0, 0, [], rfl, rfl, Nat.le_refl _, Nat.zero_le _, Nat.le_refl _, OwnS.nil _ _, Below.refl _ _, by show _ = _; rfl⟩
  case round =>
    obtain ⟨a, k, xs, rfl, rfl, hak, hk, hxl, hown, hbw, he⟩ := hrel
    by_cases hlt : k < s.size
    · have hlt' : (k : Int) < (s.size : Int) := by omega
      have hsk : s.data.toList[k]? = some (s[k]'hlt) := by
        have hl : k < s.data.toList.length := by rw [← Lib.size_eq]; exact hlt
        rw [List.getElem?_eq_getElem hl]; rfl
      have hu : (s[k]'hlt = 62) ↔ (((s[k]'hlt).toNat : Int) == 62) = true := by
        rw [beq_iff_eq]
        exact ⟨fun e => by rw [e]; rfl, fun e => u8_eq (n := 62) (by omega) e⟩
      have hf : s.size - k = (s.size - (k + 1)) + 1 := by omega
      have he0 := he.out
      rw [hf, pcs, hsk] at he0
      cases hb : (((s[k]'hlt).toNat : Int) == 62) with
      | true =>
        rw [if_pos (by rw [hu.2 hb])] at he0
        have he' : pcs s s.size 0 0 = (xs ++ [s.extract a k]) ++ pcs s (s.size - (k + 1)) (k + 1) (k + 1) := by rw [he0]; simp
        have HE := Lib.hid he'
        have hA : (a : Int) ≤ (k : Int) := by omega
        clear he0 he' hu hsk hf he
        go_wp2_with (at_builtin; refine wpList_append_own _ rfl _ _ 46 rfl w.heap.size 9 i0 (.string ⟨#[]⟩) 1 16 Try.underlying46 hi hz0 hz1 hz2 rfl (by decide) _ _ _ rfl (hown.alloc _) ⟨wr.heap.size, 0, none⟩ 1 1 [.string (s.extract a k)] rfl rfl (new1 _ _ _) (oneS1 _) (by unfold maxLen; omega) (by omega) (size_al hbw _) ?_; intro v' w1 hown' hgrow hnn)
        have hbw' := below_app hbw hown (Nat.le_refl _) hgrow
        have hown1 := OwnS.snoc hown'
        clear hown hown' hgrow hbw hnn
        go_wp2_with fail
        go_roundw
        case rel => exact ⟨k + 1, k + 1, xs ++ [s.extract a k], by go_num, by go_num, Nat.le_refl _, by omega, by simp; omega, hown1, hbw', HE⟩
        case measure => simp [intOf]; omega
      | false =>
        rw [if_neg (by intro e; rw [hu.1 (by injection e)] at hb; cases hb)] at he0
        have HE := Lib.hid he0
        clear he0 hu hsk hf he
        go_wp2_with fail
        go_roundw
        case rel => exact ⟨a, k + 1, xs, rfl, by go_num, by omega, by omega, by omega, hown, hbw, HE⟩
        case measure => simp [intOf]; omega
    · obtain rfl : k = s.size := by omega
      have he0 := he.out
      rw [Nat.sub_self, pcs] at he0
      have HE := Lib.hid he0
      have hA : (a : Int) ≤ (s.size : Int) := by omega
      clear he0 he
      go_wp2_with (at_builtin; refine wpList_append_own _ rfl _ _ 46 rfl w.heap.size 9 i0 (.string ⟨#[]⟩) 1 16 Try.underlying46 hi hz0 hz1 hz2 rfl (by decide) _ _ _ rfl (hown.alloc _) ⟨wr.heap.size, 0, none⟩ 1 1 [.string (s.extract a s.size)] rfl rfl (new1 _ _ _) (oneS1 _) (by unfold maxLen; omega) (by omega) (size_al hbw _) ?_; intro v' w1 hown' hgrow hnn)
      have hbw' := below_app hbw hown (Nat.le_refl _) hgrow
      have hown1 := OwnS.snoc hown'
      clear hown hown' hgrow hbw hnn
      go_wp2_with fail
      go_ret
      exact ⟨_, by rw [HE.out]; exact hown1, hbw', rfl⟩
end Go.Proofs.Yteflpaebckichaa

/-! ParseC -/
namespace Go.Proofs.Yteflpaebckichaa
open Go.RowKit

/-- The pair of what lies ahead of the first byte 62 and behind it. -/
def cutP (s : ByteArray) : Option Pr := if 0 ≤ idxB s 62 then pairOf (s.extract 0 (idxB s 62).toNat) (s.extract ((idxB s 62).toNat + 1) s.size) else none

theorem pcs_skip (s : ByteArray) (f a : Nat) : ∀ (n i : Nat), (∀ j, i ≤ j → j < i + n → s.data.toList[j]? ≠ some 62) → pcs s (n + f) a i = pcs s f a (i + n) := by
  intro n
  induction n with
  | zero => intro i _; rw [Nat.zero_add]; rfl
  | succ n ih =>
    intro i h
    rw [show n + 1 + f = (n + f) + 1 by omega, pcs, if_neg (h i (by omega) (by omega)), ih (i + 1) (fun j h1 h2 => h j (by omega) (by omega)), show i + 1 + n = i + (n + 1) by omega]
theorem pcs_pos (s : ByteArray) : ∀ (f a i : Nat), 0 < (pcs s f a i).length := by
  intro f
  induction f with
  | zero => intro a i; simp [pcs]
  | succ f ih => intro a i; rw [pcs]; split
                 · simp
                 · exact ih _ _
theorem pcs_two (s : ByteArray) : ∀ (f a i j : Nat), i ≤ j → j < i + f → s.data.toList[j]? = some 62 → 2 ≤ (pcs s f a i).length := by
  intro f
  induction f with
  | zero => intro a i j h1 h2; omega
  | succ f ih =>
    intro a i j h1 h2 h3
    rw [pcs]
    split
    · have := pcs_pos s f (i + 1) (i + 1)
      simp; omega
    · next h =>
      have : i ≠ j := fun e => h (e ▸ h3)
      exact ih _ _ j (by omega) (by omega) h3

theorem text_no62 (t : Tr) : (62 : UInt8) ∉ t.text := by
  induction t with
  | lf => simp [Tr.text]
  | nd l r hl hr => simp [Tr.text, hl, hr]

theorem pcs_one {s : ByteArray} (h : ∀ j : Nat, s.data.toList[j]? ≠ some 62) : pcs s s.size 0 0 = [s] := by
  have := pcs_skip s 0 0 s.size 0 (fun j _ _ => h j)
  rw [Nat.add_zero, Nat.zero_add] at this
  rw [this, pcs, ByteArray.extract_zero_size]

theorem cutP_none {s : ByteArray} (h : 200 < s.size ∨ (pcs s s.size 0 0).length ≠ 2) : cutP s = none := by
  unfold cutP
  rcases idxB_spec s 62 with ⟨h1, _⟩ | ⟨k, h1, h2, h3, h4⟩
  · rw [h1, if_neg (by decide)]
  · rw [h1, if_pos (by omega), show ((k : Int)).toNat = k by omega]
    cases hp : pairOf (s.extract 0 k) (s.extract (k + 1) s.size) with
    | none => rfl
    | some p =>
      exfalso
      obtain ⟨e1, e2, _, c1, c2⟩ := pairOf_some hp
      have s1 := p.1.str_size
      have s2 := p.2.str_size
      rw [← e1] at s1
      rw [← e2] at s2
      rw [ByteArray.size_extract] at s1 s2
      have hz : ¬ 200 < s.size := by omega
      refine (h.resolve_left hz) ?_
      have e0 := pcs_skip s (s.size - k) 0 k 0 (fun j _ hj => h4 j (by omega))
      rw [show k + (s.size - k) = s.size by omega, Nat.zero_add, show s.size - k = (s.size - (k + 1)) + 1 by omega, pcs, if_pos h3] at e0
      have e3 := pcs_skip s 0 (k + 1) (s.size - (k + 1)) (k + 1) (by
        intro j h5 h6 h7
        have h8 : (s.data.toList.drop (k + 1))[j - (k + 1)]? = some 62 := by
          rw [List.getElem?_drop, show k + 1 + (j - (k + 1)) = j by omega]; exact h7
        rw [← ext_end, e2, Tr.str_list] at h8
        exact text_no62 _ (List.mem_of_getElem? h8))
      rw [Nat.add_zero] at e3
      rw [e0, e3, pcs]
      rfl

theorem cutP_two {s : ByteArray} (h : (pcs s s.size 0 0).length = 2) : ∃ a b, pcs s s.size 0 0 = [a, b] ∧ cutP s = pairOf a b ∧ a.size ≤ s.size ∧ b.size ≤ s.size := by
  unfold cutP
  rcases idxB_spec s 62 with ⟨h1, h2⟩ | ⟨k, h1, h2, h3, h4⟩
  · rw [pcs_one h2] at h; simp at h
  · rw [h1, if_pos (by omega), show ((k : Int)).toNat = k by omega]
    have e0 := pcs_skip s (s.size - k) 0 k 0 (fun j _ hj => h4 j (by omega))
    rw [show k + (s.size - k) = s.size by omega, Nat.zero_add, show s.size - k = (s.size - (k + 1)) + 1 by omega, pcs, if_pos h3] at e0
    have hno : ∀ j, k + 1 ≤ j → j < s.size → s.data.toList[j]? ≠ some 62 := by
      intro j h5 h6 h7
      have := pcs_two s (s.size - (k + 1)) (k + 1) (k + 1) j h5 (by omega) h7
      rw [e0] at h
      simp at h
      omega
    have e3 := pcs_skip s 0 (k + 1) (s.size - (k + 1)) (k + 1) (fun j h5 h6 => hno j h5 (by omega))
    rw [Nat.add_zero] at e3
    refine ⟨_, _, by rw [e0, e3, pcs], rfl, ?_, ?_⟩
    · rw [ByteArray.size_extract]; omega
    · rw [ByteArray.size_extract]; omega


set_option maxHeartbeats 1000000 in
theorem prIfA_any (a b : ByteArray) (w : World) (ha : a.size ≤ 9223372036854775806) (hb : b.size ≤ 9223372036854775806) :
    Calls Try.prog 58 #[.agg #[.string a, .string b]] w (Gives (ansPr (pairOf a b)) w) := by
  have hg := fun w => prGood_any a b w ha hb
  cases h : pairOf a b with
  | none =>
    rw [h] at hg
    clear h
    show Calls _ _ _ _ (Gives (ansPr none) w)
    go_enter Try.func58, Try.ntmps58
    go_wp2_with fail
    have hb0 : Below w.heap.size w ((w.alloc (.cells #[.string a, .string b] 27 (0, 0))).alloc (.cells #[.string ⟨#[]⟩, .string ⟨#[]⟩] 27 (0, 0))) := nxAlloc (nxAlloc (Below.refl _ _) _) _
    have hx0 := heap_keep (nxAlloc (Below.refl _ _) (.cells #[.string ⟨#[]⟩, .string ⟨#[]⟩] 27 (0, 0))) (heap_alloc_at w (.cells #[.string a, .string b] 27 (0, 0)))
    have hx1 := heap_alloc_at (w.alloc (.cells #[.string a, .string b] 27 (0, 0))) (.cells #[.string ⟨#[]⟩, .string ⟨#[]⟩] 27 (0, 0))
    generalize ((w.alloc (.cells #[.string a, .string b] 27 (0, 0))).alloc (.cells #[.string ⟨#[]⟩, .string ⟨#[]⟩] 27 (0, 0))) = w0 at *
    have e1 : (w.alloc (.cells #[.string a, .string b] 27 (0, 0))).heap.size = w.heap.size + 1 := by simp
    rw [e1] at hx1
    clear e1
    obtain ⟨hx0a, hx0b, hx0c⟩ := two_facts hx0
    obtain ⟨hx0f, hx0g⟩ := two_frozen hx0
    obtain ⟨hx1a, hx1b, hx1c⟩ := two_facts hx1
    obtain ⟨hx1f, hx1g⟩ := two_frozen hx1
    refine (hg _).mono ?_; rintro e w1 ⟨rfl, hb1⟩
    have hbw1 := nx hb0 hb1
    replace hx0 := heap_keep hb1 hx0
    replace hx1 := heap_keep hb1 hx1
    clear hx0a hx0b hx0c hx0f hx0g
    obtain ⟨hx0a, hx0b, hx0c⟩ := two_facts hx0
    obtain ⟨hx0f, hx0g⟩ := two_frozen hx0
    clear hx1a hx1b hx1c hx1f hx1g
    obtain ⟨hx1a, hx1b, hx1c⟩ := two_facts hx1
    obtain ⟨hx1f, hx1g⟩ := two_frozen hx1
    clear hb1 hb0
    go_wp2_with fail
    obtain ⟨q1, q2⟩ := two_cells (set_two (.string ⟨#[]⟩) (.string ⟨#[]⟩) hx1)
    refine bodyPost_ret (v := .tuple #[.agg #[.string ⟨#[]⟩, .string ⟨#[]⟩], .bool false]) (by simp [q1, q2, results, Try.results58, go_sem]) rfl ⟨rfl, ?_⟩
    exact (hbw1.setCell (by show w.heap.size ≤ w.heap.size + 1; omega) _).setCell (by show w.heap.size ≤ w.heap.size + 1; omega) _
  | some p =>
    rw [h] at hg
    obtain ⟨rfl, rfl, hok, hc1, hc2⟩ := pairOf_some h
    clear h
    show Calls _ _ _ _ (Gives (ansPr (some p)) w)
    go_enter Try.func58, Try.ntmps58
    go_wp2_with fail
    have hb0 : Below w.heap.size w ((w.alloc (.cells #[.string p.1.str, .string p.2.str] 27 (0, 0))).alloc (.cells #[.string ⟨#[]⟩, .string ⟨#[]⟩] 27 (0, 0))) := nxAlloc (nxAlloc (Below.refl _ _) _) _
    have hx0 := heap_keep (nxAlloc (Below.refl _ _) (.cells #[.string ⟨#[]⟩, .string ⟨#[]⟩] 27 (0, 0))) (heap_alloc_at w (.cells #[.string p.1.str, .string p.2.str] 27 (0, 0)))
    have hx1 := heap_alloc_at (w.alloc (.cells #[.string p.1.str, .string p.2.str] 27 (0, 0))) (.cells #[.string ⟨#[]⟩, .string ⟨#[]⟩] 27 (0, 0))
    generalize ((w.alloc (.cells #[.string p.1.str, .string p.2.str] 27 (0, 0))).alloc (.cells #[.string ⟨#[]⟩, .string ⟨#[]⟩] 27 (0, 0))) = w0 at *
    have e1 : (w.alloc (.cells #[.string p.1.str, .string p.2.str] 27 (0, 0))).heap.size = w.heap.size + 1 := by simp
    rw [e1] at hx1
    clear e1
    obtain ⟨hx0a, hx0b, hx0c⟩ := two_facts hx0
    obtain ⟨hx0f, hx0g⟩ := two_frozen hx0
    obtain ⟨hx1a, hx1b, hx1c⟩ := two_facts hx1
    obtain ⟨hx1f, hx1g⟩ := two_frozen hx1
    refine (hg _).mono ?_; rintro e w1 ⟨rfl, hb1⟩
    have hbw1 := nx hb0 hb1
    replace hx0 := heap_keep hb1 hx0
    replace hx1 := heap_keep hb1 hx1
    clear hx0a hx0b hx0c hx0f hx0g
    obtain ⟨hx0a, hx0b, hx0c⟩ := two_facts hx0
    obtain ⟨hx0f, hx0g⟩ := two_frozen hx0
    clear hx1a hx1b hx1c hx1f hx1g
    obtain ⟨hx1a, hx1b, hx1c⟩ := two_facts hx1
    obtain ⟨hx1f, hx1g⟩ := two_frozen hx1
    clear hb1 hb0
    go_wp2_with fail
    obtain ⟨q1, q2⟩ := two_cells (set_two (.string p.1.str) (.string p.2.str) hx1)
    refine bodyPost_ret (v := .tuple #[.agg #[.string p.1.str, .string p.2.str], .bool true]) (by simp [q1, q2, results, Try.results58, go_sem]) rfl ⟨rfl, ?_⟩
    exact (hbw1.setCell (by show w.heap.size ≤ w.heap.size + 1; omega) _).setCell (by show w.heap.size ≤ w.heap.size + 1; omega) _

set_option maxRecDepth 100000 in
set_option maxHeartbeats 2000000 in
theorem prParse_any (s : ByteArray) (w : World) (hs : s.size ≤ 2000000) :
    Calls Try.prog 38 #[.string s] w (Gives (ansPr (cutP s)) w) := by
  have S := fun w => split_any s w hs
  have hp := pcs_pos s s.size 0 0
  by_cases h2 : s.size ≤ 200 ∧ (pcs s s.size 0 0).length = 2
  · obtain ⟨h1, h2⟩ := h2
    obtain ⟨a, b, e1, e2, z1, z2⟩ := cutP_two h2
    have L := fun w => prIfA_any a b w (by omega) (by omega)
    rw [e2]
    rw [e1] at S
    clear h2 hp e1 e2 z1 z2
    generalize pairOf a b = o at *
    unfold ansPr at *
    generalize pS1 o = x1 at *
    generalize pS2 o = x2 at *
    generalize o.isSome = ok at *
    go_enter Try.func38, Try.ntmps38
    go_wp2_with fail
    have hb0 : Below w.heap.size w (w.alloc (.cells #[.string ⟨#[]⟩, .string ⟨#[]⟩] 27 (0, 0))) := nxAlloc (Below.refl _ _) _
    have hx0 := heap_alloc_at w (.cells #[.string ⟨#[]⟩, .string ⟨#[]⟩] 27 (0, 0))
    generalize (w.alloc (.cells #[.string ⟨#[]⟩, .string ⟨#[]⟩] 27 (0, 0))) = w0 at *
    obtain ⟨hx0a, hx0b, hx0c⟩ := two_facts hx0
    obtain ⟨hx0f, hx0g⟩ := two_frozen hx0
    refine (S _).mono ?_; rintro e w1 ⟨v, hown, hb1, rfl⟩
    have hbw1 := nx hb0 hb1
    replace hx0 := heap_keep hb1 hx0
    clear hx0a hx0b hx0c hx0f hx0g
    obtain ⟨hx0a, hx0b, hx0c⟩ := two_facts hx0
    obtain ⟨hx0f, hx0g⟩ := two_frozen hx0
    obtain ⟨g, cap, rfl⟩ := hown.shape (by simp)
    have hc := hown.cells
    clear hb1 hb0 hown S
    rcases hc with ⟨h3, _⟩ | ⟨g', cap', h3, hg1, hg2, hg3, hg4, hcell, hfr⟩
    · cases h3
    cases h3
    have k0 := hcell 0 (by simp)
    have k1 := hcell 1 (by simp)
    simp only [List.length_cons, List.length_nil, List.getD_cons_zero, List.getD_cons_succ] at *
    clear hcell hg3 hg4 hfr
    go_wp2_with fail
    refine wp_region_clsT 10 (by kernel_rfl) (by kernel_rfl) ?_
    simp only [List.take_succ_cons, List.take_zero, List.drop_succ_cons, List.drop_zero]
    repeat (
      refine wpQuiet_step (fun K hK => ?_)
      go_simp
      first
        | (refine hK _ ?_; clear hK K)
        | (refine ⟨_, fun _ _ => rfl, hK _ ?_⟩; clear hK K)
        | (apply Exists.intro
           refine ⟨fun w' hw' => ?_, hK _ ?_⟩
           · first
               | (rw [hw'.cell hg2 k0]; exact ⟨rfl, rfl⟩)
               | (rw [hw'.cell hg2 k1]; exact ⟨rfl, rfl⟩)
               | (go_at_call 58; exact hw'.call (L _))
           clear hK K))
    refine wpQuiet_nil ?_
    intro w' hw'
    have hbwf := nx hbw1 hw'
    replace hx0 := heap_keep hw' hx0
    clear hw' hbw1
    clear hx0a hx0b hx0c hx0f hx0g
    obtain ⟨hx0a, hx0b, hx0c⟩ := two_facts hx0
    obtain ⟨hx0f, hx0g⟩ := two_frozen hx0
    go_wp2_with fail
    obtain ⟨q1, q2⟩ := two_cells (set_two (.string x1) (.string x2) hx0)
    refine bodyPost_ret (v := .tuple #[.agg #[.string x1, .string x2], .bool ok]) (by simp [q1, q2, results, Try.results38, go_sem]) rfl ⟨rfl, ?_⟩
    exact (hbwf.setCell (by show w.heap.size ≤ w.heap.size; omega) _).setCell (by show w.heap.size ≤ w.heap.size; omega) _
  · rw [cutP_none (by omega)]
    show Calls _ _ _ _ (Gives (ansPr none) w)
    generalize hl : pcs s s.size 0 0 = ps at *
    clear hl
    go_enter Try.func38, Try.ntmps38
    go_wp2_with fail
    have hb0 : Below w.heap.size w (w.alloc (.cells #[.string ⟨#[]⟩, .string ⟨#[]⟩] 27 (0, 0))) := nxAlloc (Below.refl _ _) _
    have hx0 := heap_alloc_at w (.cells #[.string ⟨#[]⟩, .string ⟨#[]⟩] 27 (0, 0))
    generalize (w.alloc (.cells #[.string ⟨#[]⟩, .string ⟨#[]⟩] 27 (0, 0))) = w0 at *
    obtain ⟨hx0a, hx0b, hx0c⟩ := two_facts hx0
    obtain ⟨hx0f, hx0g⟩ := two_frozen hx0
    refine (S _).mono ?_; rintro e w1 ⟨v, hown, hb1, rfl⟩
    have hbw1 := nx hb0 hb1
    replace hx0 := heap_keep hb1 hx0
    clear hx0a hx0b hx0c hx0f hx0g
    obtain ⟨hx0a, hx0b, hx0c⟩ := two_facts hx0
    obtain ⟨hx0f, hx0g⟩ := two_frozen hx0
    obtain ⟨g, cap, rfl⟩ := hown.shape hp
    clear hb1 hb0 hown S hp
    generalize ps.length = n at *
    have hq : (200 < s.size) ∨ ¬ n = 2 := by omega
    clear h2
    cases hz : decide (200 < s.size) with
    | true =>
      have hz' : (200 < s.size) := by simpa using hz
      clear hq hz
      go_wp2_with fail
      obtain ⟨q1, q2⟩ := two_cells (set_two (.string ⟨#[]⟩) (.string ⟨#[]⟩) hx0)
      refine bodyPost_ret (v := .tuple #[.agg #[.string ⟨#[]⟩, .string ⟨#[]⟩], .bool false]) (by simp [q1, q2, results, Try.results38, go_sem]) rfl ⟨rfl, ?_⟩
      exact (hbw1.setCell (by show w.heap.size ≤ w.heap.size; omega) _).setCell (by show w.heap.size ≤ w.heap.size; omega) _
    | false =>
      have hz' : ¬ (200 < s.size) := by simpa using hz
      have hn : ((n : Int) != 2) = true := by have := hq.resolve_left hz'; rw [bne_iff_ne]; omega
      clear hq hz
      go_wp2_with fail
      obtain ⟨q1, q2⟩ := two_cells (set_two (.string ⟨#[]⟩) (.string ⟨#[]⟩) hx0)
      refine bodyPost_ret (v := .tuple #[.agg #[.string ⟨#[]⟩, .string ⟨#[]⟩], .bool false]) (by simp [q1, q2, results, Try.results38, go_sem]) rfl ⟨rfl, ?_⟩
      exact (hbw1.setCell (by show w.heap.size ≤ w.heap.size; omega) _).setCell (by show w.heap.size ≤ w.heap.size; omega) _

end Go.Proofs.Yteflpaebckichaa

/-! Ptx -/
namespace Go.Proofs.Yteflpaebckichaa
open Go.RowKit

theorem prTx_any (p : Pr) (w : World) (h1 : p.1.carets ≤ 1000) (h2 : p.2.carets ≤ 1000) :
    Calls Try.prog 22 #[.agg #[.string p.1.str, .string p.2.str]] w (Gives (.string (pTx p)) w) := by
  have s1 := p.1.str_size
  have s2 := p.2.str_size
  go_enter Try.func22, Try.ntmps22
  go_wp2_with fail
  go_ret
  exact ⟨rfl, nxAlloc (Below.refl _ _) _⟩
theorem text_no62t (t : Tr) : ∀ c ∈ t.text, c ≠ 62 := by
  induction t with
  | lf => intro c hc; simp [Tr.text] at hc; subst hc; decide
  | nd l r ihl ihr =>
    intro c hc
    simp only [Tr.text, List.mem_cons, List.mem_append, List.not_mem_nil, or_false] at hc
    rcases hc with rfl | hc | hc | rfl
    · decide
    · exact ihl c hc
    · exact ihr c hc
    · decide
theorem cut_pTx9 {p : Pr} (hp : okP p) (hc : p.1.carets ≤ 8) : cutP (pTx p) = some p := by
  have hl := pTx_list p
  have hk : idxB (pTx p) 62 = (p.1.text.length : Int) := by
    have h62 : (pTx p).data.toList[p.1.text.length]? = some 62 := by rw [hl]; simp
    have hlow : ∀ j, j < p.1.text.length → (pTx p).data.toList[j]? ≠ some 62 := by
      intro j hj e
      rw [hl, List.getElem?_append_left hj] at e
      exact text_no62t p.1 62 (List.mem_of_getElem? e) rfl
    rcases idxB_spec (pTx p) 62 with ⟨_, h⟩ | ⟨k, h1, h2, h3, h4⟩
    · exact absurd h62 (h _)
    · rw [h1]
      rcases Nat.lt_trichotomy k p.1.text.length with h | h | h
      · exact absurd h3 (hlow k h)
      · rw [h]
      · exact absurd h62 (h4 _ h)
  unfold cutP
  rw [hk, if_pos (by omega)]
  have e1 : (pTx p).extract 0 (p.1.text.length : Int).toNat = p.1.str := by
    apply ba_ext
    rw [Lib.extract_data, hl, Tr.str_list]
    simp
  have e2 : (pTx p).extract ((p.1.text.length : Int).toNat + 1) (pTx p).size = p.2.str := by
    apply ba_ext
    rw [Lib.extract_data, hl, Tr.str_list]
    have hz : (pTx p).size = p.1.text.length + 1 + p.2.text.length := by rw [Lib.size_eq, hl]; simp; omega
    have e3 : p.1.text ++ 62 :: p.2.text = (p.1.text ++ [62]) ++ p.2.text := by simp
    rw [hz, e3, Int.toNat_natCast, List.drop_left' (by simp), List.take_of_length_le (by omega)]
  rw [e1, e2]
  exact pairOf_str hp hc
theorem pTx_inj9 {p q : Pr} (hp : okP p) (hc : p.1.carets ≤ 8) (hq : okP q) (hd : q.1.carets ≤ 8) (h : pTx p = pTx q) : p = q := by
  have h1 := cut_pTx9 hp hc
  rw [h, cut_pTx9 hq hd] at h1
  exact (Option.some.inj h1).symm
theorem pTx_size {p : Pr} (h1 : p.1.carets ≤ 1000) (h2 : p.2.carets ≤ 1000) : (pTx p).size ≤ 10000 := by
  have s1 := p.1.str_size
  have s2 := p.2.str_size
  unfold pTx
  rw [ByteArray.size_append, ByteArray.size_append]
  show p.1.str.size + 1 + p.2.str.size ≤ 10000
  omega
end Go.Proofs.Yteflpaebckichaa

/-! LwP -/
namespace Go.Proofs.Yteflpaebckichaa
def rd : Tr → Nat
  | .lf => 0
  | .nd _ r => rd r + 1
/-- Carets, and what is missing of two on the right side. -/
def phi (p : Pr) : Nat := p.2.carets + (2 - min (rd p.2) 2)
def qA : Pr := (.nd (.nd .lf .lf) .lf, .nd .lf (.nd .lf .lf))
def qB : Pr := (.nd .lf (.nd (.nd .lf .lf) .lf), .nd .lf (.nd .lf (.nd .lf .lf)))
theorem join_lf (t : Tr) : t.join .lf = t := by cases t <;> rfl
theorem phi_A (p : Pr) : phi (rawP p qA) ≤ phi p + 1 := by
  obtain ⟨s, t⟩ := p
  unfold phi rawP qA
  dsimp only
  cases t with
  | lf => (simp [Tr.join, Tr.subs, Tr.fill, Tr.fillR, Tr.carets, rd]; try omega)
  | nd a b =>
    cases a with
    | lf => (simp [Tr.join, join_lf, Tr.subs, Tr.fill, Tr.fillR, Tr.carets, rd]; try omega)
    | nd c d => cases b <;> cases c <;> (simp [Tr.join, join_lf, Tr.subs, Tr.fill, Tr.fillR, Tr.carets, rd]; try omega)
theorem phi_A' (p : Pr) : phi (rawP p (invP qA)) ≤ phi p + 1 := by
  obtain ⟨s, t⟩ := p
  unfold phi rawP invP qA
  dsimp only
  cases t with
  | lf => (simp [Tr.join, Tr.subs, Tr.fill, Tr.fillR, Tr.carets, rd]; try omega)
  | nd a b =>
    cases b with
    | lf => (simp [Tr.join, join_lf, Tr.subs, Tr.fill, Tr.fillR, Tr.carets, rd]; try omega)
    | nd c d => cases a <;> cases c <;> cases d <;> (simp [Tr.join, Tr.subs, Tr.fill, Tr.fillR, Tr.carets, rd]; try omega)
theorem phi_B (p : Pr) : phi (rawP p qB) ≤ phi p + 1 := by
  obtain ⟨s, t⟩ := p
  unfold phi rawP qB
  dsimp only
  cases t with
  | lf => (simp [Tr.join, Tr.subs, Tr.fill, Tr.fillR, Tr.carets, rd]; try omega)
  | nd a b =>
    cases b with
    | lf => cases a <;> (simp [Tr.join, Tr.subs, Tr.fill, Tr.fillR, Tr.carets, rd]; try omega)
    | nd c d =>
      cases c with
      | lf => cases a <;> cases d <;> (simp [Tr.join, Tr.subs, Tr.fill, Tr.fillR, Tr.carets, rd]; try omega)
      | nd e f => cases a <;> cases d <;> cases e <;> cases f <;> (simp [Tr.join, Tr.subs, Tr.fill, Tr.fillR, Tr.carets, rd]; try omega)
theorem phi_B' (p : Pr) : phi (rawP p (invP qB)) ≤ phi p + 1 := by
  obtain ⟨s, t⟩ := p
  unfold phi rawP invP qB
  dsimp only
  cases t with
  | lf => (simp [Tr.join, Tr.subs, Tr.fill, Tr.fillR, Tr.carets, rd]; try omega)
  | nd a b =>
    cases b with
    | lf => cases a <;> (simp [Tr.join, Tr.subs, Tr.fill, Tr.fillR, Tr.carets, rd]; try omega)
    | nd c d =>
      cases d with
      | lf => cases a <;> cases c <;> (simp [Tr.join, Tr.subs, Tr.fill, Tr.fillR, Tr.carets, rd]; try omega)
      | nd e f => cases a <;> cases c <;> cases e <;> cases f <;> (simp [Tr.join, Tr.subs, Tr.fill, Tr.fillR, Tr.carets, rd]; try omega)
theorem rd_drop (t : Tr) : ∀ n : Int, rd t ≤ rd (t.dropAt n) + 1 := by
  induction t with
  | lf => intro n; simp [rd]
  | nd l r ihl ihr =>
    intro n
    rw [Tr.dropAt]
    split
    · next h =>
      obtain ⟨rfl, rfl⟩ := both_lf h
      simp [rd]
    · split
      · simp [rd]
      · simp only [rd]; have := ihr (n - l.leaves); omega
theorem phi_drop {p : Pr} {n : Int} (h : n ∈ both p) : phi (dropP p n) ≤ phi p := by
  have hc := dropP_carets h
  have hr := rd_drop p.2 n
  unfold phi dropP at *
  dsimp only at *
  omega
theorem phi_red : ∀ (k : Nat) (p : Pr), p.1.carets = k → phi (red p) ≤ phi p := by
  intro k
  induction k using Nat.strongRecOn with
  | _ k ih =>
    intro p hk
    by_cases hl : 0 < (both p).length
    · have h0 := red_first0 hl
      have hm : (both p).getD 0 0 ∈ both p := by
        cases hb : both p with
        | nil => rw [hb] at hl; simp at hl
        | cons a l => simp
      generalize (both p).getD 0 0 = m at h0 hm
      have c2 := dropP_carets hm
      rw [h0]
      exact Nat.le_trans (ih _ (by omega) _ rfl) (phi_drop hm)
    · have hb : both p = [] := List.length_eq_zero_iff.1 (by omega)
      rw [(red_self p).2 hb]
      exact Nat.le_refl _
end Go.Proofs.Yteflpaebckichaa

/-! HeldW -/
namespace Go.Proofs.Yteflpaebckichaa
open Go.RowKit

section
variable {P : Program} {ops : Array Oper} {Q : Exit → Act → World → Prop} {md : Region.Mode}

theorem held_mono {S S' : World → Prop} (hSS : ∀ w, S' w → S w) : ∀ (fuel : Nat) (listed : Array Bool) (a : Act) (w : World),
    wpAnyH P md ops Q S' fuel listed a w → wpAnyH P md ops Q S fuel listed a w
  | 0, _, _, _, h => h
  | fuel + 1, _, _, _, h => ⟨h.1, fun i hi => wpOp_mono (fun a' w' h' => ⟨hSS _ h'.1, held_mono hSS fuel _ a' w' h'.2⟩) (h.2 i hi)⟩

/-- One operation alone may come up; behind it the condition may be another one. -/
theorem held_one {S : World → Prop} {fuel : Nat} {listed : Array Bool} {a : Act} {w : World} (i : Nat) {o : Oper} (ho : ops[i]? = some o) (hr : Region.ready md ops listed = [i])
    (h : ∀ K' : Act → World → Prop, Shut (∀ (S' : World → Prop) a w, (∀ w, S' w → S w) → S' w → wpAnyH P md ops Q S' fuel (listed.setIfInBounds i true) a w → K' a w) → if Region.wanted o (yielded ops a.tmps) = true then Oper.wp P o a w K' Q else K' (a.put o.dst undef) w) :
    wpAnyH P md ops Q S (fuel + 1) listed a w :=
  wpAnyH_ready hr (by simp) (AllReadyH.cons ho (fun K hK => h K (fun _ a w hSS hS hW => hK.out a w (hSS _ hS) (fun _ => held_mono hSS _ _ _ _ hW))) AllReadyH.nil)
/-- Two operations may come up, whichever first. -/
theorem held_two {S : World → Prop} {fuel : Nat} {listed : Array Bool} {a : Act} {w : World} (i j : Nat) {oi oj : Oper} (hoi : ops[i]? = some oi) (hoj : ops[j]? = some oj) (hr : Region.ready md ops listed = [i, j])
    (h : ∀ K' : Act → World → Prop, Shut (∀ (S' : World → Prop) a w, (∀ w, S' w → S w) → S' w → wpAnyH P md ops Q S' fuel (listed.setIfInBounds i true) a w → K' a w) → if Region.wanted oi (yielded ops a.tmps) = true then Oper.wp P oi a w K' Q else K' (a.put oi.dst undef) w)
    (k : ∀ K' : Act → World → Prop, Shut (∀ (S' : World → Prop) a w, (∀ w, S' w → S w) → S' w → wpAnyH P md ops Q S' fuel (listed.setIfInBounds j true) a w → K' a w) → if Region.wanted oj (yielded ops a.tmps) = true then Oper.wp P oj a w K' Q else K' (a.put oj.dst undef) w) :
    wpAnyH P md ops Q S (fuel + 1) listed a w :=
  wpAnyH_ready hr (by simp) (AllReadyH.cons hoi (fun K hK => h K (fun _ a w hSS hS hW => hK.out a w (hSS _ hS) (fun _ => held_mono hSS _ _ _ _ hW)))
    (AllReadyH.cons hoj (fun K hK => k K (fun _ a w hSS hS hW => hK.out a w (hSS _ hS) (fun _ => held_mono hSS _ _ _ _ hW))) AllReadyH.nil))
end
end Go.Proofs.Yteflpaebckichaa

/-! Src -/
namespace Go.Proofs.Yteflpaebckichaa
open Go.RowKit

theorem CellsS.form0 {b1 : Nat} {w : World} {v : Value} {xs : List ByteArray} (h : CellsS b1 w v xs) :
    ∃ oa cap, v = .slice oa xs.length cap ∧ xs.length ≤ cap ∧ cap ≤ maxLen ∧ ∀ i, i < xs.length → ∃ g, oa = some ⟨g, 0, none⟩ ∧ b1 ≤ g ∧ g < w.heap.size ∧ w.cell? ⟨g, i, none⟩ = some (.string (xs.getD i ⟨#[]⟩)) := by
  rcases h with ⟨rfl, rfl⟩ | ⟨g, cap, rfl, h1, h2, h3, h4, h5, _⟩
  · exact ⟨none, 0, rfl, Nat.le_refl _, Nat.zero_le _, fun i hi => by simp at hi⟩
  · exact ⟨some ⟨g, 0, none⟩, cap, rfl, h3, h4, fun i hi => ⟨g, rfl, h1, h2, h5 i hi⟩⟩

theorem CellsS.at1 {b1 : Nat} {w : World} {g n cap : Nat} {ss : List ByteArray} (h : CellsS b1 w (.slice (some ⟨g, 0, none⟩) n cap) ss) {i : Nat} {t : ByteArray} (hi : ss[i]? = some t) : w.cell? ⟨g, i, none⟩ = some (.string t) := by
  rcases h with ⟨h, _⟩ | ⟨g', cap', h, _, _, _, _, hc, _⟩
  · cases h
  · cases h
    have hl := (List.getElem?_eq_some_iff.1 hi).1
    rw [hc i hl]
    simp [List.getD_eq_getElem?_getD, hi]

/-- A slice value from which the cells ys can be read. -/
def SrcV (w : World) (u : Value) (ys : List Value) : Prop :=
  (u = .slice none 0 0 ∧ ys = []) ∨ ∃ ad c, u = .slice (some ad) ys.length c ∧ ∀ j x, ys[j]? = some x → w.cell? (ad.add j) = some x

theorem SrcV.keep {w w' : World} {u : Value} {ys : List Value} (h : SrcV w u ys) (hb : Below w.heap.size w w') : SrcV w' u ys := by
  rcases h with h | ⟨ad, c, h1, h2⟩
  · exact .inl h
  · refine .inr ⟨ad, c, h1, fun j x hj => ?_⟩
    have hc := h2 j x hj
    exact (hb.cell (World.block_lt_of_cell? w _ hc)).trans hc

theorem wpList_appSrc {P : Program} {w : World} {ops : Array Oper} {rest : List Oper} {o : Oper} {a : Act} {Q : Exit → Act → World → Prop} (hgd : o.guard = none) (s x : Operand) (t : TypeId)
    (ho : o.op = .call { callee := .builtin .append, args := #[s, x], argTypes := #[t, t] })
    (base : Nat) (e : TypeId) (i : TypeInfo) (z : Value) (bytes : Nat) (ht : P.underlying t = some (.slice e)) (hi : P.info? e = some i) (hz : i.zero = some z)
    (hsize : i.size = 1) (hby : i.bytes = bytes) (hzs : z.cells.size = 1)
    (v : Value) (n : Nat) (xs : List Value) (hs : a.eval s = v) (hown : w.ownsRow base e 1 v n xs)
    (u : Value) (ys : List Value) (hx : a.eval x = u) (hsrc : SrcV w u ys) (h1 : ∀ y ∈ ys, y.oneCell' = true)
    (h63 : n + ys.length ≤ maxLen) (hbytes : (n + ys.length) * bytes ≤ 140737488355328) (hbase : base ≤ w.heap.size)
    (h : ∀ v' w', w'.ownsRow base e 1 v' (n + ys.length) (xs ++ ys) → Below base w w' → (v' = .slice none 0 0 → v = .slice none 0 0) → wpList P ops Q rest (a.put o.dst v') w') : wpList P ops Q (o :: rest) a w := by
  rcases hsrc with ⟨rfl, rfl⟩ | ⟨ad, c, rfl, hc⟩
  · refine wpList_append_own_none hgd s x t ho base e i 1 ht hi v n xs hs hown hx ?_
    exact h v w (by simpa using hown) (Below.refl _ _) id
  · refine wpList_append_own w hgd s x t ho base e i z 1 bytes ht hi hz hsize hby hzs (by decide) v n xs hs hown ad ys.length c ys hx (by simp) hc h1 h63 hbytes hbase ?_
    intro v' w' hown' hg hn
    exact h v' w' hown' ((Below.refl base w).grown hg hbase (fun k hk => ownsRow_ge hown k hk)) (fun e => (hn.1 e).1)

theorem row_shape {w : World} {base : Nat} {e : TypeId} {size : Nat} {v : Value} {n : Nat} {xs : List Value} (h : w.ownsRow base e size v n xs) (hn : v ≠ .slice none 0 0) : ∃ g cap, v = .slice (some ⟨g, 0, none⟩) n cap ∧ base ≤ g := by
  rcases h.2 with ⟨hv, _⟩ | ⟨g, cap, cur, hv, hb, _⟩
  · exact absurd hv hn
  · exact ⟨g, cap, hv, hb⟩

/-- An empty slice in a block of its own. -/
theorem ownsRow_empty (w : World) (e : TypeId) : (w.alloc (.cells #[] e (0, 0))).ownsRow w.heap.size e 1 (.slice (some ⟨w.heap.size, 0, none⟩) 0 0) 0 [] :=
  World.ownsRow_made w #[] 0 (Nat.le_refl _) (Nat.zero_le _) rfl

/-- The parts of a slice of the call's own, as sources. -/
theorem src_take {base : Nat} {w : World} {e : TypeId} {g n cap : Nat} {xs : List Value} (h : w.ownsRow base e 1 (.slice (some ⟨g, 0, none⟩) n cap) n xs) (k : Nat) (hk : k ≤ n) (c : Nat) : SrcV w (.slice (some ⟨g, 0, none⟩) k c) (xs.take k) := by
  have hl := h.1
  refine .inr ⟨_, c, by rw [List.length_take]; congr 1; omega, fun j x hj => ?_⟩
  have hj' := (List.getElem?_eq_some_iff.1 hj).1
  rw [List.length_take] at hj'
  rw [List.getElem?_take_of_lt (by omega)] at hj
  rw [addr_add, World.ownsRow.cellAt h j (by omega)]
  exact hj
theorem src_drop {base : Nat} {w : World} {e : TypeId} {g n cap : Nat} {xs : List Value} (h : w.ownsRow base e 1 (.slice (some ⟨g, 0, none⟩) n cap) n xs) (k : Nat) (hk : k ≤ n) (c : Nat) : SrcV w (.slice (some ⟨g, k, none⟩) (n - k) c) (xs.drop k) := by
  have hl := h.1
  refine .inr ⟨_, c, by rw [List.length_drop]; congr 1; omega, fun j x hj => ?_⟩
  have hj' := (List.getElem?_eq_some_iff.1 hj).1
  rw [List.length_drop] at hj'
  rw [List.getElem?_drop] at hj
  have ea : (⟨g, k, none⟩ : Addr).add j = ⟨g, k + j, none⟩ := by
    unfold Addr.add
    split
    · next h0 => rw [h0]; simp
    · rfl
  rw [ea, World.ownsRow.cellAt h (k + j) (by omega)]
  exact hj
theorem src_cells {b1 : Nat} {w : World} {g n cap : Nat} {xs : List ByteArray} (h : CellsS b1 w (.slice (some ⟨g, 0, none⟩) n cap) xs) (k : Nat) (hk : k ≤ xs.length) (c : Nat) : SrcV w (.slice (some ⟨g, 0, none⟩) k c) ((xs.take k).map Value.string) := by
  rcases h with ⟨h, _⟩ | ⟨g', cap', h, _, _, _, _, hc, _⟩
  · cases h
  · cases h
    refine .inr ⟨_, c, by rw [List.length_map, List.length_take]; congr 1; omega, fun j x hj => ?_⟩
    have hj' := (List.getElem?_eq_some_iff.1 hj).1
    rw [List.length_map, List.length_take] at hj'
    rw [List.getElem?_map, List.getElem?_take_of_lt (by omega), List.getElem?_eq_getElem (by omega)] at hj
    have hx := hc j (by omega)
    rw [List.getD_eq_getElem?_getD, List.getElem?_eq_getElem (by omega)] at hx
    rw [addr_add, hx]
    exact hj
theorem src_end {w : World} (a : Option Addr) (c : Nat) (h : a = none → c = 0) : SrcV w (.slice a 0 c) [] := by
  cases a with
  | none => rw [h rfl]; exact .inl ⟨rfl, rfl⟩
  | some ad => exact .inr ⟨ad, c, rfl, fun j x hj => by simp at hj⟩
end Go.Proofs.Yteflpaebckichaa

/-! Ls1 -/
namespace Go.Proofs.Yteflpaebckichaa
open Go.RowKit

/-- A slice of texts, from whatever place in its block on. -/
def ReadS (base : Nat) (w : World) (v : Value) (ss : List ByteArray) : Prop :=
  ∃ oa cap, v = .slice oa ss.length cap ∧ ss.length ≤ cap ∧ cap ≤ maxLen ∧ ∀ i, i < ss.length → ∃ g q, oa = some ⟨g, q, none⟩ ∧ base ≤ g ∧ g < w.heap.size ∧ w.cell? ⟨g, q + i, none⟩ = some (.string (ss.getD i ⟨#[]⟩))
theorem ReadS.mono {base base' : Nat} {w : World} {v : Value} {ss : List ByteArray} (h : ReadS base w v ss) (hb : base' ≤ base) : ReadS base' w v ss := by
  obtain ⟨oa, cap, h1, h2, h3, h4⟩ := h
  refine ⟨oa, cap, h1, h2, h3, fun i hi => ?_⟩
  obtain ⟨g, q, e, k, r⟩ := h4 i hi
  exact ⟨g, q, e, Nat.le_trans hb k, r⟩
theorem ReadS.keep {base : Nat} {w w' : World} {v : Value} {ss : List ByteArray} (h : ReadS base w v ss) (hb : Below w.heap.size w w') : ReadS base w' v ss := by
  obtain ⟨oa, cap, h1, h2, h3, h4⟩ := h
  refine ⟨oa, cap, h1, h2, h3, fun i hi => ?_⟩
  obtain ⟨g, q, e, k, hg, hc⟩ := h4 i hi
  exact ⟨g, q, e, k, Nat.lt_of_lt_of_le hg hb.size, (hb.cell (p := ⟨g, q + i, none⟩) hg).trans hc⟩
theorem CellsS.read {b : Nat} {w : World} {v : Value} {ss : List ByteArray} (h : CellsS b w v ss) : ReadS b w v ss := by
  rcases h with ⟨rfl, rfl⟩ | ⟨g, cap, rfl, hb, h2, h3, h4, h5, _⟩
  · exact ⟨none, 0, rfl, Nat.le_refl _, Nat.zero_le _, fun i hi => by simp at hi⟩
  · exact ⟨_, cap, rfl, h3, h4, fun i hi => ⟨g, 0, rfl, hb, h2, by rw [Nat.zero_add]; exact h5 i hi⟩⟩
/-- Texts in their order, none twice. -/
def IncS (ss : List ByteArray) : Prop := ∀ i j, i < j → j < ss.length → Go.Op.bytesLess (ss.getD i ⟨#[]⟩).toList (ss.getD j ⟨#[]⟩).toList = true
theorem bytesLess_irr : ∀ l : List UInt8, Go.Op.bytesLess l l = false := by
  intro l
  induction l with
  | nil => rfl
  | cons a l ih => simp [Go.Op.bytesLess, ih]
theorem IncS.ne {ss : List ByteArray} (h : IncS ss) {i j : Nat} (hi : i < j) (hj : j < ss.length) : ¬ (ss.getD i ⟨#[]⟩).toList = (ss.getD j ⟨#[]⟩).toList := by
  intro e
  have h1 := h i j hi hj
  rw [e, bytesLess_irr] at h1
  cases h1
def GivesRead (base : Nat) (ss : List ByteArray) (w : World) (e : Ending) (w' : World) : Prop := ∃ v, ReadS base w' v ss ∧ Below w.heap.size w w' ∧ e = .returned v
theorem take_getD {ss : List ByteArray} {h i : Nat} (hi : i < h) (_hh : h ≤ ss.length) : (ss.take h).getD i ⟨#[]⟩ = ss.getD i ⟨#[]⟩ := by
  simp [List.getD_eq_getElem?_getD, hi]
theorem drop_getD {ss : List ByteArray} (h i : Nat) : (ss.drop h).getD i ⟨#[]⟩ = ss.getD (h + i) ⟨#[]⟩ := by
  simp [List.getD_eq_getElem?_getD]
theorem IncS.take {ss : List ByteArray} (h : IncS ss) {k : Nat} (hk : k ≤ ss.length) : IncS (ss.take k) := by
  intro i j hi hj
  rw [List.length_take] at hj
  rw [take_getD (by omega) hk, take_getD (by omega) hk]
  exact h i j hi (by omega)
theorem IncS.drop {ss : List ByteArray} (h : IncS ss) (k : Nat) : IncS (ss.drop k) := by
  intro i j hi hj
  rw [List.length_drop] at hj
  rw [drop_getD, drop_getD]
  exact h _ _ (by omega) (by omega)
theorem take_snocS {ss : List ByteArray} {k : Nat} (h : k < ss.length) : ss.take (k + 1) = ss.take k ++ [ss.getD k ⟨#[]⟩] := by
  rw [List.take_succ_eq_append_getElem h]; simp [h]
theorem one_str7 (s : ByteArray) : ∀ u ∈ [Value.string s], u.oneCell' = true := by intro u hu; simp at hu; subst hu; rfl
theorem OwnS.one5 {base : Nat} {w : World} {v : Value} {xs : List ByteArray} {m : ByteArray} (h : w.ownsRow base 9 1 v (xs.length + 1) (xs.map Value.string ++ [Value.string m])) : OwnS base w v (xs ++ [m]) := by
  unfold OwnS
  rw [List.map_append, List.length_append]
  exact h

set_option maxRecDepth 100000 in
set_option maxHeartbeats 8000000 in
theorem lnSorted_any (base : Nat) : ∀ (n : Nat) (ss : List ByteArray), ss.length = n → n ≤ 1000 → IncS ss → ∀ (v : Value) (w : World), base ≤ w.heap.size → ReadS base w v ss →
    Calls Try.prog 42 #[v] w (GivesRead base ss w) := by
  obtain ⟨i0, hi, hz0, hz1, hz2⟩ := info_parts info_str
  intro n
  induction n using Nat.strongRecOn with
  | _ n IH =>
    intro ss hn hn9 hinc v w hbs hv
    by_cases h2 : n < 2
    · have hv0 := Lib.hid hv
      obtain ⟨oa, cap, rfl, h3, h4, h5⟩ := hv
      rw [hn] at h3 hv0 ⊢
      have hlt : (n : Int) < 2 := by omega
      clear h5 hinc IH
      have HN := Lib.hid hn
      clear hn
      go_enter Try.func42, Try.ntmps42
      go_wp2_with fail
      go_ret
      exact ⟨_, hv0.out, Below.refl _ _, rfl⟩
    · have hlt : ¬ (n : Int) < 2 := by omega
      obtain ⟨h, hh⟩ : ∃ h, h = n / 2 := ⟨_, rfl⟩
      have hh1 : 1 ≤ h := by omega
      have hh2 : h < n := by omega
      have eq2 : (n : Int).tdiv 2 = (h : Int) := by rw [hh, Int.tdiv_eq_ediv_of_nonneg (by omega)]; omega
      have hwr : IntKind.i64.wrap (h : Int) = (h : Int) := by rw [IntKind.wrap_i64]; omega
      have R1 : ∀ v w, base ≤ w.heap.size → ReadS base w v (ss.take h) → Calls Try.prog 42 #[v] w (GivesRead base (ss.take h) w) := fun v w hb hv => IH h (by omega) (ss.take h) (by rw [List.length_take]; omega) (by omega) (hinc.take (by omega)) v w hb hv
      have R2 : ∀ v w, base ≤ w.heap.size → ReadS base w v (ss.drop h) → Calls Try.prog 42 #[v] w (GivesRead base (ss.drop h) w) := fun v w hb hv => IH (n - h) (by omega) (ss.drop h) (by rw [List.length_drop]; omega) (by omega) (hinc.drop h) v w hb hv
      clear IH
      obtain ⟨oa, cap, rfl, h3, h4, h5⟩ := hv
      obtain ⟨g, q, rfl, hbg, hg, _⟩ := h5 0 (by omega)
      have V1 : ReadS base w (.slice (some ⟨g, q, none⟩) h cap) (ss.take h) := ⟨_, cap, by rw [List.length_take, Nat.min_eq_left (by omega)], by rw [List.length_take]; omega, h4, fun i hi => by
        rw [List.length_take] at hi
        obtain ⟨g', q', e, hk', hg', hc⟩ := h5 i (by omega)
        exact ⟨g', q', e, hk', hg', by rw [take_getD (by omega) (by omega)]; exact hc⟩⟩
      have V2 : ReadS base w (.slice (some ⟨g, q + h, none⟩) (n - h) (cap - h)) (ss.drop h) := ⟨_, cap - h, by rw [List.length_drop, hn], by rw [List.length_drop]; omega, by omega, fun i hi => by
        rw [List.length_drop] at hi
        obtain ⟨g', q', e, hk', hg', hc⟩ := h5 (h + i) (by omega)
        injection e with e
        injection e with e1 e2
        subst e1 e2
        exact ⟨g, q + h, rfl, hk', hg', by rw [drop_getD, Nat.add_assoc]; exact hc⟩⟩
      rw [hn] at h3 ⊢
      unfold maxLen at h4
      have HV1 := Lib.hid V1
      have HV2 := Lib.hid V2
      have HN := Lib.hid hn
      have HI := Lib.hid hinc
      have hcn : ¬ cap = h := by omega
      have hch : (h : Int) ≤ (cap : Int) := by omega
      have h0h : (0 : Int) ≤ (h : Int) := by omega
      have h63 : (n : Int) ≤ 1000 := by omega
      have hh3 : (h : Int) ≤ (n : Int) := by omega
      clear V1 V2 hn hinc h5 hh
      go_enter Try.func42, Try.ntmps42
      go_wp2_with fail
      have hzr := Below.refl w.heap.size w
      refine wp_region_held_drew (S := (fun w' : World => 0 ≤ w'.heap.size)) (by kernel_rfl) (Nat.zero_le _) (fun hH0 => ?_)
      refine wpAnyH_take (i := 0) (oi := ?oi201) (v := ?vv201) ?hi201 ?hn201 ?hf201 ?hr201 ?hq201 (Or.inl ⟨?hg201, ?hy201⟩) hH0 ?rest201
      case hi201 => (simp only [List.getElem?_toArray, List.getElem?_cons_zero]; rfl)
      case hn201 => kernel_rfl
      case hf201 => kernel_rfl
      case hr201 => kernel_rfl
      case hg201 => rfl
      case hy201 => (intro w hSw; (try dsimp only at hSw); go_simp; first | done | with_reducible rfl)
      case hq201 => exact fun _ _ _ h => h
      try dsimp only [Act.put]
      refine wpAnyH_take (i := 1) (oi := ?oi202) (v := ?vv202) ?hi202 ?hn202 ?hf202 ?hr202 ?hq202 (Or.inl ⟨?hg202, ?hy202⟩) hH0 ?rest202
      case hi202 => (simp only [List.getElem?_toArray, List.getElem?_cons_succ, List.getElem?_cons_zero]; rfl)
      case hn202 => kernel_rfl
      case hf202 => kernel_rfl
      case hr202 => kernel_rfl
      case hg202 => rfl
      case hy202 => (intro w hSw; (try dsimp only at hSw); go_simp; first | done | with_reducible rfl)
      case hq202 => exact fun _ _ _ h => h
      try dsimp only [Act.put]
      refine wpAnyH_take (i := 2) (oi := ?oi203) (v := ?vv203) ?hi203 ?hn203 ?hf203 ?hr203 ?hq203 (Or.inl ⟨?hg203, ?hy203⟩) hH0 ?rest203
      case hi203 => (simp only [List.getElem?_toArray, List.getElem?_cons_succ, List.getElem?_cons_zero]; rfl)
      case hn203 => kernel_rfl
      case hf203 => kernel_rfl
      case hr203 => kernel_rfl
      case hg203 => rfl
      case hy203 => (intro w hSw; (try dsimp only at hSw); go_simp; first | done | with_reducible rfl)
      case hq203 => exact fun _ _ _ h => h
      try dsimp only [Act.put]
      refine wpAnyH_take (i := 3) (oi := ?oi204) (v := ?vv204) ?hi204 ?hn204 ?hf204 ?hr204 ?hq204 (Or.inl ⟨?hg204, ?hy204⟩) hH0 ?rest204
      case hi204 => (simp only [List.getElem?_toArray, List.getElem?_cons_succ, List.getElem?_cons_zero]; rfl)
      case hn204 => kernel_rfl
      case hf204 => kernel_rfl
      case hr204 => kernel_rfl
      case hg204 => rfl
      case hy204 => (intro w hSw; (try dsimp only at hSw); go_simp; first | done | with_reducible rfl)
      case hq204 => exact fun _ _ _ h => h
      try dsimp only [Act.put]
      refine wpAnyH_take (i := 4) (oi := ?oi205) (v := ?vv205) ?hi205 ?hn205 ?hf205 ?hr205 ?hq205 (Or.inl ⟨?hg205, ?hy205⟩) hH0 ?rest205
      case hi205 => (simp only [List.getElem?_toArray, List.getElem?_cons_succ, List.getElem?_cons_zero]; rfl)
      case hn205 => kernel_rfl
      case hf205 => kernel_rfl
      case hr205 => kernel_rfl
      case hg205 => rfl
      case hy205 => (intro w hSw; (try dsimp only at hSw); go_simp; first | done | with_reducible rfl)
      case hq205 => exact fun _ _ _ h => h
      try dsimp only [Act.put]
      refine wpAnyH_take (i := 6) (oi := ?oi206) (v := ?vv206) ?hi206 ?hn206 ?hf206 ?hr206 ?hq206 (Or.inl ⟨?hg206, ?hy206⟩) hH0 ?rest206
      case hi206 => (simp only [List.getElem?_toArray, List.getElem?_cons_succ, List.getElem?_cons_zero]; rfl)
      case hn206 => kernel_rfl
      case hf206 => kernel_rfl
      case hr206 => kernel_rfl
      case hg206 => rfl
      case hy206 => (intro w hSw; (try dsimp only at hSw); go_simp; first | done | with_reducible rfl)
      case hq206 => exact fun _ _ _ h => h
      try dsimp only [Act.put]
      refine wpAnyH_take (i := 7) (oi := ?oi207) (v := ?vv207) ?hi207 ?hn207 ?hf207 ?hr207 ?hq207 (Or.inl ⟨?hg207, ?hy207⟩) hH0 ?rest207
      case hi207 => (simp only [List.getElem?_toArray, List.getElem?_cons_succ, List.getElem?_cons_zero]; rfl)
      case hn207 => kernel_rfl
      case hf207 => kernel_rfl
      case hr207 => kernel_rfl
      case hg207 => rfl
      case hy207 => (intro w hSw; (try dsimp only at hSw); go_simp; first | done | with_reducible rfl)
      case hq207 => exact fun _ _ _ h => h
      try dsimp only [Act.put]
      refine wpAnyH_take (i := 8) (oi := ?oi208) (v := ?vv208) ?hi208 ?hn208 ?hf208 ?hr208 ?hq208 (Or.inl ⟨?hg208, ?hy208⟩) hH0 ?rest208
      case hi208 => (simp only [List.getElem?_toArray, List.getElem?_cons_succ, List.getElem?_cons_zero]; rfl)
      case hn208 => kernel_rfl
      case hf208 => kernel_rfl
      case hr208 => kernel_rfl
      case hg208 => rfl
      case hy208 => (intro w hSw; (try dsimp only at hSw); go_simp; first | done | with_reducible rfl)
      case hq208 => exact fun _ _ _ h => h
      try dsimp only [Act.put]
      refine wpAnyH_take (i := 9) (oi := ?oi209) (v := ?vv209) ?hi209 ?hn209 ?hf209 ?hr209 ?hq209 (Or.inl ⟨?hg209, ?hy209⟩) hH0 ?rest209
      case hi209 => (simp only [List.getElem?_toArray, List.getElem?_cons_succ, List.getElem?_cons_zero]; rfl)
      case hn209 => kernel_rfl
      case hf209 => kernel_rfl
      case hr209 => kernel_rfl
      case hg209 => rfl
      case hy209 => (intro w hSw; (try dsimp only at hSw); go_simp; first | done | with_reducible rfl)
      case hq209 => exact fun _ _ _ h => h
      try dsimp only [Act.put]
      refine wpAnyH_take (i := 10) (oi := ?oi210) (v := ?vv210) ?hi210 ?hn210 ?hf210 ?hr210 ?hq210 (Or.inl ⟨?hg210, ?hy210⟩) hH0 ?rest210
      case hi210 => (simp only [List.getElem?_toArray, List.getElem?_cons_succ, List.getElem?_cons_zero]; rfl)
      case hn210 => kernel_rfl
      case hf210 => kernel_rfl
      case hr210 => kernel_rfl
      case hg210 => rfl
      case hy210 => (intro w hSw; (try dsimp only at hSw); go_simp; first | done | with_reducible rfl)
      case hq210 => exact fun _ _ _ h => h
      try dsimp only [Act.put]
      refine held_one 5 rfl (by kernel_rfl) (fun K hK => ?_)
      go_simp
      refine (R1 _ _ (Nat.le_trans hbs hzr.drew.size) (ReadS.keep HV1.out hzr.drew)).mono ?_; rintro e w21 ⟨va, ra, hb21, rfl⟩
      have hb21' := nx hzr.drew hb21
      go_wp2_with fail
      have hH1 : (fun w' : World => 0 ≤ w'.heap.size) _ := Nat.zero_le w21.heap.size
      refine hK.out (fun w' : World => 0 ≤ w'.heap.size) _ _ (fun _ h => h) hH1 ?_
      clear hK K
      try dsimp only [Act.put]
      refine held_one 11 rfl (by kernel_rfl) (fun K hK => ?_)
      go_simp
      refine (R2 _ _ (Nat.le_trans hbs hb21'.size) (ReadS.keep HV2.out hb21')).mono ?_; rintro e w22 ⟨vb, rb, hb22, rfl⟩
      have hb22' := nx hb21' hb22
      replace ra := ReadS.keep ra hb22
      go_wp2_with fail
      have hH2 : (fun w' : World => 0 ≤ w'.heap.size) _ := Nat.zero_le w22.heap.size
      refine hK.out (fun w' : World => 0 ≤ w'.heap.size) _ _ (fun _ h => h) hH2 ?_
      clear hK K
      try dsimp only [Act.put]
      refine wpAnyH_take (i := 12) (oi := ?oi211) (v := ?vv211) ?hi211 ?hn211 ?hf211 ?hr211 ?hq211 (Or.inl ⟨?hg211, ?hy211⟩) hH2 ?rest211
      case hi211 => (simp only [List.getElem?_toArray, List.getElem?_cons_succ, List.getElem?_cons_zero]; rfl)
      case hn211 => kernel_rfl
      case hf211 => kernel_rfl
      case hr211 => kernel_rfl
      case hg211 => rfl
      case hy211 => (intro w hSw; (try dsimp only at hSw); go_simp; first | done | with_reducible rfl)
      case hq211 => exact fun _ _ _ h => h
      try dsimp only [Act.put]
      refine wpAnyH_take (i := 13) (oi := ?oi212) (v := ?vv212) ?hi212 ?hn212 ?hf212 ?hr212 ?hq212 (Or.inl ⟨?hg212, ?hy212⟩) hH2 ?rest212
      case hi212 => (simp only [List.getElem?_toArray, List.getElem?_cons_succ, List.getElem?_cons_zero]; rfl)
      case hn212 => kernel_rfl
      case hf212 => kernel_rfl
      case hr212 => kernel_rfl
      case hg212 => rfl
      case hy212 => (intro w hSw; (try dsimp only at hSw); go_simp; first | done | with_reducible rfl)
      case hq212 => exact fun _ _ _ h => h
      try dsimp only [Act.put]
      refine wpAnyH_done (by kernel_rfl) ?_ _
      simp only [List.setIfInBounds_toArray, List.set_cons_zero, List.set_cons_succ]
      obtain ⟨oa1, c1, rfl, p1, p2, p3⟩ := ra
      obtain ⟨oa2, c2, rfl, p4, p5, p6⟩ := rb
      have el1 : (ss.take h).length = h := by rw [List.length_take]; have := HN.out; omega
      have el2 : (ss.drop h).length = n - h := by rw [List.length_drop, HN.out]
      rw [el1] at p1 p3 ⊢
      rw [el2] at p4 p6 ⊢
      unfold maxLen at p2 p5
      have HA := Lib.hid p3
      have HB := Lib.hid p6
      obtain ⟨m, hm⟩ : ∃ m, m = n - h := ⟨_, rfl⟩
      rw [← hm] at p4 ⊢
      have hm1 : h + m = n := by omega
      have HM := Lib.hid hm
      clear hm p3 p6 el1 el2 hb21 hb22 hb21' hzr R1 R2 HV1 HV2 h3 h4 hcn hch hwr eq2
      go_wp2_with fail
      go_loopw [5, 6, 7] (fun u i j wr => ∃ a b : Nat, a ≤ h ∧ b ≤ m ∧ (b = 0 ∨ a = h) ∧ i = .int .i64 (a : Int) ∧ j = .int .i64 (b : Int) ∧ OwnS w22.heap.size wr u (ss.take (a + b)) ∧ Below w22.heap.size w22 wr ∧ (a + b = 0 → u = .slice none 0 0)) (fun _ i j _ => n - ((intOf i).toNat + (intOf j).toNat))
      case atStart => exact ⟨0, 0, Nat.zero_le _, Nat.zero_le _, .inl rfl, rfl, rfl, OwnS.nil _ _, Below.refl _ _, fun _ => rfl⟩
      case round =>
        obtain ⟨a, b, ha, hb, hab, rfl, rfl, hown, hbw, hu0⟩ := hrel
        by_cases hlt1 : a < h
        · obtain rfl : b = 0 := by omega
          obtain ⟨g1, q1, rfl, _, hg1, a1⟩ := HA.out a hlt1
          obtain ⟨g2, q2, rfl, _, hg2, b1⟩ := HB.out 0 (by rw [← HM.out]; omega)
          have k1 := (hbw.cell (p := ⟨g1, q1 + a, none⟩) hg1).trans a1
          have k2 := (hbw.cell (p := ⟨g2, q2 + 0, none⟩) hg2).trans b1
          rw [take_getD hlt1 (by rw [HN.out]; omega)] at k1
          rw [drop_getD] at k2
          simp only [Nat.add_zero] at k1 k2 hown
          have hless := HI.out a h hlt1 (by rw [HN.out]; omega)
          have hsn := take_snocS (ss := ss) (k := a) (by rw [HN.out]; omega)
          have htl : (ss.take a).length = a := by rw [List.length_take]; have := HN.out; omega
          have HTL := Lib.hid htl
          have HSN := Lib.hid hsn
          have hi1 : (a : Int) < (h : Int) := by omega
          have hm0 : 0 < m := by omega
          have hj1 : ¬ (0 : Int) = (m : Int) := by omega
          clear a1 b1 hsn htl
          rcases Nat.eq_zero_or_pos a with rfl | hpos
          · have hgr1 : g1 < wr.heap.size := Nat.lt_of_lt_of_le hg1 hbw.size
            have hgr2 : g2 < wr.heap.size := Nat.lt_of_lt_of_le hg2 hbw.size
            simp only [Nat.add_zero] at k1
            obtain rfl := hu0 rfl
            obtain ⟨X, hX⟩ : ∃ X, X = ss.getD 0 ⟨#[]⟩ := ⟨_, rfl⟩
            obtain ⟨Y, hY⟩ : ∃ Y, Y = ss.getD h ⟨#[]⟩ := ⟨_, rfl⟩
            have hsn := HSN.out
            rw [← hX] at k1 hless hsn
            rw [← hY] at k2 hless
            have HSX := Lib.hid hsn
            have hle : ∀ w, (binOp BinOp.leq 9 (.string X) (.string Y)).run Try.prog w = .ok (.bool true) w := fun w => by
              have e : (binOp BinOp.leq 9 (.string X) (.string Y)).run Try.prog w = .ok (.bool (Go.Op.bytesLess X.toList Y.toList || X.toList == Y.toList)) w := rfl
              rw [e, hless]
              rfl
            clear hsn hless hY HSN
            clear hX
            go_wp2_with fail
            refine wp_region_cls (by kernel_rfl) (by kernel_rfl) ?_
            repeat (
              refine wpQuiet_step (fun K hK => ?_)
              go_simp
              first
                | (refine hK _ ?_; clear hK K)
                | (refine ⟨_, fun _ _ => rfl, hK _ ?_⟩; clear hK K)
                | (apply Exists.intro
                   refine ⟨fun w' hw' => ?_, hK _ ?_⟩
                   · first
                       | (rw [hw'.cell hgr1 k1]; exact ⟨rfl, rfl⟩)
                       | (rw [hw'.cell hgr2 k2]; exact ⟨rfl, rfl⟩)
                       | (rw [hle]; exact ⟨rfl, rfl⟩)
                   clear hK K))
            refine wpQuiet_nil ?_
            intro w' hw'
            have hbw2 := nx hbw hw'
            have hsz2 := hbw2.size
            have hown2 := OwnS.keep hown hw'
            have k8 := (Below.cell (p := ⟨g1, q1, none⟩) hw' hgr1).trans k1
            clear k1 hgr1 hle
            clear k2 hgr2 hown hbw hw'
            unfold OwnS at hown2
            go_wp2_with (at_builtin; go_loud (refine wpList_append_own _ rfl _ _ 46 rfl w22.heap.size 9 i0 (.string ⟨#[]⟩) 1 16 Try.underlying46 hi hz0 hz1 hz2 rfl (by decide) _ _ _ rfl (hown2.alloc _) ⟨_, 0, none⟩ 1 1 [.string X] rfl rfl (new1 _ _ _) (one_str7 _) (by rw [HTL.out]; unfold maxLen; omega) (by rw [HTL.out]; omega) (by simp; omega) ?_); intro v' w9 hown' hgrow hnn)
            have hbw9 := below_app hbw2 hown2 (Nat.le_refl _) hgrow
            have hown1 : OwnS w22.heap.size w9 v' (ss.take (0 + 1)) := by rw [HSX.out]; exact OwnS.one5 hown'
            clear hown2 hown' hgrow hbw2 hnn
            go_wp2_with fail
            go_roundw
            case rel => exact ⟨0 + 1, 0, by omega, by omega, .inl rfl, by go_num, by go_num, hown1, hbw9, fun h => by omega⟩
            case measure => simp [intOf]; omega
          · have hgr1 : g1 < wr.heap.size := Nat.lt_of_lt_of_le hg1 hbw.size
            have hgr2 : g2 < wr.heap.size := Nat.lt_of_lt_of_le hg2 hbw.size
            clear hu0
            obtain ⟨X, hX⟩ : ∃ X, X = ss.getD a ⟨#[]⟩ := ⟨_, rfl⟩
            obtain ⟨Y, hY⟩ : ∃ Y, Y = ss.getD h ⟨#[]⟩ := ⟨_, rfl⟩
            have hsn := HSN.out
            rw [← hX] at k1 hless hsn
            rw [← hY] at k2 hless
            have HSX := Lib.hid hsn
            have hle : ∀ w, (binOp BinOp.leq 9 (.string X) (.string Y)).run Try.prog w = .ok (.bool true) w := fun w => by
              have e : (binOp BinOp.leq 9 (.string X) (.string Y)).run Try.prog w = .ok (.bool (Go.Op.bytesLess X.toList Y.toList || X.toList == Y.toList)) w := rfl
              rw [e, hless]
              rfl
            clear hsn hless hY HSN
            have hne := HI.out.ne (i := a - 1) (j := a) (by omega) (by rw [HN.out]; omega)
            rw [← hX] at hne
            have hnb := beq_false_of_ne hne
            clear hne
            have hps : (a - 1) < (ss.take a).length := by rw [HTL.out]; omega
            rcases hown.cells with ⟨_, h0⟩ | ⟨g5, cap5, rfl, hb5, hg5, q5, q6, hx5, hf5⟩
            · have := congrArg List.length h0; rw [HTL.out] at this; simp at this; omega
            have k5 := hx5 (a - 1) hps
            rw [take_getD (by omega) (by have := HN.out; omega)] at k5
            generalize ss.getD (a - 1) ⟨#[]⟩ = PP at *
            have ew : IntKind.i64.wrap ((a : Nat) - 1 : Int) = ((a - 1 : Nat) : Int) := by rw [IntKind.wrap_i64]; omega
            rw [HTL.out] at q5 hown ⊢
            unfold maxLen at q6
            clear hx5 hf5 hps
            clear hX
            go_wp2_with fail
            refine wp_region_cls (by kernel_rfl) (by kernel_rfl) ?_
            repeat (
              refine wpQuiet_step (fun K hK => ?_)
              go_simp
              first
                | (refine hK _ ?_; clear hK K)
                | (refine ⟨_, fun _ _ => rfl, hK _ ?_⟩; clear hK K)
                | (apply Exists.intro
                   refine ⟨fun w' hw' => ?_, hK _ ?_⟩
                   · first
                       | (rw [hw'.cell hgr1 k1]; exact ⟨rfl, rfl⟩)
                       | (rw [hw'.cell hgr2 k2]; exact ⟨rfl, rfl⟩)
                       | (rw [hle]; exact ⟨rfl, rfl⟩)
                   clear hK K))
            refine wpQuiet_nil ?_
            intro w' hw'
            have hbw2 := nx hbw hw'
            have hsz2 := hbw2.size
            have hown2 := OwnS.keep hown hw'
            have k8 := (Below.cell (p := ⟨g1, q1 + a, none⟩) hw' hgr1).trans k1
            clear k1 hgr1 hle
            have k9 := (Below.cell (p := ⟨g5, a - 1, none⟩) hw' hg5).trans k5
            clear k5
            clear k2 hgr2 hown hbw hw'
            unfold OwnS at hown2
            go_wp2_with (at_builtin; go_loud (refine wpList_append_own _ rfl _ _ 46 rfl w22.heap.size 9 i0 (.string ⟨#[]⟩) 1 16 Try.underlying46 hi hz0 hz1 hz2 rfl (by decide) _ _ _ rfl (hown2.alloc _) ⟨_, 0, none⟩ 1 1 [.string X] rfl rfl (new1 _ _ _) (one_str7 _) (by rw [HTL.out]; unfold maxLen; omega) (by rw [HTL.out]; omega) (by simp; omega) ?_); intro v' w9 hown' hgrow hnn)
            have hbw9 := below_app hbw2 hown2 (Nat.le_refl _) hgrow
            have hown1 : OwnS w22.heap.size w9 v' (ss.take (a + 1)) := by rw [HSX.out]; exact OwnS.one5 hown'
            clear hown2 hown' hgrow hbw2 hnn
            go_wp2_with fail
            go_roundw
            case rel => exact ⟨a + 1, 0, by omega, by omega, .inl rfl, by go_num, by go_num, hown1, hbw9, fun h => by omega⟩
            case measure => simp [intOf]; omega

        · obtain rfl : a = h := by omega
          by_cases hlt2 : b < m
          · obtain ⟨g2, q2, rfl, _, hg2, b1⟩ := HB.out b (by rw [← HM.out]; exact hlt2)
            have k2 := (hbw.cell (p := ⟨g2, q2 + b, none⟩) hg2).trans b1
            rw [drop_getD] at k2
            obtain ⟨T, hT⟩ : ∃ T, T = a + b := ⟨_, rfl⟩
            rw [← hT] at hown k2
            have hTn : T < n := by omega
            have hT0 : 0 < T := by omega
            have HT := Lib.hid hT
            have hsn := take_snocS (ss := ss) (k := T) (by rw [HN.out]; omega)
            have htl : (ss.take T).length = T := by rw [List.length_take]; have := HN.out; omega
            have HTL := Lib.hid htl
            have HSN := Lib.hid hsn
            have hj1 : ¬ (b : Int) = (m : Int) := by omega
            have hj2 : (b : Int) < (m : Int) := by omega
            clear b1 hsn htl hT
            clear hu0
            have hgr2 : g2 < wr.heap.size := Nat.lt_of_lt_of_le hg2 hbw.size
            obtain ⟨X, hX⟩ : ∃ X, X = ss.getD T ⟨#[]⟩ := ⟨_, rfl⟩
            have hsn := HSN.out
            rw [← hX] at k2 hsn
            have HSX := Lib.hid hsn
            clear hsn HSN
            have hne := HI.out.ne (i := T - 1) (j := T) (by omega) (by rw [HN.out]; omega)
            rw [← hX] at hne
            have hnb := beq_false_of_ne hne
            clear hne
            have hps : (T - 1) < (ss.take T).length := by rw [HTL.out]; omega
            rcases hown.cells with ⟨_, h0⟩ | ⟨g5, cap5, rfl, hb5, hg5, q5, q6, hx5, hf5⟩
            · have := congrArg List.length h0; rw [HTL.out] at this; simp at this; omega
            have k5 := hx5 (T - 1) hps
            rw [take_getD (by omega) (by have := HN.out; omega)] at k5
            generalize ss.getD (T - 1) ⟨#[]⟩ = PP at *
            have ew : IntKind.i64.wrap ((T : Nat) - 1 : Int) = ((T - 1 : Nat) : Int) := by rw [IntKind.wrap_i64]; omega
            rw [HTL.out] at q5 hown ⊢
            unfold maxLen at q6
            clear hx5 hf5 hps
            clear hX
            go_wp2_with fail
            have hd1 : ((b : Int) == (m : Int)) = false := beq_false_of_ne hj1
            have hd2 : decide ((a : Int) < (a : Int)) = false := decide_eq_false (by omega)
            go_quiet (fail)
            have hw' : Below wr.heap.size wr (wr.drewN nq) := drewB (Below.refl _ _) nq
            generalize wr.drewN nq = w' at *
            have hbw2 := nx hbw hw'
            have hsz2 := hbw2.size
            have hown2 := OwnS.keep hown hw'
            have k8 := (Below.cell (p := ⟨g2, q2 + b, none⟩) hw' hgr2).trans k2
            have k9 := (Below.cell (p := ⟨g5, T - 1, none⟩) hw' hg5).trans k5
            clear k5
            clear k2 hgr2 hown hbw hw'
            unfold OwnS at hown2
            go_wp2_with (at_builtin; go_loud (refine wpList_append_own _ rfl _ _ 46 rfl w22.heap.size 9 i0 (.string ⟨#[]⟩) 1 16 Try.underlying46 hi hz0 hz1 hz2 rfl (by decide) _ _ _ rfl (hown2.alloc _) ⟨_, 0, none⟩ 1 1 [.string X] rfl rfl (new1 _ _ _) (one_str7 _) (by rw [HTL.out]; unfold maxLen; omega) (by rw [HTL.out]; omega) (by simp; omega) ?_); intro v' w9 hown' hgrow hnn)
            have hbw9 := below_app hbw2 hown2 (Nat.le_refl _) hgrow
            have hown1 : OwnS w22.heap.size w9 v' (ss.take (T + 1)) := by rw [HSX.out]; exact OwnS.one5 hown'
            clear hown2 hown' hgrow hbw2 hnn
            go_wp2_with fail
            go_roundw
            case rel => exact ⟨a, b + 1, by omega, by omega, .inr rfl, by go_num, by go_num, (by rw [show a + (b + 1) = T + 1 by have := HT.out; omega]; exact hown1), hbw9, fun h => by omega⟩
            case measure => simp [intOf]; omega

          · obtain rfl : b = m := by omega
            have hfin : ReadS base wr u5 ss := by
              have h9 := hown
              rw [hm1, List.take_of_length_le (by rw [HN.out]; exact Nat.le_refl _)] at h9
              exact h9.cells.read.mono (Nat.le_trans hbs hb22'.size)
            have HF := Lib.hid hfin
            have hbwz := nx (Below.refl _ _) hb22'
            have hfb := nx hbwz hbw
            clear hown hfin
            go_wp2_with fail
            go_ret
            exact ⟨_, HF.out, hfb, rfl⟩
end Go.Proofs.Yteflpaebckichaa

/-! AtP -/
namespace Go.Proofs.Yteflpaebckichaa
def Tr.sub : Tr → List UInt8 → Option Tr
  | t, [] => some t
  | .lf, _ :: _ => none
  | .nd l r, c :: cs => if c = 48 then l.sub cs else if c = 49 then r.sub cs else none

theorem sub_carets : ∀ (l : List UInt8) (t u : Tr), t.sub l = some u → u.carets + l.length ≤ t.carets := by
  intro l
  induction l with
  | nil => intro t u h; simp [Tr.sub] at h; subst h; simp
  | cons c cs ih =>
    intro t u h
    cases t with
    | lf => simp [Tr.sub] at h
    | nd a b =>
      rw [Tr.sub] at h
      split at h
      · have := ih _ _ h; simp [Tr.carets]; omega
      · split at h
        · have := ih _ _ h; simp [Tr.carets]; omega
        · simp at h
end Go.Proofs.Yteflpaebckichaa

/-! BrP -/
namespace Go.Proofs.Yteflpaebckichaa
namespace Tr
/-- Rotated at the top, or back (true). -/
def rot : Bool → Tr → Option Tr
  | false, .nd (.nd a b) c => some (.nd a (.nd b c))
  | true, .nd a (.nd b c) => some (.nd (.nd a b) c)
  | _, _ => none
def rotAt (k : Bool) : Tr → List UInt8 → Option Tr
  | t, [] => t.rot k
  | .lf, _ :: _ => none
  | .nd l r, c :: cs => if c = 48 then (l.rotAt k cs).map (fun x => .nd x r) else if c = 49 then (r.rotAt k cs).map (fun x => .nd l x) else none
def here1 (k : Bool) (t : Tr) (here : ByteArray) : List ByteArray := if (t.rot k).isSome then [here] else []
def spots (k : Bool) : Tr → ByteArray → List ByteArray
  | .lf, _ => []
  | .nd l r, here => here1 k (.nd l r) here ++ (spots k l (here ++ ⟨#[48]⟩) ++ spots k r (here ++ ⟨#[49]⟩))
/-- The carets in all left sides. -/
def lw : Tr → Nat
  | .lf => 0
  | .nd l r => l.lw + r.lw + l.carets
end Tr

theorem rot_carets {k : Bool} {t u : Tr} (h : t.rot k = some u) : u.carets = t.carets := by
  unfold Tr.rot at h
  split at h
  · injection h with h; subst h; simp [Tr.carets]; omega
  · injection h with h; subst h; simp [Tr.carets]; omega
  · simp at h

theorem rotAt_nil (k : Bool) (t : Tr) : t.rotAt k [] = t.rot k := by cases t <;> rfl

theorem rotAt_carets {k : Bool} : ∀ (p : List UInt8) {t u : Tr}, t.rotAt k p = some u → u.carets = t.carets := by
  intro p
  induction p with
  | nil => intro t u h; rw [rotAt_nil] at h; exact rot_carets h
  | cons c cs ih =>
    intro t u h
    cases t with
    | lf => simp [Tr.rotAt] at h
    | nd l r =>
      rw [Tr.rotAt] at h
      split at h
      · cases g : l.rotAt k cs with
        | none => rw [g] at h; simp at h
        | some x => rw [g] at h; simp at h; subst h; have := ih g; simp [Tr.carets, this]
      · split at h
        · cases g : r.rotAt k cs with
          | none => rw [g] at h; simp at h
          | some x => rw [g] at h; simp at h; subst h; have := ih g; simp [Tr.carets, this]
        · simp at h

theorem rotAt_long {k : Bool} : ∀ (p : List UInt8) {t : Tr}, t.carets < p.length → t.rotAt k p = none := by
  intro p
  induction p with
  | nil => intro t h; simp at h
  | cons c cs ih =>
    intro t h
    cases t with
    | lf => rfl
    | nd l r =>
      simp [Tr.carets] at h
      rw [Tr.rotAt, ih (by omega), ih (by omega)]
      simp

theorem rot_lw {t u : Tr} (h : t.rot false = some u) : u.lw < t.lw := by
  unfold Tr.rot at h
  split at h
  · injection h with h; subst h; simp [Tr.lw, Tr.carets]; omega
  · simp at *
  · simp at h

theorem rotAt_lw : ∀ (p : List UInt8) {t u : Tr}, t.rotAt false p = some u → u.lw < t.lw := by
  intro p
  induction p with
  | nil => intro t u h; rw [rotAt_nil] at h; exact rot_lw h
  | cons c cs ih =>
    intro t u h
    cases t with
    | lf => simp [Tr.rotAt] at h
    | nd l r =>
      rw [Tr.rotAt] at h
      split at h
      · cases g : l.rotAt false cs with
        | none => rw [g] at h; simp at h
        | some x => rw [g] at h; simp at h; subst h; have := ih g; have := rotAt_carets _ g; simp [Tr.lw]; omega
      · split at h
        · cases g : r.rotAt false cs with
          | none => rw [g] at h; simp at h
          | some x => rw [g] at h; simp at h; subst h; have := ih g; simp [Tr.lw]; omega
        · simp at h

theorem lw_le (t : Tr) : t.lw ≤ t.carets * t.carets := by
  induction t with
  | lf => simp [Tr.lw]
  | nd l r ihl ihr =>
    simp only [Tr.lw, Tr.carets]
    have e : (l.carets + r.carets + 1) * (l.carets + r.carets + 1) = l.carets * l.carets + r.carets * r.carets + 2 * (l.carets * r.carets) + 2 * l.carets + 2 * r.carets + 1 := by
      simp [Nat.add_mul, Nat.mul_add]
      have := Nat.mul_comm l.carets r.carets
      omega
    have := Nat.zero_le (l.carets * r.carets)
    omega

theorem rot_lf (k : Bool) : Tr.lf.rot k = none := by cases k <;> rfl

/-- Where a tree can be rotated, it can be rotated there. -/
theorem spots_mem {k : Bool} : ∀ (t : Tr) (here a : ByteArray), a ∈ t.spots k here → ∃ p, a.data.toList = here.data.toList ++ p ∧ (t.rotAt k p).isSome = true := by
  intro t
  induction t with
  | lf => intro here a h; simp [Tr.spots] at h
  | nd l r ihl ihr =>
    intro here a h
    rw [Tr.spots, List.mem_append, List.mem_append] at h
    have e : ∀ c : UInt8, (here ++ (⟨#[c]⟩ : ByteArray)).data.toList = here.data.toList ++ [c] := fun c => by simp
    rcases h with h | h | h
    · unfold Tr.here1 at h
      split at h
      · next g => simp at h; subst h; exact ⟨[], by simp, by rw [rotAt_nil]; exact g⟩
      · simp at h
    · obtain ⟨p, hp, hs⟩ := ihl _ _ h
      refine ⟨48 :: p, by rw [hp, e]; simp, ?_⟩
      rw [Tr.rotAt, if_pos rfl]
      cases g : l.rotAt k p with
      | none => rw [g] at hs; simp at hs
      | some x => rfl
    · obtain ⟨p, hp, hs⟩ := ihr _ _ h
      refine ⟨49 :: p, by rw [hp, e]; simp, ?_⟩
      rw [Tr.rotAt, if_neg (by decide), if_pos rfl]
      cases g : r.rotAt k p with
      | none => rw [g] at hs; simp at hs
      | some x => rfl

theorem spots_mem0 {k : Bool} {t : Tr} {a : ByteArray} (h : a ∈ t.spots k ⟨#[]⟩) : ∃ u, t.rotAt k a.data.toList = some u := by
  obtain ⟨p, hp, hs⟩ := spots_mem t _ a h
  have : a.data.toList = p := by simpa using hp
  rw [this]
  exact Option.isSome_iff_exists.1 hs

theorem here1_len (k : Bool) (t : Tr) (here : ByteArray) : (t.here1 k here).length ≤ 1 := by unfold Tr.here1; split <;> simp
theorem spots_len {k : Bool} (t : Tr) : ∀ here, (t.spots k here).length ≤ t.carets := by
  induction t with
  | lf => intro here; simp [Tr.spots]
  | nd l r ihl ihr =>
    intro here
    have h1 := here1_len k (.nd l r) here
    have h2 := ihl (here ++ ⟨#[48]⟩)
    have h3 := ihr (here ++ ⟨#[49]⟩)
    simp only [Tr.spots, Tr.carets, List.length_append]; omega
theorem spots_size {k : Bool} (t : Tr) : ∀ here, ∀ s ∈ t.spots k here, s.size ≤ here.size + t.carets := by
  induction t with
  | lf => intro here s h; simp [Tr.spots] at h
  | nd l r ihl ihr =>
    intro here s h
    rw [Tr.spots, List.mem_append, List.mem_append] at h
    have e0 : ∀ c : UInt8, (here ++ (⟨#[c]⟩ : ByteArray)).size = here.size + 1 := fun c => ByteArray.size_append
    simp only [Tr.carets]
    rcases h with h | h | h
    · unfold Tr.here1 at h
      split at h
      · simp at h; subst h; omega
      · simp at h
    · have := ihl _ s h; rw [e0] at this; omega
    · have := ihr _ s h; rw [e0] at this; omega

/-- The tree behind a rotation at the first place, if there is one. -/
def nextT (t : Tr) : Option Tr :=
  match t.spots false ⟨#[]⟩ with
  | [] => none
  | a :: _ => t.rotAt false a.data.toList
theorem nextT_lw {t u : Tr} (h : nextT t = some u) : u.lw < t.lw := by
  unfold nextT at h
  split at h
  · simp at h
  · exact rotAt_lw _ h
theorem nextT_carets {t u : Tr} (h : nextT t = some u) : u.carets = t.carets := by
  unfold nextT at h
  split at h
  · simp at h
  · exact rotAt_carets _ h
theorem nextT_nil {t : Tr} (h : t.spots false ⟨#[]⟩ = []) : nextT t = none := by unfold nextT; rw [h]
theorem nextT_cons {t : Tr} {a : ByteArray} {as1 : List ByteArray} (h : t.spots false ⟨#[]⟩ = a :: as1) : ∃ u, t.rotAt false a.data.toList = some u ∧ nextT t = some u := by
  obtain ⟨u, hu⟩ := spots_mem0 (k := false) (t := t) (a := a) (by rw [h]; simp)
  exact ⟨u, hu, by unfold nextT; rw [h]; exact hu⟩

def chainF : Nat → Tr → List Tr
  | 0, t => [t]
  | k + 1, t => match nextT t with
    | none => [t]
    | some u => t :: chainF k u
def chainT (t : Tr) : List Tr := chainF t.lw t
theorem chainF_eq (k : Nat) : ∀ (j : Nat) (t : Tr), t.lw ≤ k → t.lw ≤ j → chainF k t = chainF j t := by
  induction k with
  | zero =>
    intro j t h h2
    cases j with
    | zero => rfl
    | succ j =>
      rw [chainF, chainF]
      cases g : nextT t with
      | none => rfl
      | some u => have := nextT_lw g; omega
  | succ k ih =>
    intro j t h h2
    cases j with
    | zero =>
      rw [chainF, chainF]
      cases g : nextT t with
      | none => rfl
      | some u => have := nextT_lw g; omega
    | succ j =>
      rw [chainF, chainF]
      cases g : nextT t with
      | none => rfl
      | some u => have := nextT_lw g; simp only; rw [ih j u (by omega) (by omega)]
theorem chainT_none {t : Tr} (h : nextT t = none) : chainT t = [t] := by
  unfold chainT
  cases g : t.lw with
  | zero => rfl
  | succ k => rw [chainF, h]
theorem chainT_some {t u : Tr} (h : nextT t = some u) : chainT t = t :: chainT u := by
  have := nextT_lw h
  unfold chainT
  obtain ⟨k, hk⟩ : ∃ k, t.lw = k + 1 := ⟨t.lw - 1, by omega⟩
  rw [hk, chainF, h]
  simp only
  rw [chainF_eq k u.lw u (by omega) (by omega)]
theorem chainF_len (k : Nat) : ∀ t, (chainF k t).length ≤ k + 1 ∧ 1 ≤ (chainF k t).length := by
  induction k with
  | zero => intro t; simp [chainF]
  | succ k ih =>
    intro t
    rw [chainF]
    split
    · simp
    · next u _ => have := ih u; simp; omega
theorem chainT_len (t : Tr) : (chainT t).length ≤ t.carets * t.carets + 1 ∧ 1 ≤ (chainT t).length := by
  have := chainF_len t.lw t
  have := lw_le t
  unfold chainT; omega
theorem chainF_carets (k : Nat) : ∀ t, ∀ u ∈ chainF k t, u.carets = t.carets := by
  induction k with
  | zero => intro t u h; simp [chainF] at h; rw [h]
  | succ k ih =>
    intro t u h
    rw [chainF] at h
    split at h
    · simp at h; rw [h]
    · next x g =>
      simp at h
      rcases h with h | h
      · rw [h]
      · rw [ih x u h, nextT_carets g]
theorem chainT_carets {t u : Tr} (h : u ∈ chainT t) : u.carets = t.carets := chainF_carets _ _ _ h
end Go.Proofs.Yteflpaebckichaa

/-! Br1 -/
namespace Go.Proofs.Yteflpaebckichaa
open Go.RowKit

theorem below_two9 {w w' : World} (hb : Below w.heap.size w w') {b : Nat} {u v : Value} (h1 : w.cell? ⟨b, 0, none⟩ = some u) (h2 : w.cell? ⟨b, 1, none⟩ = some v) : w'.cell? ⟨b, 0, none⟩ = some u ∧ w'.cell? ⟨b, 1, none⟩ = some v :=
  ⟨(hb.cell (p := ⟨b, 0, none⟩) (World.block_lt_of_cell? w _ h1)).trans h1, (hb.cell (p := ⟨b, 1, none⟩) (World.block_lt_of_cell? w _ h2)).trans h2⟩

/-- What a turn hands back: a node of the tree, or none. -/
def RotP (o : Option Tr) (w : World) (e : Ending) (w' : World) : Prop :=
  match o with
  | some u => ∃ b, NodeAt w' u b ∧ Below w.heap.size w w' ∧ e = .returned (.pointer (some ⟨b, 0, none⟩))
  | none => Below w.heap.size w w' ∧ e = .returned (.pointer none)


end Go.Proofs.Yteflpaebckichaa

/-! At -/
namespace Go.Proofs.Yteflpaebckichaa
open Go.RowKit

def AtPost (o : Option Tr) (w : World) (e : Ending) (w' : World) : Prop :=
  match o with
  | some u => ∃ b, NodeAt w u b ∧ e = .returned (.pointer (some ⟨b, 0, none⟩)) ∧ w = w'
  | none => e = .returned (.pointer none) ∧ w = w'

end Go.Proofs.Yteflpaebckichaa

/-! SpecAt -/
namespace Go.Proofs.Yteflpaebckichaa
open Go.RowKit

def subO (a b : ByteArray) : Option Tr :=
  match treeOf a with
  | some t => t.sub b.data.toList
  | none => none

theorem sub_long {t : Tr} {l : List UInt8} (h : t.carets < l.length) : t.sub l = none := by
  cases k : t.sub l with
  | none => rfl
  | some u => have := sub_carets _ _ _ k; omega

end Go.Proofs.Yteflpaebckichaa

/-! Br2 -/
namespace Go.Proofs.Yteflpaebckichaa
open Go.RowKit

theorem trOf_two (a b : ByteArray) (w : World) (ha : a.size ≤ 1000000) (hb : b.size ≤ 1000000) :
    Calls Try.prog 74 #[.string a, .string b] w fun e w' => e = .returned (.string (⟨#[40]⟩ ++ a ++ b ++ ⟨#[41]⟩)) ∧ w = w' := by
  go_enter Try.func74, Try.ntmps74
  go_wp2_with fail
  go_ret
  exact ⟨rfl, rfl⟩

/-- The answer of brAt: where there is none, some text and false. -/
def AtV (o : Option Tr) (m : Nat) (v : Value) : Prop :=
  match o with
  | some u => v = .tuple #[.string u.str, .bool true]
  | none => ∃ s : ByteArray, s.size ≤ m ∧ v = .tuple #[.string s, .bool false]
def GivesAt (o : Option Tr) (m : Nat) (w : World) (e : Ending) (w' : World) : Prop := ∃ v, AtV o m v ∧ Below w.heap.size w w' ∧ e = .returned v

theorem tail_list {s : ByteArray} {c : UInt8} {cs : List UInt8} (h : s.data.toList = c :: cs) : (s.extract 1 s.size).data.toList = cs := by
  rw [ext_end, h]; rfl
theorem byte0 {s : ByteArray} {c : UInt8} {cs : List UInt8} (h : s.data.toList = c :: cs) : ∃ hz : 0 < s.size, ((s[0]'hz).toNat : Int) = (c.toNat : Int) := by
  have hb := byteAt_drop (s := s) (a := 0) (c := c) (r := cs) (by simpa using h)
  exact ⟨hb.1, (byteAt_eq s ((0 : Nat) : Int) hb.1).symm.trans hb.2⟩
theorem u8_ne {c : UInt8} {n : Nat} (hn : n < 256) (h : c ≠ UInt8.ofNat n) : ¬ (c.toNat : Int) = (n : Int) := fun e => h (u8_eq hn e)

end Go.Proofs.Yteflpaebckichaa

/-! Br3 -/
namespace Go.Proofs.Yteflpaebckichaa
open Go.RowKit

/-- A tree rotated at an address, if there are both. -/
def turnO (k : Bool) (a b : ByteArray) : Option Tr :=
  match treeOf a with
  | some t => t.rotAt k b.data.toList
  | none => none
theorem turnO_carets {k : Bool} {a b : ByteArray} {u : Tr} (h : turnO k a b = some u) : u.carets ≤ 8 := by
  unfold turnO at h
  split at h
  · next t ht => have := (treeOf_some ht).2; have := rotAt_carets _ h; omega
  · simp at h

end Go.Proofs.Yteflpaebckichaa

/-! CatT -/
namespace Go.Proofs.Yteflpaebckichaa
open Go.RowKit

/-- A call that hands back a slice of texts of its own, or none. -/
def GivesOwn (ss : List ByteArray) (w : World) (e : Ending) (w' : World) : Prop := ∃ v, OwnS w.heap.size w' v ss ∧ Below w.heap.size w w' ∧ e = .returned v

/-- A slice of texts as a source: its length, and that its cells can be read. -/
def SrcT (w : World) (u : Value) (xs : List ByteArray) : Prop := SrcV w u (xs.map (Value.string)) ∧ ∃ oa c, u = .slice oa xs.length c
theorem SrcT.keep {w w' : World} {u : Value} {xs : List ByteArray} (h : SrcT w u xs) (hb : Below w.heap.size w w') : SrcT w' u xs := ⟨h.1.keep hb, h.2⟩
theorem SrcT.of {w : World} {u : Value} {xs : List ByteArray} (h : SrcV w u (xs.map (Value.string))) : SrcT w u xs := by
  refine ⟨h, ?_⟩
  rcases h with ⟨rfl, hx⟩ | ⟨ad, c, rfl, _⟩
  · have : xs = [] := by simpa using hx
    subst this
    exact ⟨none, 0, rfl⟩
  · exact ⟨some ad, c, by rw [List.length_map]⟩
theorem oneTs (xs : List ByteArray) : ∀ u ∈ xs.map (Value.string), u.oneCell' = true := by
  intro u hu
  obtain ⟨x, _, rfl⟩ := List.mem_map.1 hu
  rfl

/-- Slices in a row of their own, and what can be read of them. -/
def PartsS (w : World) (g : Nat) (us : List Value) (ps : List (List ByteArray)) : Prop := g < w.heap.size ∧ us.length = ps.length ∧ ∀ i, i < ps.length → w.cell? ⟨g, i, none⟩ = some (us.getD i undef) ∧ SrcT w (us.getD i undef) (ps.getD i [])
theorem PartsS.keep {w w' : World} {g : Nat} {us : List Value} {ps : List (List ByteArray)} (h : PartsS w g us ps) (hb : Below w.heap.size w w') : PartsS w' g us ps :=
  ⟨Nat.lt_of_lt_of_le h.1 hb.size, h.2.1, fun i hi => ⟨(hb.cell (p := ⟨g, i, none⟩) h.1).trans (h.2.2 i hi).1, (h.2.2 i hi).2.keep hb⟩⟩
theorem flatS_take {ps : List (List ByteArray)} {k : Nat} (h : k < ps.length) : (ps.take (k + 1)).flatten = (ps.take k).flatten ++ ps.getD k [] := by
  rw [List.take_succ_eq_append_getElem h, List.flatten_append]
  simp [h]
def flS (ps : List (List ByteArray)) (k : Nat) : Nat := (ps.take k).flatten.length
theorem flatS_le (ps : List (List ByteArray)) (k : Nat) : (ps.take k).flatten.length ≤ ps.flatten.length := by
  have := congrArg List.flatten (List.take_append_drop k ps)
  rw [List.flatten_append] at this
  have := congrArg List.length this
  rw [List.length_append] at this; omega

end Go.Proofs.Yteflpaebckichaa

/-! Pl1 -/
namespace Go.Proofs.Yteflpaebckichaa
open Go.RowKit

theorem OwnS.srcB {base : Nat} {w : World} {v : Value} {L : List ByteArray} (h : OwnS base w v L) : SrcV w v (L.map Value.string) := by
  rcases h.2 with ⟨hv, hn⟩ | ⟨g, cap, cur, hv, hb, hr⟩
  · left
    exact ⟨hv, by rw [List.length_eq_zero_iff.1 hn]; rfl⟩
  · subst hv
    refine .inr ⟨⟨g, 0, none⟩, cap, by simp, fun j x hj => ?_⟩
    have hj' : j < L.length := by have := (List.getElem?_eq_some_iff.1 hj).1; simpa using this
    rw [addr_add, World.ownsRow.cellAt h j (by omega), hj]
theorem OwnS.srcT {base : Nat} {w : World} {v : Value} {L : List ByteArray} (h : OwnS base w v L) : ∃ oa c, v = .slice oa L.length c ∧ SrcT w v L := by
  have h1 := SrcT.of h.srcB
  obtain ⟨oa, c, e⟩ := h1.2
  exact ⟨oa, c, e, h1⟩
theorem cell_newB (w : World) (cs : Array Value) (t : TypeId) (j : Nat) {u : Value} (h : cs[j]? = some u) : (w.alloc (.cells cs t (0, 0))).cell? ⟨w.heap.size, j, none⟩ = some u := by
  have := heap_alloc_at w (.cells cs t (0, 0))
  unfold World.cell?
  simp only [this]
  simpa using h

theorem here1_yes {k : Bool} {t : Tr} (h : (t.rot k).isSome = true) (here : ByteArray) : t.here1 k here = [here] := by unfold Tr.here1; rw [if_pos h]
theorem here1_no {k : Bool} {t : Tr} (h : (t.rot k).isSome = false) (here : ByteArray) : t.here1 k here = [] := by unfold Tr.here1; rw [if_neg (by simp [h])]

end Go.Proofs.Yteflpaebckichaa

/-! NrP -/
namespace Go.Proofs.Yteflpaebckichaa

/-- Texts in order. -/
def leB (a b : ByteArray) : Bool := decide (¬ b.data.toList < a.data.toList)
theorem u8_irrefl (a : UInt8) : ¬ a < a := UInt8.lt_irrefl a
theorem leB_total (a b : ByteArray) : leB a b = true ∨ leB b a = true := by
  unfold leB
  by_cases h : b.data.toList < a.data.toList
  · right
    simp only [decide_eq_true_eq]
    exact List.lt_asymm h
  · left; simpa using h
theorem leB_trans {a b c : ByteArray} (h : leB a b = true) (k : leB b c = true) : leB a c = true := by
  unfold leB at *
  simp only [decide_eq_true_eq] at *
  exact List.le_trans (α := UInt8) h k
theorem leB_antisymm {a b : ByteArray} (h : leB a b = true) (k : leB b a = true) : a = b := by
  unfold leB at *
  simp only [decide_eq_true_eq] at *
  exact ba_ext (List.le_antisymm (α := UInt8) h k)

/-- How many texts at the beginning are less. -/
def frontB (x : ByteArray) (l : List ByteArray) : Nat := (l.takeWhile (fun y => decide (y.data.toList < x.data.toList))).length
def insB (x : ByteArray) (l : List ByteArray) : List ByteArray := l.take (frontB x l) ++ [x] ++ l.drop (frontB x l)
theorem frontB_nil (x : ByteArray) : frontB x [] = 0 := rfl
theorem insB_cons (x y : ByteArray) (l : List ByteArray) : insB x (y :: l) = if y.data.toList < x.data.toList then y :: insB x l else x :: y :: l := by
  unfold insB frontB
  rw [List.takeWhile_cons]
  by_cases h : y.data.toList < x.data.toList
  · simp [h]
  · simp [h]
theorem frontB_cons (x y : ByteArray) (l : List ByteArray) : frontB x (y :: l) = if y.data.toList < x.data.toList then frontB x l + 1 else 0 := by
  unfold frontB
  rw [List.takeWhile_cons]
  by_cases h : y.data.toList < x.data.toList
  · simp [h]
  · simp [h]
theorem frontB_le (x : ByteArray) (l : List ByteArray) : frontB x l ≤ l.length := by
  unfold frontB; exact (List.takeWhile_sublist _).length_le
theorem frontB_lt {x : ByteArray} : ∀ {l : List ByteArray} {k : Nat}, k < frontB x l → (l.getD k ⟨#[]⟩).data.toList < x.data.toList := by
  intro l
  induction l with
  | nil => intro k h; rw [frontB_nil] at h; omega
  | cons y l ih =>
    intro k h
    rw [frontB_cons] at h
    split at h
    · next g =>
      cases k with
      | zero => exact g
      | succ k => exact ih (by omega)
    · omega
theorem frontB_at {x : ByteArray} : ∀ {l : List ByteArray}, frontB x l < l.length → ¬ (l.getD (frontB x l) ⟨#[]⟩).data.toList < x.data.toList := by
  intro l
  induction l with
  | nil => intro h; simp at h
  | cons y l ih =>
    intro h
    rw [frontB_cons] at h ⊢
    split
    · next g => rw [if_pos g] at h; exact ih (by simpa using h)
    · next g => exact g
theorem insB_perm (x : ByteArray) (l : List ByteArray) : List.Perm (insB x l) (x :: l) := by
  unfold insB
  have h1 : List.Perm (l.take (frontB x l) ++ [x] ++ l.drop (frontB x l)) (x :: (l.take (frontB x l) ++ l.drop (frontB x l))) := by
    rw [List.append_assoc]
    exact List.perm_middle
  rwa [List.take_append_drop] at h1
theorem insB_length (x : ByteArray) (l : List ByteArray) : (insB x l).length = l.length + 1 := by simpa using (insB_perm x l).length_eq
theorem insB_sorted {x : ByteArray} : ∀ {l : List ByteArray}, l.Pairwise (fun a b => leB a b = true) → (insB x l).Pairwise (fun a b => leB a b = true) := by
  intro l
  induction l with
  | nil => intro _; simp [insB, frontB]
  | cons y l ih =>
    intro h
    rw [List.pairwise_cons] at h
    rw [insB_cons]
    split
    · next g =>
      rw [List.pairwise_cons]
      refine ⟨fun z hz => ?_, ih h.2⟩
      have := (insB_perm x l).mem_iff.1 hz
      rcases List.mem_cons.1 this with rfl | hz
      · unfold leB; simp only [decide_eq_true_eq]; exact List.lt_asymm g
      · exact h.1 z hz
    · next g =>
      have hxy : leB x y = true := by unfold leB; simpa using g
      rw [List.pairwise_cons]
      refine ⟨fun z hz => ?_, by rw [List.pairwise_cons]; exact h⟩
      rcases List.mem_cons.1 hz with rfl | hz
      · exact hxy
      · exact leB_trans hxy (h.1 z hz)
/-- All put in order one by one. -/
def insAll (l acc : List ByteArray) : List ByteArray := l.foldl (fun acc x => insB x acc) acc
theorem insAll_perm (l : List ByteArray) : ∀ acc, List.Perm (insAll l acc) (l ++ acc) := by
  induction l with
  | nil => intro acc; exact List.Perm.refl _
  | cons x l ih =>
    intro acc
    show List.Perm (insAll l (insB x acc)) _
    refine (ih (insB x acc)).trans ?_
    refine ((insB_perm x acc).append_left l).trans ?_
    exact List.perm_middle
theorem insAll_sorted (l : List ByteArray) : ∀ acc, acc.Pairwise (fun a b => leB a b = true) → (insAll l acc).Pairwise (fun a b => leB a b = true) := by
  induction l with
  | nil => intro acc h; exact h
  | cons x l ih => intro acc h; exact ih _ (insB_sorted h)
theorem insAll_length (l acc : List ByteArray) : (insAll l acc).length = l.length + acc.length := by rw [(insAll_perm l acc).length_eq, List.length_append]
theorem insAll_append (l m acc : List ByteArray) : insAll (l ++ m) acc = insAll m (insAll l acc) := by unfold insAll; rw [List.foldl_append]
theorem insAll_one (x : ByteArray) (acc : List ByteArray) : insAll [x] acc = insB x acc := rfl
/-- Whatever is in order and holds the same texts is that list. -/
theorem insAll_unique {l m : List ByteArray} (hp : List.Perm m l) (hs : m.Pairwise (fun a b => leB a b = true)) : m = insAll l [] := by
  have h1 : List.Perm m (insAll l []) := hp.trans (by have := insAll_perm l []; rw [List.append_nil] at this; exact this.symm)
  exact List.Perm.eq_of_pairwise (fun a b _ _ h k => leB_antisymm h k) hs (insAll_sorted l [] List.Pairwise.nil) h1

/-- The trees behind turns at addresses (those that can be made). -/
def turnL (k : Bool) (t : Tr) (as1 : List ByteArray) : List ByteArray := as1.map fun a => match t.rotAt k a.data.toList with | some u => u.str | none => ⟨#[]⟩
def reachT (t : Tr) : List ByteArray := turnL false t (t.spots false ⟨#[]⟩) ++ turnL true t (t.spots true ⟨#[]⟩)
def nearT (t : Tr) : List ByteArray := insAll (reachT t) []
theorem turnL_len (k : Bool) (t : Tr) (as1 : List ByteArray) : (turnL k t as1).length = as1.length := by simp [turnL]
theorem reachT_len (t : Tr) : (reachT t).length ≤ 2 * t.carets := by
  have h1 := spots_len (k := false) t ⟨#[]⟩
  have h2 := spots_len (k := true) t ⟨#[]⟩
  unfold reachT; rw [List.length_append, turnL_len, turnL_len]; omega
theorem nearT_len (t : Tr) : (nearT t).length ≤ 2 * t.carets := by
  have := reachT_len t
  unfold nearT; rw [insAll_length]; simpa using this
end Go.Proofs.Yteflpaebckichaa

/-! Nb1 -/
namespace Go.Proofs.Yteflpaebckichaa
open Go.RowKit

theorem less_list : ∀ (x y : List UInt8), Go.Op.bytesLess x y = decide (x < y) := by
  intro x
  induction x with
  | nil => intro y; cases y <;> simp [Go.Op.bytesLess]
  | cons a x ih =>
    intro y
    cases y with
    | nil => simp [Go.Op.bytesLess]
    | cons b y =>
      rw [Go.Op.bytesLess, ih y, Bool.eq_iff_iff]
      simp [List.cons_lt_cons_iff]
theorem less_eq (a b : ByteArray) : Go.Op.bytesLess a.toList b.toList = decide (a.data.toList < b.data.toList) := by
  rw [less_list, Lib.toList_data, Lib.toList_data]

/-- An append at a step of a region, of a source that may be empty. -/
theorem step_append_src {P : Program} {w : World} {ops : Array Oper} {o : Oper} {a : Act} {K : Act → World → Prop} {Q : Exit → Act → World → Prop} {E : Prop} (hgd : o.guard = none) (s x : Operand) (t : TypeId)
    (ho : o.op = .call { callee := .builtin .append, args := #[s, x], argTypes := #[t, t] })
    (base : Nat) (e : TypeId) (i : TypeInfo) (z : Value) (bytes : Nat) (ht : P.underlying t = some (.slice e)) (hi : P.info? e = some i) (hz : i.zero = some z)
    (hsize : i.size = 1) (hby : i.bytes = bytes) (hzs : z.cells.size = 1)
    (v : Value) (n : Nat) (xs : List Value) (hs : a.eval s = v) (hown : w.ownsRow base e 1 v n xs)
    (ad : Addr) (c nl : Nat) (ys : List Value) (hnl : ys.length = nl) (hx : a.eval x = .slice (some ad) nl c) (hc : ∀ j u, ys[j]? = some u → w.cell? (ad.add j) = some u) (h1 : ∀ y ∈ ys, y.oneCell' = true)
    (h63 : n + ys.length ≤ maxLen) (hbytes : (n + ys.length) * bytes ≤ 140737488355328) (hbase : base ≤ w.heap.size)
    (h : ∀ v' w', w'.ownsRow base e 1 v' (n + ys.length) (xs ++ ys) → w.grownBy w' v.ownBlock → K (a.put o.dst v') w') :
    if Region.wanted o (yielded ops a.tmps) = true then Oper.wp P o a w K Q else E := by
  subst hnl
  have hw : Region.wanted o (yielded ops a.tmps) = true := by simp [Region.wanted, hgd]
  rw [if_pos hw]
  obtain ⟨v', w', hr, h2, h3, _, _⟩ := run_append_own_at (P := P) w base t o.type e i z 1 bytes ht hi hz hsize hby hzs (by decide) v n xs hown ad ys.length c ys (by simp) hc h1 h63 hbytes hbase
  unfold Oper.wp execOp
  simp only [ho, resolve, invoke, builtin, Sem.run_bind, Sem.run_pure, Result.andThen_ok, List.map_toArray, List.map_cons, List.map_nil, hs, hx, hr]
  exact h v' w' h2 h3

theorem step_append_none {P : Program} {w : World} {ops : Array Oper} {o : Oper} {a : Act} {K : Act → World → Prop} {Q : Exit → Act → World → Prop} {E : Prop} (hgd : o.guard = none) (s x : Operand) (t : TypeId)
    (ho : o.op = .call { callee := .builtin .append, args := #[s, x], argTypes := #[t, t] })
    (base : Nat) (e : TypeId) (i : TypeInfo) (ht : P.underlying t = some (.slice e)) (hi : P.info? e = some i)
    (v : Value) (n : Nat) (xs : List Value) (hs : a.eval s = v) (hown : w.ownsRow base e 1 v n xs) (hx : a.eval x = .slice none 0 0)
    (h : K (a.put o.dst v) w) : if Region.wanted o (yielded ops a.tmps) = true then Oper.wp P o a w K Q else E := by
  have hw : Region.wanted o (yielded ops a.tmps) = true := by simp [Region.wanted, hgd]
  rw [if_pos hw]
  have hrun := run_append_owned_none (P := P) (w := w) base t o.type e i 1 ht hi v n xs hown
  unfold Oper.wp
  simp [execOp, ho, resolve, invoke, builtin, hs, hx, hrun, Result.andThen]
  exact h
end Go.Proofs.Yteflpaebckichaa
