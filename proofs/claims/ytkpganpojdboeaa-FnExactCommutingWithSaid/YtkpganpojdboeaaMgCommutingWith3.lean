/- FnExactCommutingWith: for every input the law returns true and leaves its arguments as they were. No conditions. -/
import Derived.Test.YtkpganpojdboeaaMgCommutingWith2
import Derived.BigQuiet
import Derived.ProofKit
import Derived.OpenShut
import Derived.ShutString
import Derived.ChangeOld
import Derived.Below
import Derived.Lib.SmallJoins
/-! Ls1 -/
namespace Go.Proofs.Ytkpganpojdboeaa
open Go.RowKit

/-- A slice of texts, from whatever place in its block on. -/
def ReadS (base : Nat) (w : World) (v : Value) (ss : List ByteArray) : Prop :=
  ∃ oa cap, v = .slice oa ss.length cap ∧ ss.length ≤ cap ∧ cap ≤ maxLen ∧ ∀ i, i < ss.length → ∃ g q, oa = some ⟨g, q, none⟩ ∧ base ≤ g ∧ g < w.heap.size ∧ w.cell? ⟨g, q + i, none⟩ = some (.string (ss.getD i ⟨#[]⟩))
theorem ReadS.mono {base base' : Nat} {w : World} {v : Value} {ss : List ByteArray} (h : ReadS base w v ss) (hb : base' ≤ base) : ReadS base' w v ss := by
  obtain ⟨oa, cap, h1, h2, h3, h4⟩ := h
  refine ⟨oa, cap, h1, h2, h3, fun i hi => ?_⟩
  obtain ⟨g, q, e, k, r⟩ := h4 i hi
  exact ⟨g, q, e, Nat.le_trans hb k, r⟩
theorem ReadS.keep {base : Nat} {w w' : World} {v : Value} {ss : List ByteArray} (h : ReadS base w v ss) (hb : Below w.heap.size w w') : ReadS base w' v ss := by
  obtain ⟨oa, cap, h1, h2, h3, h4⟩ := h
  refine ⟨oa, cap, h1, h2, h3, fun i hi => ?_⟩
  obtain ⟨g, q, e, k, hg, hc⟩ := h4 i hi
  exact ⟨g, q, e, k, Nat.lt_of_lt_of_le hg hb.size, (hb.cell (p := ⟨g, q + i, none⟩) hg).trans hc⟩
theorem CellsS.read {b : Nat} {w : World} {v : Value} {ss : List ByteArray} (h : CellsS b w v ss) : ReadS b w v ss := by
  rcases h with ⟨rfl, rfl⟩ | ⟨g, cap, rfl, hb, h2, h3, h4, h5, _⟩
  · exact ⟨none, 0, rfl, Nat.le_refl _, Nat.zero_le _, fun i hi => by simp at hi⟩
  · exact ⟨_, cap, rfl, h3, h4, fun i hi => ⟨g, 0, rfl, hb, h2, by rw [Nat.zero_add]; exact h5 i hi⟩⟩
/-- Texts in their order, none twice. -/
def IncS (ss : List ByteArray) : Prop := ∀ i j, i < j → j < ss.length → Go.Op.bytesLess (ss.getD i ⟨#[]⟩).toList (ss.getD j ⟨#[]⟩).toList = true
theorem bytesLess_irr : ∀ l : List UInt8, Go.Op.bytesLess l l = false := by
  intro l
  induction l with
  | nil => rfl
  | cons a l ih => simp [Go.Op.bytesLess, ih]
theorem IncS.ne {ss : List ByteArray} (h : IncS ss) {i j : Nat} (hi : i < j) (hj : j < ss.length) : ¬ (ss.getD i ⟨#[]⟩).toList = (ss.getD j ⟨#[]⟩).toList := by
  intro e
  have h1 := h i j hi hj
  rw [e, bytesLess_irr] at h1
  cases h1
def GivesRead (base : Nat) (ss : List ByteArray) (w : World) (e : Ending) (w' : World) : Prop := ∃ v, ReadS base w' v ss ∧ Below w.heap.size w w' ∧ e = .returned v
theorem take_getD {ss : List ByteArray} {h i : Nat} (hi : i < h) (_hh : h ≤ ss.length) : (ss.take h).getD i ⟨#[]⟩ = ss.getD i ⟨#[]⟩ := by
  simp [List.getD_eq_getElem?_getD, hi]
theorem drop_getD {ss : List ByteArray} (h i : Nat) : (ss.drop h).getD i ⟨#[]⟩ = ss.getD (h + i) ⟨#[]⟩ := by
  simp [List.getD_eq_getElem?_getD]
theorem IncS.take {ss : List ByteArray} (h : IncS ss) {k : Nat} (hk : k ≤ ss.length) : IncS (ss.take k) := by
  intro i j hi hj
  rw [List.length_take] at hj
  rw [take_getD (by omega) hk, take_getD (by omega) hk]
  exact h i j hi (by omega)
theorem IncS.drop {ss : List ByteArray} (h : IncS ss) (k : Nat) : IncS (ss.drop k) := by
  intro i j hi hj
  rw [List.length_drop] at hj
  rw [drop_getD, drop_getD]
  exact h _ _ (by omega) (by omega)
theorem take_snocS {ss : List ByteArray} {k : Nat} (h : k < ss.length) : ss.take (k + 1) = ss.take k ++ [ss.getD k ⟨#[]⟩] := by
  rw [List.take_succ_eq_append_getElem h]; simp [h]
theorem one_str7 (s : ByteArray) : ∀ u ∈ [Value.string s], u.oneCell' = true := by intro u hu; simp at hu; subst hu; rfl
theorem OwnS.one5 {base : Nat} {w : World} {v : Value} {xs : List ByteArray} {m : ByteArray} (h : w.ownsRow base 9 1 v (xs.length + 1) (xs.map Value.string ++ [Value.string m])) : OwnS base w v (xs ++ [m]) := by
  unfold OwnS
  rw [List.map_append, List.length_append]
  exact h

set_option maxRecDepth 100000 in
set_option maxHeartbeats 8000000 in
theorem lnSorted_any (base : Nat) : ∀ (n : Nat) (ss : List ByteArray), ss.length = n → n ≤ 1000 → IncS ss → ∀ (v : Value) (w : World), base ≤ w.heap.size → ReadS base w v ss →
    Calls Try.prog 98 #[v] w (GivesRead base ss w) := by
  obtain ⟨i0, hi, hz0, hz1, hz2⟩ := info_parts info_str
  intro n
  induction n using Nat.strongRecOn with
  | _ n IH =>
    intro ss hn hn9 hinc v w hbs hv
    by_cases h2 : n < 2
    · have hv0 := Lib.hid hv
      obtain ⟨oa, cap, rfl, h3, h4, h5⟩ := hv
      rw [hn] at h3 hv0 ⊢
      have hlt : (n : Int) < 2 := by omega
      clear h5 hinc IH
      have HN := Lib.hid hn
      clear hn
      go_enter Try.func98, Try.ntmps98
      go_wp2_with fail
      go_ret
      exact ⟨_, hv0.out, Below.refl _ _, rfl⟩
    · have hlt : ¬ (n : Int) < 2 := by omega
      obtain ⟨h, hh⟩ : ∃ h, h = n / 2 := ⟨_, rfl⟩
      have hh1 : 1 ≤ h := by omega
      have hh2 : h < n := by omega
      have eq2 : (n : Int).tdiv 2 = (h : Int) := by rw [hh, Int.tdiv_eq_ediv_of_nonneg (by omega)]; omega
      have hwr : IntKind.i64.wrap (h : Int) = (h : Int) := by rw [IntKind.wrap_i64]; omega
      have R1 : ∀ v w, base ≤ w.heap.size → ReadS base w v (ss.take h) → Calls Try.prog 98 #[v] w (GivesRead base (ss.take h) w) := fun v w hb hv => IH h (by omega) (ss.take h) (by rw [List.length_take]; omega) (by omega) (hinc.take (by omega)) v w hb hv
      have R2 : ∀ v w, base ≤ w.heap.size → ReadS base w v (ss.drop h) → Calls Try.prog 98 #[v] w (GivesRead base (ss.drop h) w) := fun v w hb hv => IH (n - h) (by omega) (ss.drop h) (by rw [List.length_drop]; omega) (by omega) (hinc.drop h) v w hb hv
      clear IH
      obtain ⟨oa, cap, rfl, h3, h4, h5⟩ := hv
      obtain ⟨g, q, rfl, hbg, hg, _⟩ := h5 0 (by omega)
      have V1 : ReadS base w (.slice (some ⟨g, q, none⟩) h cap) (ss.take h) := ⟨_, cap, by rw [List.length_take, Nat.min_eq_left (by omega)], by rw [List.length_take]; omega, h4, fun i hi => by
        rw [List.length_take] at hi
        obtain ⟨g', q', e, hk', hg', hc⟩ := h5 i (by omega)
        exact ⟨g', q', e, hk', hg', by rw [take_getD (by omega) (by omega)]; exact hc⟩⟩
      have V2 : ReadS base w (.slice (some ⟨g, q + h, none⟩) (n - h) (cap - h)) (ss.drop h) := ⟨_, cap - h, by rw [List.length_drop, hn], by rw [List.length_drop]; omega, by omega, fun i hi => by
        rw [List.length_drop] at hi
        obtain ⟨g', q', e, hk', hg', hc⟩ := h5 (h + i) (by omega)
        injection e with e
        injection e with e1 e2
        subst e1 e2
        exact ⟨g, q + h, rfl, hk', hg', by rw [drop_getD, Nat.add_assoc]; exact hc⟩⟩
      rw [hn] at h3 ⊢
      unfold maxLen at h4
      have HV1 := Lib.hid V1
      have HV2 := Lib.hid V2
      have HN := Lib.hid hn
      have HI := Lib.hid hinc
      have hcn : ¬ cap = h := by omega
      have hch : (h : Int) ≤ (cap : Int) := by omega
      have h0h : (0 : Int) ≤ (h : Int) := by omega
      have h63 : (n : Int) ≤ 1000 := by omega
      have hh3 : (h : Int) ≤ (n : Int) := by omega
      clear V1 V2 hn hinc h5 hh
      go_enter Try.func98, Try.ntmps98
      go_wp2_with fail
      have hzr := Below.refl w.heap.size w
      refine wp_region_held_drew (S := (fun w' : World => 0 ≤ w'.heap.size)) (by kernel_rfl) (Nat.zero_le _) (fun hH0 => ?_)
      refine wpAnyH_take (i := 0) (oi := ?oi201) (v := ?vv201) ?hi201 ?hn201 ?hf201 ?hr201 ?hq201 (Or.inl ⟨?hg201, ?hy201⟩) hH0 ?rest201
      case hi201 => (simp only [List.getElem?_toArray, List.getElem?_cons_zero]; rfl)
      case hn201 => kernel_rfl
      case hf201 => kernel_rfl
      case hr201 => kernel_rfl
      case hg201 => rfl
      case hy201 => (intro w hSw; (try dsimp only at hSw); go_simp; first | done | with_reducible rfl)
      case hq201 => exact fun _ _ _ h => h
      try dsimp only [Act.put]
      refine wpAnyH_take (i := 1) (oi := ?oi202) (v := ?vv202) ?hi202 ?hn202 ?hf202 ?hr202 ?hq202 (Or.inl ⟨?hg202, ?hy202⟩) hH0 ?rest202
      case hi202 => (simp only [List.getElem?_toArray, List.getElem?_cons_succ, List.getElem?_cons_zero]; rfl)
      case hn202 => kernel_rfl
      case hf202 => kernel_rfl
      case hr202 => kernel_rfl
      case hg202 => rfl
      case hy202 => (intro w hSw; (try dsimp only at hSw); go_simp; first | done | with_reducible rfl)
      case hq202 => exact fun _ _ _ h => h
      try dsimp only [Act.put]
      refine wpAnyH_take (i := 2) (oi := ?oi203) (v := ?vv203) ?hi203 ?hn203 ?hf203 ?hr203 ?hq203 (Or.inl ⟨?hg203, ?hy203⟩) hH0 ?rest203
      case hi203 => (simp only [List.getElem?_toArray, List.getElem?_cons_succ, List.getElem?_cons_zero]; rfl)
      case hn203 => kernel_rfl
      case hf203 => kernel_rfl
      case hr203 => kernel_rfl
      case hg203 => rfl
      case hy203 => (intro w hSw; (try dsimp only at hSw); go_simp; first | done | with_reducible rfl)
      case hq203 => exact fun _ _ _ h => h
      try dsimp only [Act.put]
      refine wpAnyH_take (i := 3) (oi := ?oi204) (v := ?vv204) ?hi204 ?hn204 ?hf204 ?hr204 ?hq204 (Or.inl ⟨?hg204, ?hy204⟩) hH0 ?rest204
      case hi204 => (simp only [List.getElem?_toArray, List.getElem?_cons_succ, List.getElem?_cons_zero]; rfl)
      case hn204 => kernel_rfl
      case hf204 => kernel_rfl
      case hr204 => kernel_rfl
      case hg204 => rfl
      case hy204 => (intro w hSw; (try dsimp only at hSw); go_simp; first | done | with_reducible rfl)
      case hq204 => exact fun _ _ _ h => h
      try dsimp only [Act.put]
      refine wpAnyH_take (i := 4) (oi := ?oi205) (v := ?vv205) ?hi205 ?hn205 ?hf205 ?hr205 ?hq205 (Or.inl ⟨?hg205, ?hy205⟩) hH0 ?rest205
      case hi205 => (simp only [List.getElem?_toArray, List.getElem?_cons_succ, List.getElem?_cons_zero]; rfl)
      case hn205 => kernel_rfl
      case hf205 => kernel_rfl
      case hr205 => kernel_rfl
      case hg205 => rfl
      case hy205 => (intro w hSw; (try dsimp only at hSw); go_simp; first | done | with_reducible rfl)
      case hq205 => exact fun _ _ _ h => h
      try dsimp only [Act.put]
      refine wpAnyH_take (i := 6) (oi := ?oi206) (v := ?vv206) ?hi206 ?hn206 ?hf206 ?hr206 ?hq206 (Or.inl ⟨?hg206, ?hy206⟩) hH0 ?rest206
      case hi206 => (simp only [List.getElem?_toArray, List.getElem?_cons_succ, List.getElem?_cons_zero]; rfl)
      case hn206 => kernel_rfl
      case hf206 => kernel_rfl
      case hr206 => kernel_rfl
      case hg206 => rfl
      case hy206 => (intro w hSw; (try dsimp only at hSw); go_simp; first | done | with_reducible rfl)
      case hq206 => exact fun _ _ _ h => h
      try dsimp only [Act.put]
      refine wpAnyH_take (i := 7) (oi := ?oi207) (v := ?vv207) ?hi207 ?hn207 ?hf207 ?hr207 ?hq207 (Or.inl ⟨?hg207, ?hy207⟩) hH0 ?rest207
      case hi207 => (simp only [List.getElem?_toArray, List.getElem?_cons_succ, List.getElem?_cons_zero]; rfl)
      case hn207 => kernel_rfl
      case hf207 => kernel_rfl
      case hr207 => kernel_rfl
      case hg207 => rfl
      case hy207 => (intro w hSw; (try dsimp only at hSw); go_simp; first | done | with_reducible rfl)
      case hq207 => exact fun _ _ _ h => h
      try dsimp only [Act.put]
      refine wpAnyH_take (i := 8) (oi := ?oi208) (v := ?vv208) ?hi208 ?hn208 ?hf208 ?hr208 ?hq208 (Or.inl ⟨?hg208, ?hy208⟩) hH0 ?rest208
      case hi208 => (simp only [List.getElem?_toArray, List.getElem?_cons_succ, List.getElem?_cons_zero]; rfl)
      case hn208 => kernel_rfl
      case hf208 => kernel_rfl
      case hr208 => kernel_rfl
      case hg208 => rfl
      case hy208 => (intro w hSw; (try dsimp only at hSw); go_simp; first | done | with_reducible rfl)
      case hq208 => exact fun _ _ _ h => h
      try dsimp only [Act.put]
      refine wpAnyH_take (i := 9) (oi := ?oi209) (v := ?vv209) ?hi209 ?hn209 ?hf209 ?hr209 ?hq209 (Or.inl ⟨?hg209, ?hy209⟩) hH0 ?rest209
      case hi209 => (simp only [List.getElem?_toArray, List.getElem?_cons_succ, List.getElem?_cons_zero]; rfl)
      case hn209 => kernel_rfl
      case hf209 => kernel_rfl
      case hr209 => kernel_rfl
      case hg209 => rfl
      case hy209 => (intro w hSw; (try dsimp only at hSw); go_simp; first | done | with_reducible rfl)
      case hq209 => exact fun _ _ _ h => h
      try dsimp only [Act.put]
      refine wpAnyH_take (i := 10) (oi := ?oi210) (v := ?vv210) ?hi210 ?hn210 ?hf210 ?hr210 ?hq210 (Or.inl ⟨?hg210, ?hy210⟩) hH0 ?rest210
      case hi210 => (simp only [List.getElem?_toArray, List.getElem?_cons_succ, List.getElem?_cons_zero]; rfl)
      case hn210 => kernel_rfl
      case hf210 => kernel_rfl
      case hr210 => kernel_rfl
      case hg210 => rfl
      case hy210 => (intro w hSw; (try dsimp only at hSw); go_simp; first | done | with_reducible rfl)
      case hq210 => exact fun _ _ _ h => h
      try dsimp only [Act.put]
      refine held_one 5 rfl (by kernel_rfl) (fun K hK => ?_)
      go_simp
      refine (R1 _ _ (Nat.le_trans hbs hzr.drew.size) (ReadS.keep HV1.out hzr.drew)).mono ?_; rintro e w21 ⟨va, ra, hb21, rfl⟩
      have hb21' := nx hzr.drew hb21
      go_wp2_with fail
      have hH1 : (fun w' : World => 0 ≤ w'.heap.size) _ := Nat.zero_le w21.heap.size
      refine hK.out (fun w' : World => 0 ≤ w'.heap.size) _ _ (fun _ h => h) hH1 ?_
      clear hK K
      try dsimp only [Act.put]
      refine held_one 11 rfl (by kernel_rfl) (fun K hK => ?_)
      go_simp
      refine (R2 _ _ (Nat.le_trans hbs hb21'.size) (ReadS.keep HV2.out hb21')).mono ?_; rintro e w22 ⟨vb, rb, hb22, rfl⟩
      have hb22' := nx hb21' hb22
      replace ra := ReadS.keep ra hb22
      go_wp2_with fail
      have hH2 : (fun w' : World => 0 ≤ w'.heap.size) _ := Nat.zero_le w22.heap.size
      refine hK.out (fun w' : World => 0 ≤ w'.heap.size) _ _ (fun _ h => h) hH2 ?_
      clear hK K
      try dsimp only [Act.put]
      refine wpAnyH_take (i := 12) (oi := ?oi211) (v := ?vv211) ?hi211 ?hn211 ?hf211 ?hr211 ?hq211 (Or.inl ⟨?hg211, ?hy211⟩) hH2 ?rest211
      case hi211 => (simp only [List.getElem?_toArray, List.getElem?_cons_succ, List.getElem?_cons_zero]; rfl)
      case hn211 => kernel_rfl
      case hf211 => kernel_rfl
      case hr211 => kernel_rfl
      case hg211 => rfl
      case hy211 => (intro w hSw; (try dsimp only at hSw); go_simp; first | done | with_reducible rfl)
      case hq211 => exact fun _ _ _ h => h
      try dsimp only [Act.put]
      refine wpAnyH_take (i := 13) (oi := ?oi212) (v := ?vv212) ?hi212 ?hn212 ?hf212 ?hr212 ?hq212 (Or.inl ⟨?hg212, ?hy212⟩) hH2 ?rest212
      case hi212 => (simp only [List.getElem?_toArray, List.getElem?_cons_succ, List.getElem?_cons_zero]; rfl)
      case hn212 => kernel_rfl
      case hf212 => kernel_rfl
      case hr212 => kernel_rfl
      case hg212 => rfl
      case hy212 => (intro w hSw; (try dsimp only at hSw); go_simp; first | done | with_reducible rfl)
      case hq212 => exact fun _ _ _ h => h
      try dsimp only [Act.put]
      refine wpAnyH_done (by kernel_rfl) ?_ _
      simp only [List.setIfInBounds_toArray, List.set_cons_zero, List.set_cons_succ]
      obtain ⟨oa1, c1, rfl, p1, p2, p3⟩ := ra
      obtain ⟨oa2, c2, rfl, p4, p5, p6⟩ := rb
      have el1 : (ss.take h).length = h := by rw [List.length_take]; have := HN.out; omega
      have el2 : (ss.drop h).length = n - h := by rw [List.length_drop, HN.out]
      rw [el1] at p1 p3 ⊢
      rw [el2] at p4 p6 ⊢
      unfold maxLen at p2 p5
      have HA := Lib.hid p3
      have HB := Lib.hid p6
      obtain ⟨m, hm⟩ : ∃ m, m = n - h := ⟨_, rfl⟩
      rw [← hm] at p4 ⊢
      have hm1 : h + m = n := by omega
      have HM := Lib.hid hm
      clear hm p3 p6 el1 el2 hb21 hb22 hb21' hzr R1 R2 HV1 HV2 h3 h4 hcn hch hwr eq2
      go_wp2_with fail
      go_loopw [5, 6, 7] (fun u i j wr => ∃ a b : Nat, a ≤ h ∧ b ≤ m ∧ (b = 0 ∨ a = h) ∧ i = .int .i64 (a : Int) ∧ j = .int .i64 (b : Int) ∧ OwnS w22.heap.size wr u (ss.take (a + b)) ∧ Below w22.heap.size w22 wr ∧ (a + b = 0 → u = .slice none 0 0)) (fun _ i j _ => n - ((intOf i).toNat + (intOf j).toNat))
      case atStart => exact ⟨0, 0, Nat.zero_le _, Nat.zero_le _, .inl rfl, rfl, rfl, OwnS.nil _ _, Below.refl _ _, fun _ => rfl⟩
      case round =>
        obtain ⟨a, b, ha, hb, hab, rfl, rfl, hown, hbw, hu0⟩ := hrel
        by_cases hlt1 : a < h
        · obtain rfl : b = 0 := by omega
          obtain ⟨g1, q1, rfl, _, hg1, a1⟩ := HA.out a hlt1
          obtain ⟨g2, q2, rfl, _, hg2, b1⟩ := HB.out 0 (by rw [← HM.out]; omega)
          have k1 := (hbw.cell (p := ⟨g1, q1 + a, none⟩) hg1).trans a1
          have k2 := (hbw.cell (p := ⟨g2, q2 + 0, none⟩) hg2).trans b1
          rw [take_getD hlt1 (by rw [HN.out]; omega)] at k1
          rw [drop_getD] at k2
          simp only [Nat.add_zero] at k1 k2 hown
          have hless := HI.out a h hlt1 (by rw [HN.out]; omega)
          have hsn := take_snocS (ss := ss) (k := a) (by rw [HN.out]; omega)
          have htl : (ss.take a).length = a := by rw [List.length_take]; have := HN.out; omega
          have HTL := Lib.hid htl
          have HSN := Lib.hid hsn
          have hi1 : (a : Int) < (h : Int) := by omega
          have hm0 : 0 < m := by omega
          have hj1 : ¬ (0 : Int) = (m : Int) := by omega
          clear a1 b1 hsn htl
          rcases Nat.eq_zero_or_pos a with rfl | hpos
          · have hgr1 : g1 < wr.heap.size := Nat.lt_of_lt_of_le hg1 hbw.size
            have hgr2 : g2 < wr.heap.size := Nat.lt_of_lt_of_le hg2 hbw.size
            simp only [Nat.add_zero] at k1
            obtain rfl := hu0 rfl
            obtain ⟨X, hX⟩ : ∃ X, X = ss.getD 0 ⟨#[]⟩ := ⟨_, rfl⟩
            obtain ⟨Y, hY⟩ : ∃ Y, Y = ss.getD h ⟨#[]⟩ := ⟨_, rfl⟩
            have hsn := HSN.out
            rw [← hX] at k1 hless hsn
            rw [← hY] at k2 hless
            have HSX := Lib.hid hsn
            have hle : ∀ w, (binOp BinOp.leq 9 (.string X) (.string Y)).run Try.prog w = .ok (.bool true) w := fun w => by
              have e : (binOp BinOp.leq 9 (.string X) (.string Y)).run Try.prog w = .ok (.bool (Go.Op.bytesLess X.toList Y.toList || X.toList == Y.toList)) w := rfl
              rw [e, hless]
              rfl
            clear hsn hless hY HSN
            clear hX
            go_wp2_with fail
            refine wp_region_cls (by kernel_rfl) (by kernel_rfl) ?_
            repeat (
              refine wpQuiet_step (fun K hK => ?_)
              go_simp
              first
                | (refine hK _ ?_; clear hK K)
                | (refine ⟨_, fun _ _ => rfl, hK _ ?_⟩; clear hK K)
                | (apply Exists.intro
                   refine ⟨fun w' hw' => ?_, hK _ ?_⟩
                   · first
                       | (rw [hw'.cell hgr1 k1]; exact ⟨rfl, rfl⟩)
                       | (rw [hw'.cell hgr2 k2]; exact ⟨rfl, rfl⟩)
                       | (rw [hle]; exact ⟨rfl, rfl⟩)
                   clear hK K))
            refine wpQuiet_nil ?_
            intro w' hw'
            have hbw2 := nx hbw hw'
            have hsz2 := hbw2.size
            have hown2 := OwnS.keep hown hw'
            have k8 := (Below.cell (p := ⟨g1, q1, none⟩) hw' hgr1).trans k1
            clear k1 hgr1 hle
            clear k2 hgr2 hown hbw hw'
            unfold OwnS at hown2
            go_wp2_with (at_builtin; go_loud (refine wpList_append_own _ rfl _ _ 99 rfl w22.heap.size 9 i0 (.string ⟨#[]⟩) 1 16 Try.underlying99 hi hz0 hz1 hz2 rfl (by decide) _ _ _ rfl (hown2.alloc _) ⟨_, 0, none⟩ 1 1 [.string X] rfl rfl (new1 _ _ _) (one_str7 _) (by rw [HTL.out]; unfold maxLen; omega) (by rw [HTL.out]; omega) (by simp; omega) ?_); intro v' w9 hown' hgrow hnn)
            have hbw9 := below_app hbw2 hown2 (Nat.le_refl _) hgrow
            have hown1 : OwnS w22.heap.size w9 v' (ss.take (0 + 1)) := by rw [HSX.out]; exact OwnS.one5 hown'
            clear hown2 hown' hgrow hbw2 hnn
            go_wp2_with fail
            go_roundw
            case rel => exact ⟨0 + 1, 0, by omega, by omega, .inl rfl, by go_num, by go_num, hown1, hbw9, fun h => by omega⟩
            case measure => simp [intOf]; omega
          · have hgr1 : g1 < wr.heap.size := Nat.lt_of_lt_of_le hg1 hbw.size
            have hgr2 : g2 < wr.heap.size := Nat.lt_of_lt_of_le hg2 hbw.size
            clear hu0
            obtain ⟨X, hX⟩ : ∃ X, X = ss.getD a ⟨#[]⟩ := ⟨_, rfl⟩
            obtain ⟨Y, hY⟩ : ∃ Y, Y = ss.getD h ⟨#[]⟩ := ⟨_, rfl⟩
            have hsn := HSN.out
            rw [← hX] at k1 hless hsn
            rw [← hY] at k2 hless
            have HSX := Lib.hid hsn
            have hle : ∀ w, (binOp BinOp.leq 9 (.string X) (.string Y)).run Try.prog w = .ok (.bool true) w := fun w => by
              have e : (binOp BinOp.leq 9 (.string X) (.string Y)).run Try.prog w = .ok (.bool (Go.Op.bytesLess X.toList Y.toList || X.toList == Y.toList)) w := rfl
              rw [e, hless]
              rfl
            clear hsn hless hY HSN
            have hne := HI.out.ne (i := a - 1) (j := a) (by omega) (by rw [HN.out]; omega)
            rw [← hX] at hne
            have hnb := beq_false_of_ne hne
            clear hne
            have hps : (a - 1) < (ss.take a).length := by rw [HTL.out]; omega
            rcases hown.cells with ⟨_, h0⟩ | ⟨g5, cap5, rfl, hb5, hg5, q5, q6, hx5, hf5⟩
            · have := congrArg List.length h0; rw [HTL.out] at this; simp at this; omega
            have k5 := hx5 (a - 1) hps
            rw [take_getD (by omega) (by have := HN.out; omega)] at k5
            generalize ss.getD (a - 1) ⟨#[]⟩ = PP at *
            have ew : IntKind.i64.wrap ((a : Nat) - 1 : Int) = ((a - 1 : Nat) : Int) := by rw [IntKind.wrap_i64]; omega
            rw [HTL.out] at q5 hown ⊢
            unfold maxLen at q6
            clear hx5 hf5 hps
            clear hX
            go_wp2_with fail
            refine wp_region_cls (by kernel_rfl) (by kernel_rfl) ?_
            repeat (
              refine wpQuiet_step (fun K hK => ?_)
              go_simp
              first
                | (refine hK _ ?_; clear hK K)
                | (refine ⟨_, fun _ _ => rfl, hK _ ?_⟩; clear hK K)
                | (apply Exists.intro
                   refine ⟨fun w' hw' => ?_, hK _ ?_⟩
                   · first
                       | (rw [hw'.cell hgr1 k1]; exact ⟨rfl, rfl⟩)
                       | (rw [hw'.cell hgr2 k2]; exact ⟨rfl, rfl⟩)
                       | (rw [hle]; exact ⟨rfl, rfl⟩)
                   clear hK K))
            refine wpQuiet_nil ?_
            intro w' hw'
            have hbw2 := nx hbw hw'
            have hsz2 := hbw2.size
            have hown2 := OwnS.keep hown hw'
            have k8 := (Below.cell (p := ⟨g1, q1 + a, none⟩) hw' hgr1).trans k1
            clear k1 hgr1 hle
            have k9 := (Below.cell (p := ⟨g5, a - 1, none⟩) hw' hg5).trans k5
            clear k5
            clear k2 hgr2 hown hbw hw'
            unfold OwnS at hown2
            go_wp2_with (at_builtin; go_loud (refine wpList_append_own _ rfl _ _ 99 rfl w22.heap.size 9 i0 (.string ⟨#[]⟩) 1 16 Try.underlying99 hi hz0 hz1 hz2 rfl (by decide) _ _ _ rfl (hown2.alloc _) ⟨_, 0, none⟩ 1 1 [.string X] rfl rfl (new1 _ _ _) (one_str7 _) (by rw [HTL.out]; unfold maxLen; omega) (by rw [HTL.out]; omega) (by simp; omega) ?_); intro v' w9 hown' hgrow hnn)
            have hbw9 := below_app hbw2 hown2 (Nat.le_refl _) hgrow
            have hown1 : OwnS w22.heap.size w9 v' (ss.take (a + 1)) := by rw [HSX.out]; exact OwnS.one5 hown'
            clear hown2 hown' hgrow hbw2 hnn
            go_wp2_with fail
            go_roundw
            case rel => exact ⟨a + 1, 0, by omega, by omega, .inl rfl, by go_num, by go_num, hown1, hbw9, fun h => by omega⟩
            case measure => simp [intOf]; omega

        · obtain rfl : a = h := by omega
          by_cases hlt2 : b < m
          · obtain ⟨g2, q2, rfl, _, hg2, b1⟩ := HB.out b (by rw [← HM.out]; exact hlt2)
            have k2 := (hbw.cell (p := ⟨g2, q2 + b, none⟩) hg2).trans b1
            rw [drop_getD] at k2
            obtain ⟨T, hT⟩ : ∃ T, T = a + b := ⟨_, rfl⟩
            rw [← hT] at hown k2
            have hTn : T < n := by omega
            have hT0 : 0 < T := by omega
            have HT := Lib.hid hT
            have hsn := take_snocS (ss := ss) (k := T) (by rw [HN.out]; omega)
            have htl : (ss.take T).length = T := by rw [List.length_take]; have := HN.out; omega
            have HTL := Lib.hid htl
            have HSN := Lib.hid hsn
            have hj1 : ¬ (b : Int) = (m : Int) := by omega
            have hj2 : (b : Int) < (m : Int) := by omega
            clear b1 hsn htl hT
            clear hu0
            have hgr2 : g2 < wr.heap.size := Nat.lt_of_lt_of_le hg2 hbw.size
            obtain ⟨X, hX⟩ : ∃ X, X = ss.getD T ⟨#[]⟩ := ⟨_, rfl⟩
            have hsn := HSN.out
            rw [← hX] at k2 hsn
            have HSX := Lib.hid hsn
            clear hsn HSN
            have hne := HI.out.ne (i := T - 1) (j := T) (by omega) (by rw [HN.out]; omega)
            rw [← hX] at hne
            have hnb := beq_false_of_ne hne
            clear hne
            have hps : (T - 1) < (ss.take T).length := by rw [HTL.out]; omega
            rcases hown.cells with ⟨_, h0⟩ | ⟨g5, cap5, rfl, hb5, hg5, q5, q6, hx5, hf5⟩
            · have := congrArg List.length h0; rw [HTL.out] at this; simp at this; omega
            have k5 := hx5 (T - 1) hps
            rw [take_getD (by omega) (by have := HN.out; omega)] at k5
            generalize ss.getD (T - 1) ⟨#[]⟩ = PP at *
            have ew : IntKind.i64.wrap ((T : Nat) - 1 : Int) = ((T - 1 : Nat) : Int) := by rw [IntKind.wrap_i64]; omega
            rw [HTL.out] at q5 hown ⊢
            unfold maxLen at q6
            clear hx5 hf5 hps
            clear hX
            go_wp2_with fail
            have hd1 : ((b : Int) == (m : Int)) = false := beq_false_of_ne hj1
            have hd2 : decide ((a : Int) < (a : Int)) = false := decide_eq_false (by omega)
            go_quiet (fail)
            have hw' : Below wr.heap.size wr (wr.drewN nq) := drewB (Below.refl _ _) nq
            generalize wr.drewN nq = w' at *
            have hbw2 := nx hbw hw'
            have hsz2 := hbw2.size
            have hown2 := OwnS.keep hown hw'
            have k8 := (Below.cell (p := ⟨g2, q2 + b, none⟩) hw' hgr2).trans k2
            have k9 := (Below.cell (p := ⟨g5, T - 1, none⟩) hw' hg5).trans k5
            clear k5
            clear k2 hgr2 hown hbw hw'
            unfold OwnS at hown2
            go_wp2_with (at_builtin; go_loud (refine wpList_append_own _ rfl _ _ 99 rfl w22.heap.size 9 i0 (.string ⟨#[]⟩) 1 16 Try.underlying99 hi hz0 hz1 hz2 rfl (by decide) _ _ _ rfl (hown2.alloc _) ⟨_, 0, none⟩ 1 1 [.string X] rfl rfl (new1 _ _ _) (one_str7 _) (by rw [HTL.out]; unfold maxLen; omega) (by rw [HTL.out]; omega) (by simp; omega) ?_); intro v' w9 hown' hgrow hnn)
            have hbw9 := below_app hbw2 hown2 (Nat.le_refl _) hgrow
            have hown1 : OwnS w22.heap.size w9 v' (ss.take (T + 1)) := by rw [HSX.out]; exact OwnS.one5 hown'
            clear hown2 hown' hgrow hbw2 hnn
            go_wp2_with fail
            go_roundw
            case rel => exact ⟨a, b + 1, by omega, by omega, .inr rfl, by go_num, by go_num, (by rw [show a + (b + 1) = T + 1 by have := HT.out; omega]; exact hown1), hbw9, fun h => by omega⟩
            case measure => simp [intOf]; omega

          · obtain rfl : b = m := by omega
            have hfin : ReadS base wr u5 ss := by
              have h9 := hown
              rw [hm1, List.take_of_length_le (by rw [HN.out]; exact Nat.le_refl _)] at h9
              exact h9.cells.read.mono (Nat.le_trans hbs hb22'.size)
            have HF := Lib.hid hfin
            have hbwz := nx (Below.refl _ _) hb22'
            have hfb := nx hbwz hbw
            clear hown hfin
            go_wp2_with fail
            go_ret
            exact ⟨_, HF.out, hfb, rfl⟩
end Go.Proofs.Ytkpganpojdboeaa

/-! ParseC -/
namespace Go.Proofs.Ytkpganpojdboeaa
open Go.RowKit

/-- The pair of what lies ahead of the first byte 62 and behind it. -/
def cutP (s : ByteArray) : Option Pr := if 0 ≤ idxB s 62 then pairOf (s.extract 0 (idxB s 62).toNat) (s.extract ((idxB s 62).toNat + 1) s.size) else none

theorem pcs_skip (s : ByteArray) (f a : Nat) : ∀ (n i : Nat), (∀ j, i ≤ j → j < i + n → s.data.toList[j]? ≠ some 62) → pcs s (n + f) a i = pcs s f a (i + n) := by
  intro n
  induction n with
  | zero => intro i _; rw [Nat.zero_add]; rfl
  | succ n ih =>
    intro i h
    rw [show n + 1 + f = (n + f) + 1 by omega, pcs, if_neg (h i (by omega) (by omega)), ih (i + 1) (fun j h1 h2 => h j (by omega) (by omega)), show i + 1 + n = i + (n + 1) by omega]
theorem pcs_pos (s : ByteArray) : ∀ (f a i : Nat), 0 < (pcs s f a i).length := by
  intro f
  induction f with
  | zero => intro a i; simp [pcs]
  | succ f ih => intro a i; rw [pcs]; split
                 · simp
                 · exact ih _ _
theorem pcs_two (s : ByteArray) : ∀ (f a i j : Nat), i ≤ j → j < i + f → s.data.toList[j]? = some 62 → 2 ≤ (pcs s f a i).length := by
  intro f
  induction f with
  | zero => intro a i j h1 h2; omega
  | succ f ih =>
    intro a i j h1 h2 h3
    rw [pcs]
    split
    · have := pcs_pos s f (i + 1) (i + 1)
      simp; omega
    · next h =>
      have : i ≠ j := fun e => h (e ▸ h3)
      exact ih _ _ j (by omega) (by omega) h3

theorem text_no62 (t : Tr) : (62 : UInt8) ∉ t.text := by
  induction t with
  | lf => simp [Tr.text]
  | nd l r hl hr => simp [Tr.text, hl, hr]

theorem pcs_one {s : ByteArray} (h : ∀ j : Nat, s.data.toList[j]? ≠ some 62) : pcs s s.size 0 0 = [s] := by
  have := pcs_skip s 0 0 s.size 0 (fun j _ _ => h j)
  rw [Nat.add_zero, Nat.zero_add] at this
  rw [this, pcs, ByteArray.extract_zero_size]

theorem cutP_none {s : ByteArray} (h : 200 < s.size ∨ (pcs s s.size 0 0).length ≠ 2) : cutP s = none := by
  unfold cutP
  rcases idxB_spec s 62 with ⟨h1, _⟩ | ⟨k, h1, h2, h3, h4⟩
  · rw [h1, if_neg (by decide)]
  · rw [h1, if_pos (by omega), show ((k : Int)).toNat = k by omega]
    cases hp : pairOf (s.extract 0 k) (s.extract (k + 1) s.size) with
    | none => rfl
    | some p =>
      exfalso
      obtain ⟨e1, e2, _, c1, c2⟩ := pairOf_some hp
      have s1 := p.1.str_size
      have s2 := p.2.str_size
      rw [← e1] at s1
      rw [← e2] at s2
      rw [ByteArray.size_extract] at s1 s2
      have hz : ¬ 200 < s.size := by omega
      refine (h.resolve_left hz) ?_
      have e0 := pcs_skip s (s.size - k) 0 k 0 (fun j _ hj => h4 j (by omega))
      rw [show k + (s.size - k) = s.size by omega, Nat.zero_add, show s.size - k = (s.size - (k + 1)) + 1 by omega, pcs, if_pos h3] at e0
      have e3 := pcs_skip s 0 (k + 1) (s.size - (k + 1)) (k + 1) (by
        intro j h5 h6 h7
        have h8 : (s.data.toList.drop (k + 1))[j - (k + 1)]? = some 62 := by
          rw [List.getElem?_drop, show k + 1 + (j - (k + 1)) = j by omega]; exact h7
        rw [← ext_end, e2, Tr.str_list] at h8
        exact text_no62 _ (List.mem_of_getElem? h8))
      rw [Nat.add_zero] at e3
      rw [e0, e3, pcs]
      rfl

theorem cutP_two {s : ByteArray} (h : (pcs s s.size 0 0).length = 2) : ∃ a b, pcs s s.size 0 0 = [a, b] ∧ cutP s = pairOf a b ∧ a.size ≤ s.size ∧ b.size ≤ s.size := by
  unfold cutP
  rcases idxB_spec s 62 with ⟨h1, h2⟩ | ⟨k, h1, h2, h3, h4⟩
  · rw [pcs_one h2] at h; simp at h
  · rw [h1, if_pos (by omega), show ((k : Int)).toNat = k by omega]
    have e0 := pcs_skip s (s.size - k) 0 k 0 (fun j _ hj => h4 j (by omega))
    rw [show k + (s.size - k) = s.size by omega, Nat.zero_add, show s.size - k = (s.size - (k + 1)) + 1 by omega, pcs, if_pos h3] at e0
    have hno : ∀ j, k + 1 ≤ j → j < s.size → s.data.toList[j]? ≠ some 62 := by
      intro j h5 h6 h7
      have := pcs_two s (s.size - (k + 1)) (k + 1) (k + 1) j h5 (by omega) h7
      rw [e0] at h
      simp at h
      omega
    have e3 := pcs_skip s 0 (k + 1) (s.size - (k + 1)) (k + 1) (fun j h5 h6 => hno j h5 (by omega))
    rw [Nat.add_zero] at e3
    refine ⟨_, _, by rw [e0, e3, pcs], rfl, ?_, ?_⟩
    · rw [ByteArray.size_extract]; omega
    · rw [ByteArray.size_extract]; omega


set_option maxHeartbeats 1000000 in
theorem prIfA_any (a b : ByteArray) (w : World) (ha : a.size ≤ 9223372036854775806) (hb : b.size ≤ 9223372036854775806) :
    Calls Try.prog 44 #[.agg #[.string a, .string b]] w (Gives (ansPr (pairOf a b)) w) := by
  have hg := fun w => prGood_any a b w ha hb
  cases h : pairOf a b with
  | none =>
    rw [h] at hg
    clear h
    show Calls _ _ _ _ (Gives (ansPr none) w)
    go_enter Try.func44, Try.ntmps44
    go_wp2_with fail
    have hb0 : Below w.heap.size w ((w.alloc (.cells #[.string a, .string b] 25 (0, 0))).alloc (.cells #[.string ⟨#[]⟩, .string ⟨#[]⟩] 25 (0, 0))) := nxAlloc (nxAlloc (Below.refl _ _) _) _
    have hx0 := heap_keep (nxAlloc (Below.refl _ _) (.cells #[.string ⟨#[]⟩, .string ⟨#[]⟩] 25 (0, 0))) (heap_alloc_at w (.cells #[.string a, .string b] 25 (0, 0)))
    have hx1 := heap_alloc_at (w.alloc (.cells #[.string a, .string b] 25 (0, 0))) (.cells #[.string ⟨#[]⟩, .string ⟨#[]⟩] 25 (0, 0))
    generalize ((w.alloc (.cells #[.string a, .string b] 25 (0, 0))).alloc (.cells #[.string ⟨#[]⟩, .string ⟨#[]⟩] 25 (0, 0))) = w0 at *
    have e1 : (w.alloc (.cells #[.string a, .string b] 25 (0, 0))).heap.size = w.heap.size + 1 := by simp
    rw [e1] at hx1
    clear e1
    obtain ⟨hx0a, hx0b, hx0c⟩ := two_facts hx0
    obtain ⟨hx0f, hx0g⟩ := two_frozen hx0
    obtain ⟨hx1a, hx1b, hx1c⟩ := two_facts hx1
    obtain ⟨hx1f, hx1g⟩ := two_frozen hx1
    refine (hg _).mono ?_; rintro e w1 ⟨rfl, hb1⟩
    have hbw1 := nx hb0 hb1
    replace hx0 := heap_keep hb1 hx0
    replace hx1 := heap_keep hb1 hx1
    clear hx0a hx0b hx0c hx0f hx0g
    obtain ⟨hx0a, hx0b, hx0c⟩ := two_facts hx0
    obtain ⟨hx0f, hx0g⟩ := two_frozen hx0
    clear hx1a hx1b hx1c hx1f hx1g
    obtain ⟨hx1a, hx1b, hx1c⟩ := two_facts hx1
    obtain ⟨hx1f, hx1g⟩ := two_frozen hx1
    clear hb1 hb0
    go_wp2_with fail
    obtain ⟨q1, q2⟩ := two_cells (set_two (.string ⟨#[]⟩) (.string ⟨#[]⟩) hx1)
    refine bodyPost_ret (v := .tuple #[.agg #[.string ⟨#[]⟩, .string ⟨#[]⟩], .bool false]) (by simp [q1, q2, results, Try.results44, go_sem]) rfl ⟨rfl, ?_⟩
    exact (hbw1.setCell (by show w.heap.size ≤ w.heap.size + 1; omega) _).setCell (by show w.heap.size ≤ w.heap.size + 1; omega) _
  | some p =>
    rw [h] at hg
    obtain ⟨rfl, rfl, hok, hc1, hc2⟩ := pairOf_some h
    clear h
    show Calls _ _ _ _ (Gives (ansPr (some p)) w)
    go_enter Try.func44, Try.ntmps44
    go_wp2_with fail
    have hb0 : Below w.heap.size w ((w.alloc (.cells #[.string p.1.str, .string p.2.str] 25 (0, 0))).alloc (.cells #[.string ⟨#[]⟩, .string ⟨#[]⟩] 25 (0, 0))) := nxAlloc (nxAlloc (Below.refl _ _) _) _
    have hx0 := heap_keep (nxAlloc (Below.refl _ _) (.cells #[.string ⟨#[]⟩, .string ⟨#[]⟩] 25 (0, 0))) (heap_alloc_at w (.cells #[.string p.1.str, .string p.2.str] 25 (0, 0)))
    have hx1 := heap_alloc_at (w.alloc (.cells #[.string p.1.str, .string p.2.str] 25 (0, 0))) (.cells #[.string ⟨#[]⟩, .string ⟨#[]⟩] 25 (0, 0))
    generalize ((w.alloc (.cells #[.string p.1.str, .string p.2.str] 25 (0, 0))).alloc (.cells #[.string ⟨#[]⟩, .string ⟨#[]⟩] 25 (0, 0))) = w0 at *
    have e1 : (w.alloc (.cells #[.string p.1.str, .string p.2.str] 25 (0, 0))).heap.size = w.heap.size + 1 := by simp
    rw [e1] at hx1
    clear e1
    obtain ⟨hx0a, hx0b, hx0c⟩ := two_facts hx0
    obtain ⟨hx0f, hx0g⟩ := two_frozen hx0
    obtain ⟨hx1a, hx1b, hx1c⟩ := two_facts hx1
    obtain ⟨hx1f, hx1g⟩ := two_frozen hx1
    refine (hg _).mono ?_; rintro e w1 ⟨rfl, hb1⟩
    have hbw1 := nx hb0 hb1
    replace hx0 := heap_keep hb1 hx0
    replace hx1 := heap_keep hb1 hx1
    clear hx0a hx0b hx0c hx0f hx0g
    obtain ⟨hx0a, hx0b, hx0c⟩ := two_facts hx0
    obtain ⟨hx0f, hx0g⟩ := two_frozen hx0
    clear hx1a hx1b hx1c hx1f hx1g
    obtain ⟨hx1a, hx1b, hx1c⟩ := two_facts hx1
    obtain ⟨hx1f, hx1g⟩ := two_frozen hx1
    clear hb1 hb0
    go_wp2_with fail
    obtain ⟨q1, q2⟩ := two_cells (set_two (.string p.1.str) (.string p.2.str) hx1)
    refine bodyPost_ret (v := .tuple #[.agg #[.string p.1.str, .string p.2.str], .bool true]) (by simp [q1, q2, results, Try.results44, go_sem]) rfl ⟨rfl, ?_⟩
    exact (hbw1.setCell (by show w.heap.size ≤ w.heap.size + 1; omega) _).setCell (by show w.heap.size ≤ w.heap.size + 1; omega) _

set_option maxRecDepth 100000 in
set_option maxHeartbeats 2000000 in
theorem prParse_any (s : ByteArray) (w : World) (hs : s.size ≤ 2000000) :
    Calls Try.prog 99 #[.string s] w (Gives (ansPr (cutP s)) w) := by
  have S := fun w => split_any s w hs
  have hp := pcs_pos s s.size 0 0
  by_cases h2 : s.size ≤ 200 ∧ (pcs s s.size 0 0).length = 2
  · obtain ⟨h1, h2⟩ := h2
    obtain ⟨a, b, e1, e2, z1, z2⟩ := cutP_two h2
    have L := fun w => prIfA_any a b w (by omega) (by omega)
    rw [e2]
    rw [e1] at S
    clear h2 hp e1 e2 z1 z2
    generalize pairOf a b = o at *
    unfold ansPr at *
    generalize pS1 o = x1 at *
    generalize pS2 o = x2 at *
    generalize o.isSome = ok at *
    go_enter Try.func99, Try.ntmps99
    go_wp2_with fail
    have hb0 : Below w.heap.size w (w.alloc (.cells #[.string ⟨#[]⟩, .string ⟨#[]⟩] 25 (0, 0))) := nxAlloc (Below.refl _ _) _
    have hx0 := heap_alloc_at w (.cells #[.string ⟨#[]⟩, .string ⟨#[]⟩] 25 (0, 0))
    generalize (w.alloc (.cells #[.string ⟨#[]⟩, .string ⟨#[]⟩] 25 (0, 0))) = w0 at *
    obtain ⟨hx0a, hx0b, hx0c⟩ := two_facts hx0
    obtain ⟨hx0f, hx0g⟩ := two_frozen hx0
    refine (S _).mono ?_; rintro e w1 ⟨v, hown, hb1, rfl⟩
    have hbw1 := nx hb0 hb1
    replace hx0 := heap_keep hb1 hx0
    clear hx0a hx0b hx0c hx0f hx0g
    obtain ⟨hx0a, hx0b, hx0c⟩ := two_facts hx0
    obtain ⟨hx0f, hx0g⟩ := two_frozen hx0
    obtain ⟨g, cap, rfl⟩ := hown.shape (by simp)
    have hc := hown.cells
    clear hb1 hb0 hown S
    rcases hc with ⟨h3, _⟩ | ⟨g', cap', h3, hg1, hg2, hg3, hg4, hcell, hfr⟩
    · cases h3
    cases h3
    have k0 := hcell 0 (by simp)
    have k1 := hcell 1 (by simp)
    simp only [List.length_cons, List.length_nil, List.getD_cons_zero, List.getD_cons_succ] at *
    clear hcell hg3 hg4 hfr
    go_wp2_with fail
    refine wp_region_clsT 10 (by kernel_rfl) (by kernel_rfl) ?_
    simp only [List.take_succ_cons, List.take_zero, List.drop_succ_cons, List.drop_zero]
    repeat (
      refine wpQuiet_step (fun K hK => ?_)
      go_simp
      first
        | (refine hK _ ?_; clear hK K)
        | (refine ⟨_, fun _ _ => rfl, hK _ ?_⟩; clear hK K)
        | (apply Exists.intro
           refine ⟨fun w' hw' => ?_, hK _ ?_⟩
           · first
               | (rw [hw'.cell hg2 k0]; exact ⟨rfl, rfl⟩)
               | (rw [hw'.cell hg2 k1]; exact ⟨rfl, rfl⟩)
               | (go_at_call 44; exact hw'.call (L _))
           clear hK K))
    refine wpQuiet_nil ?_
    intro w' hw'
    have hbwf := nx hbw1 hw'
    replace hx0 := heap_keep hw' hx0
    clear hw' hbw1
    clear hx0a hx0b hx0c hx0f hx0g
    obtain ⟨hx0a, hx0b, hx0c⟩ := two_facts hx0
    obtain ⟨hx0f, hx0g⟩ := two_frozen hx0
    go_wp2_with fail
    obtain ⟨q1, q2⟩ := two_cells (set_two (.string x1) (.string x2) hx0)
    refine bodyPost_ret (v := .tuple #[.agg #[.string x1, .string x2], .bool ok]) (by simp [q1, q2, results, Try.results99, go_sem]) rfl ⟨rfl, ?_⟩
    exact (hbwf.setCell (by show w.heap.size ≤ w.heap.size; omega) _).setCell (by show w.heap.size ≤ w.heap.size; omega) _
  · rw [cutP_none (by omega)]
    show Calls _ _ _ _ (Gives (ansPr none) w)
    generalize hl : pcs s s.size 0 0 = ps at *
    clear hl
    go_enter Try.func99, Try.ntmps99
    go_wp2_with fail
    have hb0 : Below w.heap.size w (w.alloc (.cells #[.string ⟨#[]⟩, .string ⟨#[]⟩] 25 (0, 0))) := nxAlloc (Below.refl _ _) _
    have hx0 := heap_alloc_at w (.cells #[.string ⟨#[]⟩, .string ⟨#[]⟩] 25 (0, 0))
    generalize (w.alloc (.cells #[.string ⟨#[]⟩, .string ⟨#[]⟩] 25 (0, 0))) = w0 at *
    obtain ⟨hx0a, hx0b, hx0c⟩ := two_facts hx0
    obtain ⟨hx0f, hx0g⟩ := two_frozen hx0
    refine (S _).mono ?_; rintro e w1 ⟨v, hown, hb1, rfl⟩
    have hbw1 := nx hb0 hb1
    replace hx0 := heap_keep hb1 hx0
    clear hx0a hx0b hx0c hx0f hx0g
    obtain ⟨hx0a, hx0b, hx0c⟩ := two_facts hx0
    obtain ⟨hx0f, hx0g⟩ := two_frozen hx0
    obtain ⟨g, cap, rfl⟩ := hown.shape hp
    clear hb1 hb0 hown S hp
    generalize ps.length = n at *
    have hq : (200 < s.size) ∨ ¬ n = 2 := by omega
    clear h2
    cases hz : decide (200 < s.size) with
    | true =>
      have hz' : (200 < s.size) := by simpa using hz
      clear hq hz
      go_wp2_with fail
      obtain ⟨q1, q2⟩ := two_cells (set_two (.string ⟨#[]⟩) (.string ⟨#[]⟩) hx0)
      refine bodyPost_ret (v := .tuple #[.agg #[.string ⟨#[]⟩, .string ⟨#[]⟩], .bool false]) (by simp [q1, q2, results, Try.results99, go_sem]) rfl ⟨rfl, ?_⟩
      exact (hbw1.setCell (by show w.heap.size ≤ w.heap.size; omega) _).setCell (by show w.heap.size ≤ w.heap.size; omega) _
    | false =>
      have hz' : ¬ (200 < s.size) := by simpa using hz
      have hn : ((n : Int) != 2) = true := by have := hq.resolve_left hz'; rw [bne_iff_ne]; omega
      clear hq hz
      go_wp2_with fail
      obtain ⟨q1, q2⟩ := two_cells (set_two (.string ⟨#[]⟩) (.string ⟨#[]⟩) hx0)
      refine bodyPost_ret (v := .tuple #[.agg #[.string ⟨#[]⟩, .string ⟨#[]⟩], .bool false]) (by simp [q1, q2, results, Try.results99, go_sem]) rfl ⟨rfl, ?_⟩
      exact (hbw1.setCell (by show w.heap.size ≤ w.heap.size; omega) _).setCell (by show w.heap.size ≤ w.heap.size; omega) _

end Go.Proofs.Ytkpganpojdboeaa

/-! Sm2 -/
namespace Go.Proofs.Ytkpganpojdboeaa
open Go.RowKit

def prS (p : Pr) : ByteArray := p.1.str ++ ⟨#[62]⟩ ++ p.2.str
theorem prText_any (p : Pr) (w : World) (h1 : p.1.carets ≤ 1000) (h2 : p.2.carets ≤ 1000) :
    Calls Try.prog 70 #[.agg #[.string p.1.str, .string p.2.str]] w (Gives (.string (prS p)) w) := by
  have s1 := p.1.str_size
  have s2 := p.2.str_size
  go_enter Try.func70, Try.ntmps70
  go_wp2_with fail
  go_ret
  exact ⟨rfl, nxAlloc (Below.refl _ _) _⟩


theorem text_no62s (t : Tr) : ∀ c ∈ t.text, c ≠ 62 := by
  induction t with
  | lf => intro c hc; simp [Tr.text] at hc; subst hc; decide
  | nd l r ihl ihr =>
    intro c hc
    simp only [Tr.text, List.mem_cons, List.mem_append, List.not_mem_nil, or_false] at hc
    rcases hc with rfl | hc | hc | rfl
    · decide
    · exact ihl c hc
    · exact ihr c hc
    · decide
theorem cut_pTx {p : Pr} (hp : okP p) (hc : p.1.carets ≤ 8) : cutP (pTx p) = some p := by
  have hl := pTx_list p
  have hk : idxB (pTx p) 62 = (p.1.text.length : Int) := by
    have h62 : (pTx p).data.toList[p.1.text.length]? = some 62 := by rw [hl]; simp
    have hlow : ∀ j, j < p.1.text.length → (pTx p).data.toList[j]? ≠ some 62 := by
      intro j hj e
      rw [hl, List.getElem?_append_left hj] at e
      exact text_no62s p.1 62 (List.mem_of_getElem? e) rfl
    rcases idxB_spec (pTx p) 62 with ⟨_, h⟩ | ⟨k, h1, h2, h3, h4⟩
    · exact absurd h62 (h _)
    · rw [h1]
      rcases Nat.lt_trichotomy k p.1.text.length with h | h | h
      · exact absurd h3 (hlow k h)
      · rw [h]
      · exact absurd h62 (h4 _ h)
  unfold cutP
  rw [hk, if_pos (by omega)]
  have e1 : (pTx p).extract 0 (p.1.text.length : Int).toNat = p.1.str := by
    apply ba_ext
    rw [Lib.extract_data, hl, Tr.str_list]
    simp
  have e2 : (pTx p).extract ((p.1.text.length : Int).toNat + 1) (pTx p).size = p.2.str := by
    apply ba_ext
    rw [Lib.extract_data, hl, Tr.str_list]
    have hz : (pTx p).size = p.1.text.length + 1 + p.2.text.length := by rw [Lib.size_eq, hl]; simp; omega
    have e3 : p.1.text ++ 62 :: p.2.text = (p.1.text ++ [62]) ++ p.2.text := by simp
    rw [hz, e3, Int.toNat_natCast, List.drop_left' (by simp), List.take_of_length_le (by omega)]
  rw [e1, e2]
  exact pairOf_str hp hc
theorem inc_reds (k : Nat) : IncS ((redsN k).map pTx) := by
  intro i j hij hj
  rw [List.length_map] at hj
  have h := List.pairwise_iff_getElem.1 (redsN_inc k) i j (by omega) hj hij
  have e1 : ((redsN k).map pTx).getD i ⟨#[]⟩ = pTx (redsN k)[i] := by simp [List.getD_eq_getElem?_getD, show i < (redsN k).length by omega]
  have e2 : ((redsN k).map pTx).getD j ⟨#[]⟩ = pTx (redsN k)[j] := by simp [List.getD_eq_getElem?_getD, hj]
  rw [e1, e2, Lib.toList_data, Lib.toList_data, pTx_less]
  exact h
theorem FarQ.start2 {base : Nat} {w0 w1 : World} {g : Nat} {v : Value} {e : TypeId} {size n : Nat} {xs : List Value} (h : w0.ownsRow base e size v n xs) (hg : w0.heap.size ≤ g) : FarQ w1 w1 g v :=
  ⟨rfl, Nat.le_refl _, fun e => by have := (World.ownsRow.lt h g e.symm).2; omega⟩
theorem both_empty_len (p : Pr) : ((both p).length = 0) ↔ (both p).isEmpty = true := by rw [List.isEmpty_iff, List.length_eq_zero_iff]
theorem prS_pTx (p : Pr) : prS p = pTx p := rfl
theorem prBoth_tr7 (p : Pr) (w : World) (k1 : p.1.carets ≤ 200) (k2 : p.2.carets ≤ 200) : Calls Try.prog 92 #[.agg #[.string p.1.str, .string p.2.str]] w (GivesInts (both p) w) := by
  have := prBoth_any p.1.str p.2.str w (by have := p.1.str_size; omega) (by have := p.2.str_size; omega)
  rwa [bothL_str] at this
theorem OwnS.snoc7 {base : Nat} {w : World} {v : Value} {xs : List ByteArray} {m : ByteArray} (h : w.ownsRow base 9 1 v (xs.length + 1) (xs.map Value.string ++ [Value.string m])) : OwnS base w v (xs ++ [m]) := by
  unfold OwnS
  rw [List.map_append, List.length_append]
  exact h
theorem pickN_one (k : Nat) (a : Tr) (j : Nat) (h : j < (treesN k).length) : pickN (fun _ => true) k a (j + 1) = pickN (fun _ => true) k a j ++ (if (both (a, (treesN k).getD j .lf)).isEmpty = true then [(a, (treesN k).getD j .lf)] else []) := by
  rw [pickN_succ _ a h]
  simp
theorem pickN_len5 (want : Pr → Bool) (k : Nat) (a : Tr) (j : Nat) : (pickN want k a j).length ≤ j := by
  unfold pickN
  rw [List.length_map]
  exact Nat.le_trans (List.length_filter_le _ _) (by rw [List.length_take]; omega)

set_option maxRecDepth 100000 in
set_option maxHeartbeats 4000000 in
theorem cjSmall_any (n : Nat) (hn3 : n ≤ 3) (w : World) : Calls Try.prog 66 #[.int .i64 n] w (GivesQ (smallN (n + 1)) w) := by
  obtain ⟨i0, hi, hz0, hz1, hz2⟩ := info_parts info_pair7
  obtain ⟨j0, hj, hy0, hy1, hy2⟩ := info_parts info_str
  go_enter Try.func66, Try.ntmps66
  go_wp2_with fail
  go_loopw [3, 4] (fun u c wr => ∃ (k : Nat) (xs : List Pr), k ≤ n + 1 ∧ c = .int .i64 k ∧ OwnQ w.heap.size wr u xs ∧ xs.length ≤ k * 25 ∧ Hid (xs = smallN k) ∧ Below w.heap.size w wr) (fun _ c _ => n + 1 - (intOf c).toNat)
  case atStart => exact ⟨0, [], Nat.zero_le _, rfl, OwnX.nil _ _ _ _, Nat.zero_le _, rfl, Below.refl _ _⟩
  case round =>
    obtain ⟨k, xs, hk, rfl, hown, hxl, hxs, hbw⟩ := hrel
    by_cases hlt : k ≤ n
    · have hlt' : (k : Int) ≤ (n : Int) := by omega
      have hk3 : k ≤ 3 := by omega
      have hT := fun w => trList_any k (by omega) w
      have hN5 := treesN_sm7 hk3
      have hsz0 := hbw.size
      go_wp2_with fail
      refine (hT _).mono ?_; rintro e w1 ⟨g, cap, own1, hb1, rfl⟩
      rcases own1.cells with ⟨h0, _⟩ | ⟨g', cap', h0, hgb, hg, q1, q2, hc, _⟩
      · simp at h0
      simp only [Value.slice.injEq, Option.some.injEq, Addr.mk.injEq, and_true, true_and] at h0
      obtain ⟨rfl, rfl⟩ := h0
      rw [trTexts_len] at q1 hc ⊢
      unfold maxLen at q2
      have HC := Lib.hid hc
      replace hown := OwnQ.keep hown hb1
      replace hbw := nx hbw hb1
      have hsz1 := hbw.size
      obtain ⟨N, hN⟩ : ∃ N, N = (treesN k).length := ⟨_, rfl⟩
      have HN := Lib.hid hN
      rw [← hN] at hN5 q1 ⊢
      clear own1 hc hb1 hN
      go_wp2_with fail
      go_loopw [5, 23] (fun u c wr => ∃ (i : Nat) (ts : List ByteArray), i ≤ N ∧ c = .int .i64 i ∧ OwnS w1.heap.size wr u ts ∧ ts.length ≤ i * 5 ∧ Hid (ts = (pickK (fun _ => true) k i).map pTx) ∧ Below w1.heap.size w1 wr) (fun _ c _ => N - (intOf c).toNat)
      case atStart => exact ⟨0, [], Nat.zero_le _, rfl, OwnS.nil _ _, Nat.zero_le _, by show _ = _; simp [pickK], Below.refl _ _⟩
      case round =>
        obtain ⟨i, ts, hi', rfl, hown2, hyl, hys, hbw2⟩ := hrel
        by_cases hlt2 : i < N
        · have hlt2' : (i : Int) < (N : Int) := by omega
          have hiT : i < (treesN k).length := by rw [← HN.out]; exact hlt2
          have c1 := (hbw2.cell (p := ⟨g, i, none⟩) hg).trans (HC.out i hiT)
          rw [trTexts_get hiT] at c1
          have hac := treesN_at hiT
          have hpk := pickK_succ (fun _ => true) hiT
          obtain ⟨a, ha⟩ : ∃ a, a = (treesN k).getD i .lf := ⟨_, rfl⟩
          rw [← ha] at c1 hac hpk
          have HPK := Lib.hid hpk
          have hsz2 := hbw2.size
          clear ha hpk hiT
          go_wp2_with fail
          refine (hT _).mono ?_; rintro e w2 ⟨g2, cap2, own2, hb2, rfl⟩
          rcases own2.cells with ⟨h0, _⟩ | ⟨g', cap', h0, hgb2, hg2, q3, q4, hc2, _⟩
          · simp at h0
          simp only [Value.slice.injEq, Option.some.injEq, Addr.mk.injEq, and_true, true_and] at h0
          obtain ⟨rfl, rfl⟩ := h0
          have hfar : FarQ w2 w2 g2 u5 := FarQ.start2 (show wr.ownsRow _ _ _ _ _ _ from hown2) hgb2
          rw [trTexts_len, ← HN.out] at q3 ⊢
          unfold maxLen at q4
          have HC2 := Lib.hid hc2
          replace hown2 := OwnS.keep hown2 hb2
          replace hbw2 := nx hbw2 hb2
          have hsz3 := hbw2.size
          clear own2 hc2 hb2 c1
          go_wp2_with fail
          go_loopw [5, 30] (fun u c wr => ∃ (j : Nat) (us : List ByteArray), j ≤ N ∧ c = .int .i64 j ∧ OwnS w1.heap.size wr u us ∧ us.length ≤ i * 5 + j ∧ Hid (us = ts ++ (pickN (fun _ => true) k a j).map pTx) ∧ Below w1.heap.size w1 wr ∧ FarQ w2 wr g2 u) (fun _ c _ => N - (intOf c).toNat)
          case atStart => exact ⟨0, ts, Nat.zero_le _, rfl, hown2, by omega, by show _ = _; simp [pickN], hbw2, hfar⟩
          case round =>
            clear hown2 hbw2 hfar
            obtain ⟨j, us, hj', rfl, hown3, hzl, hzs, hbw3, hfar3⟩ := hrel
            by_cases hlt3 : j < N
            · have hlt3' : (j : Int) < (N : Int) := by omega
              have hjT : j < (treesN k).length := by rw [← HN.out]; exact hlt3
              have d1 := hfar3.cell (HC2.out j (by rw [trTexts_len]; exact hjT))
              rw [trTexts_get hjT] at d1
              have hbc := treesN_at hjT
              have hpn := pickN_one k a j hjT
              obtain ⟨b, hb⟩ : ∃ b, b = (treesN k).getD j .lf := ⟨_, rfl⟩
              rw [← hb] at d1 hbc hpn
              have HPN := Lib.hid hpn
              have hsz4 := hbw3.size
              have PB := fun w => prBoth_tr7 (a, b) w (by show a.carets ≤ 200; omega) (by show b.carets ≤ 200; omega)
              have PX := fun w => prText_any (a, b) w (by show a.carets ≤ 1000; omega) (by show b.carets ≤ 1000; omega)
              rw [prS_pTx] at PX
              clear hb hpn hjT
              go_wp2_with fail
              have hbw4 := nxAlloc hbw3 (.cells #[.string a.str, .string b.str] 25 (0, 0))
              have hown4 := OwnS.keep hown3 (nxAlloc (Below.refl _ _) (.cells #[.string a.str, .string b.str] 25 (0, 0)))
              have hfar4 := hfar3.keep hg2 (nxAlloc (Below.refl _ _) (.cells #[.string a.str, .string b.str] 25 (0, 0)))
              have hx := heap_alloc_at wr (.cells #[.string a.str, .string b.str] 25 (0, 0))
              generalize wr.alloc (.cells #[.string a.str, .string b.str] 25 (0, 0)) = w4 at *
              obtain ⟨hxa, hxb, hxc⟩ := two_facts hx
              clear hbw3 hown3 hfar3 d1
              go_wp2_with fail
              refine (PB _).mono ?_; rintro e w5 ⟨v5, own5, hb5, rfl⟩
              have hx5 := heap_keep hb5 hx
              have hbw5 := nx hbw4 hb5
              have hown5 := OwnS.keep hown4 hb5
              have hfar5 := hfar4.keep hg2 hb5
              obtain ⟨oa5, cap5, rfl, _⟩ := own5.cells.form
              clear hx hxa hxb hxc hbw4 hown4 hfar4 hb5 own5
              obtain ⟨hxa, hxb, hxc⟩ := two_facts hx5
              have hsz5 := hbw5.size
              have hbe := both_empty_len (a, b)
              have HBE := Lib.hid hbe
              clear hbe
              by_cases hl0 : (both (a, b)).length = 0
              · have hem := HBE.out.1 hl0
                have HEM := Lib.hid hem
                have hl1 : ((both (a, b)).length : Int) = 0 := by omega
                clear hem HBE
                generalize (both (a, b)).length = bl at *
                subst hl0
                go_wp2_with fail
                refine (PX _).mono ?_; rintro e w6 ⟨rfl, hb6⟩
                have hbw6 := nx hbw5 hb6
                have hown6 := OwnS.keep hown5 hb6
                have hfar6 := hfar5.keep hg2 hb6
                have hsz6 := hbw6.size
                clear hbw5 hown5 hfar5 hb6 hx5 hxa hxb hxc
                unfold OwnS at hown6
                go_wp2_with (at_builtin; go_loud (refine wpList_append_own_at _ rfl _ _ 99 rfl w1.heap.size 9 j0 (.string ⟨#[]⟩) 1 16 Try.underlying99 hj hy0 hy1 hy2 rfl (by decide) _ _ _ rfl (hown6.alloc _) ⟨w6.heap.size, 0, none⟩ 1 1 [.string (pTx (a, b))] rfl rfl (new1 _ _ _) (one_str7 _) (by unfold maxLen; omega) (by omega) (by simp; omega) ?_); intro v' w9 hown' hgrow hnn hob)
                have hba := nxAlloc (Below.refl w6.heap.size w6) (.cells #[.string (pTx (a, b))] 9 (0, 0))
                have hfar9 := (hfar6.keep hg2 hba).grown hg2 hgrow hob
                have hbw9 := (nxAlloc hbw6 (.cells #[.string (pTx (a, b))] 9 (0, 0))).grown hgrow (by simp; omega) (fun k hk => ownsRow_ge hown6 k hk)
                have hown9 : OwnS w1.heap.size w9 v' (us ++ [pTx (a, b)]) := OwnS.snoc7 hown'
                have hfin : us ++ [pTx (a, b)] = ts ++ (pickN (fun _ => true) k a (j + 1)).map pTx := by rw [HPN.out, if_pos HEM.out, hzs.out, List.map_append, List.append_assoc]; rfl
                have HX := Lib.hid hfin
                clear hown6 hown' hgrow hba hfar6 hbw6 hnn hob hfin
                go_wp2_with fail
                go_roundw
                case rel => exact ⟨j + 1, _, by omega, by go_num, hown9, by simp; omega, HX, hbw9, hfar9⟩
                case measure => simp [intOf]; omega
              · have hl1 : ¬ ((both (a, b)).length : Int) = 0 := by omega
                have hem : ¬ (both (a, b)).isEmpty = true := fun h => hl0 (HBE.out.2 h)
                have hfin : us = ts ++ (pickN (fun _ => true) k a (j + 1)).map pTx := by rw [HPN.out, if_neg hem, hzs.out]; simp
                have HX := Lib.hid hfin
                clear hfin hem HBE
                generalize (both (a, b)).length = bl at *
                go_wp2_with fail
                go_roundw
                case rel => exact ⟨j + 1, us, by omega, by go_num, hown5, by omega, HX, hbw5, hfar5⟩
                case measure => simp [intOf]; omega
            · obtain rfl : j = N := by omega
              have h2 : us = (pickK (fun _ => true) k (i + 1)).map pTx := by rw [HPK.out, List.map_append, ← hys.out, hzs.out, HN.out]
              have HX := Lib.hid h2
              clear h2 hzs
              go_wp2_with fail
              go_roundw
              case rel => exact ⟨i + 1, us, by omega, by go_num, hown3, by omega, HX, hbw3⟩
              case measure => simp [intOf]; omega
        · obtain rfl : i = N := by omega
          have h2 : ts = (redsN k).map pTx := by rw [hys.out, HN.out, pickK_all]; exact congrArg _ (List.filter_eq_self.2 (fun _ _ => rfl))
          have hbs := hbw2.size
          have LS := fun v w hb h => lnSorted_any w1.heap.size ts.length ts rfl (by omega) (by rw [h2]; exact inc_reds k) v w hb h
          have hrd := hown2.cells.read
          have hownP := OwnQ.keep hown hbw2
          have hbwP := nx hbw hbw2
          have hM : ts.length = (redsN k).length := by rw [h2, List.length_map]
          have H2 := Lib.hid h2
          have HM := Lib.hid hM
          clear h2 hys hown2 hM
          go_wp2_with fail
          refine (LS _ _ hbs hrd).mono ?_; rintro e w7 ⟨v7, rd7, hb7, rfl⟩
          obtain ⟨oa7, cap7, rfl, r1, r2, r3⟩ := rd7
          unfold maxLen at r2
          replace hownP := OwnQ.keep hownP hb7
          replace hbwP := nx hbwP hb7
          have hfar7 : ∀ g7 q7, oa7 = some ⟨g7, q7, none⟩ → w1.heap.size ≤ g7 → g7 < w7.heap.size → FarQ w7 w7 g7 u3 := fun g7 q7 _ hk _ => FarQ.start2 (show w1.ownsRow _ _ _ _ _ _ from hown) hk
          have HR := Lib.hid r3
          generalize hMM : ts.length = M at *
          clear hMM r3 hb7 LS hrd hbs hown hbw hbw2
          go_wp2_with fail
          go_loopw [3, 51] (fun u c wr => ∃ (m : Nat) (ps : List Pr), m ≤ M ∧ c = .int .i64 m ∧ OwnQ w.heap.size wr u ps ∧ ps.length ≤ k * 25 + m ∧ Hid (ps = smallN k ++ (redsN k).take m) ∧ Below w.heap.size w wr ∧ Hid (∀ g7 q7, oa7 = some ⟨g7, q7, none⟩ → w1.heap.size ≤ g7 → g7 < w7.heap.size → FarQ w7 wr g7 u)) (fun _ c _ => M - (intOf c).toNat)
          case atStart => exact ⟨0, xs, Nat.zero_le _, rfl, hownP, by omega, by show _ = _; rw [hxs.out]; simp, hbwP, hfar7⟩
          case round =>
            clear hownP hbwP hfar7
            obtain ⟨m, ps, hm', rfl, hown8, hpl, hps, hbw8, hfar8⟩ := hrel
            by_cases hlt4 : m < M
            · have hlt4' : (m : Int) < (M : Int) := by omega
              obtain ⟨g7, q7, e7, hk7, hg7, c7⟩ := HR.out m hlt4
              have far := hfar8.out g7 q7 e7 hk7 hg7
              have hmR : m < (redsN k).length := by rw [← HM.out]; exact hlt4
              obtain ⟨p, hp⟩ : ∃ p, p = (redsN k)[m] := ⟨_, rfl⟩
              have hgt : ts.getD m ⟨#[]⟩ = pTx p := by rw [H2.out, hp]; simp [List.getD_eq_getElem?_getD, hmR]
              have hpm := mem_redsN.1 (show p ∈ redsN k by rw [hp]; exact List.getElem_mem hmR)
              have htk : (redsN k).take (m + 1) = (redsN k).take m ++ [p] := by rw [List.take_succ_eq_append_getElem hmR, hp]
              have hz1 := p.1.text_len
              have hz2' := p.2.text_len
              have hz3 : (pTx p).size = p.1.text.length + 1 + p.2.text.length := by rw [Lib.size_eq, pTx_list]; simp; omega
              have PP := fun w => prParse_any (pTx p) w (by omega)
              rw [cut_pTx (show p.1.carets = p.2.carets by omega) (by omega)] at PP
              have PP' : ∀ w, Calls Try.prog 99 #[.string (pTx p)] w (Gives (.tuple #[.agg #[.string p.1.str, .string p.2.str], .bool true]) w) := PP
              have c1 := far.cell c7
              rw [hgt] at c1
              have HTK := Lib.hid htk
              have hsz8 := hbw8.size
              have E7 := Lib.hid e7
              clear htk hz1 hz2' hz3 PP hpm hgt hp hmR far c7
              rw [E7.out]
              go_wp2_with fail
              refine (PP' _).mono ?_; rintro e w10 ⟨rfl, hb10⟩
              have hbw10 := nxAlloc (nx hbw8 hb10) (.cells #[.string p.1.str, .string p.2.str] 25 (0, 0))
              have hown10 := OwnQ.keep (OwnQ.keep hown8 hb10) (nxAlloc (Below.refl w10.heap.size w10) (.cells #[.string p.1.str, .string p.2.str] 25 (0, 0)))
              have hfar10 : ∀ g7 q7, oa7 = some ⟨g7, q7, none⟩ → w1.heap.size ≤ g7 → g7 < w7.heap.size → FarQ w7 (w10.alloc (.cells #[.string p.1.str, .string p.2.str] 25 (0, 0))) g7 u3 := fun a b c d e => ((hfar8.out a b c d e).keep e hb10).keep e (nxAlloc (Below.refl w10.heap.size w10) (.cells #[.string p.1.str, .string p.2.str] 25 (0, 0)))
              have hxx := heap_alloc_at w10 (.cells #[.string p.1.str, .string p.2.str] 25 (0, 0))
              obtain ⟨hxa, hxb, hxc⟩ := two_facts hxx
              have hsz10 := hbw10.size
              have H10 := Lib.hid hfar10
              clear hbw8 hown8 hfar8 hb10 hfar10 c1
              have hnw : ∀ (j : Nat) (u : Value), [Value.string p.1.str, Value.string p.2.str][j]? = some u → ((w10.alloc (.cells #[.string p.1.str, .string p.2.str] 25 (0, 0))).alloc (.cells #[.string p.1.str, .string p.2.str] 25 (0, 0))).cell? ((⟨w10.heap.size + 1, 0, none⟩ : Addr).add j) = some u := by
                have h := newsQ (w10.alloc (.cells #[.string p.1.str, .string p.2.str] 25 (0, 0))) #[.string p.1.str, .string p.2.str] 25
                have es : (w10.alloc (.cells #[.string p.1.str, .string p.2.str] 25 (0, 0))).heap.size = w10.heap.size + 1 := by simp
                rw [es] at h
                exact h
              unfold OwnQ OwnX at hown10
              go_wp2_with (at_builtin; go_loud (refine wpList_append_own_at _ rfl _ _ 43 rfl w.heap.size 25 i0 (.agg #[.string ⟨#[]⟩, .string ⟨#[]⟩]) 2 32 Try.underlying43 hi hz0 hz1 hz2 rfl (by decide) _ _ _ rfl (hown10.alloc _) ⟨w10.heap.size + 1, 0, none⟩ 1 1 [.string p.1.str, .string p.2.str] rfl rfl hnw (pr_one _ _) (by unfold maxLen; omega) (by omega) (by simp at *; omega) ?_); intro v' w9 hown' hgrow hnn hob)
              have hfar9 : ∀ g7 q7, oa7 = some ⟨g7, q7, none⟩ → w1.heap.size ≤ g7 → g7 < w7.heap.size → FarQ w7 w9 g7 v' := fun a b c d e => ((H10.out a b c d e).keep e (nxAlloc (Below.refl _ _) (.cells #[.string p.1.str, .string p.2.str] 25 (0, 0)))).grown e hgrow hob
              have hbw9 := (nxAlloc hbw10 (.cells #[.string p.1.str, .string p.2.str] 25 (0, 0))).grown hgrow (by simp at *; omega) (fun k hk => ownsRow_ge hown10 k hk)
              have hown9 : OwnQ w.heap.size w9 v' (ps ++ [p]) := OwnQ.snoc7 hown'
              have hfin : ps ++ [p] = smallN k ++ (redsN k).take (m + 1) := by rw [HTK.out, ← List.append_assoc, ← hps.out]
              have HX := Lib.hid hfin
              have HF9 := Lib.hid hfar9
              clear hown10 hown' hgrow hbw10 hnn hob hfin hps H10 hnw hxx hxa hxb hxc hfar9
              go_wp2_with fail
              rw [← E7.out]
              go_roundw
              case rel => exact ⟨m + 1, _, by omega, by go_num, hown9, by simp; omega, HX, hbw9, HF9⟩
              case measure => simp [intOf]; omega
            · obtain rfl : m = M := by omega
              have h2 : ps = smallN (k + 1) := by rw [hps.out, HM.out, List.take_length, smallN_succ]
              have HX := Lib.hid h2
              clear h2 hps hfar8
              go_wp2_with fail
              go_roundw
              case rel => exact ⟨k + 1, ps, by omega, by go_num, hown8, by omega, HX, hbw8⟩
              case measure => simp [intOf]; omega
    · obtain rfl : k = n + 1 := by omega
      have hgt' : ¬ ((n : Int) + 1 ≤ (n : Int)) := by omega
      have HX := Lib.hid hxs.out
      clear hxs
      go_wp2_with fail
      go_ret
      exact ⟨_, by rw [← HX.out]; exact hown, hbw, rfl⟩
end Go.Proofs.Ytkpganpojdboeaa

/-! Sm3 -/
namespace Go.Proofs.Ytkpganpojdboeaa
open Go.RowKit

theorem heldPairS_1 (b1 : Nat) (v1 : Value) (n : Nat) (w : World) (hn9 : n ≤ 100000000) (h1 : CellsX 2 b1 w v1 n (marksS 1 (n * 2))) :
    Calls Try.prog 35 #[v1, .int .i64 1] w (Gives (.int .i64 ((1 + n * 2 : Nat) : Int)) w) :=
  heldPairS_any b1 v1 n 1 w (by decide) (by decide) hn9 h1
theorem markPairS_1 (base : Nat) (v : Value) (xs : List Pr) (w : World) (hn9 : xs.length ≤ 100000000) (hbase : base ≤ w.heap.size) (h : OwnQ base w v xs) :
    Calls Try.prog 34 #[v, .int .i64 1] w (MarkedQ base ((1 + xs.length * 2 : Nat) : Int) v xs.length (marksS 1 (xs.length * 2)) w) :=
  markPairS_any base v xs 1 w (by decide) (by decide) hn9 hbase h
def SmallPairs_o (n : Int) : Option (List Pr) := if 0 ≤ n ∧ n ≤ 3 then some (smallN (n.toNat + 1)) else none
theorem redsN_len {k : Nat} (h : k ≤ 3) : (redsN k).length ≤ 25 := by
  have h5 := treesN_sm7 h
  have e : redsN k = pickK (fun _ => true) k (treesN k).length := by rw [pickK_all]; exact (List.filter_eq_self.2 (fun _ _ => rfl)).symm
  have hs : ∀ i, i ≤ (treesN k).length → (pickK (fun _ => true) k i).length ≤ i * 5 := by
    intro i
    induction i with
    | zero => intro _; simp [pickK]
    | succ i ih =>
      intro hi
      have h1 := ih (by omega)
      have h2 := pickN_len (fun _ => true) k ((treesN k).getD i .lf) (treesN k).length
      rw [pickK_succ _ (by omega), List.length_append]
      omega
  have := hs _ (Nat.le_refl _)
  rw [e]
  omega
theorem smallN_len {n : Nat} (h : n ≤ 4) : (smallN n).length ≤ n * 25 := by
  induction n with
  | zero => simp [smallN]
  | succ n ih =>
    have h1 := ih (by omega)
    have h2 := redsN_len (k := n) (by omega)
    rw [smallN_succ, List.length_append]
    omega
theorem SmallPairs_len (n : Int) : ((SmallPairs_o n).getD []).length ≤ 100000000 := by
  unfold SmallPairs_o
  split
  · next h => have := smallN_len (n := n.toNat + 1) (by omega); simp only [Option.getD_some]; omega
  · simp

theorem always_any (p : Pr) (w : World) : Calls Try.prog 68 #[.agg #[.string p.1.str, .string p.2.str]] w (Gives (.bool true) w) := by
  go_enter Try.func68, Try.ntmps68
  go_wp2_with fail
  go_ret
  exact ⟨rfl, nxAlloc (Below.refl _ _) _⟩

set_option maxHeartbeats 1000000 in
theorem specSmallPairs_any (n : Int) (w : World) (lo : -9223372036854775808 ≤ n) (hi : n ≤ 9223372036854775807) :
    Calls Try.prog 31 #[.int .i64 n] w (AnsQs (SmallPairs_o n) w) := by
  unfold SmallPairs_o
  by_cases h : 0 ≤ n ∧ n ≤ 3
  · rw [if_pos h]
    obtain ⟨m, rfl⟩ : ∃ m : Nat, n = (m : Int) := ⟨n.toNat, by omega⟩
    rw [Int.toNat_natCast]
    have C := fun w => cjSmall_any m (by omega) w
    have I : ∀ w, Calls Try.prog 65 #[.int .i64 (m : Int), .int .i64 0, .int .i64 3] w fun e w' => e = .returned (.bool true) ∧ w = w' := fun w => l1In_yes (m : Int) 0 3 w (by omega) (by omega)
    show Calls _ _ _ _ (AnsQ2 (smallN (m + 1)) true w)
    generalize smallN (m + 1) = X at *
    clear h
    go_enter Try.func31, Try.ntmps31
    go_wp2_with fail
    refine (I _).mono ?_; rintro e w1 ⟨rfl, rfl⟩
    go_wp2_with fail
    refine (C _).mono ?_; rintro e w2 ⟨v1, own1, hb1, rfl⟩
    go_wp2_with fail
    go_ret2
    exact ⟨_, own1, hb1, rfl⟩
  · rw [if_neg h]
    have I : ∀ w, Calls Try.prog 65 #[.int .i64 n, .int .i64 0, .int .i64 3] w fun e w' => e = .returned (.bool false) ∧ w = w' := fun w => l1In_no n 0 3 w (by omega)
    show Calls _ _ _ _ (AnsQ2 [] false w)
    clear h
    go_enter Try.func31, Try.ntmps31
    go_wp2_with fail
    refine (I _).mono ?_; rintro e w1 ⟨rfl, rfl⟩
    go_wp2_with fail
    go_ret2
    exact ⟨_, OwnX.nil _ _ _ _, Below.refl _ _, rfl⟩

set_option maxHeartbeats 1000000 in
theorem implSmallPairs_any (n : Int) (w : World) (lo : -9223372036854775808 ≤ n) (hi : n ≤ 9223372036854775807) :
    Calls Try.prog 32 #[.int .i64 n] w (AnsQs (SmallPairs_o n) w) := by
  unfold SmallPairs_o
  by_cases h : 0 ≤ n ∧ n ≤ 3
  · rw [if_pos h]
    obtain ⟨m, rfl⟩ : ∃ m : Nat, n = (m : Int) := ⟨n.toNat, by omega⟩
    rw [Int.toNat_natCast]
    have C := fun w => smallPairsOne_any (fun _ => true) m (by omega) w (fun p w' _ _ _ => always_any p w')
    rw [show (smallN (m + 1)).filter (fun _ => true) = smallN (m + 1) from List.filter_eq_self.2 (fun _ _ => rfl)] at C
    have h0 : ¬ (m : Int) < 0 := by omega
    have h3 : ¬ (3 : Int) < (m : Int) := by omega
    show Calls _ _ _ _ (AnsQ2 (smallN (m + 1)) true w)
    generalize smallN (m + 1) = X at *
    clear h
    go_enter Try.func32, Try.ntmps32
    go_wp2_with fail
    refine (C _).mono ?_; rintro e w1 ⟨v1, own1, hb1, rfl⟩
    go_wp2_with fail
    go_ret2
    exact ⟨_, own1, hb1, rfl⟩
  · rw [if_neg h]
    show Calls _ _ _ _ (AnsQ2 [] false w)
    by_cases h0 : n < 0
    · clear h
      go_enter Try.func32, Try.ntmps32
      go_wp2_with fail
      go_ret2
      exact ⟨_, OwnX.nil _ _ _ _, Below.refl _ _, rfl⟩
    · have h3 : (3 : Int) < n := by omega
      clear h
      go_enter Try.func32, Try.ntmps32
      go_wp2_with fail
      go_ret2
      exact ⟨_, OwnX.nil _ _ _ _, Below.refl _ _, rfl⟩
end Go.Proofs.Ytkpganpojdboeaa

/-! Sm7 -/
namespace Go.Proofs.Ytkpganpojdboeaa
open Go.RowKit

noncomputable def CommutingWith_o (a b : ByteArray) (n : Int) : Option (List Pr) := (pairOf a b).bind fun p => if 0 ≤ n ∧ n ≤ 3 then some ((smallN (n.toNat + 1)).filter (comB p)) else none
theorem CommutingWith_len (a b : ByteArray) (n : Int) : ((CommutingWith_o a b n).getD []).length ≤ 100000000 := by
  unfold CommutingWith_o
  cases pairOf a b with
  | none => simp
  | some p =>
    show ((if 0 ≤ n ∧ n ≤ 3 then some ((smallN (n.toNat + 1)).filter (comB p)) else none).getD []).length ≤ _
    split
    · next h => have h1 := smallN_len (n := n.toNat + 1) (by omega); have h2 := List.length_filter_le (comB p) (smallN (n.toNat + 1)); simp only [Option.getD_some]; omega
    · simp
theorem eqPr_true {r s : Pr} (h : r = s) : eqPr r s = true := by unfold eqPr; simp [h]
theorem eqPr_false {r s : Pr} (h : ¬ r = s) : eqPr r s = false := by unfold eqPr; simp [h]
theorem filter_take {want : Pr → Bool} {L : List Pr} {j : Nat} (h : j < L.length) : (L.take (j + 1)).filter want = (L.take j).filter want ++ (if want (L.getD j (.lf, .lf)) = true then [L.getD j (.lf, .lf)] else []) := by
  rw [List.take_succ_eq_append_getElem h, List.filter_append]
  have e : L.getD j (.lf, .lf) = L[j] := by simp [List.getD_eq_getElem?_getD, h]
  rw [e]
  by_cases hb : want L[j] = true
  · simp [hb]
  · simp [hb]

set_option maxRecDepth 100000 in
set_option maxHeartbeats 2000000 in
theorem implCommutingWith_any (a b : ByteArray) (n : Int) (w : World) (ha : a.size ≤ 9223372036854775806) (hb : b.size ≤ 9223372036854775806) (lo : -9223372036854775808 ≤ n) (hi : n ≤ 9223372036854775807) :
    Calls Try.prog 39 #[.agg #[.string a, .string b], .int .i64 n] w (AnsQs (CommutingWith_o a b n) w) := by
  have hg := fun w => isPair_any a b w ha hb
  unfold CommutingWith_o
  cases h : pairOf a b with
  | none =>
    rw [h] at hg
    clear h
    go_enter Try.func39, Try.ntmps39
    go_wp2_with fail
    have hb0 : Below w.heap.size w (w.alloc (.cells #[.string a, .string b] 25 (0, 0))) := nxAlloc (Below.refl _ _) _
    have hx0 := heap_alloc_at w (.cells #[.string a, .string b] 25 (0, 0))
    generalize (w.alloc (.cells #[.string a, .string b] 25 (0, 0))) = w0 at *
    obtain ⟨hx0a, hx0b, hx0c⟩ := two_facts hx0
    obtain ⟨hx0f, hx0g⟩ := two_frozen hx0
    refine (hg _).mono ?_; rintro e w1 ⟨rfl, hb1⟩
    have hbw1 := nx hb0 hb1
    replace hx0 := heap_keep hb1 hx0
    clear hx0a hx0b hx0c hx0f hx0g
    obtain ⟨hx0a, hx0b, hx0c⟩ := two_facts hx0
    obtain ⟨hx0f, hx0g⟩ := two_frozen hx0
    clear hb1 hb0
    go_wp2_with fail
    all_goals go_ret2
    all_goals exact ⟨_, OwnX.nil _ _ _ _, hbw1, rfl⟩
  | some p =>
    rw [h] at hg
    obtain ⟨rfl, rfl, hok, hc1, hc2⟩ := pairOf_some h
    clear h
    show Calls _ _ _ _ (AnsQs (if 0 ≤ n ∧ n ≤ 3 then some ((smallN (n.toNat + 1)).filter (comB p)) else none) w)
    by_cases h : 0 ≤ n ∧ n ≤ 3
    · rw [if_pos h]
      obtain ⟨m, rfl⟩ : ∃ m : Nat, n = (m : Int) := ⟨n.toNat, by omega⟩
      rw [Int.toNat_natCast]
      have h0 : ¬ (m : Int) < 0 := by omega
      have h3 : ¬ (3 : Int) < (m : Int) := by omega
      have C := fun bp w hF => smallPairsCom_any (comB p) m (by omega) bp w hF
      have CO := fun (q : Pr) bp w h2 hq hx => commutes_any p q bp w hok h2 hc1 hq hx
      show Calls _ _ _ _ (AnsQ2 ((smallN (m + 1)).filter (comB p)) true w)
      generalize (smallN (m + 1)).filter (comB p) = XS at *
      clear h
      go_enter Try.func39, Try.ntmps39
      go_wp2_with fail
      have hb0 : Below w.heap.size w (w.alloc (.cells #[.string p.1.str, .string p.2.str] 25 (0, 0))) := nxAlloc (Below.refl _ _) _
      have hx0 := heap_alloc_at w (.cells #[.string p.1.str, .string p.2.str] 25 (0, 0))
      generalize (w.alloc (.cells #[.string p.1.str, .string p.2.str] 25 (0, 0))) = w0 at *
      obtain ⟨hx0a, hx0b, hx0c⟩ := two_facts hx0
      obtain ⟨hx0f, hx0g⟩ := two_frozen hx0
      refine (hg _).mono ?_; rintro e w1 ⟨rfl, hb1⟩
      have hbw1 := nx hb0 hb1
      replace hx0 := heap_keep hb1 hx0
      clear hx0a hx0b hx0c hx0f hx0g
      obtain ⟨hx0a, hx0b, hx0c⟩ := two_facts hx0
      obtain ⟨hx0f, hx0g⟩ := two_frozen hx0
      clear hb1 hb0
      have HFF : ∀ (q : Pr) (w' : World), okP q → q.1.carets ≤ 3 → Below w1.heap.size w1 w' → Calls Try.prog 74 #[.agg #[.string q.1.str, .string q.2.str], .pointer (some ⟨w.heap.size, 0, none⟩)] w' (Gives (.bool (comB p q)) w') := fun q w' h2 hq hb9 => CO q w.heap.size w' h2 hq (heap_keep hb9 hx0)
      have CC := C w.heap.size w1 HFF
      clear C CO HFF
      go_wp2_with fail
      refine CC.mono ?_; rintro e w9 ⟨v9, own9, hb9, rfl⟩
      have hlow := hbw1.size
      have hbw9 := nx hbw1 hb9
      go_wp2_with fail
      go_ret2
      exact ⟨_, OwnQ.mono own9 hlow, hbw9, rfl⟩
    · rw [if_neg h]
      show Calls _ _ _ _ (AnsQ2 [] false w)
      by_cases h0 : n < 0
      · clear h
        go_enter Try.func39, Try.ntmps39
        go_wp2_with fail
        have hb0 : Below w.heap.size w (w.alloc (.cells #[.string p.1.str, .string p.2.str] 25 (0, 0))) := nxAlloc (Below.refl _ _) _
        have hx0 := heap_alloc_at w (.cells #[.string p.1.str, .string p.2.str] 25 (0, 0))
        generalize (w.alloc (.cells #[.string p.1.str, .string p.2.str] 25 (0, 0))) = w0 at *
        obtain ⟨hx0a, hx0b, hx0c⟩ := two_facts hx0
        obtain ⟨hx0f, hx0g⟩ := two_frozen hx0
        refine (hg _).mono ?_; rintro e w1 ⟨rfl, hb1⟩
        have hbw1 := nx hb0 hb1
        replace hx0 := heap_keep hb1 hx0
        clear hx0a hx0b hx0c hx0f hx0g
        obtain ⟨hx0a, hx0b, hx0c⟩ := two_facts hx0
        obtain ⟨hx0f, hx0g⟩ := two_frozen hx0
        clear hb1 hb0
        go_wp2_with fail
        go_ret2
        exact ⟨_, OwnX.nil _ _ _ _, hbw1, rfl⟩
      · have h3 : (3 : Int) < n := by omega
        clear h
        go_enter Try.func39, Try.ntmps39
        go_wp2_with fail
        have hb0 : Below w.heap.size w (w.alloc (.cells #[.string p.1.str, .string p.2.str] 25 (0, 0))) := nxAlloc (Below.refl _ _) _
        have hx0 := heap_alloc_at w (.cells #[.string p.1.str, .string p.2.str] 25 (0, 0))
        generalize (w.alloc (.cells #[.string p.1.str, .string p.2.str] 25 (0, 0))) = w0 at *
        obtain ⟨hx0a, hx0b, hx0c⟩ := two_facts hx0
        obtain ⟨hx0f, hx0g⟩ := two_frozen hx0
        refine (hg _).mono ?_; rintro e w1 ⟨rfl, hb1⟩
        have hbw1 := nx hb0 hb1
        replace hx0 := heap_keep hb1 hx0
        clear hx0a hx0b hx0c hx0f hx0g
        obtain ⟨hx0a, hx0b, hx0c⟩ := two_facts hx0
        obtain ⟨hx0f, hx0g⟩ := two_frozen hx0
        clear hb1 hb0
        go_wp2_with fail
        go_ret2
        exact ⟨_, OwnX.nil _ _ _ _, hbw1, rfl⟩

set_option maxRecDepth 100000 in
set_option maxHeartbeats 4000000 in
theorem specCommutingWith_any (a b : ByteArray) (n : Int) (w : World) (ha : a.size ≤ 9223372036854775806) (hb : b.size ≤ 9223372036854775806) (lo : -9223372036854775808 ≤ n) (hi : n ≤ 9223372036854775807) :
    Calls Try.prog 38 #[.agg #[.string a, .string b], .int .i64 n] w (AnsQs (CommutingWith_o a b n) w) := by
  obtain ⟨i0, hi0, hz0, hz1, hz2⟩ := info_parts info_pair7
  have hg := fun w => prGood_any a b w ha hb
  unfold CommutingWith_o
  cases h : pairOf a b with
  | none =>
    rw [h] at hg
    clear h
    go_enter Try.func38, Try.ntmps38
    go_wp2_with fail
    have hb0 : Below w.heap.size w (w.alloc (.cells #[.string a, .string b] 25 (0, 0))) := nxAlloc (Below.refl _ _) _
    have hx0 := heap_alloc_at w (.cells #[.string a, .string b] 25 (0, 0))
    generalize (w.alloc (.cells #[.string a, .string b] 25 (0, 0))) = w0 at *
    obtain ⟨hx0a, hx0b, hx0c⟩ := two_facts hx0
    obtain ⟨hx0f, hx0g⟩ := two_frozen hx0
    refine (hg _).mono ?_; rintro e w1 ⟨rfl, hb1⟩
    have hbw1 := nx hb0 hb1
    replace hx0 := heap_keep hb1 hx0
    clear hx0a hx0b hx0c hx0f hx0g
    obtain ⟨hx0a, hx0b, hx0c⟩ := two_facts hx0
    obtain ⟨hx0f, hx0g⟩ := two_frozen hx0
    clear hb1 hb0
    go_wp2_with fail
    all_goals go_ret2
    all_goals exact ⟨_, OwnX.nil _ _ _ _, hbw1, rfl⟩
  | some p =>
    rw [h] at hg
    obtain ⟨rfl, rfl, hok, hc1, hc2⟩ := pairOf_some h
    clear h
    show Calls _ _ _ _ (AnsQs (if 0 ≤ n ∧ n ≤ 3 then some ((smallN (n.toNat + 1)).filter (comB p)) else none) w)
    by_cases h : 0 ≤ n ∧ n ≤ 3
    rotate_left
    · rw [if_neg h]
      have I : ∀ w, Calls Try.prog 65 #[.int .i64 n, .int .i64 0, .int .i64 3] w fun e w' => e = .returned (.bool false) ∧ w = w' := fun w => l1In_no n 0 3 w (by omega)
      show Calls _ _ _ _ (AnsQ2 [] false w)
      clear h
      go_enter Try.func38, Try.ntmps38
      go_wp2_with fail
      have hb0 : Below w.heap.size w (w.alloc (.cells #[.string p.1.str, .string p.2.str] 25 (0, 0))) := nxAlloc (Below.refl _ _) _
      have hx0 := heap_alloc_at w (.cells #[.string p.1.str, .string p.2.str] 25 (0, 0))
      generalize (w.alloc (.cells #[.string p.1.str, .string p.2.str] 25 (0, 0))) = w0 at *
      obtain ⟨hx0a, hx0b, hx0c⟩ := two_facts hx0
      obtain ⟨hx0f, hx0g⟩ := two_frozen hx0
      refine (hg _).mono ?_; rintro e w1 ⟨rfl, hb1⟩
      have hbw1 := nx hb0 hb1
      replace hx0 := heap_keep hb1 hx0
      clear hx0a hx0b hx0c hx0f hx0g
      obtain ⟨hx0a, hx0b, hx0c⟩ := two_facts hx0
      obtain ⟨hx0f, hx0g⟩ := two_frozen hx0
      clear hb1 hb0
      go_wp2_with fail
      refine (I _).mono ?_; rintro e wc ⟨rfl, rfl⟩
      go_wp2_with fail
      go_ret2
      exact ⟨_, OwnX.nil _ _ _ _, hbw1, rfl⟩
    rw [if_pos h]
    obtain ⟨m, rfl⟩ : ∃ m : Nat, n = (m : Int) := ⟨n.toNat, by omega⟩
    rw [Int.toNat_natCast]
    have I : ∀ w, Calls Try.prog 65 #[.int .i64 (m : Int), .int .i64 0, .int .i64 3] w fun e w' => e = .returned (.bool true) ∧ w = w' := fun w => l1In_yes (m : Int) 0 3 w (by omega) (by omega)
    have C := fun w => cjSmall_any m (by omega) w
    have hmem : ∀ j, j < (smallN (m + 1)).length → okP ((smallN (m + 1)).getD j (.lf, .lf)) ∧ ((smallN (m + 1)).getD j (.lf, .lf)).1.carets ≤ 3 := fun j hj => by
      have h9 := mem_smallN.1 (show (smallN (m + 1)).getD j (.lf, .lf) ∈ smallN (m + 1) by rw [List.getD_eq_getElem?_getD, List.getElem?_eq_getElem hj]; exact List.getElem_mem hj)
      exact ⟨h9.2.1, by omega⟩
    have hlen := smallN_len (n := m + 1) (by omega)
    have hln : (smallN (m + 1)).length ≤ 100 := by omega
    show Calls _ _ _ _ (AnsQ2 ((smallN (m + 1)).filter (comB p)) true w)
    generalize smallN (m + 1) = L at *
    have HM := Lib.hid hmem
    clear h hmem hlen
    go_enter Try.func38, Try.ntmps38
    go_wp2_with fail
    have hb0 : Below w.heap.size w (w.alloc (.cells #[.string p.1.str, .string p.2.str] 25 (0, 0))) := nxAlloc (Below.refl _ _) _
    have hx0 := heap_alloc_at w (.cells #[.string p.1.str, .string p.2.str] 25 (0, 0))
    generalize (w.alloc (.cells #[.string p.1.str, .string p.2.str] 25 (0, 0))) = w0 at *
    obtain ⟨hx0a, hx0b, hx0c⟩ := two_facts hx0
    obtain ⟨hx0f, hx0g⟩ := two_frozen hx0
    refine (hg _).mono ?_; rintro e w1 ⟨rfl, hb1⟩
    have hbw1 := nx hb0 hb1
    replace hx0 := heap_keep hb1 hx0
    clear hx0a hx0b hx0c hx0f hx0g
    obtain ⟨hx0a, hx0b, hx0c⟩ := two_facts hx0
    obtain ⟨hx0f, hx0g⟩ := two_frozen hx0
    clear hb1 hb0
    go_wp2_with fail
    refine (I _).mono ?_; rintro e wc ⟨rfl, rfl⟩
    go_wp2_with fail
    refine (C _).mono ?_; rintro e w9 ⟨v9, own9, hb9, rfl⟩
    have hbw9 := nx hbw1 hb9
    have hx9 := heap_keep hb9 hx0
    have hcl := own9.cells
    clear C own9 hb9 hbw1 hx0 hx0a hx0b hx0c hx0f hx0g
    obtain ⟨N, hN⟩ : ∃ N, N = L.length := ⟨_, rfl⟩
    rw [← hN] at hcl hln
    have HN := Lib.hid hN
    have hszw := hbw9.size
    clear hN
    rcases hcl with ⟨rfl, hn0⟩ | ⟨g, cap, rfl, hgb, hgl, hc1', hm1, hc, _⟩
    · go_wp2_with fail
      go_loopw [6, 20] (fun u c wr => ∃ (j : Nat) (ys : List Pr), j ≤ N ∧ c = .int .i64 j ∧ OwnQ w9.heap.size wr u ys ∧ ys.length ≤ j ∧ Hid (ys = (L.take j).filter (comB p)) ∧ Below w9.heap.size w9 wr) (fun _ c _ => N - (intOf c).toNat)
      case atStart => exact ⟨0, [], Nat.zero_le _, rfl, OwnX.nil _ _ _ _, Nat.zero_le _, rfl, Below.refl _ _⟩
      case round =>
        obtain ⟨j, ys, hj, rfl, hown, hyl, hys, hbw⟩ := hrel
        obtain rfl : j = N := by omega
        have hn1 : ¬ (j : Int) < 0 := by omega
        have h1 := hys.out
        rw [HN.out, List.take_length] at h1
        have HX := Lib.hid h1
        have hbf := nx hbw9 hbw
        clear h1 hys
        go_wp2_with fail
        go_ret2
        exact ⟨_, by rw [← HX.out]; exact OwnQ.mono hown hszw, hbf, rfl⟩
    · have HC := Lib.hid hc
      unfold maxLen at hm1
      clear hc
      go_wp2_with fail
      go_loopw [6, 20] (fun u c wr => ∃ (j : Nat) (ys : List Pr), j ≤ N ∧ c = .int .i64 j ∧ OwnQ w9.heap.size wr u ys ∧ ys.length ≤ j ∧ Hid (ys = (L.take j).filter (comB p)) ∧ Below w9.heap.size w9 wr) (fun _ c _ => N - (intOf c).toNat)
      case atStart => exact ⟨0, [], Nat.zero_le _, rfl, OwnX.nil _ _ _ _, Nat.zero_le _, rfl, Below.refl _ _⟩
      case round =>
        obtain ⟨j, ys, hj, rfl, hown, hyl, hys, hbw⟩ := hrel
        by_cases hlt : j < N
        · have hlt' : (j : Int) < (N : Int) := by omega
          have hjL : j < L.length := by rw [← HN.out]; exact hlt
          have d1 := (hbw.cell (p := ⟨g, j * 2, none⟩) hgl).trans (HC.out (j * 2) (by omega))
          have d2 := (hbw.cell (p := ⟨g, j * 2 + 1, none⟩) hgl).trans (HC.out (j * 2 + 1) (by omega))
          rw [(flatQ_get L j hjL).1] at d1
          rw [(flatQ_get L j hjL).2] at d2
          obtain ⟨hqo, hq3⟩ := HM.out j hjL
          have hft := filter_take (want := comB p) hjL
          obtain ⟨q, hq⟩ : ∃ q, q = L.getD j (.lf, .lf) := ⟨_, rfl⟩
          rw [← hq] at d1 d2 hqo hq3 hft
          have HFT := Lib.hid hft
          have hsz3 := hbw.size
          have hx3 := heap_keep hbw hx9
          have TU := fun w => prTimes_any p q w hok hqo (by omega) (by omega)
          have TV := fun w => prTimes_any q p w hqo hok (by omega) (by omega)
          have ru := mulP_carets hok hqo
          have rv := mulP_carets hqo hok
          have ou : (mulP p q).1.carets = (mulP p q).2.carets := mulP_ok hok hqo
          have ov : (mulP q p).1.carets = (mulP q p).2.carets := mulP_ok hqo hok
          have oq : q.1.carets = q.2.carets := hqo
          have XU := fun w => prText_any (mulP p q) w (by omega) (by omega)
          have XV := fun w => prText_any (mulP q p) w (by omega) (by omega)
          rw [prS_pTx] at XU XV
          have hcb : comB p q = eqPr (mulP p q) (mulP q p) := rfl
          have hbe : ((pTx (mulP p q)).toList == (pTx (mulP q p)).toList) = comB p q := by
            rw [hcb]
            by_cases e : mulP p q = mulP q p
            · rw [eqPr_true e, e]; simp
            · rw [eqPr_false e, pTx_ne e]
          obtain ⟨cb, hcb2⟩ : ∃ cb, cb = comB p q := ⟨_, rfl⟩
          rw [← hcb2] at hbe
          have HCB := Lib.hid hcb2
          generalize mulP p q = R at *
          generalize mulP q p = S at *
          clear hq hft hjL ru rv ou ov oq hcb hcb2
          go_wp2_with fail
          have hbw4 := nxAlloc hbw (.cells #[.string q.1.str, .string q.2.str] 25 (0, 0))
          have hown4 := OwnQ.keep hown (nxAlloc (Below.refl _ _) (.cells #[.string q.1.str, .string q.2.str] 25 (0, 0)))
          have hx4 := heap_keep (nxAlloc (Below.refl _ _) (.cells #[.string q.1.str, .string q.2.str] 25 (0, 0))) hx3
          have hy4 := heap_alloc_at wr (.cells #[.string q.1.str, .string q.2.str] 25 (0, 0))
          generalize wr.alloc (.cells #[.string q.1.str, .string q.2.str] 25 (0, 0)) = w4 at *
          obtain ⟨xa, xb, xc⟩ := two_facts hx4
          obtain ⟨ya, yb, yc⟩ := two_facts hy4
          clear hbw hown hx3 d1 d2
          refine wp_region_cls (by kernel_rfl) (by kernel_rfl) ?_
          repeat (
            refine wpQuiet_step (fun K hK => ?_)
            go_simp
            first
              | (refine hK _ ?_; clear hK K)
              | (refine ⟨_, fun _ _ => rfl, hK _ ?_⟩; clear hK K)
              | (apply Exists.intro
                 refine ⟨fun w' hw' => ?_, hK _ ?_⟩
                 · first
                     | (go_at_call 71; first | (with_reducible exact hw'.call (TU _)) | (with_reducible exact hw'.call (TV _)))
                     | (go_at_call 70; first | (with_reducible exact hw'.call (XU _)) | (with_reducible exact hw'.call (XV _)))
                     | (rw [hw'.cell xc xa]; dsimp only [Result.andThen]; rw [hw'.cell xc xb]; exact ⟨rfl, rfl⟩)
                     | (rw [hw'.cell yc ya]; dsimp only [Result.andThen]; rw [hw'.cell yc yb]; exact ⟨rfl, rfl⟩)
                 clear hK K))
          refine wpQuiet_nil ?_
          intro w' hw'
          have hy5 := heap_keep hw' hy4
          have hbw5 := nx hbw4 hw'
          have hown5 := OwnQ.keep hown4 hw'
          have hsz5 := hbw5.size
          clear hbw4 hown4 hx4 hy4 xa xb xc ya yb yc hw'
          generalize w' = w5 at *
          obtain ⟨ya, yb, yc⟩ := two_facts hy5
          cases hcc : cb with
          | true =>
            rw [hcc] at hbe HCB
            unfold OwnQ OwnX at hown5
            clear hcc
            go_wp2_with (at_builtin; go_loud (refine wpList_append_own _ rfl _ _ 43 rfl w9.heap.size 25 i0 (.agg #[.string ⟨#[]⟩, .string ⟨#[]⟩]) 2 32 Try.underlying43 hi0 hz0 hz1 hz2 rfl (by decide) _ _ _ rfl (hown5.alloc _) ⟨w5.heap.size, 0, none⟩ 1 1 [.string q.1.str, .string q.2.str] rfl rfl (newsQ _ #[.string q.1.str, .string q.2.str] _) (pr_one _ _) (by unfold maxLen; omega) (by omega) (by simp; omega) ?_); intro v' w6 hown' hgrow hnn)
            have hbw6 := (nxAlloc hbw5 (.cells #[.string q.1.str, .string q.2.str] 25 (0, 0))).grown hgrow (by simp; omega) (fun k hk => ownsRow_ge hown5 k hk)
            have hown6 : OwnQ w9.heap.size w6 v' (ys ++ [q]) := OwnQ.snoc7 hown'
            have hfin : ys ++ [q] = (L.take (j + 1)).filter (comB p) := by rw [HFT.out, ← HCB.out, if_pos rfl, hys.out]
            have HX := Lib.hid hfin
            clear hown5 hown' hgrow hbw5 hnn hfin
            go_wp2_with fail
            go_roundw
            case rel => exact ⟨j + 1, _, by omega, by go_num, hown6, by simp; omega, HX, hbw6⟩
            case measure => simp [intOf]; omega
          | false =>
            rw [hcc] at hbe HCB
            have hfin : ys = (L.take (j + 1)).filter (comB p) := by rw [HFT.out, ← HCB.out, hys.out]; simp
            have HX := Lib.hid hfin
            clear hcc hfin
            go_wp2_with fail
            go_roundw
            case rel => exact ⟨j + 1, ys, by omega, by go_num, hown5, by omega, HX, hbw5⟩
            case measure => simp [intOf]; omega
        · obtain rfl : j = N := by omega
          have h1 := hys.out
          rw [HN.out, List.take_length] at h1
          have HX := Lib.hid h1
          have hbf := nx hbw9 hbw
          clear h1 hys
          go_wp2_with fail
          go_ret2
          exact ⟨_, by rw [← HX.out]; exact OwnQ.mono hown hszw, hbf, rfl⟩
end Go.Proofs.Ytkpganpojdboeaa

/-! WCommutingWith -/
namespace Go.Proofs.Ytkpganpojdboeaa
open Go.RowKit

set_option maxRecDepth 100000 in
set_option maxHeartbeats 1000000 in
theorem fnExactCommutingWith_walk (a : ByteArray) (ha : a.size ≤ maxLen) (b : ByteArray) (hb : b.size ≤ maxLen) (n : Int) (hn : (Lit.int .i64 n).wf = true) (w : World) :
    Calls Try.prog 11 #[.agg #[.string a, .string b], .int .i64 n] w fun e w' => e = .returned (.bool true) ∧ Below w.heap.size w w' := by
  unfold maxLen at ha hb
  obtain ⟨lon, hin⟩ := i64_bounds hn
  clear hn
  have hsz := fun w => szPair_any a b w (by omega) (by omega) 1048576 (by omega) (by omega)
  by_cases hz : (a.size : Int) + b.size ≤ 1048576
  rotate_left
  · simp only [if_neg hz] at hsz
    go_enter Try.func11, Try.ntmps11
    go_wp2_with fail
    have hb0 : Below w.heap.size w (w.alloc (.cells #[.string a, .string b] 23 (0, 0))) := nxAlloc (Below.refl _ _) _
    have hx := heap_alloc_at w (.cells #[.string a, .string b] 23 (0, 0))
    generalize w.alloc (.cells #[.string a, .string b] 23 (0, 0)) = w0 at *
    obtain ⟨ka, kb, kc⟩ := two_facts hx
    refine (hsz _).mono ?_; rintro e w1 ⟨rfl, hb1⟩
    go_wp2_with fail
    go_ret
    exact ⟨rfl, nx hb0 hb1⟩
  simp only [if_pos hz] at hsz
  have hS := fun w => specCommutingWith_any a b n w (by omega) (by omega) lon hin
  have hI := fun w => implCommutingWith_any a b n w (by omega) (by omega) lon hin
  have hn9 := CommutingWith_len a b n
  obtain ⟨o, ho⟩ : ∃ o, o = CommutingWith_o a b n := ⟨_, rfl⟩
  rw [← ho] at hn9
  simp only [← ho] at hS hI
  clear ho
  obtain ⟨xs, ok, hx9, hk9⟩ : ∃ xs ok, xs = o.getD [] ∧ ok = o.isSome := ⟨_, _, rfl, rfl⟩
  have hS' : ∀ w, Calls Try.prog 38 #[.agg #[.string a, .string b], .int .i64 n] w (AnsQ2 xs ok w) := by rw [hx9, hk9]; exact hS
  have hI' : ∀ w, Calls Try.prog 39 #[.agg #[.string a, .string b], .int .i64 n] w (AnsQ2 xs ok w) := by rw [hx9, hk9]; exact hI
  rw [← hx9] at hn9
  clear hS hI hx9 hk9 o lon hin
  go_enter Try.func11, Try.ntmps11
  go_wp2_with fail
  have hb0 : Below w.heap.size w (w.alloc (.cells #[.string a, .string b] 23 (0, 0))) := nxAlloc (Below.refl _ _) _
  have hx := heap_alloc_at w (.cells #[.string a, .string b] 23 (0, 0))
  generalize w.alloc (.cells #[.string a, .string b] 23 (0, 0)) = w0 at *
  obtain ⟨ka, kb, kc⟩ := two_facts hx
  refine (hsz _).mono ?_; rintro e w1 ⟨rfl, hb1⟩
  have hbw1 := nx hb0 hb1
  replace hx := heap_keep hb1 hx
  clear ka kb kc
  obtain ⟨ka, kb, kc⟩ := two_facts hx
  go_wp2_with fail
  refine (toPair_any a b _).mono ?_; rintro e w2 ⟨rfl, hb2⟩
  have hbw2 := nx hbw1 hb2
  replace hx := heap_keep hb2 hx
  clear ka kb kc
  obtain ⟨ka, kb, kc⟩ := two_facts hx
  go_wp2_with fail
  refine (hS' _).mono ?_; rintro e w3 ⟨v0, own0, hb3, rfl⟩
  have hbw3 := nx hbw2 hb3
  replace hx := heap_keep hb3 hx
  clear ka kb kc
  obtain ⟨ka, kb, kc⟩ := two_facts hx
  go_wp2_with fail
  refine (toPair_any a b _).mono ?_; rintro e w4 ⟨rfl, hb4⟩
  have hbw4 := nx hbw3 hb4
  replace hx := heap_keep hb4 hx
  clear ka kb kc
  obtain ⟨ka, kb, kc⟩ := two_facts hx
  replace own0 := own0.keep hb4
  go_wp2_with fail
  have own04 := own0
  have hx4 := hx
  refine (hI' _).mono ?_; rintro e w5 ⟨v1, own1, hb5, rfl⟩
  have hbw5 := nx hbw4 hb5
  replace hx := heap_keep hb5 hx
  clear ka kb kc
  obtain ⟨ka, kb, kc⟩ := two_facts hx
  replace own0 := own0.keep hb5
  go_wp2_with fail
  refine (eqPairS_any _ _ v1 v0 xs _ own1.cells own0.cells).mono ?_; rintro e w6 ⟨rfl, hb6⟩
  have hbw6 := nx hbw5 hb6
  replace hx := heap_keep hb6 hx
  clear ka kb kc
  obtain ⟨ka, kb, kc⟩ := two_facts hx
  replace own0 := own0.keep hb6
  replace own1 := own1.keep hb6
  go_wp2_with fail
  refine (markPairS_1 w4.heap.size v1 xs _ hn9 (hb5.trans (hb6.mono hb5.size)).size own1).mono ?_; rintro e w7 ⟨rfl, own7, hb7⟩
  have hb47 : Below w4.heap.size w4 w7 := (hb5.trans (hb6.mono hb5.size)).trans hb7
  have hbw7 := nx hbw4 hb47
  clear own0 own1
  have own0 := own04.keep hb47
  clear hx ka kb kc
  have hx := heap_keep hb47 hx4
  clear hx4
  obtain ⟨ka, kb, kc⟩ := two_facts hx
  clear own04 hb47 hb7
  go_wp2_with fail
  refine (heldPairS_1 w4.heap.size v1 xs.length _ hn9 own7.cells).mono ?_; rintro e w8 ⟨rfl, hb8⟩
  have hbw8 := nx hbw7 hb8
  replace hx := heap_keep hb8 hx
  clear ka kb kc
  obtain ⟨ka, kb, kc⟩ := two_facts hx
  replace own0 := own0.keep hb8
  replace own7 := own7.keep hb8
  go_wp2_with fail
  refine (toPair_any a b _).mono ?_; rintro e w9 ⟨rfl, hb9⟩
  have hbw9 := nx hbw8 hb9
  replace hx := heap_keep hb9 hx
  clear ka kb kc
  obtain ⟨ka, kb, kc⟩ := two_facts hx
  replace own0 := own0.keep hb9
  replace own7 := own7.keep hb9
  go_wp2_with fail
  refine (hI' _).mono ?_; rintro e w10 ⟨v2, own2, hb10, rfl⟩
  have hbw10 := nx hbw9 hb10
  replace hx := heap_keep hb10 hx
  clear ka kb kc
  obtain ⟨ka, kb, kc⟩ := two_facts hx
  replace own0 := own0.keep hb10
  replace own7 := own7.keep hb10
  go_wp2_with fail
  refine (eqPairS_any _ _ v2 v0 xs _ own2.cells own0.cells).mono ?_; rintro e w11 ⟨rfl, hb11⟩
  have hbw11 := nx hbw10 hb11
  replace hx := heap_keep hb11 hx
  clear ka kb kc
  obtain ⟨ka, kb, kc⟩ := two_facts hx
  replace own7 := own7.keep hb11
  go_wp2_with fail
  refine (heldPairS_1 w4.heap.size v1 xs.length _ hn9 own7.cells).mono ?_; rintro e w12 ⟨rfl, hb12⟩
  have hbw12 := nx hbw11 hb12
  replace hx := heap_keep hb12 hx
  clear ka kb kc
  obtain ⟨ka, kb, kc⟩ := two_facts hx
  go_wp2_with fail
  go_ret
  exact ⟨rfl, hbw12⟩
end Go.Proofs.Ytkpganpojdboeaa

/-! LFnExactCommutingWith -/
namespace Go.Proofs.Ytkpganpojdboeaa.fnExactCommutingWith
open Go.ChangeShapes Go.WideShapes Go.ChangeAt Go.RowKit
open Go.ChangeMaps (open_string shut_string)
open Go.Joins (open_agg2 shut_agg2)
set_option linter.unusedVariables false

theorem cellsPair : Try.prog.cellsOf 23 = 2 := by kernel_rfl
theorem own : ownKnob Try.prog.godebug = none := by kernel_rfl
theorem laidOut : laidOutB Try.prog = true := by kernel_rfl

set_option maxRecDepth 100000 in
theorem lifted (os : Os) (started : os.Started) (H : Type) (enc : TypeId × Value → H) :
    ReturnsInHanded {} Try.checked os 11 .any (Rows.fnExactCommutingWithSpec.pre6 enc Try.prog Try.f11 Rows.fnExactCommutingWithRow.domain false) (Rows.fnExactCommutingWithSpec.post enc Try.prog Try.f11 false true false false) := by
  refine returnsInHanded_of_change (C := Try.checked) own started (by kernel_rfl) Try.func11
    (ChangeSpec.witness6 (enc := enc) (C := Try.checked) false ⟨#[], #[.agg #[.string ByteArray.empty, .string ByteArray.empty], .int .i64 0], []⟩ 8 (by kernel_rfl) (by kernel_rfl) (by kernel_rfl) (by kernel_rfl)) ?_
  intro W base args ds gs before hval0 hW hcnd _
  have hval : ∀ (j : Nat) t v, Try.f11.params[j]? = some t → args[j]? = some v → Value.okWide Try.prog W .any base t v := hval0
  have hW' := hW
  obtain ⟨p, q, hA0, hV, rfl, hfz, hnd⟩ := hW
  have hA : DataW.TrodAll enc Try.prog W 0 (fun _ => true) true Try.f11.params.toList args.toList ds p := hA0
  rw [Try.params11] at hA hval
  obtain ⟨v0, vs0, d0, ds0, p0, q0, hargs, rfl, rfl, h0, r0⟩ := trodAll_cons hA
  obtain ⟨v1, vs1, d1, ds1, p1, q1, rfl, rfl, rfl, h1, r1⟩ := trodAll_cons r0
  obtain ⟨rfl, rfl, rfl⟩ := trodAll_nil r1
  obtain rfl : args = #[v0, v1] := by cases args; simp_all
  obtain ⟨rfl, rfl⟩ := trodVars_none hV
  obtain ⟨c0a, c0b, y0a, y0b, m0, rfl, rfl, rfl, hy0a, hy0b⟩ := open_agg2 Try.underlying23 (by kernel_rfl) cellsPair (hval 0 23 v0 rfl rfl) h0
  obtain ⟨a0a, e0a, rfl, w0a⟩ := DataW.trod_string Try.underlying9 hy0a
  obtain ⟨a0b, e0b, rfl, w0b⟩ := DataW.trod_string Try.underlying9 hy0b
  simp at e0a e0b
  subst e0a e0b
  obtain ⟨a1, rfl, rfl, rfl, w1⟩ := open_int Try.underlying3 (hval 1 3 v1 rfl rfl) h1
  clear hA0 hval0
  simp only [List.append_nil] at hW'
  refine (fnExactCommutingWith_walk a0a w0a a0b w0b a1 w1 W).mono fun e W' ⟨he, bel⟩ => ?_
  subst he
  exact ⟨_, rfl, _, _, _, [], _, [], hW', trodAll_mk1 (shut_bool Try.underlying4 _), (trodAll_cons_mk (shut_agg2 (y0 := (.lit (.string a0a.data.toList), [])) (y1 := (.lit (.string a0b.data.toList), [])) Try.underlying23 (by kernel_rfl) cellsPair (Go.Deep.shut_string_cell Try.underlying9 w0a) (Go.Deep.shut_string_cell Try.underlying9 w0b)) (trodAll_cons_mk (shut_int Try.underlying3 w1) trodAll_mk0)), rfl, bel.frame _, fun h => by cases h⟩

theorem over : Rows.fnExactCommutingWithRow.holds Try.pinned (OpenSpec.ofChange Rows.fnExactCommutingWithSpec) :=
  OpenClaim.holds_of_wide 11 Try.f11 rfl rfl rfl rfl rfl rfl rfl ⟨rfl, rfl, rfl, rfl, rfl⟩ rfl rfl rfl rfl rfl (by kernel_rfl) Try.func11 (by kernel_rfl)
    (of_decide_eq_true (by kernel_rfl)) (by unfold Func.isWrapper; first | (rw [if_pos (by decide +kernel)]; kernel_rfl) | (rw [if_neg (by decide +kernel)]; exact ⟨rfl, rfl⟩))
    (fun os started H enc _ => lifted os started H enc)

theorem proved : Rows.FnExactCommutingWithSaid := over
#print axioms proved
end Go.Proofs.Ytkpganpojdboeaa.fnExactCommutingWith
