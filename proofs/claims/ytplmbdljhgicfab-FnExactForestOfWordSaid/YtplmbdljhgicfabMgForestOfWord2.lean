/- Texts that the claim needs, part 3. -/
import Derived.Test.YtplmbdljhgicfabMgForestOfWord1
import Derived.Deep.RegionHeld3
import Derived.OwnWalk
import Derived.RangeFuncNested
import Derived.Shelf.Strings.Repeat
import Derived.Test.YtplmbdljhgicfabProg
import Derived.Laws.CopyOwn
import Derived.Laws.MakeOwn
import Derived.Deep.RegionLaw
import Derived.Lib.AppendZeros
import Derived.RegionTactic
import Derived.Shelf.Strings.Builder1
import Derived.Deep.AppendLies
/-! Join -/
namespace Go.Proofs.Ytplmbdljhgicfab
open Go.RowKit

set_option maxRecDepth 100000 in
set_option maxHeartbeats 2000000 in
theorem join_any (t : Tr) : ∀ (u : Tr) (b c : Nat) (w : World), NodeAt w t b → NodeAt w u c →
    Calls Try.prog 111 #[.pointer (some ⟨b, 0, none⟩), .pointer (some ⟨c, 0, none⟩)] w (GivesNode (t.join u) w) := by
  induction t with
  | lf =>
    intro u b c w h k
    have H := Lib.hid h
    have K := Lib.hid k
    clear h k
    go_enter Try.func111, Try.ntmps111
    go_wp2_with fail
    refine (isLeaf_any .lf b _ H.out).mono ?_; rintro e w1 ⟨rfl, rfl⟩
    simp only [Tr.isLf]
    go_wp2_with fail
    go_ret
    exact ⟨c, K.out, Below.refl _ _, rfl⟩
  | nd l r ihl ihr =>
    intro u b c w h k
    cases u with
    | lf =>
      have H := Lib.hid h
      have K := Lib.hid k
      clear h k ihl ihr
      go_enter Try.func111, Try.ntmps111
      go_wp2_with fail
      refine (isLeaf_any (.nd l r) b _ H.out).mono ?_; rintro e w1 ⟨rfl, rfl⟩
      simp only [Tr.isLf]
      go_wp2_with fail
      refine (isLeaf_any .lf c _ K.out).mono ?_; rintro e w1 ⟨rfl, rfl⟩
      simp only [Tr.isLf]
      go_wp2_with fail
      go_ret
      exact ⟨b, H.out, Below.refl _ _, rfl⟩
    | nd p q =>
      have H := Lib.hid h
      have K := Lib.hid k
      obtain ⟨bl, br, h, hl, hr⟩ := h
      obtain ⟨cl, cr, k, kl, kr⟩ := k
      have h1 := two_left h
      have h2 := two_right h
      have k1 := two_left k
      have k2 := two_right k
      clear h k
      go_enter Try.func111, Try.ntmps111
      go_wp2_with fail
      refine (isLeaf_any (.nd l r) b _ H.out).mono ?_; rintro e w1 ⟨rfl, rfl⟩
      simp only [Tr.isLf]
      go_wp2_with fail
      refine (isLeaf_any (.nd p q) c _ K.out).mono ?_; rintro e w1 ⟨rfl, rfl⟩
      simp only [Tr.isLf]
      go_wp2_with fail
      have hb0 := Below.refl w.heap.size w
      go_region_held3 (fun w' => w'.cell? ⟨b, 0, none⟩ = some (.pointer (some ⟨bl, 0, none⟩)) ∧ w'.cell? ⟨b, 1, none⟩ = some (.pointer (some ⟨br, 0, none⟩)) ∧ w'.cell? ⟨c, 0, none⟩ = some (.pointer (some ⟨cl, 0, none⟩)) ∧ w'.cell? ⟨c, 1, none⟩ = some (.pointer (some ⟨cr, 0, none⟩)))
          (first
            | exact ⟨h1, h2, k1, k2⟩
            | exact ⟨q1, q2, q3, q4⟩
            | exact ⟨s1, s2, s3, s4⟩
            | exact ⟨(a1 _).1, (a1 _).2, (a2 _).1, (a2 _).2⟩)
          (first
          | (go_at_call_of 111 (some (⟨bl, 0, none⟩ : Addr)); refine (ihl p bl cl _ ?_ ?_).mono ?_; exact hl.keep hb0.drew; exact kl.keep hb0.drew; rintro e w1 ⟨b1, hn1, hb1, rfl⟩; have hb1' := nx hb0.drew hb1; obtain ⟨q1, q2⟩ := below_two hb1' h1 h2; obtain ⟨q3, q4⟩ := below_two hb1' k1 k2)
          | (go_at_call_of 111 (some (⟨br, 0, none⟩ : Addr)); refine (ihr q br cr _ ?_ ?_).mono ?_; exact hr.keep hb1'; exact kr.keep hb1'; rintro e w2 ⟨b2, hn2, hb2, rfl⟩; have hb2' := nx hb1' hb2; obtain ⟨s1, s2⟩ := below_two hb2' h1 h2; obtain ⟨s3, s4⟩ := below_two hb2' k1 k2; have a1 := fun o => below_two (nxAlloc hb2' o) h1 h2; have a2 := fun o => below_two (nxAlloc hb2' o) k1 k2))
      all_goals (try go_wp2_with fail)
      all_goals go_ret
      all_goals exact ⟨_, node_new hn1 hb2 hn2, nxAlloc hb2' _, rfl⟩
set_option maxHeartbeats 1000000 in
theorem isPart_any (t : Tr) : ∀ (u : Tr) (b c : Nat) (w : World), NodeAt w t b → NodeAt w u c →
    Calls Try.prog 45 #[.pointer (some ⟨b, 0, none⟩), .pointer (some ⟨c, 0, none⟩)] w (Quietly (.bool (t.part u)) w) := by
  induction t with
  | lf =>
    intro u b c w h k
    have H := Lib.hid h
    have K := Lib.hid k
    clear h k
    go_enter Try.func45, Try.ntmps45
    go_wp2_with fail
    refine (isLeaf_any .lf b _ H.out).mono ?_; rintro e w1 ⟨rfl, rfl⟩
    simp only [Tr.isLf]
    go_wp2_with fail
    go_ret
    exact ⟨rfl, 0, rfl⟩
  | nd l r ihl ihr =>
    intro u b c w h k
    cases u with
    | lf =>
      have H := Lib.hid h
      have K := Lib.hid k
      clear h k ihl ihr
      go_enter Try.func45, Try.ntmps45
      go_wp2_with fail
      refine (isLeaf_any (.nd l r) b _ H.out).mono ?_; rintro e w1 ⟨rfl, rfl⟩
      simp only [Tr.isLf]
      go_wp2_with fail
      have L : ∀ n, Calls Try.prog 94 #[.pointer (some ⟨c, 0, none⟩)] (w.drewN n) (Quietly (.bool true) (w.drewN n)) := fun n => (isLeaf_any .lf c _ (K.out.drewN n)).mono fun e w' ⟨h1, h2⟩ => ⟨h1, 0, h2.symm⟩
      go_quiet ((go_at_call 94; exact Calls.quiet_of (L _)))
      go_wp2_with fail
      go_ret
      exact ⟨rfl, _, rfl⟩
    | nd p q =>
      have H := Lib.hid h
      have K := Lib.hid k
      obtain ⟨bl, br, h, hl, hr⟩ := h
      obtain ⟨cl, cr, k, kl, kr⟩ := k
      have h1 := two_left h
      have h2 := two_right h
      have k1 := two_left k
      have k2 := two_right k
      clear h k
      have L : ∀ n, Calls Try.prog 94 #[.pointer (some ⟨c, 0, none⟩)] (w.drewN n) (Quietly (.bool false) (w.drewN n)) := fun n => (isLeaf_any (.nd p q) c _ (K.out.drewN n)).mono fun e w' ⟨h1, h2⟩ => ⟨h1, 0, h2.symm⟩
      have HL : ∀ n, Calls Try.prog 45 #[.pointer (some ⟨bl, 0, none⟩), .pointer (some ⟨cl, 0, none⟩)] (w.drewN n) (Quietly (.bool (l.part p)) (w.drewN n)) := fun n => ihl p bl cl _ (hl.drewN n) (kl.drewN n)
      have HR : ∀ n, Calls Try.prog 45 #[.pointer (some ⟨br, 0, none⟩), .pointer (some ⟨cr, 0, none⟩)] (w.drewN n) (Quietly (.bool (r.part q)) (w.drewN n)) := fun n => ihr q br cr _ (hr.drewN n) (kr.drewN n)
      have HP : Hid ((Tr.nd l r).part (.nd p q) = (l.part p && r.part q)) := rfl
      cases hlp : l.part p with
      | false =>
        rw [hlp] at HP HL
        clear hlp
        go_enter Try.func45, Try.ntmps45
        go_wp2_with fail
        refine (isLeaf_any (.nd l r) b _ H.out).mono ?_; rintro e w1 ⟨rfl, rfl⟩
        simp only [Tr.isLf]
        go_wp2_with fail
        go_quiet ((first | (go_at_call 94; exact Calls.quiet_of (L _)) | (go_at_call_of 45 (some (⟨bl, 0, none⟩ : Addr)); exact Calls.quiet_of (HL _)) | (go_at_call_of 45 (some (⟨br, 0, none⟩ : Addr)); exact Calls.quiet_of (HR _))))
        go_wp2_with fail
        go_ret
        exact ⟨by rw [HP.out]; rfl, _, rfl⟩
      | true =>
        rw [hlp] at HP HL
        clear hlp
        go_enter Try.func45, Try.ntmps45
        go_wp2_with fail
        refine (isLeaf_any (.nd l r) b _ H.out).mono ?_; rintro e w1 ⟨rfl, rfl⟩
        simp only [Tr.isLf]
        go_wp2_with fail
        go_quiet ((first | (go_at_call 94; exact Calls.quiet_of (L _)) | (go_at_call_of 45 (some (⟨bl, 0, none⟩ : Addr)); exact Calls.quiet_of (HL _)) | (go_at_call_of 45 (some (⟨br, 0, none⟩ : Addr)); exact Calls.quiet_of (HR _))))
        go_wp2_with fail
        go_ret
        exact ⟨by rw [HP.out]; rfl, _, rfl⟩
end Go.Proofs.Ytplmbdljhgicfab

/-! TreeO -/
namespace Go.Proofs.Ytplmbdljhgicfab
open Go.RowKit

theorem keep_cell {w w' : World} {b o : Nat} {v : Value} (hb : Below w.heap.size w w') (h : w.cell? ⟨b, o, none⟩ = some v) : w'.cell? ⟨b, o, none⟩ = some v :=
  (hb.cell (p := ⟨b, o, none⟩) (World.block_lt_of_cell? _ _ h)).trans h

theorem treeOf_any (t : Tr) (w : World) (h : t.carets ≤ 1000) : Calls Try.prog 49 #[.string t.str] w (GivesNode t w) := by
  have hz := t.str_size
  have hp := place_any (t.str.size + 1) t.str
  rw [parse_str t _ (by have := t.text_len; omega)] at hp
  have hp' : ∀ w, Calls Try.prog 100 #[.string t.str] w (PlaceOk t [] t.str w) := fun w => hp w (by omega) (by omega)
  clear hz hp
  go_enter Try.func49, Try.ntmps49
  go_wp2_with fail
  refine (hp' _).mono ?_; rintro e w1 ⟨b1, s1, hs1, hz1, hn1, hb1, rfl⟩
  clear hs1 hz1
  go_wp2_with fail
  go_ret
  exact ⟨b1, hn1, hb1, rfl⟩

end Go.Proofs.Ytplmbdljhgicfab

/-! Ff6 -/
namespace Go.Proofs.Ytplmbdljhgicfab
open Go.RowKit

/-- The nodes of two forests, or none. -/
def TwoNodes (o p : Option (List Tr)) (w : World) (e : Ending) (w' : World) : Prop :=
  match o, p with
  | some us, some vs => ∃ b c, NodeAt w' (combT us) b ∧ NodeAt w' (combT vs) c ∧ Below w.heap.size w w' ∧ e = .returned (.tuple #[.pointer (some ⟨b, 0, none⟩), .pointer (some ⟨c, 0, none⟩), .bool true])
  | _, _ => e = .returned (.tuple #[.pointer none, .pointer none, .bool false]) ∧ Below w.heap.size w w'

set_option maxRecDepth 100000 in
set_option maxHeartbeats 4000000 in
theorem implhungTwo_any (v : Value) (b : Nat) (L : List ByteArray) (v2 : Value) (b2 : Nat) (M : List ByteArray) (w : World) (h : CellsS b w v L) (h2 : CellsS b2 w v2 M) (hz : ∀ s ∈ L, s.size ≤ 1048576) (hz2 : ∀ s ∈ M, s.size ≤ 1048576) (hn : L.length ≤ 1048576) (hn2 : M.length ≤ 1048576) :
    Calls Try.prog 44 #[v, v2] w (TwoNodes (forOf L) (forOf M) w) := by
  have hG := fun w h => implIsForest_b v b L w h hz hn
  have hH := fun w h => implIsForest_b v2 b2 M w h hz2 hn2
  have HA := Lib.hid h
  have HB := Lib.hid h2
  obtain ⟨oa, cap, rfl, hcl, hcm, hcc⟩ := h.form0
  obtain ⟨ob, bcap, rfl, hdl, hdm, hdc⟩ := h2.form0
  unfold maxLen at hcm hdm
  have HC := Lib.hid hcc
  have HD := Lib.hid hdc
  clear h h2 hz hz2 hcc hdc
  rcases hf : forOf L with _ | us
  · rw [hf] at hG
    have hG' : ∀ w, CellsS b w (.slice oa L.length cap) L → Calls Try.prog 56 #[.slice oa L.length cap] w (Gives (.bool false) w) := hG
    clear hG hH hf HC HD
    go_enter Try.func44, Try.ntmps44
    go_wp2_with fail
    refine (hG' _ HA.out).mono ?_; rintro e w1 ⟨rfl, hb1⟩
    go_wp2_with fail
    go_ret3
    exact ⟨rfl, hb1⟩
  · rcases hk : forOf M with _ | vs
    · rw [hf] at hG
      rw [hk] at hH
      have hG' : ∀ w, CellsS b w (.slice oa L.length cap) L → Calls Try.prog 56 #[.slice oa L.length cap] w (Gives (.bool true) w) := hG
      have hH' : ∀ w, CellsS b2 w (.slice ob M.length bcap) M → Calls Try.prog 56 #[.slice ob M.length bcap] w (Gives (.bool false) w) := hH
      clear hG hH hf hk HC HD
      go_enter Try.func44, Try.ntmps44
      go_wp2_with fail
      refine (hG' _ HA.out).mono ?_; rintro e w1 ⟨rfl, hb1⟩
      go_wp2_with fail
      refine (hH' _ (HB.out.keep hb1)).mono ?_; rintro e w2 ⟨rfl, hb2⟩
      replace hb2 := nx hb1 hb2
      go_wp2_with fail
      go_ret3
      exact ⟨rfl, hb2⟩
    · rw [hf] at hG
      rw [hk] at hH
      have hG' : ∀ w, CellsS b w (.slice oa L.length cap) L → Calls Try.prog 56 #[.slice oa L.length cap] w (Gives (.bool true) w) := hG
      have hH' : ∀ w, CellsS b2 w (.slice ob M.length bcap) M → Calls Try.prog 56 #[.slice ob M.length bcap] w (Gives (.bool true) w) := hH
      obtain ⟨hL, hl8, hs8, hlast⟩ := forOf_strs hf
      obtain ⟨hM, hm8, ht8, hlastM⟩ := forOf_strs hk
      have hLu : L.length = us.length := by rw [hL, strs_length]
      have hMu : M.length = vs.length := by rw [hM, strs_length]
      have HSA : Hid (∀ w, CellsS b w (.slice oa L.length cap) L → CellsS b w (.slice oa L.length cap) (strs us)) := fun w h => by rw [← hL]; exact h
      have HSB : Hid (∀ w, CellsS b2 w (.slice ob M.length bcap) M → CellsS b2 w (.slice ob M.length bcap) (strs vs)) := fun w h => by rw [← hM]; exact h
      have HLA := Lib.hid hlast
      have HLB := Lib.hid hlastM
      have HLU := Lib.hid hLu
      have HMU := Lib.hid hMu
      clear hG hH hf hk hL hM hlast hlastM HC HD hLu hMu
      have c1 := combT_carets us
      have c2 := combT_carets vs
      have hU := fun w h => hung_any (.slice oa L.length cap) b us w h (by omega) (by omega)
      have hV := fun w h => hung_any (.slice ob M.length bcap) b2 vs w h (by omega) (by omega)
      have hTU := fun w => treeOf_any (combT us) w (by omega)
      have hTV := fun w => treeOf_any (combT vs) w (by omega)
      clear c1 c2
      go_enter Try.func44, Try.ntmps44
      go_wp2_with fail
      refine (hG' _ HA.out).mono ?_; rintro e w1 ⟨rfl, hb1⟩
      go_wp2_with fail
      refine (hH' _ (HB.out.keep hb1)).mono ?_; rintro e w2 ⟨rfl, hb2⟩
      replace hb2 := nx hb1 hb2
      go_wp2_with fail
      refine (hU _ (HSA.out _ (HA.out.keep hb2))).mono ?_; rintro e w3 ⟨rfl, hb3⟩
      replace hb3 := nx hb2 hb3
      go_wp2_with fail
      refine (hTU _).mono ?_; rintro e w4 ⟨p1, hp1, hb4, rfl⟩
      replace hb4 := nx hb3 hb4
      go_wp2_with fail
      refine (hV _ (HSB.out _ (HB.out.keep hb4))).mono ?_; rintro e w5 ⟨rfl, hb5⟩
      replace hp1 := hp1.keep hb5
      replace hb5 := nx hb4 hb5
      go_wp2_with fail
      refine (hTV _).mono ?_; rintro e w6 ⟨p2, hp2, hb6, rfl⟩
      replace hp1 := hp1.keep hb6
      replace hb6 := nx hb5 hb6
      go_wp2_with fail
      go_ret3
      exact ⟨_, _, hp1, hp2, hb6, rfl⟩

set_option maxRecDepth 100000 in
theorem foTree_any (v : Value) (b : Nat) (us : List Tr) (k : Nat) (w : World) (h : CellsS b w v (strs us)) (_hk : (k : Int) ≤ 1000000) :
    Calls Try.prog 42 #[v, .int .i64 k] w fun e w' => e = .returned (.string (us.getD k .lf).str) ∧ w = w' := by
  obtain ⟨oa, cap, rfl, hcl, hcm, hcc⟩ := h.form0
  unfold maxLen at hcm
  rw [strs_length] at *
  by_cases hlt : k < us.length
  · have hlt' : (k : Int) < (us.length : Int) := by omega
    obtain ⟨g, rfl, _, hgl, c1⟩ := hcc k hlt
    rw [show (strs us).getD k ⟨#[]⟩ = (us.getD k .lf).str from map_getD us k hlt] at c1
    generalize us.getD k .lf = t at *
    clear h hcc
    go_enter Try.func42, Try.ntmps42
    go_wp2_with fail
    go_ret
    exact ⟨rfl, rfl⟩
  · have hlt' : ¬ ((k : Int) < (us.length : Int)) := by omega
    rw [show us.getD k .lf = .lf by rw [List.getD_eq_getElem?_getD, List.getElem?_eq_none (by omega)]; rfl]
    clear h hcc hlt
    go_enter Try.func42, Try.ntmps42
    go_wp2_with fail
    go_ret
    exact ⟨rfl, rfl⟩

theorem str_same (a c : Tr) (h : a = c) : (a.str.toList == c.str.toList) = true := by rw [h]; exact beq_self_eq_true _
theorem str_diff (a c : Tr) (h : a ≠ c) : (a.str.toList == c.str.toList) = false := by
  rw [beq_eq_false_iff_ne]
  simp only [Lib.toList_data, Tr.str_list]
  intro e
  exact h (Tr.text_inj (r := []) (q := []) (by rw [e])).1

set_option maxRecDepth 100000 in
set_option maxHeartbeats 2000000 in
theorem foPart_any (v : Value) (b : Nat) (us : List Tr) (v2 : Value) (b2 : Nat) (vs : List Tr) (w : World) (h : CellsS b w v (strs us)) (h2 : CellsS b2 w v2 (strs vs)) (hs : sumT us ≤ 60) (ht : sumT vs ≤ 60) (hl : us.length ≤ 100) :
    Calls Try.prog 40 #[v, v2] w (Gives (.bool (partF us vs)) w) := by
  have HT := Lib.hid h2
  obtain ⟨oa, cap, rfl, hcl, hcm, hcc⟩ := h.form0
  obtain ⟨ob, bcap, rfl, _⟩ := h2.form0
  unfold maxLen at hcm
  rw [strs_length] at hcl hcc ⊢
  have HC := Lib.hid hcc
  have HCM : ∀ k, (us.getD k .lf).carets ≤ 60 := fun k => by
    by_cases hk : k < us.length
    · rw [List.getD_eq_getElem?_getD, List.getElem?_eq_getElem hk]; have := sumT_mem (List.getElem_mem hk); simp; omega
    · rw [List.getD_eq_getElem?_getD, List.getElem?_eq_none (by omega)]; simp [Tr.carets]
  have HDM : ∀ k, (vs.getD k .lf).carets ≤ 60 := fun k => by
    by_cases hk : k < vs.length
    · rw [List.getD_eq_getElem?_getD, List.getElem?_eq_getElem hk]; have := sumT_mem (List.getElem_mem hk); simp; omega
    · rw [List.getD_eq_getElem?_getD, List.getElem?_eq_none (by omega)]; simp [Tr.carets]
  have HE := Lib.hid HCM
  have HF := Lib.hid HDM
  have HP := Lib.hid (partF_all us vs)
  clear h h2 hcc HCM HDM hs ht
  generalize hB : (strs vs).length = nv at HT ⊢
  clear hB
  go_enter Try.func40, Try.ntmps40
  go_wp2_with fail
  go_loopw [9] (fun i wr => ∃ k : Nat, k ≤ us.length ∧ i = .int .i64 k ∧ Hid (∀ j, j < k → (us.getD j .lf).part (vs.getD j .lf) = true) ∧ Below w.heap.size w wr) (fun i _ => us.length - (intOf i).toNat)
  case atStart => exact ⟨0, Nat.zero_le _, rfl, fun j hj => absurd hj (Nat.not_lt_zero j), Below.refl _ _⟩
  case round =>
    obtain ⟨k, hk, rfl, he, hbw⟩ := hrel
    by_cases hlt : k < us.length
    · have hlt' : (k : Int) < (us.length : Int) := by omega
      obtain ⟨g, rfl, _, hgl, c0⟩ := HC.out k hlt
      have c1 := (hbw.cell (p := ⟨g, k, none⟩) hgl).trans c0
      rw [show (strs us).getD k ⟨#[]⟩ = (us.getD k .lf).str from map_getD us k hlt] at c1
      have hT := fun w h => foTree_any (.slice ob nv bcap) b2 vs k w h (by omega)
      have hJ := fun w => trJoin_any (us.getD k .lf) (vs.getD k .lf) w (HE.out k) (HF.out k)
      have hpj := part_iff_join (us.getD k .lf) (vs.getD k .lf)
      cases hp : (us.getD k .lf).part (vs.getD k .lf) with
      | true =>
        have HN : Hid (∀ j, j < k + 1 → (us.getD j .lf).part (vs.getD j .lf) = true) := fun j hj => by
          by_cases h1 : j < k
          · exact he.out j h1
          · obtain rfl : j = k := by omega
            exact hp
        have hseq := str_same _ _ (hpj.1 hp)
        generalize us.getD k .lf = t at *
        generalize vs.getD k .lf = u at *
        clear hpj hp he c0
        go_wp2_with fail
        refine (hT _ (HT.out.keep hbw)).mono ?_; rintro e w3 ⟨rfl, rfl⟩
        go_wp2_with fail
        refine (hJ _).mono ?_; rintro e w4 ⟨rfl, hb4⟩
        replace hb4 := nx hbw hb4
        go_wp2_with fail
        refine (hT _ (HT.out.keep hb4)).mono ?_; rintro e w5 ⟨rfl, rfl⟩
        go_wp2_with fail
        go_roundw
        case rel => exact ⟨k + 1, by omega, by go_num, HN, hb4⟩
        case measure => simp [intOf]; omega
      | false =>
        have HX : Hid (partF us vs = false) := by
          show partF us vs = false
          cases hq : partF us vs with
          | false => rfl
          | true => rw [HP.out.1 hq k hlt] at hp; cases hp
        have hseq := str_diff _ _ (fun e => by rw [hpj.2 e] at hp; cases hp)
        generalize us.getD k .lf = t at *
        generalize vs.getD k .lf = u at *
        clear hpj hp he c0
        go_wp2_with fail
        refine (hT _ (HT.out.keep hbw)).mono ?_; rintro e w3 ⟨rfl, rfl⟩
        go_wp2_with fail
        refine (hJ _).mono ?_; rintro e w4 ⟨rfl, hb4⟩
        replace hb4 := nx hbw hb4
        go_wp2_with fail
        refine (hT _ (HT.out.keep hb4)).mono ?_; rintro e w5 ⟨rfl, rfl⟩
        go_wp2_with fail
        go_ret
        exact ⟨by rw [HX.out]; rfl, hb4⟩
    · obtain rfl : k = us.length := by omega
      have HX : Hid (partF us vs = true) := HP.out.2 he.out
      clear he
      go_wp2_with fail
      go_ret
      exact ⟨by rw [HX.out]; rfl, hbw⟩

def partO (o p : Option (List Tr)) : Value := .tuple #[.bool (match o, p with | some us, some vs => partF us vs | _, _ => false), .bool (o.isSome && p.isSome)]

end Go.Proofs.Ytplmbdljhgicfab

/-! Ff7 -/
namespace Go.Proofs.Ytplmbdljhgicfab
open Go.RowKit

def ptrN (b : Nat) : Value := .pointer (some ⟨b, 0, none⟩)
theorem info_ptrN : (Try.prog.info? 57).map (fun i => (i.zero, i.size, i.bytes)) = some (some (.pointer none), 1, 8) := by kernel_rfl
/-- Slices of nodes that a call has made. -/
def OwnP (base : Nat) (w : World) (v : Value) (bs : List Nat) : Prop := w.ownsRow base 57 1 v bs.length (bs.map ptrN)
theorem OwnP.keep {base : Nat} {w w' : World} {v : Value} {bs : List Nat} (h : OwnP base w v bs) (hb : Below w.heap.size w w') : OwnP base w' v bs := ownsRow_keep h hb
theorem OwnP.mono {base base' : Nat} {w : World} {v : Value} {bs : List Nat} (h : OwnP base w v bs) (hb : base' ≤ base) : OwnP base' w v bs := ownsRow_mono h hb
theorem OwnP.nil (base : Nat) (w : World) : OwnP base w (.slice none 0 0) [] := World.ownsRow_nil _ _ _ _
theorem OwnP.one (w : World) (b : Nat) : OwnP w.heap.size (w.alloc (.cells #[ptrN b] 57 (0, 0))) (.slice (some ⟨w.heap.size, 0, none⟩) 1 1) [b] := by
  refine ⟨rfl, .inr ⟨w.heap.size, 1, #[ptrN b], rfl, Nat.le_refl _, ?_, Nat.le_refl _, by unfold maxLen; omega, rfl, rfl⟩⟩
  show (w.heap.push _)[w.heap.size]? = _
  simp
theorem OwnP.app {base : Nat} {w : World} {v : Value} {A B : List Nat} (h : w.ownsRow base 57 1 v (A.length + (B.map ptrN).length) (A.map ptrN ++ B.map ptrN)) : OwnP base w v (A ++ B) := by
  unfold OwnP; rw [List.length_append, List.map_append]; rw [List.length_map] at h; exact h
theorem OwnP.snoc {base : Nat} {w : World} {v : Value} {A : List Nat} {b : Nat} (h : w.ownsRow base 57 1 v (A.length + 1) (A.map ptrN ++ [ptrN b])) : OwnP base w v (A ++ [b]) := by
  unfold OwnP; rw [List.length_append, List.map_append]; exact h
theorem onePtr (bs : List Nat) : ∀ u ∈ bs.map ptrN, u.oneCell' = true := by
  intro u hu
  obtain ⟨x, _, rfl⟩ := List.mem_map.1 hu
  rfl
theorem onePtr1 (b : Nat) : ∀ u ∈ [ptrN b], u.oneCell' = true := by intro u hu; simp at hu; subst hu; rfl
def CellsP (base : Nat) (w : World) (v : Value) (bs : List Nat) : Prop :=
  ∃ oa cap, v = .slice oa bs.length cap ∧ bs.length ≤ cap ∧ cap ≤ maxLen ∧ ∀ i, i < bs.length → ∃ g, oa = some ⟨g, 0, none⟩ ∧ base ≤ g ∧ g < w.heap.size ∧ w.cell? ⟨g, i, none⟩ = some (ptrN (bs.getD i 0))
theorem OwnP.cells {base : Nat} {w : World} {v : Value} {bs : List Nat} (h : OwnP base w v bs) : CellsP base w v bs := by
  rcases h.2 with ⟨hv, hn⟩ | ⟨g, cap, cur, hv, hb, hr⟩
  · exact ⟨none, 0, by rw [hv, hn], by omega, by unfold maxLen; omega, fun i hi => by omega⟩
  · subst hv
    have hlt := World.ownsRow.lt h g rfl
    have hc := fun i (hi : i < bs.length) => World.ownsRow.cellAt h i (by omega)
    refine ⟨some ⟨g, 0, none⟩, cap, rfl, hr.2.1, hr.2.2.1, fun i hi => ⟨g, rfl, hlt.1, hlt.2, ?_⟩⟩
    rw [hc i hi]; simp [List.getElem?_eq_getElem hi]
theorem OwnP.src {base : Nat} {w : World} {v : Value} {bs : List Nat} (h : OwnP base w v bs) : SrcV w v (bs.map ptrN) := by
  rcases h.2 with ⟨hv, hn⟩ | ⟨g, cap, cur, hv, hb, hr⟩
  · left
    exact ⟨hv, by rw [List.length_eq_zero_iff.1 hn]; rfl⟩
  · subst hv
    refine .inr ⟨⟨g, 0, none⟩, cap, by simp, fun j x hj => ?_⟩
    have hj' : j < bs.length := by have := (List.getElem?_eq_some_iff.1 hj).1; simpa using this
    rw [addr_add, World.ownsRow.cellAt h j (by omega), hj]

/-- The nodes of a list of trees. -/
def NodesAt (w : World) : List Tr → List Nat → Prop
  | [], [] => True
  | t :: ts, b :: bs => NodeAt w t b ∧ NodesAt w ts bs
  | _, _ => False
theorem NodesAt.keep {w w' : World} (hb : Below w.heap.size w w') : ∀ {ts : List Tr} {bs : List Nat}, NodesAt w ts bs → NodesAt w' ts bs := by
  intro ts
  induction ts with
  | nil => intro bs h; cases bs with | nil => trivial | cons b bs => exact h.elim
  | cons t ts ih => intro bs h; cases bs with | nil => exact h.elim | cons b bs => exact ⟨h.1.keep hb, ih h.2⟩
theorem NodesAt.len {w : World} : ∀ {ts : List Tr} {bs : List Nat}, NodesAt w ts bs → bs.length = ts.length := by
  intro ts
  induction ts with
  | nil => intro bs h; cases bs with | nil => rfl | cons b bs => exact h.elim
  | cons t ts ih => intro bs h; cases bs with | nil => exact h.elim | cons b bs => simp [ih h.2]
theorem NodesAt.get {w : World} : ∀ {ts : List Tr} {bs : List Nat}, NodesAt w ts bs → ∀ i, i < ts.length → NodeAt w (ts.getD i .lf) (bs.getD i 0) := by
  intro ts
  induction ts with
  | nil => intro bs h i hi; simp at hi
  | cons t ts ih =>
    intro bs h i hi
    cases bs with
    | nil => exact h.elim
    | cons b bs =>
      cases i with
      | zero => simpa using h.1
      | succ i => simpa using ih h.2 i (by simp at hi; omega)
theorem NodesAt.snoc {w : World} : ∀ {ts : List Tr} {bs : List Nat} {t : Tr} {b : Nat}, NodesAt w ts bs → NodeAt w t b → NodesAt w (ts ++ [t]) (bs ++ [b]) := by
  intro ts
  induction ts with
  | nil => intro bs t b h k; cases bs with | nil => exact ⟨k, trivial⟩ | cons b bs => exact h.elim
  | cons t ts ih => intro bs u c h k; cases bs with | nil => exact h.elim | cons b bs => exact ⟨h.1, ih h.2 k⟩

/-- The carets on the right side. -/
def onR : Tr → List Tr
  | .lf => []
  | .nd l r => .nd l r :: onR r
def leftT : Tr → Tr
  | .lf => .lf
  | .nd l _ => l
theorem onR_left (t : Tr) : (onR t).map leftT = sidesT t := by
  induction t with
  | lf => rfl
  | nd l r _ ihr => rw [onR, List.map_cons, ihr]; rfl
theorem onR_length (t : Tr) : (onR t).length ≤ t.carets := by
  induction t with
  | lf => exact Nat.le_refl _
  | nd l r _ ihr => rw [onR, List.length_cons, Tr.carets]; omega
theorem onR_nd (t : Tr) : ∀ x ∈ onR t, ∃ l r, x = .nd l r := by
  induction t with
  | lf => intro x h; cases h
  | nd l r _ ihr =>
    intro x h
    rcases List.mem_cons.1 h with rfl | h
    · exact ⟨l, r, rfl⟩
    · exact ihr x h
/-- A call that hands back nodes of trees that lay in w0. -/
def GivesNodes (w0 : World) (ts : List Tr) (w : World) (e : Ending) (w' : World) : Prop :=
  ∃ v bs, OwnP w.heap.size w' v bs ∧ NodesAt w0 ts bs ∧ Below w.heap.size w w' ∧ e = .returned v

set_option maxRecDepth 100000 in
set_option maxHeartbeats 1000000 in
theorem onRight_any (w0 : World) (t : Tr) : ∀ (b : Nat) (w : World), NodeAt w0 t b → Below w0.heap.size w0 w → t.carets ≤ 1000 →
    Calls Try.prog 98 #[.pointer (some ⟨b, 0, none⟩)] w (GivesNodes w0 (onR t) w) := by
  obtain ⟨i0, hi, hz0, hz1, hz2⟩ := info_parts info_ptrN
  induction t with
  | lf =>
    intro b w h hbw _
    have H := Lib.hid (h.keep hbw)
    clear h hbw
    go_enter Try.func98, Try.ntmps98
    go_wp2_with fail
    refine (isLeaf_any .lf b _ H.out).mono ?_; rintro e w1 ⟨rfl, rfl⟩
    simp only [Tr.isLf]
    go_wp2_with fail
    go_ret
    exact ⟨_, [], OwnP.nil _ _, trivial, Below.refl _ _, rfl⟩
  | nd l r _ ihr =>
    intro b w h hbw hc
    have H0 := Lib.hid h
    have H := Lib.hid (h.keep hbw)
    obtain ⟨bl, br, h, hl, hr⟩ := h
    replace h := (hbw.block b (lt_of_block h)).trans h
    have h2 := two_right h
    have hcr : r.carets ≤ 1000 := by simp only [Tr.carets] at hc; omega
    have hlen := onR_length r
    have hOne := OwnP.one w b
    unfold OwnP ptrN at hOne
    clear h
    go_enter Try.func98, Try.ntmps98
    go_wp2_with fail
    refine (isLeaf_any (.nd l r) b _ H.out).mono ?_; rintro e w1 ⟨rfl, rfl⟩
    simp only [Tr.isLf]
    have hb0 := nxAlloc (Below.refl w.heap.size w) (.cells #[.pointer (some ⟨b, 0, none⟩)] 57 (0, 0))
    have c2 := keep_cell hb0 h2
    have hbw0 := hbw.trans (hb0.mono hbw.size)
    go_wp2_with fail
    refine (ihr br _ hr hbw0 hcr).mono ?_; rintro e w2 ⟨v2, bs, own2, hn2, hb2, rfl⟩
    have hbl := hn2.len
    have hOne2 := ownsRow_keep hOne hb2
    have hb3 := nx hb0 hb2
    have hsrc := own2.src
    have hmm : (bs.map ptrN).length = bs.length := by simp
    go_wp2_with (at_builtin; refine wpList_appSrc rfl (.tmp 6) (.tmp 11) 106 rfl w.heap.size 57 i0 (.pointer none) 8 Try.underlying106 hi hz0 hz1 hz2 rfl _ 1 _ rfl hOne2 _ _ rfl hsrc (onePtr bs) (by unfold maxLen; omega) (by omega) hb3.size ?_; intro v9 w9 hown9 hb9 hn9)
    have hfin : OwnP w.heap.size w9 v9 (b :: bs) := OwnP.app (A := [b]) hown9
    clear hown9 hn9 hsrc hOne2 hOne
    go_wp2_with fail
    go_ret
    exact ⟨_, _, hfin, ⟨H0.out, hn2⟩, hb3.trans hb9, rfl⟩

theorem leftSide_c (b : Nat) (v : Value) (w : World) (h : w.cell? ⟨b, 0, none⟩ = some v) :
    Calls Try.prog 99 #[.pointer (some ⟨b, 0, none⟩)] w fun e w' => e = .returned v ∧ w = w' := by
  go_enter Try.func99, Try.ntmps99
  go_wp2_with fail
  go_ret
  exact ⟨rfl, rfl⟩

set_option maxRecDepth 100000 in
set_option maxHeartbeats 2000000 in
theorem listOfLeft_any (w0 : World) (v : Value) (b : Nat) (ts : List Tr) (bs : List Nat) (w : World) (h : CellsP b w v bs) (hN : NodesAt w0 ts bs) (hb0 : Below w0.heap.size w0 w) (hnd : ∀ x ∈ ts, ∃ l r, x = .nd l r) (hl : ts.length ≤ 1000)
    (hcall : ∀ (args : Array Value) (w : World), (callFunc 99 args).run Try.prog w = .ok (.enter 99 args) w) :
    Calls Try.prog 97 #[v, .func (Fn.func 99) #[] #[]] w (GivesNodes w0 (ts.map leftT) w) := by
  obtain ⟨i0, hi, hz0, hz1, hz2⟩ := info_parts info_ptrN
  obtain ⟨oa, cap, rfl, hcl, hcm, hcc⟩ := h
  unfold maxLen at hcm
  have hbl := hN.len
  obtain ⟨n, hn⟩ : ∃ n, n = bs.length := ⟨_, rfl⟩
  rw [← hn] at hcl hcc hbl ⊢
  have HNN := Lib.hid hn
  have HC := Lib.hid hcc
  have HN := Lib.hid hN
  have HD := Lib.hid hnd
  have HBL := Lib.hid hbl
  have hn1 : n ≤ 1000 := by omega
  clear hcc hN hnd hbl hl hn
  go_enter Try.func97, Try.ntmps97
  go_wp2_with fail
  go_loopw [5, 10] (fun v i wr => ∃ (k : Nat) (cs : List Nat), k ≤ n ∧ i = .int .i64 k ∧ cs.length = k ∧ OwnP w.heap.size wr v cs ∧ Hid (NodesAt w0 ((ts.map leftT).take k) cs) ∧ Below w.heap.size w wr) (fun _ i _ => n - (intOf i).toNat)
  case atStart => exact ⟨0, [], Nat.zero_le _, rfl, rfl, OwnP.nil _ _, trivial, Below.refl _ _⟩
  case round =>
    obtain ⟨k, cs, hk, rfl, hcs, hown, hnodes, hbw⟩ := hrel
    by_cases hlt : k < n
    · have hlt' : (k : Int) < (n : Int) := by omega
      obtain ⟨g, rfl, _, hgl, c0⟩ := HC.out k hlt
      have c1 := (hbw.cell (p := ⟨g, k, none⟩) hgl).trans c0
      have hkt : k < ts.length := by have := HBL.out; omega
      have hnode := HN.out.get k hkt
      obtain ⟨l, r, hlr⟩ := HD.out (ts.getD k .lf) (by rw [List.getD_eq_getElem?_getD, List.getElem?_eq_getElem hkt]; exact List.getElem_mem hkt)
      rw [hlr] at hnode
      obtain ⟨bl, br, hblk, hnl, _⟩ := hnode
      have c2 := two_left ((nx hb0 hbw).block _ (lt_of_block hblk) |>.trans hblk)
      have hnext : NodesAt w0 ((ts.map leftT).take (k + 1)) (cs ++ [bl]) := by
        have e1 : (ts.map leftT).take (k + 1) = (ts.map leftT).take k ++ [l] := by
          rw [List.take_succ_eq_append_getElem (by simpa using hkt)]
          congr 1
          rw [List.getElem_map]
          rw [List.getD_eq_getElem?_getD, List.getElem?_eq_getElem hkt, Option.getD_some] at hlr
          rw [hlr]; rfl
        rw [e1]
        exact hnodes.out.snoc hnl
      have HX := Lib.hid hnext
      have HCS := Lib.hid hcs
      have hcs9 : cs.length ≤ 1000 := by omega
      unfold OwnP at hown
      have hown0 := hown
      generalize bs.getD k 0 = p at *
      unfold ptrN at c1
      have hLS := fun w h => leftSide_c p (.pointer (some ⟨bl, 0, none⟩)) w h
      clear hnext hnodes hlr hblk hnl c0 hcs
      go_wp2_with fail
      refine (hLS _ c2).mono ?_; rintro e w3 ⟨rfl, rfl⟩
      go_wp2_with (at_builtin; refine wpList_append_own _ rfl _ _ 106 rfl w.heap.size 57 i0 (.pointer none) 1 8 Try.underlying106 hi hz0 hz1 hz2 rfl (by decide) _ _ _ rfl (hown.alloc _) ⟨wr.heap.size, 0, none⟩ 1 1 [.pointer (some ⟨bl, 0, none⟩)] rfl rfl (new1 _ _ _) (onePtr1 bl) (by unfold maxLen; omega) (by omega) (size_al hbw _) ?_; intro v' w9 hown' hgrow hnn)
      have hbw9 := below_app hbw hown (Nat.le_refl _) hgrow
      have hown1 : OwnP w.heap.size w9 v' (cs ++ [bl]) := OwnP.snoc hown'
      clear hown hown0 hown' hgrow hbw hnn
      go_wp2_with fail
      go_roundw
      case rel => exact ⟨k + 1, _, by omega, by go_num, by have := HCS.out; simp; omega, hown1, HX, hbw9⟩
      case measure => simp [intOf]; omega
    · obtain rfl : k = n := by omega
      have h1 := hnodes.out
      rw [List.take_of_length_le (by simp; have := HBL.out; omega)] at h1
      have HX := Lib.hid h1
      clear h1 hnodes hcs
      go_wp2_with fail
      go_ret
      exact ⟨_, _, hown, HX.out, hbw, rfl⟩

set_option maxRecDepth 100000 in
set_option maxHeartbeats 2000000 in
theorem listOfText_any (w0 : World) (v : Value) (b : Nat) (ts : List Tr) (bs : List Nat) (w : World) (h : CellsP b w v bs) (hN : NodesAt w0 ts bs) (hb0 : Below w0.heap.size w0 w) (hcar : ∀ x ∈ ts, x.carets ≤ 1000) (hl : ts.length ≤ 1000)
    (hcall : ∀ (args : Array Value) (w : World), (callFunc 95 args).run Try.prog w = .ok (.enter 95 args) w) :
    Calls Try.prog 96 #[v, .func (Fn.func 95) #[] #[]] w (fun e w' => ∃ v', OwnS w.heap.size w' v' (strs ts) ∧ Below w.heap.size w w' ∧ e = .returned v') := by
  obtain ⟨i0, hi, hz0, hz1, hz2⟩ := info_parts info_str
  obtain ⟨oa, cap, rfl, hcl, hcm, hcc⟩ := h
  unfold maxLen at hcm
  have hbl := hN.len
  obtain ⟨n, hn⟩ : ∃ n, n = bs.length := ⟨_, rfl⟩
  rw [← hn] at hcl hcc hbl ⊢
  have HNN := Lib.hid hn
  have HC := Lib.hid hcc
  have HN := Lib.hid hN
  have HD := Lib.hid hcar
  have HBL := Lib.hid hbl
  have hn1 : n ≤ 1000 := by omega
  clear hcc hN hcar hbl hl hn
  go_enter Try.func96, Try.ntmps96
  go_wp2_with fail
  go_loopw [5, 10] (fun v i wr => ∃ (k : Nat) (ss : List ByteArray), k ≤ n ∧ i = .int .i64 k ∧ ss.length = k ∧ OwnS w.heap.size wr v ss ∧ Hid (ss = (strs ts).take k) ∧ Below w.heap.size w wr) (fun _ i _ => n - (intOf i).toNat)
  case atStart => exact ⟨0, [], Nat.zero_le _, rfl, rfl, OwnS.nil _ _, rfl, Below.refl _ _⟩
  case round =>
    obtain ⟨k, ss, hk, rfl, hcs, hown, hss, hbw⟩ := hrel
    by_cases hlt : k < n
    · have hlt' : (k : Int) < (n : Int) := by omega
      obtain ⟨g, rfl, _, hgl, c0⟩ := HC.out k hlt
      have c1 := (hbw.cell (p := ⟨g, k, none⟩) hgl).trans c0
      have hkt : k < ts.length := by have := HBL.out; omega
      have hnode := (HN.out.get k hkt).keep (nx hb0 hbw)
      have hct := HD.out (ts.getD k .lf) (by rw [List.getD_eq_getElem?_getD, List.getElem?_eq_getElem hkt]; exact List.getElem_mem hkt)
      have hnext : ss ++ [(ts.getD k .lf).str] = (strs ts).take (k + 1) := by
        rw [hss.out]
        unfold strs
        rw [List.take_succ_eq_append_getElem (by simpa using hkt)]
        simp [hkt]
      have HX := Lib.hid hnext
      have HCS := Lib.hid hcs
      have hcs9 : ss.length ≤ 1000 := by omega
      unfold OwnS at hown
      generalize bs.getD k 0 = p at *
      unfold ptrN at c1
      generalize ts.getD k .lf = t at *
      have hTX := text_any t p _ hnode hct
      generalize t.str = x at *
      clear hnext hss hnode c0 hcs
      go_wp2_with fail
      refine hTX.mono ?_; rintro e w3 ⟨rfl, d, hw3⟩
      have hb3 : Below wr.heap.size wr w3 := by rw [hw3]; exact drewB (Below.refl _ _) _
      clear hw3 hTX
      replace hown := ownsRow_keep hown hb3
      replace hbw := nx hbw hb3
      clear hb3
      go_wp2_with (at_builtin; refine wpList_append_own _ rfl _ _ 22 rfl w.heap.size 9 i0 (.string ⟨#[]⟩) 1 16 Try.underlying22 hi hz0 hz1 hz2 rfl (by decide) _ _ _ rfl (hown.alloc _) ⟨w3.heap.size, 0, none⟩ 1 1 [.string x] rfl rfl (new1 _ _ _) (oneS [x]) (by unfold maxLen; omega) (by omega) (size_al hbw _) ?_; intro v' w9 hown' hgrow hnn)
      have hbw9 := below_app hbw hown (Nat.le_refl _) hgrow
      have hown1 : OwnS w.heap.size w9 v' (ss ++ [x]) := OwnS.app (B := [x]) hown'
      clear hown hown' hgrow hbw hnn
      go_wp2_with fail
      go_roundw
      case rel => exact ⟨k + 1, _, by omega, by go_num, by have := HCS.out; simp; omega, hown1, HX, hbw9⟩
      case measure => simp [intOf]; omega
    · obtain rfl : k = n := by omega
      have h1 := hss.out
      rw [List.take_of_length_le (by rw [strs_length]; have := HBL.out; omega)] at h1
      have HX := Lib.hid h1
      clear h1 hss hcs
      go_wp2_with fail
      go_ret
      exact ⟨_, by rw [← HX.out]; exact hown, hbw, rfl⟩
end Go.Proofs.Ytplmbdljhgicfab

/-! Ff8 -/
namespace Go.Proofs.Ytplmbdljhgicfab
open Go.RowKit

theorem OwnS.cut {base : Nat} {w : World} {oa : Option Addr} {m cap : Nat} {xs : List ByteArray} (h : OwnS base w (.slice oa m cap) xs) (n : Nat) (hn : n ≤ xs.length) (hm : xs.length = m) : OwnS base w (.slice oa n cap) (xs.take n) := by
  obtain ⟨h1, h2⟩ := h
  have hl : (xs.take n).length = n := by rw [List.length_take]; omega
  unfold OwnS
  rw [hl]
  refine ⟨by simp; omega, ?_⟩
  rcases h2 with ⟨hv, hn0⟩ | ⟨g, cap', cur, hv, hb, hh, r1, r2, r3, r4⟩
  · cases hv
    obtain rfl : n = 0 := by omega
    exact .inl ⟨rfl, rfl⟩
  · cases hv
    refine .inr ⟨g, cap, cur, rfl, hb, hh, by omega, r2, r3, ?_⟩
    rw [List.map_take, ← r4, List.take_take, Nat.min_eq_left (by omega), Nat.mul_one]
def sliceN (v : Value) : Nat := match v with | .slice _ n _ => n | _ => 0
/-- A call that hands back texts of its own, or none. -/
def GivesOwn (ss : List ByteArray) (w : World) (e : Ending) (w' : World) : Prop := ∃ v, OwnS w.heap.size w' v ss ∧ Below w.heap.size w w' ∧ e = .returned v
theorem strip_snoc (ts : List Tr) (k : Nat) (h : k < ts.length) (hl : (ts.getD k .lf).isLf = true) : stripT (ts.take (k + 1)) = stripT (ts.take k) := by
  refine stripT_take (t := ts.getD k .lf) ?_ hl
  rw [List.getD_eq_getElem?_getD, List.getElem?_eq_getElem h]; rfl
theorem strip_end (ts : List Tr) (k : Nat) (h : k < ts.length) (hl : (ts.getD k .lf).isLf = false) : stripT (ts.take (k + 1)) = ts.take (k + 1) := by
  refine stripT_stop (t := ts.getD k .lf) ?_ hl
  rw [List.getD_eq_getElem?_getD, List.getElem?_eq_getElem h]; rfl

set_option maxRecDepth 100000 in
set_option maxHeartbeats 2000000 in
theorem hanging_any (t : Tr) (b : Nat) (w : World) (h : NodeAt w t b) (hc : t.carets ≤ 1000) :
    Calls Try.prog 48 #[.pointer (some ⟨b, 0, none⟩)] w (GivesOwn (strs (hangT t)) w) := by
  have hcall1 : ∀ (args : Array Value) (w : World), (callFunc 99 args).run Try.prog w = .ok (.enter 99 args) w := by intro args w; rfl
  have hcall2 : ∀ (args : Array Value) (w : World), (callFunc 95 args).run Try.prog w = .ok (.enter 95 args) w := by intro args w; rfl
  have hR := fun w' hb => onRight_any w t b w' h hb hc
  have hlen := onR_length t
  have hL := fun v b bs w' hcells hN hb => listOfLeft_any w v b (onR t) bs w' hcells hN hb (onR_nd t) (by omega) hcall1
  have hsum := sides_sum t
  have hT := fun v b bs w' hcells hN hb => listOfText_any w v b ((onR t).map leftT) bs w' hcells hN hb (fun x hx => by rw [onR_left] at hx; have := sumT_mem hx; omega) (by simp; omega) hcall2
  rw [onR_left] at hL hT
  have hsl : (sidesT t).length ≤ 1000 := by omega
  obtain ⟨ts, hts⟩ : ∃ ts, ts = sidesT t := ⟨_, rfl⟩
  have HH : Hid (stripT ts = hangT t) := by show _ = _; rw [hts]; rfl
  rw [← hts] at hL hT hsl
  clear hts hsum hlen hcall1 hcall2
  go_enter Try.func48, Try.ntmps48
  go_wp2_with fail
  refine (hR _ (Below.refl _ _)).mono ?_; rintro e w1 ⟨v1, bs1, own1, hn1, hb1, rfl⟩
  go_wp2_with fail
  refine (hL v1 _ bs1 _ own1.cells hn1 hb1).mono ?_; rintro e w2 ⟨v2, bs2, own2, hn2, hb2, rfl⟩
  replace hb2 := nx hb1 hb2
  go_wp2_with fail
  refine (hT v2 _ bs2 _ own2.cells hn2 hb2).mono ?_; rintro e w3 ⟨v3, own3, hb3, rfl⟩
  replace own3 := own3.mono hb2.size
  replace hb3 := nx hb2 hb3
  clear hR hL hT own1 own2 hn1 hn2 hb1 hb2
  go_wp2_with fail
  go_loopw [3] (fun u wr => ∃ k : Nat, k ≤ ts.length ∧ OwnS w.heap.size w3 u ((strs ts).take k) ∧ Hid (stripT ts = stripT (ts.take k)) ∧ wr = w3) (fun u _ => sliceN u)
  case atStart => exact ⟨ts.length, Nat.le_refl _, by rw [List.take_of_length_le (by rw [strs_length]; exact Nat.le_refl _)]; exact own3, by show _ = _; rw [List.take_length], rfl⟩
  case round =>
    obtain ⟨k, hk, hown, he, rfl⟩ := hrel
    have hkl : ((strs ts).take k).length = k := by rw [List.length_take, strs_length]; omega
    obtain ⟨oa, cap, rfl, hcl, hcm, hcc⟩ := hown.cells.form0
    unfold maxLen at hcm
    rw [hkl] at hcl hcc hown ⊢
    cases k with
    | zero =>
      have HE : Hid (strs (hangT t) = []) := by
        show strs (hangT t) = []
        rw [← HH.out, he.out]; rfl
      clear he hcc hkl
      go_wp2_with fail
      go_ret
      exact ⟨_, by rw [HE.out]; exact hown, hb3, rfl⟩
    | succ k =>
      obtain ⟨g, rfl, _, hgl, c1⟩ := hcc k (by omega)
      have hkt : k < ts.length := by omega
      rw [show ((strs ts).take (k + 1)).getD k ⟨#[]⟩ = (ts.getD k .lf).str by rw [List.getD_eq_getElem?_getD, List.getElem?_take_of_lt (by omega), ← List.getD_eq_getElem?_getD]; exact map_getD ts k hkt] at c1
      have hd := str_dot (ts.getD k .lf)
      have ei : ((k + 1 : Nat) : Int) - 1 = (k : Int) := by omega
      have hd1 : (0 : Int) ≤ (k : Int) := by omega
      have hd2 : (k : Int) < ((k + 1 : Nat) : Int) := by omega
      have hd3 : (0 : Int) < ((k + 1 : Nat) : Int) := by omega
      have hkc : k ≤ cap := by omega
      cases hlf : (ts.getD k .lf).isLf with
      | true =>
        have HN : Hid (stripT ts = stripT (ts.take k)) := by show _ = _; rw [he.out, strip_snoc ts k hkt hlf]
        rw [hlf] at hd
        have hown1 := OwnS.cut hown k (by omega) hkl
        rw [List.take_take, Nat.min_eq_left (by omega)] at hown1
        generalize (ts.getD k .lf).str = x at *
        clear hlf he hcc hkl hown
        go_wp2_with fail
        go_roundw
        case rel => exact ⟨k, by omega, hown1, HN, trivial⟩
        case measure => simp [sliceN]
      | false =>
        have HE : Hid (strs (hangT t) = (strs ts).take (k + 1)) := by
          show strs (hangT t) = _
          rw [← HH.out, he.out, strip_end ts k hkt hlf]; simp [strs]
        rw [hlf] at hd
        generalize (ts.getD k .lf).str = x at *
        clear hlf he hcc hkl
        go_wp2_with fail
        go_ret
        exact ⟨_, by rw [HE.out]; exact hown, hb3, rfl⟩

theorem treeOf_great {t : Tr} (h : 8 < t.carets) : treeOf t.str = none := by
  cases hf : treeOf t.str with
  | none => rfl
  | some u =>
    obtain ⟨h1, h2⟩ := treeOf_some hf
    have h3 : t.text = u.text := by rw [← Tr.str_list, ← Tr.str_list, h1]
    have : t = u := (Tr.text_inj (t := t) (u := u) (r := []) (q := []) (by rw [h3])).1
    rw [this] at h; omega
theorem forOf_any (ts : List Tr) : forOf (strs ts) = if okF ts = true then some ts else none := by
  by_cases h : okF ts = true
  · rw [if_pos h]; exact forOf_map h
  · rw [if_neg h]
    cases hf : forOf (strs ts) with
    | none => rfl
    | some us =>
      obtain ⟨h1, h2, h3, h4⟩ := forOf_some hf
      exfalso
      have h5 : ts = us := by
        have hi : ∀ (a c : List Tr), a.map Tr.str = c.map Tr.str → a = c := by
          intro a
          induction a with
          | nil => intro c hc; cases c with | nil => rfl | cons x c => cases hc
          | cons x a ih =>
            intro c hc
            cases c with
            | nil => cases hc
            | cons y c =>
              rw [List.map_cons, List.map_cons] at hc
              injection hc with e1 e2
              have e3 : x.text = y.text := by rw [← Tr.str_list, ← Tr.str_list, e1]
              have e4 : x = y := (Tr.text_inj (t := x) (u := y) (r := []) (q := []) (by rw [e3])).1
              rw [e4, ih c e2]
        exact hi ts us h1
      subst h5
      exact h (okF_iff.2 ⟨h2, h3, h4⟩)
theorem sz_strs {us : List Tr} (h : sumT us ≤ 1000) : ∀ x ∈ strs us, x.size ≤ 1048576 := by
  intro x hx
  obtain ⟨u, hu, rfl⟩ := List.mem_map.1 hx
  have := sumT_mem hu
  rw [u.str_size]; omega

set_option maxRecDepth 100000 in
theorem withinLimitsF_any (v : Value) (b : Nat) (ts : List Tr) (w : World) (h : CellsS b w v (strs ts)) (hs : sumT ts ≤ 1000) (hl : ts.length ≤ 1000) :
    Calls Try.prog 47 #[v] w fun e w' => e = .returned (.tuple #[if okF ts = true then v else .slice none 0 0, .bool (okF ts)]) ∧ Below w.heap.size w w' := by
  have hG := implIsForest_b v b (strs ts) w h (sz_strs hs) (by rw [strs_length]; omega)
  rw [forOf_any] at hG
  obtain ⟨oa, cap, rfl, hcl, hcm, _⟩ := h.form0
  unfold maxLen at hcm
  rw [strs_length] at *
  cases hk : okF ts with
  | true =>
    rw [if_pos hk] at hG
    have hG' : Calls Try.prog 56 #[.slice oa ts.length cap] w (Gives (.bool true) w) := hG
    rw [if_pos rfl]
    clear hG h
    go_enter Try.func47, Try.ntmps47
    go_wp2_with fail
    refine hG'.mono ?_; rintro e w1 ⟨rfl, hb1⟩
    go_wp2_with fail
    go_ret2
    exact ⟨rfl, hb1⟩
  | false =>
    rw [hk] at hG
    have hG' : Calls Try.prog 56 #[.slice oa ts.length cap] w (Gives (.bool false) w) := hG
    rw [if_neg (by decide)]
    clear hG h
    go_enter Try.func47, Try.ntmps47
    go_wp2_with fail
    refine hG'.mono ?_; rintro e w1 ⟨rfl, hb1⟩
    go_wp2_with fail
    go_ret2
    exact ⟨rfl, hb1⟩

set_option maxRecDepth 100000 in
set_option maxHeartbeats 2000000 in
theorem wdShort_none (w : World) : Calls Try.prog 92 #[.slice none 0 0] w (GivesOwn [] w) := by
  obtain ⟨i0, hi, hz0, hz1, hz2⟩ := info_parts info_str
  have hown0 := ownsRow_empty w 9
  have hb0 := nxAlloc (Below.refl w.heap.size w) (.cells #[] 9 (0, 0))
  have hsrc : SrcV (w.alloc (.cells #[] 9 (0, 0))) (.slice none 0 0) ([] : List Value) := .inl ⟨rfl, rfl⟩
  have hone : ∀ y ∈ ([] : List Value), y.oneCell' = true := by intro y hy; cases hy
  go_enter Try.func92, Try.ntmps92
  go_wp2_with fail
  go_loop [3] (fun i => i = .int .i64 0) (fun _ => 0)
  case atStart => exact rfl
  case round =>
    obtain rfl := hrel
    go_wp2_with (at_builtin; refine wpList_appSrc rfl (.tmp 18) (.tmp 21) 22 rfl w.heap.size 9 i0 (.string ⟨#[]⟩) 16 Try.underlying22 hi hz0 hz1 hz2 rfl _ 0 _ rfl hown0 _ _ rfl hsrc hone (by unfold maxLen; simp) (by simp) (by simp) ?_; intro w1v w1 w1o w1b w1n)
    have HF : OwnS w.heap.size w1 w1v [] := w1o
    clear w1o w1n
    go_wp2_with fail
    go_ret
    exact ⟨_, HF, hb0.trans w1b, rfl⟩
theorem wdShort_own (v : Value) (b : Nat) (ts : List Tr) (w : World) (h : CellsS b w v (strs ts)) (hl : ts.length ≤ 1000) :
    Calls Try.prog 92 #[v] w (GivesOwn (strs (stripT ts)) w) := by
  have h0 := h
  rcases h with ⟨rfl, hn⟩ | ⟨g, cap, rfl, _⟩
  · have : ts = [] := by
      have := congrArg List.length hn
      rw [strs_length] at this
      exact List.length_eq_zero_iff.1 this
    subst this
    exact wdShort_none w
  · rw [strs_length] at *
    refine (wdShort_any b g cap ts w h0 hl).mono ?_
    rintro e w' ⟨g', cap', ho, hb, he⟩
    exact ⟨_, ho, hb, he⟩

set_option maxRecDepth 100000 in
theorem foIf_any (v : Value) (b : Nat) (ts : List Tr) (w : World) (h : CellsS b w v (strs ts)) (hs : sumT ts ≤ 1000) (hl : ts.length ≤ 1000) :
    Calls Try.prog 43 #[v] w (AnsS2 (if okF (stripT ts) = true then strs (stripT ts) else []) (okF (stripT ts)) w) := by
  have hW := wdShort_own v b ts w h hl
  have hsl := stripT_length ts
  have hss := sumT_strip ts
  generalize stripT ts = us at *
  have hG := fun v b w h => foGood_any v b (strs us) w h (sz_strs (by omega)) (by rw [strs_length]; omega)
  rw [forOf_any] at hG
  obtain ⟨oa, cap, rfl, hcl, hcm, _⟩ := h.form0
  unfold maxLen at hcm
  cases hk : okF us with
  | true =>
    rw [if_pos hk] at hG
    have hG' : ∀ v b w, CellsS b w v (strs us) → Calls Try.prog 39 #[v] w (Gives (.bool true) w) := hG
    rw [if_pos rfl]
    clear hG h hsl hss hk
    go_enter Try.func43, Try.ntmps43
    go_wp2_with fail
    refine hW.mono ?_; rintro e w1 ⟨v1, own1, hb1, rfl⟩
    go_wp2_with fail
    refine (hG' v1 _ _ own1.cells).mono ?_; rintro e w2 ⟨rfl, hb2⟩
    go_wp2_with fail
    go_ret2
    exact ⟨_, own1.keep hb2, nx hb1 hb2, rfl⟩
  | false =>
    rw [hk] at hG
    have hG' : ∀ v b w, CellsS b w v (strs us) → Calls Try.prog 39 #[v] w (Gives (.bool false) w) := hG
    rw [if_neg (by decide)]
    clear hG h hsl hss hk
    go_enter Try.func43, Try.ntmps43
    go_wp2_with fail
    refine hW.mono ?_; rintro e w1 ⟨v1, own1, hb1, rfl⟩
    go_wp2_with fail
    refine (hG' v1 _ _ own1.cells).mono ?_; rintro e w2 ⟨rfl, hb2⟩
    go_wp2_with fail
    go_ret2
    exact ⟨_, OwnS.nil _ _, nx hb1 hb2, rfl⟩

end Go.Proofs.Ytplmbdljhgicfab

/-! BackO -/
namespace Go.Proofs.Ytplmbdljhgicfab
open Go.RowKit Go.Shelf

attribute [local go_sem] Oper.semAt_some

set_option maxRecDepth 100000 in
set_option maxHeartbeats 2000000 in
/-- The closure of slices.Backward, at a slice with cells. -/
theorem back1O_in (F : Fence) (n : Nat) (hf : F.fn 136) (hro : F.round = none) (hn : 1 ≤ n) (l Bs n₀ b off cap : Nat) (L : List ByteArray) (hz : ∀ x ∈ L, x.size ≤ 1000) (hL : L.length ≤ 1000) (hb : b < n₀) (J Jx : List IxS → World → Prop)
    (hY : ∀ pre x W, J pre W → pre.length < L.length → YieldAt F (n - 1) Try.prog l #[.int .i64 (x.1.1 : Int), .string x.1.2] W fun e W' =>
      (e = .returned (.bool true) ∧ J (pre ++ [x]) W' ∧ KpS n₀ Bs W W') ∨ (e = .returned (.bool false) ∧ Jx (pre ++ [x]) W'))
    (W : World) (hBs : Boxed W Bs 22 (.slice (some ⟨b, off, none⟩) L.length cap)) (hc : ∀ j, j < L.length → W.cell? ⟨b, off + j, none⟩ = some (.string (L[j]?.getD ⟨#[]⟩))) (h0 : J [] W) :
    CallsIn F n Try.prog 136 #[.func (.yield l) #[] #[], .pointer (some ⟨Bs, 0, none⟩)] W fun e W' => (∃ v, e = .returned v) ∧
      ((∃ ys, ys = bkToS L hz L.length ∧ J ys W') ∨ (∃ pre, (∃ k, k ≤ L.length ∧ pre = bkToS L hz k) ∧ Jx pre W')) := by
  refine callsIn_of_wp Try.func136 rfl hf ?_ hro
  simp only [Try.ntmps136, List.size_toArray, List.length_cons, List.length_nil, Nat.reduceAdd, Nat.reduceSub, Array.replicate_succ, Array.replicate_zero, List.push_toArray, List.append_toArray, List.nil_append, List.cons_append]
  have hB0 := hBs.cell
  gi_wp2
  gi_loopw [3] (fun i wr => ∃ m : Nat, m ≤ L.length ∧ i = .int .i64 ((m : Int) - 1) ∧ J (bkToS L hz (L.length - m)) wr ∧ KpS n₀ Bs W wr)
    (fun i _ => (intOf i + 1).toNat)
  case atStart => exact ⟨L.length, Nat.le_refl _, rfl, by rw [Nat.sub_self]; exact h0, KpS.refl _ _ _⟩
  case round =>
    obtain ⟨m, hm, rfl, hJs, hnx⟩ := hrel
    have hBx := (hnx.2 _ hBs).cell
    cases m with
    | zero =>
      have e0 : ((0 : Nat) : Int) - 1 = -1 := by omega
      rw [e0]
      gi_wp2
      go_end0
      exact ⟨⟨_, rfl⟩, .inl ⟨_, rfl, hJs⟩⟩
    | succ m =>
      have e1 : ((m + 1 : Nat) : Int) - 1 = (m : Int) := by omega
      rw [e1]
      have hcx : wr.cell? ⟨b, off + m, none⟩ = some (.string (L[m]?.getD ⟨#[]⟩)) := (hnx.1.cell (p := ⟨b, off + m, none⟩) hb).trans (hc m (by omega))
      obtain ⟨fn, tmps, assign, body, hy, hR⟩ := hY _ (bkAtS L hz (L.length - (m + 1))) wr hJs (by rw [bkToS_length]; omega)
      have e2 : L.length - 1 - (L.length - (m + 1)) = m := by omega
      simp only [bkAtS, e2] at hy
      gi_wp2
      refine hR.mono ?_
      rintro e W3 (⟨rfl, hJ3, hk3⟩ | ⟨rfl, hJx3⟩)
      · gi_wp2
        go_roundw
        case rel => exact ⟨m, by omega, by go_num, by rw [show L.length - m = (L.length - (m + 1)) + 1 by omega, bkToS_succ]; exact hJ3, hnx.trans hk3⟩
        case measure => simp [intOf]
      · gi_wp2
        refine bodyPost_ret (results_none rfl _ _ _) rfl ?_
        exact ⟨⟨_, rfl⟩, .inr ⟨_, ⟨L.length - (m + 1) + 1, by omega, (bkToS_succ _ _ _).symm⟩, hJx3⟩⟩

/-- What comes of slices.Backward. -/
theorem backO_stops (F : Fence) (n : Nat) (hf : F.fn 136) (hro : F.round = none) (hn : 1 ≤ n) (Bs n₀ cap : Nat) (oa : Option Addr) (L : List ByteArray) (hz : ∀ x ∈ L, x.size ≤ 1000) (hL : L.length ≤ 1000) (w : World) (hn₁ : n₀ ≤ w.heap.size)
    (hc : Boxed w Bs 22 (.slice oa L.length cap)) (hI : ∀ i, i < L.length → ∃ g off, oa = some ⟨g, off, none⟩ ∧ g < n₀ ∧ w.cell? ⟨g, off + i, none⟩ = some (.string (L[i]?.getD ⟨#[]⟩))) :
    SeqStopsK F n Try.prog 136 #[.pointer (some ⟨Bs, 0, none⟩)] (fun x : IxS => #[Value.int .i64 (x.1.1 : Int), Value.string x.1.2]) (KpS n₀ Bs) (fun ys => ys = bkToS L hz L.length)
      (fun pre => ∃ k, k ≤ L.length ∧ pre = bkToS L hz k) L.length w := fun l J Jx W hW _ _ hY h0 => by
  have hc' : Boxed W Bs 22 (.slice oa L.length cap) := (hW.block Bs hc.lt).trans hc
  by_cases h : L.length = 0
  · have hc2 := hc'.cell
    rw [h] at hc2
    exact (back1S_nil_in F n hf hro l Bs cap oa J W hc2 h0).mono fun e W' ⟨he, hj⟩ => ⟨he, .inl ⟨_, by rw [h]; rfl, hj⟩⟩
  · obtain ⟨g, off, rfl, hg, _⟩ := hI 0 (by omega)
    refine back1O_in F n hf hro hn l Bs n₀ g off cap L hz hL hg J Jx hY W hc' (fun i hi => ?_) h0
    obtain ⟨g', off', e, hg', c⟩ := hI i hi
    cases e
    exact (hW.cell (p := ⟨g, off + i, none⟩) (by show g < _; omega)).trans c

end Go.Proofs.Ytplmbdljhgicfab

/-! Ff2o -/
namespace Go.Proofs.Ytplmbdljhgicfab
open Go.RowKit Go.Shelf

attribute [local go_sem] Oper.semAt_some

set_option maxRecDepth 100000 in
set_option maxHeartbeats 2000000 in
theorem hungAboveO_in (F : Fence) (n : Nat) (h3 : F.fn 50) (h5 : F.fn 101) (h7 : F.fn 136) (hro : F.round = none) (hn : 3 ≤ n) (oa : Option Addr) (cap : Nat) (E : ByteArray) (hE : E.size ≤ 1000000) (L : List ByteArray) (hz : ∀ x ∈ L, x.size ≤ 1000) (hL : L.length ≤ 1000) (w : World)
    (hI : ∀ i, i < L.length → ∃ g off, oa = some ⟨g, off, none⟩ ∧ g < w.heap.size ∧ w.cell? ⟨g, off + i, none⟩ = some (.string (L[i]?.getD ⟨#[]⟩))) :
    CallsIn F n Try.prog 50 #[.string E, .slice oa L.length cap] w fun e W' => e = .returned (.string (hangS E (bkToS L hz L.length))) ∧ Below w.heap.size w W' := by
  have h1 : 1 ≤ n := by omega
  refine callsIn_of_wp_marks Try.func50 rfl h3 ?_ hro
  simp only [Try.ntmps50, List.size_toArray, List.length_cons, List.length_nil, Nat.reduceAdd, Nat.reduceSub, Array.replicate_succ, Array.replicate_zero, List.push_toArray, List.append_toArray, List.nil_append, List.cons_append]
  gi_wp2_with (gi_at_call 101; refine (backS_in F (n - 1) h5 hro _ _ _ _).mono ?_; rintro e w' ⟨rfl, rfl⟩)
  have bO := Boxed.new w 9 (.string E)
  have bN := Boxed.new (w.alloc (.cells #[.string E] 9)) 22 (.slice oa L.length cap)
  rw [World.size_alloc] at bN
  have hB0 : Below w.heap.size w ((w.alloc (.cells #[.string E] 9)).alloc (.cells #[.slice oa L.length cap] 22)) := ((Below.refl _ w).alloc (Nat.le_refl _) _).alloc (by simp) _
  refine wpIn_rangeFunc_ownG hro h1 (gf := 136) (lb := #[.pointer (some ⟨w.heap.size + 1, 0, none⟩)]) rfl h7 (enters_of Try.func136 (by kernel_rfl) rfl)
    (backO_stops F (n - 1) h7 hro (by omega) (w.heap.size + 1) w.heap.size cap oa L hz hL _ (by simp; omega) bN (fun i hi => by
      obtain ⟨g, off, e, hg, c⟩ := hI i hi
      exact ⟨g, off, e, hg, (hB0.cell (p := ⟨g, off + i, none⟩) hg).trans c⟩)) KpS.trans (KpS.put (by simp; omega)) (Below.refl _ _) (fun _ => rfl)
    (fun pre W => Boxed W w.heap.size 9 (.string (hangS E pre)) ∧ Below w.heap.size w W)
    (fun _ _ _ => False)
    (OwnFrom.and (Own.from (boxed_own w.heap.size 9 (fun pre => .string (hangS E pre))) _) (ownFrom_below (Nat.le_refl _) (by simp; omega)))
    (fun _ _ _ _ _ hs _ _ => hs)
    ⟨bO.alloc _, hB0⟩
    (fun x => { tmps := #[.string E, .slice oa L.length cap, .pointer (some ⟨w.heap.size, 0, none⟩), undef, .string ⟨#[]⟩, undef, .string x.1.2, .slice oa L.length cap, .func (.func 136) #[] #[.pointer (some ⟨w.heap.size + 1, 0, none⟩)], .int .i64 (x.1.1 : Int), .string x.1.2, undef, undef, undef, undef, undef, undef], defers := [] }) ?assign ?body ?done ?stop
  case assign =>
    intro l x W K hK
    gi_wp2
    exact hK
  case body =>
    rintro l pre x W ⟨hv, hB⟩ hlt
    have hc := hv.cell
    have hf := hv.frozen
    have hx := x.2
    have hps := hangS_size E pre.length pre rfl
    have hnx := hangS_snoc E pre x
    generalize hangS E pre = T at *
    have HNX := Lib.hid hnx
    clear hnx
    have hTs : T.size ≤ 2100000 := by omega
    have a1 : ¬ (9223372036854775807 < (⟨#[40]⟩ : ByteArray).size + x.1.2.size) := by rw [s40]; omega
    have a1' : ¬ (9223372036854775807 < 1 + x.1.2.size) := by omega
    have a2' : ¬ (9223372036854775807 < 1 + x.1.2.size + T.size) := by omega
    have a3' : ¬ (9223372036854775807 < 1 + x.1.2.size + T.size + 1) := by omega
    gi_wp2
    have hb2 : Below w.heap.size W (W.setCell ⟨w.heap.size, 0, none⟩ (.string ((⟨#[40]⟩ : ByteArray) ++ x.1.2 ++ T ++ ⟨#[41]⟩))) := (Below.refl w.heap.size W).setCell (Nat.le_refl _) _
    refine ⟨(KeepsOthers.setCell W _ _).from _, ⟨hb2, fun u hu => hu.other (by omega) _⟩, ?_, hB.trans hb2⟩
    show Boxed _ w.heap.size 9 (.string (hangS E (pre ++ [x])))
    rw [HNX.out]
    exact hv.set _
  case done =>
    rintro D ys W hD rfl ⟨hv, hB⟩ hK
    have hc := hv.cell
    gi_wp2
    refine ⟨by simp, .inl ⟨_, _, rfl, run_takeDeferred hK, ?_⟩⟩
    exact ⟨_, results_tmp rfl _ _ _, rfl, hB.trans (belowK_b (w := w) (Nat.le_refl _) W D _ _ (by simp at hD; omega) hK rfl rfl)⟩
  case stop =>
    rintro D c pre W _ _ h _
    exact h.elim

theorem hungAboveO_any (oa : Option Addr) (cap : Nat) (us : List Tr) (t : Tr) (w : World) (hI : ∀ i, i < us.length → ∃ g off, oa = some ⟨g, off, none⟩ ∧ g < w.heap.size ∧ w.cell? ⟨g, off + i, none⟩ = some (.string ((strs us)[i]?.getD ⟨#[]⟩))) (hs : sumT us ≤ 300) (ht : t.carets ≤ 1000) (hl : us.length ≤ 1000) :
    Calls Try.prog 50 #[.string t.str, .slice oa us.length cap] w (Gives (.string (combE us t).str) w) := by
  have hz := short_strs hs
  have hE : t.str.size ≤ 1000000 := by rw [t.str_size]; omega
  have hb := hangS_back us t hz us.length (Nat.le_refl _)
  rw [Nat.sub_self, List.drop_zero] at hb
  have hin := hungAboveO_in Fence.wide 3 trivial trivial trivial rfl (Nat.le_refl _) oa cap t.str hE (strs us) hz (by rw [strs_length]; exact hl) w (fun i hi => hI i (by rw [strs_length] at hi; exact hi))
  rw [strs_length] at hin
  refine callsIn_wide.1 (hin.mono ?_)
  · rintro e w' ⟨he, hbw⟩
    rw [hb] at he
    exact ⟨he, hbw⟩

theorem hungO_any (oa : Option Addr) (cap : Nat) (us : List Tr) (w : World) (hI : ∀ i, i < us.length → ∃ g off, oa = some ⟨g, off, none⟩ ∧ g < w.heap.size ∧ w.cell? ⟨g, off + i, none⟩ = some (.string ((strs us)[i]?.getD ⟨#[]⟩))) (hs : sumT us ≤ 300) (hl : us.length ≤ 1000) :
    Calls Try.prog 93 #[.slice oa us.length cap] w (Gives (.string (combT us).str) w) := by
  have h := hungAboveO_any oa cap us .lf w hI hs (by simp [Tr.carets]) hl
  rw [combE_lf] at h
  have h' : Calls Try.prog 50 #[.string ⟨#[46]⟩, .slice oa us.length cap] w (Gives (.string (combT us).str) w) := h
  clear h hI
  go_enter Try.func93, Try.ntmps93
  go_wp2_with fail
  refine h'.mono ?_; rintro e w1 ⟨rfl, hb1⟩
  go_wp2_with fail
  go_ret
  exact ⟨rfl, hb1⟩
end Go.Proofs.Ytplmbdljhgicfab

/-! ShelfMul -/
namespace Go.Proofs
open Go.Shelf
def Try.lays212_ren : Go.Shelf.Ren := ⟨fun | 212 => 148 | 263 => 170 | 264 => 171 | n => n, fun | 46 => 159 | 51 => 173 | 146 => 174 | 53 => 176 | 148 => 177 | n => n, fun | n => n⟩
theorem Try.lays212 : Go.Proofs.Lays.n212 Try.prog Try.lays212_ren := {
  mixed := by kernel_rfl
  f212 := Try.func148.trans (congrArg some (by kernel_rfl))
  f263 := Try.func170.trans (congrArg some (by kernel_rfl))
  f264 := Try.func171.trans (congrArg some (by kernel_rfl))
  t46 := Try.underlying159
  a46 := Try.isAgg159
  z46 := Try.sizeOf159
  v46 := Try.zeroValue159
  t51 := Try.underlying173
  a51 := Try.isAgg173
  z51 := Try.sizeOf173
  v51 := Try.zeroValue173
  t53 := Try.underlying176
  a53 := Try.isAgg176
  z53 := Try.sizeOf176
  v53 := Try.zeroValue176
  t146 := Try.underlying174
  a146 := Try.isAgg174
  z146 := Try.sizeOf174
  v146 := Try.zeroValue174
  t148 := Try.underlying177
  a148 := Try.isAgg177
  z148 := Try.sizeOf177
  v148 := Try.zeroValue177 }
open Go.RowKit Go.Lib in
theorem Try.bits_Mul (x y : Nat) (hx : x < 18446744073709551616) (hy : y < 18446744073709551616) (w : World) :
    Calls Try.prog 148 #[.int .u64 x, .int .u64 y] w fun e w' => e = .returned (.tuple #[.int .u64 ((x * y / 18446744073709551616 : Nat) : Int), .int .u64 ((x * y % 18446744073709551616 : Nat) : Int)]) ∧ w' = w := Any.bits_Mul Try.lays212 x y hx hy w
end Go.Proofs

/-! RepS -/
namespace Go.Proofs.Ytplmbdljhgicfab
open Go.RowKit

/-- The first m cells of a row are all X. -/
def allX (X : Value) (m : Nat) (c : List Value) : Prop := c.take m = List.replicate m X
theorem allX_splice {X : Value} {m k : Nat} {c : List Value} (h : allX X m c) : allX X (m + k) (splice c m (List.replicate k X)) := by
  unfold allX splice at *
  rw [h, ← List.append_assoc, List.replicate_append_replicate, List.take_left' (by simp)]
theorem allX_at {X : Value} {m j : Nat} {c : List Value} (h : allX X m c) (hj : j < m) : c[j]? = some X := by
  have e : (c.take m)[j]? = some X := by rw [h]; simp [hj]
  rwa [List.getElem?_take_of_lt hj] at e
theorem cell_of_block {w : World} {g j : Nat} {c : List Value} {t : TypeId} {X : Value} (h : w.heap[g]? = some (.cells c.toArray t (0, 0))) (hj : c[j]? = some X) : w.cell? ⟨g, j, none⟩ = some X := by
  unfold World.cell?
  rw [h]
  simpa using hj

theorem mul_one9 (n : Nat) (hn : n ≤ 1000) (w : World) :
    Calls Try.prog 148 #[.int .u64 1, .int .u64 n] w fun e w' => e = .returned (.tuple #[.int .u64 0, .int .u64 n]) ∧ w = w' := by
  have h := Try.bits_Mul 1 n (by omega) (by omega) w
  refine h.mono ?_
  rintro e w' ⟨he, hw⟩
  refine ⟨?_, hw.symm⟩
  rw [he, Nat.one_mul, Nat.div_eq_of_lt (by omega), Nat.mod_eq_of_lt (by omega)]
  rfl
/-- A call that hands back so many cells of one text, in a new block. -/
def GivesRepS (x : ByteArray) (n : Nat) (w : World) (e : Ending) (w' : World) : Prop :=
  ∃ g : Nat, OwnS w.heap.size w' (.slice (some ⟨g, 0, none⟩) n n) (List.replicate n x) ∧ Below w.heap.size w w' ∧ e = .returned (.slice (some ⟨g, 0, none⟩) n n)

theorem ownS_of_block {w : World} {B g n : Nat} {c : List Value} {x : ByteArray} (h : w.heap[g]? = some (.cells c.toArray 9 (0, 0))) (hB : B ≤ g) (hl : c.length = n) (hn : n ≤ 1000000) (ha : allX (.string x) n c) :
    OwnS B w (.slice (some ⟨g, 0, none⟩) n n) (List.replicate n x) := by
  unfold OwnS
  rw [List.length_replicate]
  refine ⟨by simp, .inr ⟨g, n, c.toArray, rfl, hB, h, Nat.le_refl _, by unfold maxLen; omega, by simp [hl], ?_⟩⟩
  unfold allX at ha
  simp only [Nat.mul_one]
  rw [ha]
  simp

set_option maxRecDepth 100000 in
set_option maxHeartbeats 200000 in
theorem repeatS_pos (x : ByteArray) (n g cap : Nat) (w : World) (hn : n ≤ 1000) (hn1 : 1 ≤ n) (hc : w.cell? ⟨g, 0, none⟩ = some (.string x)) :
    Calls Try.prog 120 #[.slice (some ⟨g, 0, none⟩) 1 cap, .int .i64 n] w (GivesRepS x n w) := by
  obtain ⟨i0, hi, hz0, hz1, hz2⟩ := info_parts info_str
  have hsz1 : (Try.prog.info? 9).map (·.size) = some 1 := by rw [hi]; simp [hz1]
  have hgl := World.block_lt_of_cell? w _ hc
  have hM := fun w => mul_one9 n hn w
  have hb8 : ((i0.bytes : Nat) : Int) * (n : Int) ≤ 281474976710656 := by rw [hz2]; omega
  have hmk := fun w => run_make (P := Try.prog) w 22 9 i0 (.string ⟨#[]⟩) Try.underlying22 hi hz0 .i64 .i64 n n (by omega) (by omega) hb8 (by omega)
  obtain ⟨C, hC⟩ : ∃ C : List Value, C.toArray = madeCells (Value.string ⟨#[]⟩).cells ((n : Int).toNat * i0.size) := ⟨_, Array.toArray_toList⟩
  have hCl : C.length = n := by
    have h := size_madeCells (Value.string ⟨#[]⟩).cells ((n : Int).toNat * i0.size)
    rw [← hC, hz1] at h
    simpa using h
  rw [← hC] at hmk
  simp only [Int.toNat_natCast] at hmk
  have HC := Lib.hid hCl
  have hnn : (0 : Int) ≤ (n : Int) := by omega
  have hb0 : Below w.heap.size w (w.alloc (.cells C.toArray 9)) := (Below.refl _ w).alloc (Nat.le_refl _) _
  have hsrc : ∀ (j : Nat) (v : Value), [Value.string x][j]? = some v → (w.alloc (.cells C.toArray 9)).cell? ((⟨g, 0, none⟩ : Addr).add j) = some v := by
    intro j v hj
    match j, hj with
    | 0, hj =>
      simp at hj; subst hj
      rw [addr_add]
      exact (hb0.cell (p := ⟨g, 0, none⟩) hgl).trans hc
    | j + 1, hj => simp at hj
  have hnew : (w.alloc (.cells C.toArray 9)).heap[w.heap.size]? = some (.cells C.toArray 9 (0, 0)) := by
    show (w.heap.push _)[w.heap.size]? = _
    simp
  have hone : ∀ v ∈ [Value.string x], v.oneCell' = true := by intro u hu; simp at hu; subst hu; rfl
  have hall0 : allX (.string x) 0 C := by unfold allX; simp
  have hall1 : allX (.string x) 1 (splice C 0 [Value.string x]) := allX_splice (k := 1) hall0
  have hlen1 : (splice C 0 [Value.string x]).length = n := by rw [length_splice _ _ _ (by simp; omega)]; exact HC.out
  have HA := Lib.hid hall1
  have HL := Lib.hid hlen1
  clear hC hb8 hCl hall0 hall1 hlen1
  go_enter Try.func120, Try.ntmps120
  go_wp2_with fail
  refine (hM _).mono ?_; rintro e w1 ⟨rfl, rfl⟩
  go_wp2_with (refine wpList_copy_splice rfl (.tmp 31) (.tmp 32) 22 22 rfl 9 Try.underlying22 hsz1 _ _ _ _ _ _ rfl rfl w.heap.size 0 C 9 hnew [Value.string x] (Nat.min_eq_left hn1).symm (fun _ => ⟨rfl, _, rfl, hsrc⟩) (by have := HC.out; simp; omega) hone w.heap.size w hb0 (Nat.le_refl _) ?_; intro w2 HG2 hB2)
  generalize splice C 0 [Value.string x] = D at HG2 HA HL
  clear hsrc hb0 hone hmk HC hnew
  go_loopw [8] (fun i wr => ∃ (m : Nat) (c : List Value), i = .int .i64 m ∧ 1 ≤ m ∧ m ≤ n ∧ Hid (c.length = n) ∧ Hid (allX (.string x) m c) ∧ Hid (wr.heap[w.heap.size]? = some (.cells c.toArray 9 (0, 0))) ∧ Below w.heap.size w wr) (fun i _ => n - (intOf i).toNat)
  case atStart => exact ⟨1, D, rfl, Nat.le_refl _, hn1, HL, HA, HG2, hB2⟩
  case round =>
    obtain ⟨m, c, rfl, hm1, hmn, hcl, hal, hg, hbw⟩ := hrel
    clear HG2 HA HL hB2
    by_cases hlt : m < n
    · have hlt' : (m : Int) < (n : Int) := by omega
      obtain ⟨k, hk⟩ : ∃ k, k = Nat.min m (n - m) := ⟨_, rfl⟩
      have hk1 : 1 ≤ k := by rw [hk]; exact Nat.le_min.2 ⟨hm1, by omega⟩
      have hk2 : m + k ≤ n := by have : k ≤ n - m := by rw [hk]; exact Nat.min_le_right _ _
                                 omega
      have hk3 : k ≤ m := by rw [hk]; exact Nat.min_le_left _ _
      have hcs : (List.replicate k (Value.string x)).length = Nat.min m (n - m) := by rw [List.length_replicate]; exact hk
      have hsrc : ∀ (j : Nat) (v : Value), (List.replicate k (Value.string x))[j]? = some v → wr.cell? ((⟨w.heap.size, 0, none⟩ : Addr).add j) = some v := by
        intro j v hj
        have hjk := (List.getElem?_eq_some_iff.1 hj).1
        rw [List.length_replicate] at hjk
        rw [List.getElem?_replicate, if_pos hjk] at hj
        rw [addr_add, ← hj]
        exact cell_of_block hg.out (allX_at hal.out (by omega))
      have hone : ∀ v ∈ List.replicate k (Value.string x), v.oneCell' = true := by intro u hu; rw [List.eq_of_mem_replicate hu]; rfl
      have hal' : Hid (allX (.string x) (m + k) (splice c m (List.replicate k (Value.string x)))) := allX_splice hal.out
      have hcl' : Hid ((splice c m (List.replicate k (Value.string x))).length = n) := by
        show _ = _
        rw [length_splice _ _ _ (by rw [List.length_replicate, hcl.out]; omega)]; exact hcl.out
      have hfit : m + (List.replicate k (Value.string x)).length ≤ c.length := by rw [List.length_replicate, hcl.out]; omega
      obtain ⟨R, hR⟩ : ∃ R, R = List.replicate k (Value.string x) := ⟨_, rfl⟩
      have hRl : R.length = k := by rw [hR, List.length_replicate]
      rw [← hR] at hcs hsrc hone hal' hcl' hfit
      have HCS := Lib.hid hcs
      have ew : IntKind.i64.wrap ((m : Int) + (k : Int)) = ((m + k : Nat) : Int) := by rw [IntKind.wrap_i64]; omega
      clear hR hk hcs
      have hsrcD : ∀ (j : Nat) (v : Value), R[j]? = some v → wr.drew.cell? ((⟨w.heap.size, 0, none⟩ : Addr).add j) = some v := hsrc
      go_wp2_with fail
      go_region_law (refine step_copy_splice (by rfl) (.tmp 41) (.tmp 44) 22 22 (by rfl) 9 Try.underlying22 hsz1 (if n = m then some ⟨w.heap.size, 0, none⟩ else some ⟨w.heap.size, m, none⟩) (some ⟨w.heap.size, 0, none⟩) (n - m) (n - m) m n (by go_simp) (by go_simp) w.heap.size m c 9 hg.out R HCS.out (fun _ => ⟨if_neg (by omega), _, rfl, hsrcD⟩) hfit hone w.heap.size w hbw.drew (Nat.le_refl _) ?_; intro w4 hg4 hb4)
      go_wp2_with fail
      go_roundw
      case rel => exact ⟨m + k, by omega, by omega, hk2, _, hcl', hal', hg4⟩
      case measure => simp [intOf]; omega
    · obtain rfl : m = n := by omega
      go_wp2_with fail
      go_ret
      exact ⟨_, ownS_of_block hg.out (Nat.le_refl _) hcl.out (by omega) hal.out, hbw, rfl⟩

set_option maxRecDepth 100000 in
set_option maxHeartbeats 200000 in
theorem repeatS_zero (g cap : Nat) (w : World) :
    Calls Try.prog 120 #[.slice (some ⟨g, 0, none⟩) 1 cap, .int .i64 0] w (fun e w' => ∃ g' : Nat, OwnS w.heap.size w' (.slice (some ⟨g', 0, none⟩) 0 0) [] ∧ Below w.heap.size w w' ∧ e = .returned (.slice (some ⟨g', 0, none⟩) 0 0)) := by
  obtain ⟨i0, hi, hz0, hz1, hz2⟩ := info_parts info_str
  have hsz1 : (Try.prog.info? 9).map (·.size) = some 1 := by rw [hi]; simp [hz1]
  have hM : ∀ w, Calls Try.prog 148 #[.int .u64 1, .int .u64 0] w fun e w' => e = .returned (.tuple #[.int .u64 0, .int .u64 0]) ∧ w = w' := fun w => mul_one9 0 (by omega) w
  have hmk := fun w => run_make (P := Try.prog) w 22 9 i0 (.string ⟨#[]⟩) Try.underlying22 hi hz0 .i64 .i64 0 0 (by omega) (by omega) (by rw [hz2]; omega) (by omega)
  have hC : madeCells (Value.string ⟨#[]⟩).cells ((0 : Int).toNat * i0.size) = #[] := by
    have h := size_madeCells (Value.string ⟨#[]⟩).cells ((0 : Int).toNat * i0.size)
    rw [hz1] at h ⊢
    exact Array.eq_empty_of_size_eq_zero (by simpa using h)
  rw [hC] at hmk
  simp only [Int.toNat_zero] at hmk
  have HO := Lib.hid (ownsRow_empty w 9)
  have hb0 : Below w.heap.size w (w.alloc (.cells #[] 9)) := (Below.refl _ w).alloc (Nat.le_refl _) _
  clear hC
  go_enter Try.func120, Try.ntmps120
  go_wp2_with fail
  refine (hM _).mono ?_; rintro e w1 ⟨rfl, rfl⟩
  go_wp2_with (refine wpList_copy_nothing rfl (.tmp 31) (.tmp 32) 22 22 rfl 9 Try.underlying22 hsz1 _ _ _ _ _ _ rfl rfl rfl ?_)
  go_loopw [8] (fun i wr => i = .int .i64 0 ∧ wr = w.alloc (.cells #[] 9)) (fun _ _ => 0)
  case atStart => exact ⟨rfl, rfl⟩
  case round =>
    obtain ⟨rfl, rfl⟩ := hrel
    go_wp2_with fail
    go_ret
    exact ⟨_, HO.out, hb0, rfl⟩
theorem repeatS_any (x : ByteArray) (n g cap : Nat) (w : World) (hn : n ≤ 1000) (hc : w.cell? ⟨g, 0, none⟩ = some (.string x)) :
    Calls Try.prog 120 #[.slice (some ⟨g, 0, none⟩) 1 cap, .int .i64 n] w (GivesRepS x n w) := by
  by_cases h0 : n = 0
  · subst h0
    exact repeatS_zero g cap w
  · exact repeatS_pos x n g cap w hn (by omega) hc
end Go.Proofs.Ytplmbdljhgicfab

/-! CatS -/
namespace Go.Proofs.Ytplmbdljhgicfab
open Go.RowKit

/-- A slice of texts as a source: its length, and that its cells can be read. -/
def SrcT (w : World) (u : Value) (xs : List ByteArray) : Prop := SrcV w u (xs.map (Value.string)) ∧ ∃ oa c, u = .slice oa xs.length c
theorem SrcT.keep {w w' : World} {u : Value} {xs : List ByteArray} (h : SrcT w u xs) (hb : Below w.heap.size w w') : SrcT w' u xs := ⟨h.1.keep hb, h.2⟩
theorem SrcT.of {w : World} {u : Value} {xs : List ByteArray} (h : SrcV w u (xs.map (Value.string))) : SrcT w u xs := by
  refine ⟨h, ?_⟩
  rcases h with ⟨rfl, hx⟩ | ⟨ad, c, rfl, _⟩
  · have : xs = [] := by simpa using hx
    subst this
    exact ⟨none, 0, rfl⟩
  · exact ⟨some ad, c, by rw [List.length_map]⟩
theorem oneTs (xs : List ByteArray) : ∀ u ∈ xs.map (Value.string), u.oneCell' = true := by
  intro u hu
  obtain ⟨x, _, rfl⟩ := List.mem_map.1 hu
  rfl

set_option maxRecDepth 100000 in
set_option maxHeartbeats 2000000 in
theorem growS_nil (n : Nat) (w : World) (hn : n ≤ 100000) :
    Calls Try.prog 149 #[.slice none 0 0, .int .i64 n] w (GivesOwn [] w) := by
  obtain ⟨i0, hi, hz0, hz1, hz2⟩ := info_parts info_str
  have h1 : (0 : Int) ≤ (n : Int) := by omega
  by_cases h0 : n = 0
  · subst h0
    go_enter Try.func149, Try.ntmps149
    go_wp2_with fail
    go_ret
    exact ⟨_, OwnS.nil _ _, Below.refl _ _, rfl⟩
  · have h2 : (0 : Int) < (n : Int) := by omega
    have happ := Lib.run_append_nil_zeros (P := Try.prog) w 22 3 22 9 i0 (.string ⟨#[]⟩) .i64 .i64 Try.underlying22 Try.underlying3 hi hz0 n (by omega) (by omega) (by omega) (by rw [hz2]; omega)
    have hge := grownCap_ge w n 0 9
    have hle := grownCap_le_maxLen w n 0 9 (by unfold maxLen; omega)
    have hown : (w.drew.alloc (.cells (Builtin.zeroCells (Value.string ⟨#[]⟩).cells n ++ Builtin.zeroCells (Value.string ⟨#[]⟩).cells (grownCap w n 0 9 - n)) 9)).ownsRow w.heap.size 9 1 (.slice (some ⟨w.heap.size, 0, none⟩) 0 (grownCap w n 0 9)) 0 [] :=
      World.ownsRow_made w.drew _ _ (Nat.le_refl _) hle (by rw [Array.size_append, size_zeroCells, size_zeroCells]; show n * 1 + _ * 1 = _; omega)
    have hbel : Below w.heap.size w (w.drew.alloc (.cells (Builtin.zeroCells (Value.string ⟨#[]⟩).cells n ++ Builtin.zeroCells (Value.string ⟨#[]⟩).cells (grownCap w n 0 9 - n)) 9)) := nxAlloc ((Below.refl _ _).drew) _
    unfold maxLen at hle
    generalize grownCap w n 0 9 = gc at *
    have HO := Lib.hid hown
    clear hown
    have HA := Lib.hid happ
    clear happ h0
    go_enter Try.func149, Try.ntmps149
    go_wp2_with (at_builtin; refine Lib.wpList_append_run _ rfl _ _ _ _ rfl _ _ rfl rfl _ _ HA.out ?_)
    go_ret
    exact ⟨_, HO.out, hbel, rfl⟩

/-- Slices in a row of their own, and what can be read of them. -/
def PartsS (w : World) (g : Nat) (us : List Value) (ps : List (List ByteArray)) : Prop := g < w.heap.size ∧ us.length = ps.length ∧ ∀ i, i < ps.length → w.cell? ⟨g, i, none⟩ = some (us.getD i undef) ∧ SrcT w (us.getD i undef) (ps.getD i [])
theorem PartsS.keep {w w' : World} {g : Nat} {us : List Value} {ps : List (List ByteArray)} (h : PartsS w g us ps) (hb : Below w.heap.size w w') : PartsS w' g us ps :=
  ⟨Nat.lt_of_lt_of_le h.1 hb.size, h.2.1, fun i hi => ⟨(hb.cell (p := ⟨g, i, none⟩) h.1).trans (h.2.2 i hi).1, (h.2.2 i hi).2.keep hb⟩⟩
theorem flatS_take {ps : List (List ByteArray)} {k : Nat} (h : k < ps.length) : (ps.take (k + 1)).flatten = (ps.take k).flatten ++ ps.getD k [] := by
  rw [List.take_succ_eq_append_getElem h, List.flatten_append]
  simp [h]
def flS (ps : List (List ByteArray)) (k : Nat) : Nat := (ps.take k).flatten.length
theorem flatS_le (ps : List (List ByteArray)) (k : Nat) : (ps.take k).flatten.length ≤ ps.flatten.length := by
  have := congrArg List.flatten (List.take_append_drop k ps)
  rw [List.flatten_append] at this
  have := congrArg List.length this
  rw [List.length_append] at this; omega

set_option maxRecDepth 100000 in
set_option maxHeartbeats 4000000 in
theorem concatS_any (g n : Nat) (us : List Value) (ps : List (List ByteArray)) (w : World) (h : PartsS w g us ps) (hn : ps.length = n) (hn9 : n ≤ 100) (hf : ps.flatten.length ≤ 10000) :
    Calls Try.prog 121 #[.slice (some ⟨g, 0, none⟩) n n] w (GivesOwn ps.flatten w) := by
  obtain ⟨i0, hi, hz0, hz1, hz2⟩ := info_parts info_str
  have HP := Lib.hid h
  have HN := Lib.hid hn
  obtain ⟨F, hF⟩ : ∃ F, F = ps.flatten.length := ⟨_, rfl⟩
  rw [← hF] at hf
  have hG := fun w => growS_nil F w (by omega)
  have HF := Lib.hid hF
  clear hF
  clear h hn
  go_enter Try.func121, Try.ntmps121
  go_wp2_with fail
  go_loop [3, 11] (fun m i => ∃ k : Nat, i = .int .i64 k ∧ k ≤ n ∧ m = .int .i64 ((flS ps k : Nat) : Int)) (fun _ i => n - (intOf i).toNat)
  case atStart => exact ⟨0, rfl, Nat.zero_le _, rfl⟩
  case round =>
    obtain ⟨k, rfl, hk, rfl⟩ := hrel
    by_cases hlt : k < n
    · have hlt' : (k : Int) < (n : Int) := by omega
      obtain ⟨c1, _, oa, c, hu⟩ := HP.out.2.2 k (by rw [HN.out]; exact hlt)
      rw [hu] at c1
      have hst : flS ps (k + 1) = flS ps k + (ps.getD k []).length := by
        have h8 := congrArg List.length (flatS_take (ps := ps) (k := k) (by rw [HN.out]; exact hlt))
        rwa [List.length_append] at h8
      have hle : flS ps (k + 1) ≤ F := by rw [HF.out]; exact flatS_le ps (k + 1)
      have HS := Lib.hid hst
      have h0 : (0 : Int) ≤ (flS ps k : Int) + ((ps.getD k []).length : Int) := by omega
      have h9 : flS ps k + (ps.getD k []).length ≤ 10000 := by omega
      generalize flS ps k = a at *
      generalize (ps.getD k []).length = b at *
      clear hu hst hle
      go_wp2_with fail
      go_round
      case rel => exact ⟨k + 1, by go_num, by omega, by rw [HS.out]; go_num⟩
      case measure => simp [intOf]; omega
    · obtain rfl : k = n := by omega
      rw [show flS ps k = F by rw [HF.out]; unfold flS; rw [show ps.take k = ps by rw [← HN.out]; exact List.take_length]]
      go_wp2_with fail
      refine (hG _).mono ?_; rintro e w1 ⟨v1, own1, hb1, rfl⟩
      go_wp2_with fail
      go_loopw [6, 27] (fun u i wr => ∃ q : Nat, i = .int .i64 q ∧ q ≤ k ∧ OwnS w.heap.size wr u (ps.take q).flatten ∧ Below w.heap.size w wr) (fun _ i _ => k - (intOf i).toNat)
      case atStart => exact ⟨0, rfl, Nat.zero_le _, own1, hb1⟩
      case round =>
        obtain ⟨q, rfl, hq, hown, hbw⟩ := hrel
        by_cases hlq : q < k
        · have hlq' : (q : Int) < (k : Int) := by omega
          have hPk := (HP.out.keep hbw).2.2 q (by rw [HN.out]; exact hlq)
          obtain ⟨c1, hsv, oa, c, hu⟩ := hPk
          rw [hu] at c1 hsv
          have hst := flatS_take (ps := ps) (k := q) (by rw [HN.out]; exact hlq)
          have hle := flatS_le ps (q + 1)
          rw [hst, List.length_append, ← HF.out] at hle
          have hone := oneTs (ps.getD q [])
          have hyl : ((ps.getD q []).map (Value.string)).length = (ps.getD q []).length := List.length_map _
          have HS := Lib.hid hst
          unfold OwnS at hown
          generalize (ps.take q).flatten = xa at *
          generalize ps.getD q [] = xb at *
          clear hu hst
          go_wp2_with (at_builtin; refine wpList_appSrc rfl _ _ 22 rfl w.heap.size 9 i0 (.string ⟨#[]⟩) 16 Try.underlying22 hi hz0 hz1 hz2 rfl _ _ _ rfl hown _ _ rfl hsv hone (by unfold maxLen; omega) (by omega) hbw.size ?_; intro v9 w9 o9 b9 n9)
          have hown1 : OwnS w.heap.size w9 v9 (xa ++ xb) := by
            unfold OwnS
            rw [List.length_append, List.map_append, ← hyl]
            exact o9
          have hbw9 := hbw.trans b9
          clear o9 b9 n9 hown hbw hsv
          go_wp2_with fail
          go_roundw
          case rel => exact ⟨q + 1, by go_num, by omega, by rw [HS.out]; exact hown1, hbw9⟩
          case measure => simp [intOf]; omega
        · obtain rfl : q = k := by omega
          have hx : ps.take q = ps := by rw [← HN.out]; exact List.take_length
          rw [hx] at hown
          clear hx
          go_wp2_with fail
          go_ret
          exact ⟨_, hown, hbw, rfl⟩
end Go.Proofs.Ytplmbdljhgicfab

/-! Build -/
namespace Go.Proofs.Ytplmbdljhgicfab
open Go.RowKit

theorem info_byte : (Try.prog.info? 5).map (fun i => (i.zero, i.size, i.bytes)) = some (some (.int .u8 0), 1, 1) := by kernel_rfl
theorem info_bld : (Try.prog.info? 152).map (fun i => i.size) = some 2 := by kernel_rfl
theorem lies_bld : liesAt Try.prog Try.prog.depth 152 (2 / Try.prog.cellsOf 152) 0 152 1 = true := by kernel_rfl
theorem cells_byte : Try.prog.cellsOf 5 = 1 := by kernel_rfl

set_option maxRecDepth 100000 in
theorem copyCheck_fresh (b : Nat) (w : World) (h0 : w.cell? ⟨b, 0, none⟩ = some (.pointer none)) (hsh : w.shape? b = some (152, 2)) (hfz : w.frozen? ⟨b, 0, none⟩ = false) :
    Calls Try.prog 164 #[.pointer (some ⟨b, 0, none⟩)] w fun e w' => e = .returned (.tuple #[]) ∧ w' = w.setCell ⟨b, 0, none⟩ (.pointer (some ⟨b, 0, none⟩)) := by
  obtain ⟨j, hj, hjs⟩ := Option.map_eq_some_iff.1 info_bld
  go_enter Try.func164, Try.ntmps164
  go_wp2
  rw [Lib.run_to_unsafe w ⟨b, 0, none⟩ Try.underlying150 Try.underlying179 hj (by rw [hjs]; decide) hsh (Nat.zero_lt_succ 1)]
  simp only [Result.andThen]
  rw [Oper.upon_value]
  go_wp2
  rw [run_callFunc_extern Try.func175 (by kernel_rfl) (by kernel_rfl) (by kernel_rfl) (e := Extern.AbiNoEscape.same) (by kernel_rfl)]
  rw [Lib.run_noEscape]
  simp only [Result.andThen]
  rw [Oper.upon_value]
  go_wp2
  rw [Lib.run_from_unsafe w ⟨b, 0, none⟩ Try.underlying179 Try.underlying150 hj hsh lies_bld]
  simp only [Result.andThen]
  rw [Oper.upon_value]
  go_wp2
  go_end0
  exact ⟨rfl, rfl⟩

set_option maxRecDepth 100000 in
theorem copyCheck_used (b : Nat) (w : World) (h0 : w.cell? ⟨b, 0, none⟩ = some (.pointer (some ⟨b, 0, none⟩))) :
    Calls Try.prog 164 #[.pointer (some ⟨b, 0, none⟩)] w fun e w' => e = .returned (.tuple #[]) ∧ w' = w := by
  obtain ⟨j, hj, _⟩ := Option.map_eq_some_iff.1 info_bld
  go_enter Try.func164, Try.ntmps164
  go_wp2
  rw [Lib.run_neq_ptr_same w _ Try.underlying150 hj]
  go_wp2
  go_end0
  exact ⟨rfl, rfl⟩

/-- A builder in the block b that holds the bytes bs; its row is of blocks from B on. -/
abbrev IsBld (B b : Nat) (bs : List Value) (w : World) : Prop := Lib.IsBuilder 152 5 B b bs w

theorem copyCheck_any (B b : Nat) (bs : List Value) (w : World) (h : IsBld B b bs w) :
    Calls Try.prog 164 #[.pointer (some ⟨b, 0, none⟩)] w fun e w' => e = .returned (.tuple #[]) ∧ (Lib.BuilderAt 152 5 B b (.pointer (some ⟨b, 0, none⟩)) bs w' ∧ Below B w w') := by
  rcases h with h | h
  · refine (copyCheck_fresh b w h.cell0 h.shape h.frozen0).mono ?_
    rintro e w' ⟨rfl, rfl⟩
    exact ⟨rfl, h.used _, (Below.refl B w).setCell (p := ⟨b, 0, none⟩) h.1 _⟩
  · refine (copyCheck_used b w h.cell0).mono ?_
    rintro e w' ⟨rfl, rfl⟩
    exact ⟨rfl, h, Below.refl B _⟩

set_option maxHeartbeats 2000000 in
set_option maxRecDepth 100000 in
theorem writeByte_any (B b : Nat) (bs : List Value) (c : Int) (w : World) (h : IsBld B b bs w) (hlen : bs.length + 1 ≤ 140737488355328) (hBw : B ≤ w.heap.size) :
    Calls Try.prog 143 #[.pointer (some ⟨b, 0, none⟩), .int .u8 c] w fun e w' => e = .returned .nilIface ∧ IsBld B b (bs ++ [.int .u8 c]) w' ∧ Below B w w' := by
  obtain ⟨i0, hi, hz0, hz1, hz2⟩ := info_parts info_byte
  go_enter Try.func143, Try.ntmps143
  go_wp2_with fail
  refine (copyCheck_any B b bs _ h).mono ?_
  rintro e w1 ⟨rfl, h1, hb1⟩
  obtain ⟨hB, v, hbk, hown, hne⟩ := h1
  have c0 : w1.cell? ⟨b, 0, none⟩ = some (.pointer (some ⟨b, 0, none⟩)) := by rw [Lib.cell_of_heap hbk]; rfl
  have c1 : w1.cell? ⟨b, 1, none⟩ = some v := by rw [Lib.cell_of_heap hbk]; rfl
  go_wp2_with (at_builtin; refine wpList_append_own _ rfl _ _ 117 rfl B 5 i0 (.int .u8 0) 1 1 Try.underlying117 hi hz0 hz1 hz2 rfl (by decide) _ _ _ rfl (hown.alloc _) ⟨w1.heap.size, 0, none⟩ 1 1 [.int .u8 c] rfl rfl ?c1 ?c2 ?c3 ?c4 ?c5 ?_)
  case c1 =>
    intro j u hj
    match j, hj with
    | 0, hj => simp at hj; subst hj; simp [Addr.add]
  case c2 => intro u hu; simp at hu; subst hu; rfl
  case c3 => unfold maxLen; omega
  case c4 => omega
  case c5 => have := hb1.size; simp; omega
  intro v' w2 hown' hgrow _
  have hlt : b < w1.heap.size := lt_of_block hbk
  have hb2 : w2.heap[b]? = some (.cells #[.pointer (some ⟨b, 0, none⟩), v] 152 (0, 0)) := by
    rw [hgrow.block b (by simp; omega) (fun e => hne e.symm), Lib.alloc_old w1 _ b hlt]
    exact hbk
  have d0 : w2.cell? ⟨b, 0, none⟩ = some (.pointer (some ⟨b, 0, none⟩)) := by rw [Lib.cell_of_heap hb2]; rfl
  have d1 : w2.cell? ⟨b, 1, none⟩ = some v := by rw [Lib.cell_of_heap hb2]; rfl
  have f1 : w2.frozen? ⟨b, 1, none⟩ = false := Lib.frozen_of_heap hb2 1
  obtain ⟨g, cap, rfl⟩ : ∃ g cap, v' = .slice (some ⟨g, 0, none⟩) (bs.length + 1) cap := by
    rcases hown'.2 with ⟨_, h0⟩ | ⟨g, cap, cur, hv, _⟩
    · omega
    · exact ⟨g, cap, hv⟩
  go_wp2
  go_ret
  refine ⟨rfl, ?_, ?_⟩
  · exact .inr (Lib.BuilderAt.put (T := 152) (e := 5) hB hb2 (bs' := bs ++ [.int .u8 c]) (by simpa using hown') (by decide))
  · exact ((hb1.alloc (by have := hb1.size; omega) _).grown hgrow (by have := hb1.size; simp; omega) (fun k hk => (hown.lt k hk).1)).setCell (p := ⟨b, 1, none⟩) hB _

set_option maxHeartbeats 2000000 in
set_option maxRecDepth 100000 in
theorem writeString_any (B b : Nat) (bs : List Value) (s : ByteArray) (w : World) (h : IsBld B b bs w) (hlen : bs.length + s.size ≤ 140737488355328) (hBw : B ≤ w.heap.size) :
    Calls Try.prog 144 #[.pointer (some ⟨b, 0, none⟩), .string s] w fun e w' => e = .returned (.tuple #[.int .i64 s.size, .nilIface]) ∧ IsBld B b (bs ++ Lib.strCells s) w' ∧ Below B w w' := by
  obtain ⟨i0, hi, hz0, hz1, hz2⟩ := info_parts info_byte
  go_enter Try.func144, Try.ntmps144
  go_wp2_with fail
  refine (copyCheck_any B b bs _ h).mono ?_
  rintro e w1 ⟨rfl, h1, hb1⟩
  obtain ⟨hB, v, hbk, hown, hne⟩ := h1
  have c0 : w1.cell? ⟨b, 0, none⟩ = some (.pointer (some ⟨b, 0, none⟩)) := by rw [Lib.cell_of_heap hbk]; rfl
  have c1 : w1.cell? ⟨b, 1, none⟩ = some v := by rw [Lib.cell_of_heap hbk]; rfl
  go_wp2_with (at_builtin; refine Lib.wpList_append_own_string _ rfl _ _ 117 9 rfl B 5 i0 Try.underlying117 Try.underlying9 hi hz0 hz1 hz2 _ _ _ rfl hown s rfl ?c3 ?c4 ?c5 ?_)
  case c3 => unfold maxLen; omega
  case c4 => omega
  case c5 => have := hb1.size; omega
  intro v' w2 hown' hgrow _
  have hlt : b < w1.heap.size := lt_of_block hbk
  have hb2 : w2.heap[b]? = some (.cells #[.pointer (some ⟨b, 0, none⟩), v] 152 (0, 0)) := by
    rw [hgrow.block b hlt (fun e => hne e.symm)]
    exact hbk
  have d0 : w2.cell? ⟨b, 0, none⟩ = some (.pointer (some ⟨b, 0, none⟩)) := by rw [Lib.cell_of_heap hb2]; rfl
  have d1 : w2.cell? ⟨b, 1, none⟩ = some v := by rw [Lib.cell_of_heap hb2]; rfl
  have f1 : w2.frozen? ⟨b, 1, none⟩ = false := Lib.frozen_of_heap hb2 1
  obtain ⟨ao, n', cap, rfl⟩ : ∃ ao n' cap, v' = .slice ao n' cap := by
    rcases hown'.2 with ⟨hv, _⟩ | ⟨g, cap, cur, hv, _⟩
    · exact ⟨_, _, _, hv⟩
    · exact ⟨_, _, _, hv⟩
  go_wp2
  go_ret2
  refine ⟨rfl, ?_, ?_⟩
  · exact .inr (Lib.BuilderAt.put (T := 152) (e := 5) hB hb2 (bs' := bs ++ Lib.strCells s) (by simpa [Lib.strCells_length] using hown') (by decide))
  · exact (hb1.grown hgrow (by have := hb1.size; omega) (fun k hk => (hown.lt k hk).1)).setCell (p := ⟨b, 1, none⟩) hB _

set_option maxHeartbeats 2000000 in
set_option maxRecDepth 100000 in
theorem builderString_any (B b : Nat) (l : List UInt8) (w : World) (h : IsBld B b (Lib.byteCells l) w) (h0 : l ≠ []) :
    Calls Try.prog 145 #[.pointer (some ⟨b, 0, none⟩)] w fun e w' => e = .returned (.string ⟨l.toArray⟩) ∧ Below B w w' := by
  obtain ⟨p, hB, v, hbk, hown, hne⟩ : ∃ p, Lib.BuilderAt 152 5 B b p (Lib.byteCells l) w := by
    rcases h with h | h
    · exact ⟨_, h⟩
    · exact ⟨_, h⟩
  have hl0 : l.length ≠ 0 := by simpa using h0
  rw [Lib.byteCells_length] at hown
  obtain ⟨g, cap, cur, rfl, hbg, hg, hnc, hcm, hcs, htake⟩ : ∃ g cap cur, v = .slice (some ⟨g, 0, none⟩) l.length cap ∧ B ≤ g ∧ w.heap[g]? = some (.cells cur 5 (0, 0)) ∧ l.length ≤ cap ∧ cap ≤ maxLen ∧ cur.size = cap * 1 ∧ cur.toList.take (l.length * 1) = Lib.byteCells l := by
    rcases hown.2 with ⟨_, hz⟩ | ⟨g, cap, cur, hv, r⟩
    · exact absurd hz hl0
    · exact ⟨g, cap, cur, hv, r⟩
  have c1 : w.drew.cell? ⟨b, 1, none⟩ = some (.slice (some ⟨g, 0, none⟩) l.length cap) := by
    have : w.drew.heap[b]? = some (.cells #[p, .slice (some ⟨g, 0, none⟩) l.length cap] 152 (0, 0)) := hbk
    rw [Lib.cell_of_heap this]; rfl
  have hSD : (Builtin.unsafeSliceData_ #[117] 170 #[.slice (some ⟨g, 0, none⟩) l.length cap]).run Try.prog w.drew = .ok (.pointer (some ⟨g, 0, none⟩)) w.drew :=
    Lib.run_unsafeSliceData_row _ _ _ _ _ _ (by omega)
  have hUS : (Builtin.unsafeString_ #[170, 3] 9 #[.pointer (some ⟨g, 0, none⟩), .int .i64 l.length]).run Try.prog w.drew = .ok (.string ⟨l.toArray⟩) (w.drew.freeze ⟨g, 0, none⟩ l.length) := by
    refine Lib.run_unsafeString_row w.drew 170 3 9 5 Try.underlying170 cells_byte g cur.size (by have hg' : w.drew.heap[g]? = some (.cells cur 5 (0, 0)) := hg; simp [World.shape?, hg']) l h0 (by omega) (by unfold maxLen at hcm; omega) ?_
    intro j x hx
    have := hown.cells (g := g) rfl j (.int .u8 x.toNat) (by simp [Lib.byteCells, hx])
    exact this
  clear hown hg htake hbk
  go_enter Try.func145, Try.ntmps145
  go_wp2
  go_region
  all_goals (go_wp2; go_ret; exact ⟨rfl, Lib.below_freeze (Below.drew (Below.refl B w)) (p := ⟨g, 0, none⟩) hbg _⟩)
end Go.Proofs.Ytplmbdljhgicfab

/-! Fill -/
namespace Go.Proofs.Ytplmbdljhgicfab
open Go.RowKit

/-- The texts of what a greater tree has at the leaves of a part of it. -/
def subsS (a g : Tr) : List ByteArray := (a.subs g).map Tr.str
theorem subsS_length (a g : Tr) (h : a.part g = true) : (subsS a g).length = a.leaves := by
  unfold subsS; rw [List.length_map]; exact (below_carets a g h).2

set_option maxRecDepth 100000 in
set_option maxHeartbeats 2000000 in
theorem prParts_any (t : Tr) : ∀ (u : Tr) (w : World), t.part u = true → u.carets ≤ 60 →
    Calls Try.prog 41 #[.string t.str, .string u.str] w (GivesTexts (subsS t u) w) := by
  obtain ⟨i0, hi, hz0, hz1, hz2⟩ := info_parts info_str
  induction t with
  | lf =>
    intro u w hp hu
    go_enter Try.func41, Try.ntmps41
    go_wp2_with fail
    refine (trLeaf_any .lf _).mono ?_; rintro e w1 ⟨rfl, rfl⟩
    simp only [Tr.isLf]
    go_wp2_with fail
    go_ret
    exact ⟨_, 1, OwnS.one _ _, nxAlloc (Below.refl _ _) _, rfl⟩
  | nd l r ihl ihr =>
    intro u w hp hu
    cases u with
    | lf => simp [Tr.part] at hp
    | nd p q =>
      simp only [Tr.part, Bool.and_eq_true] at hp
      obtain ⟨hp1, hp2⟩ := hp
      have hu' : p.carets + q.carets + 1 ≤ 60 := hu
      have ht1 := (below_carets l p hp1).1
      have ht2 := (below_carets r q hp2).1
      have ll := subsS_length l p hp1
      have lr := subsS_length r q hp2
      obtain ⟨A, hA⟩ : ∃ A, A = subsS l p := ⟨_, rfl⟩
      obtain ⟨B, hB⟩ : ∃ B, B = subsS r q := ⟨_, rfl⟩
      have hC : subsS (.nd l r) (.nd p q) = A ++ B := by rw [hA, hB]; simp [subsS, Tr.subs]
      have jl := fun w => ihl p w hp1 (by omega)
      have jr := fun w => ihr q w hp2 (by omega)
      rw [← hA] at ll jl
      rw [← hB] at lr jr
      rw [hC]
      have hAn : A.length ≤ 61 := by rw [ll]; unfold Tr.leaves; omega
      have hBn : B.length ≤ 61 := by rw [lr]; unfold Tr.leaves; omega
      have hBp : 0 < B.length := by rw [lr]; exact leaves_pos r
      have hAp : 0 < A.length := by rw [ll]; exact leaves_pos l
      clear ihl ihr hA hB hC ll lr hp1 hp2
      go_enter Try.func41, Try.ntmps41
      go_wp2_with fail
      refine (trLeaf_any (.nd l r) _).mono ?_; rintro e w1 ⟨rfl, rfl⟩
      simp only [Tr.isLf]
      go_wp2_with fail
      refine (trSides_any l r _ (by omega)).mono ?_; rintro e w1 ⟨rfl, hb1⟩
      go_wp2_with fail
      refine (trSides_any p q _ (by omega)).mono ?_; rintro e w1' ⟨rfl, hb1'⟩
      replace hb1 := nx hb1 hb1'
      clear hb1'
      go_wp2_with fail
      refine (jl _).mono ?_; rintro e w2 ⟨g1, cap1, own1, hb2, rfl⟩
      go_wp2_with fail
      refine (jr _).mono ?_; rintro e w3 ⟨g2, cap2, own2, hb3, rfl⟩
      have hown := (own1.keep hb3).mono hb1.size
      have hbw : Below w.heap.size w w3 := nx (nx hb1 hb2) hb3
      go_wp2_with (at_builtin; refine wpList_append_own _ rfl _ _ 22 rfl w.heap.size 9 i0 (.string ⟨#[]⟩) 1 16 Try.underlying22 hi hz0 hz1 hz2 rfl (by decide) _ _ _ rfl hown ⟨g2, 0, none⟩ B.length cap2 (B.map Value.string) rfl (by simp) (own2.news rfl) (oneS _) (by unfold maxLen; omega) (by omega) hbw.size ?_; intro v' w4 hown' hgrow hnn)
      have hbw' := below_app0 hbw hown (Nat.le_refl _) hgrow
      have hown1 := OwnS.app hown'
      obtain ⟨g, cap, hv⟩ := hown1.shape (by simp; omega)
      have HV := Lib.hid hv
      clear hown hown' hgrow hv hnn
      go_wp2_with fail
      go_ret
      exact ⟨g, cap, by rw [← HV.out]; exact hown1, hbw', by rw [← HV.out]; rfl⟩

set_option maxRecDepth 100000 in
set_option maxHeartbeats 4000000 in
theorem below_any (t : Tr) : ∀ (u : Tr) (b c : Nat) (w : World), NodeAt w t b → NodeAt w u c → t.part u = true → u.carets ≤ 60 →
    Calls Try.prog 46 #[.pointer (some ⟨b, 0, none⟩), .pointer (some ⟨c, 0, none⟩)] w (GivesTexts (subsS t u) w) := by
  obtain ⟨i0, hi, hz0, hz1, hz2⟩ := info_parts info_str
  induction t with
  | lf =>
    intro u b c w h k hp hu
    have H := Lib.hid h
    have K := Lib.hid k
    clear h k
    go_enter Try.func46, Try.ntmps46
    go_wp2_with fail
    refine (isLeaf_any .lf b _ H.out).mono ?_; rintro e w1 ⟨rfl, rfl⟩
    simp only [Tr.isLf]
    go_wp2_with fail
    refine (text_any u c _ K.out (by omega)).mono ?_; rintro e w1 ⟨rfl, d, hw1⟩
    have hb1 : Below w.heap.size w w1 := by rw [hw1]; exact drewB (Below.refl _ _) _
    clear hw1
    go_wp2_with fail
    go_ret
    exact ⟨_, 1, (OwnS.one _ _).mono hb1.size, nxAlloc hb1 _, rfl⟩
  | nd l r ihl ihr =>
    intro u b c w h k hp hu
    cases u with
    | lf => simp [Tr.part] at hp
    | nd p q =>
      simp only [Tr.part, Bool.and_eq_true] at hp
      obtain ⟨hp1, hp2⟩ := hp
      have hu' : p.carets + q.carets + 1 ≤ 60 := hu
      have ht1 := (below_carets l p hp1).1
      have ht2 := (below_carets r q hp2).1
      have ll := subsS_length l p hp1
      have lr := subsS_length r q hp2
      obtain ⟨A, hA⟩ : ∃ A, A = subsS l p := ⟨_, rfl⟩
      obtain ⟨B, hB⟩ : ∃ B, B = subsS r q := ⟨_, rfl⟩
      have hC : subsS (.nd l r) (.nd p q) = A ++ B := by rw [hA, hB]; simp [subsS, Tr.subs]
      have jl := fun b c w h k => ihl p b c w h k hp1 (by omega)
      have jr := fun b c w h k => ihr q b c w h k hp2 (by omega)
      rw [← hA] at ll jl
      rw [← hB] at lr jr
      rw [hC]
      have hAn : A.length ≤ 61 := by rw [ll]; unfold Tr.leaves; omega
      have hBn : B.length ≤ 61 := by rw [lr]; unfold Tr.leaves; omega
      have hBp : 0 < B.length := by rw [lr]; exact leaves_pos r
      have hAp : 0 < A.length := by rw [ll]; exact leaves_pos l
      have H := Lib.hid h
      obtain ⟨bl, br, h, hl, hr⟩ := h
      obtain ⟨cl, cr, k, kl, kr⟩ := k
      have h1 := two_left h
      have h2 := two_right h
      have k1 := two_left k
      have k2 := two_right k
      have hb0 := Below.refl w.heap.size w
      clear h k ihl ihr hA hB hC ll lr hp1 hp2
      go_enter Try.func46, Try.ntmps46
      go_wp2_with fail
      refine (isLeaf_any (.nd l r) b _ H.out).mono ?_; rintro e w1 ⟨rfl, rfl⟩
      simp only [Tr.isLf]
      go_wp2_with fail
      go_region_held3 (fun w' => w'.cell? ⟨b, 0, none⟩ = some (.pointer (some ⟨bl, 0, none⟩)) ∧ w'.cell? ⟨b, 1, none⟩ = some (.pointer (some ⟨br, 0, none⟩)) ∧ w'.cell? ⟨c, 0, none⟩ = some (.pointer (some ⟨cl, 0, none⟩)) ∧ w'.cell? ⟨c, 1, none⟩ = some (.pointer (some ⟨cr, 0, none⟩)))
        (first
          | exact ⟨h1, h2, k1, k2⟩
          | exact ⟨q1, q2, q3, q4⟩
          | exact ⟨s1, s2, s3, s4⟩
          | exact ⟨r1, r2, r3, r4⟩)
        (first
          | (go_at_call_of 46 (some (⟨bl, 0, none⟩ : Addr)); refine (jl bl cl _ ?_ ?_).mono ?_; exact hl.keep hb0.drew; exact kl.keep hb0.drew; rintro e w1 ⟨g1, cap1, own1, hb1, rfl⟩; have hb1' := nx hb0.drew hb1; obtain ⟨q1, q2⟩ := below_two hb1' h1 h2; obtain ⟨q3, q4⟩ := below_two hb1' k1 k2)
          | (go_at_call_of 46 (some (⟨br, 0, none⟩ : Addr)); refine (jr br cr _ ?_ ?_).mono ?_; exact hr.keep hb1'; exact kr.keep hb1'; rintro e w2 ⟨g2, cap2, own2, hb2, rfl⟩; have hb2' := nx hb1' hb2; obtain ⟨s1, s2⟩ := below_two hb2' h1 h2; obtain ⟨s3, s4⟩ := below_two hb2' k1 k2; have hown := (own1.keep hb2).mono hb0.drew.size)
          | (refine step_append_lies _ (by rfl) _ _ _ (by rfl) w.heap.size 9 i0 _ 1 16 Try.underlying22 hi hz0 hz1 hz2 rfl (by omega) (.slice (some ⟨g1, 0, none⟩) A.length cap1) A.length (A.map Value.string) (by rfl) hown ⟨g2, 0, none⟩ B.length cap2 (B.map Value.string) (by rfl) (by simp) (own2.news rfl) (oneS _) hBp (by unfold maxLen; omega) (by omega) hb2'.size w2.heap.size (by rfl) ?_; intro gg cap w3 hown1 hgrow hat hlt; have hb3 := below_app0 hb2' hown (Nat.le_refl _) hgrow; obtain ⟨r1, r2⟩ := below_two hb3 h1 h2; obtain ⟨r3, r4⟩ := below_two hb3 k1 k2))
      go_wp2_with fail
      go_ret
      exact ⟨gg, cap, by rw [List.length_append]; exact OwnS.app hown1, hb3, by rw [List.length_append]; rfl⟩

/-! Texts in place of leaves. -/
theorem CellsS.form {b1 : Nat} {w : World} {v : Value} {xs : List ByteArray} (h : CellsS b1 w v xs) :
    ∃ oa cap, v = .slice oa xs.length cap ∧ xs.length ≤ cap ∧ cap ≤ maxLen ∧ ∀ i, i < xs.length → ∃ g, oa = some ⟨g, 0, none⟩ ∧ b1 ≤ g ∧ g < w.heap.size ∧ w.cell? ⟨g, i, none⟩ = some (.string (xs.getD i ⟨#[]⟩)) := by
  rcases h with ⟨rfl, rfl⟩ | ⟨g, cap, rfl, h1, h2, h3, h4, h5, _⟩
  · exact ⟨none, 0, rfl, Nat.le_refl _, Nat.zero_le _, fun i hi => by simp at hi⟩
  · exact ⟨some ⟨g, 0, none⟩, cap, rfl, h3, h4, fun i hi => ⟨g, rfl, h1, h2, h5 i hi⟩⟩

theorem fillL_length : ∀ (l : List UInt8) (us : List ByteArray), (fillL l us).length ≤ l.length + (us.map ByteArray.size).sum := by
  intro l
  induction l with
  | nil => intro us; simp [fillL]
  | cons c r ih =>
    intro us
    rw [fillL]
    split
    · cases us with
      | nil => have := ih []; simp at *; omega
      | cons u us =>
        have := ih us
        have hu : u.data.toList.length = u.size := (Lib.size_eq u).symm
        simp at *; omega
    · have := ih us; simp at *; omega
theorem fillL_ne {l : List UInt8} {us : List ByteArray} (h : ∃ c r, l = c :: r ∧ c ≠ 46) : fillL l us ≠ [] := by
  obtain ⟨c, r, rfl, hc⟩ := h
  rw [fillL, if_neg hc]; simp
end Go.Proofs.Ytplmbdljhgicfab

/-! Leaf -/
namespace Go.Proofs.Ytplmbdljhgicfab
open Go.RowKit

theorem posFrom_dot {s : ByteArray} {k : Nat} {off : Nat} {n : Int} (h : k < s.size) (hb : (((s[k]'h).toNat : Int) == 46) = true) :
    posFrom (s.data.toList.drop k) off n = if n = 0 then (off : Int) else posFrom (s.data.toList.drop (k + 1)) (off + 1) (n - 1) := by
  obtain ⟨c, r, hd, hc, hr⟩ := drop_of_byteAt h
  have h1 : byteAt s k = (s[k]'h).toNat := byteAt_eq s k h
  have : c = 46 := u8_eq (n := 46) (by omega) (by rw [← hc, h1]; simpa using hb)
  rw [hd, posFrom, if_pos this, hr]
theorem posFrom_other {s : ByteArray} {k : Nat} {off : Nat} {n : Int} (h : k < s.size) (hb : (((s[k]'h).toNat : Int) == 46) = false) :
    posFrom (s.data.toList.drop k) off n = posFrom (s.data.toList.drop (k + 1)) (off + 1) n := by
  obtain ⟨c, r, hd, hc, hr⟩ := drop_of_byteAt h
  have h1 : byteAt s k = (s[k]'h).toNat := byteAt_eq s k h
  have : ¬ c = 46 := fun e => by
    have : (((s[k]'h).toNat : Int)) = 46 := by rw [← h1, hc, e]; rfl
    simp [this] at hb
  rw [hd, posFrom, if_neg this, hr]
theorem posFrom_end {s : ByteArray} {off : Nat} {n : Int} : posFrom (s.data.toList.drop s.size) off n = -1 := by
  rw [List.drop_of_length_le (by rw [Lib.size_eq]; exact Nat.le_refl _)]; rfl

set_option maxRecDepth 100000 in
set_option maxHeartbeats 1000000 in
theorem leafPlace_any (s : ByteArray) (n : Int) (w : World) (hs : s.size ≤ 9223372036854775806) (hn : 0 ≤ n) (hn' : n ≤ 9223372036854775807) :
    Calls Try.prog 162 #[.string s, .int .i64 n] w (Quietly (.int .i64 (posFrom s.data.toList 0 n)) w) := by
  go_enter Try.func162, Try.ntmps162
  go_wp2_with fail
  go_loopw [1, 8] (fun v i wr => ∃ (k : Nat) (m : Int) (d : Nat), k ≤ s.size ∧ i = .int .i64 k ∧ v = .int .i64 m ∧ 0 ≤ m ∧ m ≤ 9223372036854775807 ∧ wr = w.drewN d ∧ Hid (posFrom s.data.toList 0 n = posFrom (s.data.toList.drop k) k m)) (fun _ i _ => s.size - (intOf i).toNat)
  case atStart => exact ⟨0, n, 0, Nat.zero_le _, rfl, rfl, hn, hn', rfl, rfl⟩
  case round =>
    obtain ⟨k, m, d, hk, rfl, rfl, hm, hm', rfl, he⟩ := hrel
    by_cases hlt : k < s.size
    · cases h46 : (((s[k]'hlt).toNat : Int) == 46) with
      | true =>
        have h46' : Hid ((((s[k]'hlt).toNat : Int) != 46) = false) := by show (_ != _) = false; rw [bne, h46]; rfl
        have hp := posFrom_dot (off := k) (n := m) hlt h46
        have HP := Lib.hid hp
        clear hp h46
        by_cases hm0 : m = 0
        · have g0 : (m == 0) = true := by simp [hm0]
          have HM := Lib.hid hm0
          clear hm0
          go_wp2_with fail
          have g := h46'.out
          have gz : ((⟨#[46]⟩ : ByteArray)[0]'(by decide)).toNat = 46 := rfl
          go_quiet (fail)
          go_wp2_with fail
          go_ret
          exact ⟨ret_int (by rw [he.out, HP.out, if_pos HM.out]), _, rfl⟩
        · have g0 : (m == 0) = false := by simp [hm0]
          have hm1 : 1 ≤ m := by omega
          have HM := Lib.hid hm0
          clear hm0
          go_wp2_with fail
          have g := h46'.out
          have gz : ((⟨#[46]⟩ : ByteArray)[0]'(by decide)).toNat = 46 := rfl
          go_quiet (fail)
          go_wp2_with fail
          clear g gz
          go_roundw
          case rel => exact ⟨k + 1, m - 1, _, by omega, by go_num, rfl, by omega, by omega, rfl, by show _ = _; rw [he.out, HP.out, if_neg HM.out]⟩
          case measure => simp [intOf]; omega
      | false =>
        have h46' : Hid ((((s[k]'hlt).toNat : Int) != 46) = true) := by show (_ != _) = true; rw [bne, h46]; rfl
        have hp := posFrom_other (off := k) (n := m) hlt h46
        have HP := Lib.hid hp
        clear hp h46
        go_wp2_with fail
        have g := h46'.out
        have gz : ((⟨#[46]⟩ : ByteArray)[0]'(by decide)).toNat = 46 := rfl
        go_quiet (fail)
        go_wp2_with fail
        clear g gz
        go_roundw
        case rel => exact ⟨k + 1, m, _, by omega, by go_num, rfl, by omega, by omega, rfl, by show _ = _; rw [he.out, HP.out]⟩
        case measure => simp [intOf]; omega
    · obtain rfl : k = s.size := by omega
      go_wp2_with fail
      go_ret
      exact ⟨ret_int (by rw [he.out, posFrom_end]), _, rfl⟩

end Go.Proofs.Ytplmbdljhgicfab

/-! Fill2 -/
namespace Go.Proofs.Ytplmbdljhgicfab
open Go.RowKit

def fillB (s : ByteArray) (us : List ByteArray) : ByteArray := ⟨(fillL s.data.toList us).toArray⟩

theorem byteCells_app (x y : List UInt8) : Lib.byteCells x ++ Lib.byteCells y = Lib.byteCells (x ++ y) := by simp [Lib.byteCells]
theorem IsBld.drewN {B b : Nat} {bs : List Value} {w : World} (h : IsBld B b bs w) (n : Nat) : IsBld B b bs (w.drewN n) := h

theorem fillB_tr (t : Tr) (us : List Tr) (h : us.length = t.leaves) : fillB t.str (us.map Tr.str) = (t.fill us).str := by
  unfold fillB
  rw [Tr.str_list, fill_text t us h]
  rfl

/-- One byte of a text, and what is filled in. -/
theorem fill_dot {s : ByteArray} {us : List ByteArray} {i k : Nat} (hi : i < s.size) (hk : k < us.length) (h : byteAt s i = 46) :
    fillL (s.data.toList.drop i) (us.drop k) = (us.getD k ⟨#[]⟩).data.toList ++ fillL (s.data.toList.drop (i + 1)) (us.drop (k + 1)) := by
  obtain ⟨c, r, hd, hc, hr⟩ := drop_of_byteAt hi
  have : c = 46 := u8_eq (n := 46) (by omega) (by rw [← hc, h]; rfl)
  subst this
  rw [hd, fillL, if_pos rfl, hr, List.drop_eq_getElem_cons hk]
  simp [hk]
theorem fill_other {s : ByteArray} {us : List ByteArray} {i k : Nat} (hi : i < s.size) (h : ¬ byteAt s i = 46) :
    fillL (s.data.toList.drop i) (us.drop k) = (s.extract i (i + 1)).data.toList ++ fillL (s.data.toList.drop (i + 1)) (us.drop k) ∧ ∃ c : UInt8, (s[i]'hi) = c ∧ fillL (s.data.toList.drop i) (us.drop k) = c :: fillL (s.data.toList.drop (i + 1)) (us.drop k) := by
  obtain ⟨c, r, hd, hc, hr⟩ := drop_of_byteAt hi
  have hne : ¬ c = 46 := fun e => h (by rw [hc, e]; rfl)
  have hx : s[i]'hi = c := by
    have h1 := byteAt_eq s i (by simpa using hi)
    rw [hc] at h1
    have : (s[i]'hi).toNat = c.toNat := by
      have h2 : ((c.toNat : Nat) : Int) = ((s[i]'hi).toNat : Int) := h1
      omega
    exact UInt8.toNat_inj.1 this
  have hf : fillL (s.data.toList.drop i) (us.drop k) = c :: fillL (s.data.toList.drop (i + 1)) (us.drop k) := by
    rw [hd, fillL, if_neg hne, hr]
  refine ⟨?_, c, hx, hf⟩
  rw [hf, Lib.extract_data, hd]
  have : i + 1 - i = 1 := by omega
  rw [this]
  simp

/-- The leaves that are left. -/
theorem dots_drop {s : ByteArray} {i : Nat} (hi : i < s.size) : (s.data.toList.drop i).count 46 = (if byteAt s i = 46 then 1 else 0) + (s.data.toList.drop (i + 1)).count 46 := by
  obtain ⟨c, r, hd, hc, hr⟩ := drop_of_byteAt hi
  rw [hd, List.count_cons, hr, hc]
  by_cases h : c = 46
  · subst h; simp; omega
  · have : ¬ ((c.toNat : Int) = 46) := fun e => h (u8_eq (n := 46) (by omega) e)
    rw [if_neg this]
    simp [h]

set_option maxRecDepth 100000 in
set_option maxHeartbeats 2000000 in
theorem prFill_any (b1 : Nat) (s : ByteArray) (v : Value) (us : List ByteArray) (w : World) (hs : s.size ≤ 1000) (hv : CellsS b1 w v us) (hd : s.data.toList.count 46 ≤ us.length) (_hu : us.length ≤ 1000) (hl : (fillL s.data.toList us).length ≤ 1000000) :
    Calls Try.prog 103 #[.string s, v] w (Gives (.string (fillB s us)) w) := by
  obtain ⟨oa, cap, rfl, h1, h2, hc⟩ := hv.form
  unfold maxLen at h2
  clear hv
  obtain ⟨F, hF⟩ : ∃ F, F = fillL s.data.toList us := ⟨_, rfl⟩
  have hB : fillB s us = ⟨F.toArray⟩ := by rw [hF]; rfl
  rw [← hF] at hl
  rw [hB]
  have HF := Lib.hid hF
  clear hF hB
  go_enter Try.func103, Try.ntmps103
  go_wp2_with fail
  go_loopw [5, 6, 7] (fun o k i wr => ∃ (x : ByteArray) (a j : Nat), o = .string x ∧ k = .int .i64 a ∧ i = .int .i64 j ∧ j ≤ s.size ∧ a ≤ us.length ∧ Below w.heap.size w wr ∧ x.size ≤ 1000000 ∧ (s.data.toList.drop j).count 46 + a ≤ us.length ∧ Hid (F = x.data.toList ++ fillL (s.data.toList.drop j) (us.drop a))) (fun _ _ i _ => s.size - (intOf i).toNat)
  case atStart => exact ⟨⟨#[]⟩, 0, 0, rfl, rfl, rfl, Nat.zero_le _, Nat.zero_le _, Below.refl _ _, Nat.zero_le _, by simpa using hd, by show _ = _; rw [HF.out]; simp⟩
  case round =>
    obtain ⟨x, a, j, rfl, rfl, rfl, hj, ha, hbw, hx, hcnt, he⟩ := hrel
    by_cases hlt : j < s.size
    · have hcc := dots_drop hlt
      have hbj := byteAt_eq s j (by simpa using hlt)
      have hlt' : (j : Int) < (s.size : Int) := by omega
      by_cases h46 : byteAt s j = 46
      · rw [if_pos h46] at hcc
        have hka : a < us.length := by omega
        have hfd := fill_dot hlt hka h46
        have h46' : (((s[j]'hlt).toNat : Int) == 46) = true := by
          rw [beq_iff_eq, ← h46, hbj]; rfl
        obtain ⟨g, rfl, _, hg, c1⟩ := hc a hka
        have c1' := (hbw.cell (p := ⟨g, a, none⟩) hg).trans c1
        have he' : F = (x ++ us.getD a ⟨#[]⟩).data.toList ++ fillL (s.data.toList.drop (j + 1)) (us.drop (a + 1)) := by
          rw [he.out, hfd]; simp
        have hz : (x ++ us.getD a ⟨#[]⟩).size ≤ 1000000 := by
          rw [Lib.size_eq]
          have := congrArg List.length he'
          rw [List.length_append] at this
          omega
        rw [ByteArray.size_append] at hz
        generalize us.getD a ⟨#[]⟩ = u at *
        have HE := Lib.hid he'
        clear hfd he' he c1 hbj h46
        go_wp2_with fail
        go_roundw
        case rel => exact ⟨x ++ u, a + 1, j + 1, rfl, by go_num, by go_num, by omega, by omega, hbw, by rw [ByteArray.size_append]; exact hz, by omega, HE⟩
        case measure => simp [intOf]; omega
      · rw [if_neg h46] at hcc
        have hfd := (fill_other (us := us) (k := a) hlt h46).1
        have h46' : (((s[j]'hlt).toNat : Int) == 46) = false := by
          rw [beq_eq_false_iff_ne]; intro e; apply h46; rw [hbj]; exact e
        have he' : F = (x ++ s.extract j (j + 1)).data.toList ++ fillL (s.data.toList.drop (j + 1)) (us.drop a) := by
          rw [he.out, hfd]; simp
        have hz : (x ++ s.extract j (j + 1)).size ≤ 1000000 := by
          rw [Lib.size_eq]
          have := congrArg List.length he'
          rw [List.length_append] at this
          omega
        have hz' : x.size + (s.extract j (j + 1)).size ≤ 1000000 := by rw [ByteArray.size_append] at hz; exact hz
        have HE := Lib.hid he'
        clear hfd he' he hbj h46
        go_wp2_with fail
        go_roundw
        case rel => exact ⟨x ++ s.extract j (j + 1), a, j + 1, rfl, rfl, by go_num, by omega, by omega, hbw, hz, by omega, HE⟩
        case measure => simp [intOf]; omega
    · obtain rfl : j = s.size := by omega
      have hend : F = x.data.toList := by
        rw [he.out, List.drop_of_length_le (by rw [Lib.size_eq]; exact Nat.le_refl _)]
        simp [fillL]
      have HE := Lib.hid hend
      clear hend he
      go_wp2_with fail
      go_ret
      exact ⟨ret_str (by rw [HE.out]), hbw⟩

set_option maxRecDepth 100000 in
set_option maxHeartbeats 2000000 in
theorem withLeaves_any (b1 : Nat) (s : ByteArray) (v : Value) (us : List ByteArray) (w : World) (hs : s.size ≤ 1000) (hv : CellsS b1 w v us) (hd : s.data.toList.count 46 ≤ us.length) (_hu : us.length ≤ 1000) (hl : (fillL s.data.toList us).length ≤ 1000000) (hne : fillL s.data.toList us ≠ []) :
    Calls Try.prog 113 #[.string s, v] w (Gives (.string (fillB s us)) w) := by
  obtain ⟨oa, cap, rfl, h1, h2, hc⟩ := hv.form
  unfold maxLen at h2
  clear hv
  obtain ⟨F, hF⟩ : ∃ F, F = fillL s.data.toList us := ⟨_, rfl⟩
  have hB : fillB s us = ⟨F.toArray⟩ := by rw [hF]; rfl
  rw [← hF] at hl hne
  rw [hB]
  have HF := Lib.hid hF
  clear hF hB
  go_enter Try.func113, Try.ntmps113
  go_wp2_with fail
  go_loopw [6, 10] (fun k i wr => ∃ (x : List UInt8) (a j : Nat), k = .int .i64 a ∧ i = .int .i64 j ∧ j ≤ s.size ∧ a ≤ us.length ∧ Below w.heap.size w wr ∧ w.heap.size < wr.heap.size ∧ x.length ≤ 1000000 ∧ IsBld w.heap.size w.heap.size (Lib.byteCells x) wr ∧ (s.data.toList.drop j).count 46 + a ≤ us.length ∧ Hid (F = x ++ fillL (s.data.toList.drop j) (us.drop a))) (fun _ i _ => s.size - (intOf i).toNat)
  case atStart => exact ⟨[], 0, 0, rfl, rfl, Nat.zero_le _, Nat.zero_le _, nxAlloc (Below.refl _ _) _, by simp, Nat.zero_le _, Lib.fresh_isBuilder _ _ _, by simpa using hd, by show _ = _; rw [HF.out]; simp⟩
  case round =>
    obtain ⟨x, a, j, rfl, rfl, hj, ha, hbw, hlw, hx, hbld, hcnt, he⟩ := hrel
    by_cases hlt : j < s.size
    · have hcc := dots_drop hlt
      have hbj := byteAt_eq s j (by simpa using hlt)
      have hlt' : (j : Int) < (s.size : Int) := by omega
      by_cases h46 : byteAt s j = 46
      · rw [if_pos h46] at hcc
        have hka : a < us.length := by omega
        have hfd := fill_dot hlt hka h46
        have h46' : (((s[j]'hlt).toNat : Int) != 46) = false := by
          rw [bne_eq_false_iff_eq, ← h46, hbj]; rfl
        obtain ⟨g, rfl, _, hg, c1⟩ := hc a hka
        have c1' := (hbw.cell (p := ⟨g, a, none⟩) hg).trans c1
        have he' : F = (x ++ (us.getD a ⟨#[]⟩).data.toList) ++ fillL (s.data.toList.drop (j + 1)) (us.drop (a + 1)) := by
          rw [he.out, hfd]; simp
        have hz : (x ++ (us.getD a ⟨#[]⟩).data.toList).length ≤ 1000000 := by
          have := congrArg List.length he'
          rw [List.length_append] at this
          omega
        have hz2 : x.length + (us.getD a ⟨#[]⟩).size ≤ 1000000 := by rw [List.length_append, ← Lib.size_eq] at hz; exact hz
        generalize us.getD a ⟨#[]⟩ = u at *
        have HE := Lib.hid he'
        clear hfd he' he c1 hbj h46
        have gz : ((⟨#[46]⟩ : ByteArray)[0]'(by decide)).toNat = 46 := rfl
        go_wp2_with fail
        go_quiet (fail)
        clear gz h46'
        have hbw2 : Below w.heap.size w (wr.drewN nq) := drewB hbw nq
        have hlw2 : w.heap.size < (wr.drewN nq).heap.size := hlw
        have hbld2 := hbld.drewN nq
        have c2 : (wr.drewN nq).cell? ⟨g, a, none⟩ = some (.string u) := c1'
        generalize wr.drewN nq = w2 at *
        clear hbw hlw hbld c1'
        go_wp2_with fail
        refine (writeString_any w.heap.size w.heap.size _ u _ hbld2 (by rw [Lib.byteCells_length]; omega) (Nat.le_of_lt hlw2)).mono ?_; rintro e w3 ⟨rfl, hbld3, hb3⟩
        rw [Lib.strCells_eq, byteCells_app] at hbld3
        have hbw3 := hbw2.trans hb3
        have hlw3 : w.heap.size < w3.heap.size := Nat.lt_of_lt_of_le hlw2 hb3.size
        clear c2 hbld2 hb3 hbw2 hlw2
        go_wp2_with fail
        go_roundw
        case rel => exact ⟨x ++ u.data.toList, a + 1, j + 1, by go_num, by go_num, by omega, by omega, hbw3, hlw3, hz, hbld3, by omega, HE⟩
        case measure => simp [intOf]; omega
      · rw [if_neg h46] at hcc
        obtain ⟨c, hsc, hfd⟩ := (fill_other (us := us) (k := a) hlt h46).2
        have h46' : (((s[j]'hlt).toNat : Int) != 46) = true := by
          rw [bne_iff_ne]; intro e; apply h46; rw [hbj]; exact e
        have he' : F = (x ++ [c]) ++ fillL (s.data.toList.drop (j + 1)) (us.drop a) := by
          rw [he.out, hfd]; simp
        have hz : (x ++ [c]).length ≤ 1000000 := by
          have := congrArg List.length he'
          rw [List.length_append] at this
          omega
        have hz2 : x.length + 1 ≤ 1000000 := by rw [List.length_append] at hz; exact hz
        have HE := Lib.hid he'
        have hsc' : Hid (((s[j]'hlt).toNat : Int) = (c.toNat : Int)) := by show _ = _; rw [hsc]
        clear hfd he' he hbj h46 hsc
        have gz : ((⟨#[46]⟩ : ByteArray)[0]'(by decide)).toNat = 46 := rfl
        go_wp2_with fail
        go_quiet (fail)
        clear gz h46'
        have hbw2 : Below w.heap.size w (wr.drewN nq) := drewB hbw nq
        have hlw2 : w.heap.size < (wr.drewN nq).heap.size := hlw
        have hbld2 := hbld.drewN nq
        generalize wr.drewN nq = w2 at *
        clear hbw hlw hbld
        go_wp2_with fail
        refine (writeByte_any w.heap.size w.heap.size _ _ _ hbld2 (by rw [Lib.byteCells_length]; omega) (Nat.le_of_lt hlw2)).mono ?_; rintro e w3 ⟨rfl, hbld3, hb3⟩
        rw [hsc'.out, show Lib.byteCells x ++ [Value.int .u8 (c.toNat : Int)] = Lib.byteCells (x ++ [c]) by rw [← byteCells_app]; rfl] at hbld3
        have hbw3 := hbw2.trans hb3
        have hlw3 : w.heap.size < w3.heap.size := Nat.lt_of_lt_of_le hlw2 hb3.size
        clear hbld2 hb3 hbw2 hlw2
        go_wp2_with fail
        go_roundw
        case rel => exact ⟨x ++ [c], a, j + 1, rfl, by go_num, by omega, by omega, hbw3, hlw3, hz, hbld3, by omega, HE⟩
        case measure => simp [intOf]; omega
    · obtain rfl : j = s.size := by omega
      have hend : F = x := by
        rw [he.out, List.drop_of_length_le (by rw [Lib.size_eq]; exact Nat.le_refl _)]
        simp [fillL]
      have HE := Lib.hid hend
      clear hend he
      go_wp2_with fail
      refine (builderString_any _ _ x _ hbld (by rw [← HE.out]; exact hne)).mono ?_; rintro e w1 ⟨rfl, hb1⟩
      go_wp2_with fail
      go_ret
      exact ⟨ret_str (by rw [HE.out]), hbw.trans hb1⟩
end Go.Proofs.Ytplmbdljhgicfab

/-! HeldW -/
namespace Go.Proofs.Ytplmbdljhgicfab
open Go.RowKit

section
variable {P : Program} {ops : Array Oper} {Q : Exit → Act → World → Prop} {md : Region.Mode}

theorem held_mono {S S' : World → Prop} (hSS : ∀ w, S' w → S w) : ∀ (fuel : Nat) (listed : Array Bool) (a : Act) (w : World),
    wpAnyH P md ops Q S' fuel listed a w → wpAnyH P md ops Q S fuel listed a w
  | 0, _, _, _, h => h
  | fuel + 1, _, _, _, h => ⟨h.1, fun i hi => wpOp_mono (fun a' w' h' => ⟨hSS _ h'.1, held_mono hSS fuel _ a' w' h'.2⟩) (h.2 i hi)⟩

/-- One operation alone may come up; behind it the condition may be another one. -/
theorem held_one {S : World → Prop} {fuel : Nat} {listed : Array Bool} {a : Act} {w : World} (i : Nat) {o : Oper} (ho : ops[i]? = some o) (hr : Region.ready md ops listed = [i])
    (h : ∀ K' : Act → World → Prop, Shut (∀ (S' : World → Prop) a w, (∀ w, S' w → S w) → S' w → wpAnyH P md ops Q S' fuel (listed.setIfInBounds i true) a w → K' a w) → if Region.wanted o (yielded ops a.tmps) = true then Oper.wp P o a w K' Q else K' (a.put o.dst undef) w) :
    wpAnyH P md ops Q S (fuel + 1) listed a w :=
  wpAnyH_ready hr (by simp) (AllReadyH.cons ho (fun K hK => h K (fun _ a w hSS hS hW => hK.out a w (hSS _ hS) (fun _ => held_mono hSS _ _ _ _ hW))) AllReadyH.nil)
/-- Two operations may come up, whichever first. -/
theorem held_two {S : World → Prop} {fuel : Nat} {listed : Array Bool} {a : Act} {w : World} (i j : Nat) {oi oj : Oper} (hoi : ops[i]? = some oi) (hoj : ops[j]? = some oj) (hr : Region.ready md ops listed = [i, j])
    (h : ∀ K' : Act → World → Prop, Shut (∀ (S' : World → Prop) a w, (∀ w, S' w → S w) → S' w → wpAnyH P md ops Q S' fuel (listed.setIfInBounds i true) a w → K' a w) → if Region.wanted oi (yielded ops a.tmps) = true then Oper.wp P oi a w K' Q else K' (a.put oi.dst undef) w)
    (k : ∀ K' : Act → World → Prop, Shut (∀ (S' : World → Prop) a w, (∀ w, S' w → S w) → S' w → wpAnyH P md ops Q S' fuel (listed.setIfInBounds j true) a w → K' a w) → if Region.wanted oj (yielded ops a.tmps) = true then Oper.wp P oj a w K' Q else K' (a.put oj.dst undef) w) :
    wpAnyH P md ops Q S (fuel + 1) listed a w :=
  wpAnyH_ready hr (by simp) (AllReadyH.cons hoi (fun K hK => h K (fun _ a w hSS hS hW => hK.out a w (hSS _ hS) (fun _ => held_mono hSS _ _ _ _ hW)))
    (AllReadyH.cons hoj (fun K hK => k K (fun _ a w hSS hS hW => hK.out a w (hSS _ hS) (fun _ => held_mono hSS _ _ _ _ hW))) AllReadyH.nil))
end
end Go.Proofs.Ytplmbdljhgicfab

/-! FfU -/
namespace Go.Proofs.Ytplmbdljhgicfab

theorem quoF_cons (u : Tr) (us vs : List Tr) : quoF (u :: us) vs = u.subs (vs.getD 0 .lf) ++ quoF us vs.tail := by cases vs <;> rfl
def quoN (us vs : List Tr) (k : Nat) : List Tr := (List.range k).flatMap fun j => (us.getD j .lf).subs (vs.getD j .lf)
theorem quoN_succ (us vs : List Tr) (k : Nat) : quoN us vs (k + 1) = quoN us vs k ++ (us.getD k .lf).subs (vs.getD k .lf) := by
  unfold quoN; rw [List.range_succ, List.flatMap_append]; simp
theorem quoN_cons (u : Tr) (us vs : List Tr) (k : Nat) : quoN (u :: us) vs (k + 1) = u.subs (vs.getD 0 .lf) ++ quoN us vs.tail k := by
  unfold quoN
  rw [List.range_succ_eq_map, List.flatMap_cons, List.flatMap_map]
  congr 1
  congr 1
  funext j
  cases vs <;> simp
theorem quoN_nil (vs : List Tr) : quoN [] vs vs.length = vs := by
  have h : ∀ k, k ≤ vs.length → quoN [] vs k = vs.take k := by
    intro k
    induction k with
    | zero => intro _; rfl
    | succ k ih =>
      intro hk
      rw [quoN_succ, ih (by omega), List.take_succ_eq_append_getElem (by omega)]
      congr 1
      simp [Tr.subs, List.getElem?_eq_getElem (show k < vs.length by omega)]
  rw [h _ (Nat.le_refl _), List.take_length]
theorem quoF_eq (us : List Tr) : ∀ vs : List Tr, quoF us vs = quoN us vs (max us.length vs.length) := by
  induction us with
  | nil => intro vs; rw [List.length_nil, Nat.zero_max, quoN_nil]; rfl
  | cons u us ih =>
    intro vs
    rw [quoF_cons, ih, List.length_cons]
    have e : max (us.length + 1) vs.length = max us.length vs.tail.length + 1 := by cases vs <;> simp
    rw [e, quoN_cons]
theorem sumC_eq (us : List Tr) : sumC us = sumT us := rfl
theorem quoF_bound {us vs : List Tr} (h : lastB us = true) (k : partF us vs = true) : sumT (quoF us vs) ≤ (combT vs).carets ∧ (quoF us vs).length ≤ (combT us).leaves + (combT vs).carets := by
  obtain ⟨A, E, h1, h2⟩ := subs_comb us vs h k
  have h3 := below_carets (combT us) (combT vs) (by rw [part_comb us vs h]; exact k)
  rw [h1, sumC_append, sumC_cons] at h3
  have h4 := sides_sum E
  rw [← h2, sumT_app, List.length_append]
  rw [sumC_eq] at h3
  have h5 := h3.2
  simp at h5
  omega
theorem quoN_part {us vs : List Tr} (k : Nat) : sumT (quoN us vs k) ≤ sumT (quoN us vs (k + 1)) := by
  rw [quoN_succ, sumT_app]; omega
theorem quoN_len (us vs : List Tr) : ∀ m k, k ≤ m → (quoN us vs k).length ≤ (quoN us vs m).length := by
  intro m
  induction m with
  | zero => intro k h; obtain rfl : k = 0 := by omega
            exact Nat.le_refl _
  | succ m ih =>
    intro k h
    by_cases hk : k = m + 1
    · subst hk; exact Nat.le_refl _
    · have := ih k (by omega)
      rw [quoN_succ, List.length_append]; omega
end Go.Proofs.Ytplmbdljhgicfab
