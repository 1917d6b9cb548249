/- FnExactLeftQuotient: for every input the law returns true and leaves its arguments as they were. No conditions. -/
import Derived.Test.YtplmbdljhgicfabMgLeftQuotient1
import Derived.Deep.RegionHeld3
import Derived.OwnWalk
import Derived.RegionTactic
import Derived.Shelf.Strings.Builder1
import Derived.Deep.AppendLies
import Derived.ProofKit
import Derived.OpenShut
import Derived.ShutString
import Derived.ChangeOld
import Derived.Below
import Derived.SliceStrings
/-! Join -/
namespace Go.Proofs.Ytplmbdljhgicfab
open Go.RowKit

set_option maxRecDepth 100000 in
set_option maxHeartbeats 2000000 in
theorem join_any (t : Tr) : ∀ (u : Tr) (b c : Nat) (w : World), NodeAt w t b → NodeAt w u c →
    Calls Try.prog 111 #[.pointer (some ⟨b, 0, none⟩), .pointer (some ⟨c, 0, none⟩)] w (GivesNode (t.join u) w) := by
  induction t with
  | lf =>
    intro u b c w h k
    have H := Lib.hid h
    have K := Lib.hid k
    clear h k
    go_enter Try.func111, Try.ntmps111
    go_wp2_with fail
    refine (isLeaf_any .lf b _ H.out).mono ?_; rintro e w1 ⟨rfl, rfl⟩
    simp only [Tr.isLf]
    go_wp2_with fail
    go_ret
    exact ⟨c, K.out, Below.refl _ _, rfl⟩
  | nd l r ihl ihr =>
    intro u b c w h k
    cases u with
    | lf =>
      have H := Lib.hid h
      have K := Lib.hid k
      clear h k ihl ihr
      go_enter Try.func111, Try.ntmps111
      go_wp2_with fail
      refine (isLeaf_any (.nd l r) b _ H.out).mono ?_; rintro e w1 ⟨rfl, rfl⟩
      simp only [Tr.isLf]
      go_wp2_with fail
      refine (isLeaf_any .lf c _ K.out).mono ?_; rintro e w1 ⟨rfl, rfl⟩
      simp only [Tr.isLf]
      go_wp2_with fail
      go_ret
      exact ⟨b, H.out, Below.refl _ _, rfl⟩
    | nd p q =>
      have H := Lib.hid h
      have K := Lib.hid k
      obtain ⟨bl, br, h, hl, hr⟩ := h
      obtain ⟨cl, cr, k, kl, kr⟩ := k
      have h1 := two_left h
      have h2 := two_right h
      have k1 := two_left k
      have k2 := two_right k
      clear h k
      go_enter Try.func111, Try.ntmps111
      go_wp2_with fail
      refine (isLeaf_any (.nd l r) b _ H.out).mono ?_; rintro e w1 ⟨rfl, rfl⟩
      simp only [Tr.isLf]
      go_wp2_with fail
      refine (isLeaf_any (.nd p q) c _ K.out).mono ?_; rintro e w1 ⟨rfl, rfl⟩
      simp only [Tr.isLf]
      go_wp2_with fail
      have hb0 := Below.refl w.heap.size w
      go_region_held3 (fun w' => w'.cell? ⟨b, 0, none⟩ = some (.pointer (some ⟨bl, 0, none⟩)) ∧ w'.cell? ⟨b, 1, none⟩ = some (.pointer (some ⟨br, 0, none⟩)) ∧ w'.cell? ⟨c, 0, none⟩ = some (.pointer (some ⟨cl, 0, none⟩)) ∧ w'.cell? ⟨c, 1, none⟩ = some (.pointer (some ⟨cr, 0, none⟩)))
          (first
            | exact ⟨h1, h2, k1, k2⟩
            | exact ⟨q1, q2, q3, q4⟩
            | exact ⟨s1, s2, s3, s4⟩
            | exact ⟨(a1 _).1, (a1 _).2, (a2 _).1, (a2 _).2⟩)
          (first
          | (go_at_call_of 111 (some (⟨bl, 0, none⟩ : Addr)); refine (ihl p bl cl _ ?_ ?_).mono ?_; exact hl.keep hb0.drew; exact kl.keep hb0.drew; rintro e w1 ⟨b1, hn1, hb1, rfl⟩; have hb1' := nx hb0.drew hb1; obtain ⟨q1, q2⟩ := below_two hb1' h1 h2; obtain ⟨q3, q4⟩ := below_two hb1' k1 k2)
          | (go_at_call_of 111 (some (⟨br, 0, none⟩ : Addr)); refine (ihr q br cr _ ?_ ?_).mono ?_; exact hr.keep hb1'; exact kr.keep hb1'; rintro e w2 ⟨b2, hn2, hb2, rfl⟩; have hb2' := nx hb1' hb2; obtain ⟨s1, s2⟩ := below_two hb2' h1 h2; obtain ⟨s3, s4⟩ := below_two hb2' k1 k2; have a1 := fun o => below_two (nxAlloc hb2' o) h1 h2; have a2 := fun o => below_two (nxAlloc hb2' o) k1 k2))
      all_goals (try go_wp2_with fail)
      all_goals go_ret
      all_goals exact ⟨_, node_new hn1 hb2 hn2, nxAlloc hb2' _, rfl⟩
set_option maxHeartbeats 1000000 in
theorem isPart_any (t : Tr) : ∀ (u : Tr) (b c : Nat) (w : World), NodeAt w t b → NodeAt w u c →
    Calls Try.prog 45 #[.pointer (some ⟨b, 0, none⟩), .pointer (some ⟨c, 0, none⟩)] w (Quietly (.bool (t.part u)) w) := by
  induction t with
  | lf =>
    intro u b c w h k
    have H := Lib.hid h
    have K := Lib.hid k
    clear h k
    go_enter Try.func45, Try.ntmps45
    go_wp2_with fail
    refine (isLeaf_any .lf b _ H.out).mono ?_; rintro e w1 ⟨rfl, rfl⟩
    simp only [Tr.isLf]
    go_wp2_with fail
    go_ret
    exact ⟨rfl, 0, rfl⟩
  | nd l r ihl ihr =>
    intro u b c w h k
    cases u with
    | lf =>
      have H := Lib.hid h
      have K := Lib.hid k
      clear h k ihl ihr
      go_enter Try.func45, Try.ntmps45
      go_wp2_with fail
      refine (isLeaf_any (.nd l r) b _ H.out).mono ?_; rintro e w1 ⟨rfl, rfl⟩
      simp only [Tr.isLf]
      go_wp2_with fail
      have L : ∀ n, Calls Try.prog 94 #[.pointer (some ⟨c, 0, none⟩)] (w.drewN n) (Quietly (.bool true) (w.drewN n)) := fun n => (isLeaf_any .lf c _ (K.out.drewN n)).mono fun e w' ⟨h1, h2⟩ => ⟨h1, 0, h2.symm⟩
      go_quiet ((go_at_call 94; exact Calls.quiet_of (L _)))
      go_wp2_with fail
      go_ret
      exact ⟨rfl, _, rfl⟩
    | nd p q =>
      have H := Lib.hid h
      have K := Lib.hid k
      obtain ⟨bl, br, h, hl, hr⟩ := h
      obtain ⟨cl, cr, k, kl, kr⟩ := k
      have h1 := two_left h
      have h2 := two_right h
      have k1 := two_left k
      have k2 := two_right k
      clear h k
      have L : ∀ n, Calls Try.prog 94 #[.pointer (some ⟨c, 0, none⟩)] (w.drewN n) (Quietly (.bool false) (w.drewN n)) := fun n => (isLeaf_any (.nd p q) c _ (K.out.drewN n)).mono fun e w' ⟨h1, h2⟩ => ⟨h1, 0, h2.symm⟩
      have HL : ∀ n, Calls Try.prog 45 #[.pointer (some ⟨bl, 0, none⟩), .pointer (some ⟨cl, 0, none⟩)] (w.drewN n) (Quietly (.bool (l.part p)) (w.drewN n)) := fun n => ihl p bl cl _ (hl.drewN n) (kl.drewN n)
      have HR : ∀ n, Calls Try.prog 45 #[.pointer (some ⟨br, 0, none⟩), .pointer (some ⟨cr, 0, none⟩)] (w.drewN n) (Quietly (.bool (r.part q)) (w.drewN n)) := fun n => ihr q br cr _ (hr.drewN n) (kr.drewN n)
      have HP : Hid ((Tr.nd l r).part (.nd p q) = (l.part p && r.part q)) := rfl
      cases hlp : l.part p with
      | false =>
        rw [hlp] at HP HL
        clear hlp
        go_enter Try.func45, Try.ntmps45
        go_wp2_with fail
        refine (isLeaf_any (.nd l r) b _ H.out).mono ?_; rintro e w1 ⟨rfl, rfl⟩
        simp only [Tr.isLf]
        go_wp2_with fail
        go_quiet ((first | (go_at_call 94; exact Calls.quiet_of (L _)) | (go_at_call_of 45 (some (⟨bl, 0, none⟩ : Addr)); exact Calls.quiet_of (HL _)) | (go_at_call_of 45 (some (⟨br, 0, none⟩ : Addr)); exact Calls.quiet_of (HR _))))
        go_wp2_with fail
        go_ret
        exact ⟨by rw [HP.out]; rfl, _, rfl⟩
      | true =>
        rw [hlp] at HP HL
        clear hlp
        go_enter Try.func45, Try.ntmps45
        go_wp2_with fail
        refine (isLeaf_any (.nd l r) b _ H.out).mono ?_; rintro e w1 ⟨rfl, rfl⟩
        simp only [Tr.isLf]
        go_wp2_with fail
        go_quiet ((first | (go_at_call 94; exact Calls.quiet_of (L _)) | (go_at_call_of 45 (some (⟨bl, 0, none⟩ : Addr)); exact Calls.quiet_of (HL _)) | (go_at_call_of 45 (some (⟨br, 0, none⟩ : Addr)); exact Calls.quiet_of (HR _))))
        go_wp2_with fail
        go_ret
        exact ⟨by rw [HP.out]; rfl, _, rfl⟩
end Go.Proofs.Ytplmbdljhgicfab

/-! TreeO -/
namespace Go.Proofs.Ytplmbdljhgicfab
open Go.RowKit

theorem keep_cell {w w' : World} {b o : Nat} {v : Value} (hb : Below w.heap.size w w') (h : w.cell? ⟨b, o, none⟩ = some v) : w'.cell? ⟨b, o, none⟩ = some v :=
  (hb.cell (p := ⟨b, o, none⟩) (World.block_lt_of_cell? _ _ h)).trans h

theorem treeOf_any (t : Tr) (w : World) (h : t.carets ≤ 1000) : Calls Try.prog 49 #[.string t.str] w (GivesNode t w) := by
  have hz := t.str_size
  have hp := place_any (t.str.size + 1) t.str
  rw [parse_str t _ (by have := t.text_len; omega)] at hp
  have hp' : ∀ w, Calls Try.prog 100 #[.string t.str] w (PlaceOk t [] t.str w) := fun w => hp w (by omega) (by omega)
  clear hz hp
  go_enter Try.func49, Try.ntmps49
  go_wp2_with fail
  refine (hp' _).mono ?_; rintro e w1 ⟨b1, s1, hs1, hz1, hn1, hb1, rfl⟩
  clear hs1 hz1
  go_wp2_with fail
  go_ret
  exact ⟨b1, hn1, hb1, rfl⟩

end Go.Proofs.Ytplmbdljhgicfab

/-! Ff6 -/
namespace Go.Proofs.Ytplmbdljhgicfab
open Go.RowKit

/-- The nodes of two forests, or none. -/
def TwoNodes (o p : Option (List Tr)) (w : World) (e : Ending) (w' : World) : Prop :=
  match o, p with
  | some us, some vs => ∃ b c, NodeAt w' (combT us) b ∧ NodeAt w' (combT vs) c ∧ Below w.heap.size w w' ∧ e = .returned (.tuple #[.pointer (some ⟨b, 0, none⟩), .pointer (some ⟨c, 0, none⟩), .bool true])
  | _, _ => e = .returned (.tuple #[.pointer none, .pointer none, .bool false]) ∧ Below w.heap.size w w'

set_option maxRecDepth 100000 in
set_option maxHeartbeats 4000000 in
theorem implhungTwo_any (v : Value) (b : Nat) (L : List ByteArray) (v2 : Value) (b2 : Nat) (M : List ByteArray) (w : World) (h : CellsS b w v L) (h2 : CellsS b2 w v2 M) (hz : ∀ s ∈ L, s.size ≤ 1048576) (hz2 : ∀ s ∈ M, s.size ≤ 1048576) (hn : L.length ≤ 1048576) (hn2 : M.length ≤ 1048576) :
    Calls Try.prog 44 #[v, v2] w (TwoNodes (forOf L) (forOf M) w) := by
  have hG := fun w h => implIsForest_b v b L w h hz hn
  have hH := fun w h => implIsForest_b v2 b2 M w h hz2 hn2
  have HA := Lib.hid h
  have HB := Lib.hid h2
  obtain ⟨oa, cap, rfl, hcl, hcm, hcc⟩ := h.form0
  obtain ⟨ob, bcap, rfl, hdl, hdm, hdc⟩ := h2.form0
  unfold maxLen at hcm hdm
  have HC := Lib.hid hcc
  have HD := Lib.hid hdc
  clear h h2 hz hz2 hcc hdc
  rcases hf : forOf L with _ | us
  · rw [hf] at hG
    have hG' : ∀ w, CellsS b w (.slice oa L.length cap) L → Calls Try.prog 56 #[.slice oa L.length cap] w (Gives (.bool false) w) := hG
    clear hG hH hf HC HD
    go_enter Try.func44, Try.ntmps44
    go_wp2_with fail
    refine (hG' _ HA.out).mono ?_; rintro e w1 ⟨rfl, hb1⟩
    go_wp2_with fail
    go_ret3
    exact ⟨rfl, hb1⟩
  · rcases hk : forOf M with _ | vs
    · rw [hf] at hG
      rw [hk] at hH
      have hG' : ∀ w, CellsS b w (.slice oa L.length cap) L → Calls Try.prog 56 #[.slice oa L.length cap] w (Gives (.bool true) w) := hG
      have hH' : ∀ w, CellsS b2 w (.slice ob M.length bcap) M → Calls Try.prog 56 #[.slice ob M.length bcap] w (Gives (.bool false) w) := hH
      clear hG hH hf hk HC HD
      go_enter Try.func44, Try.ntmps44
      go_wp2_with fail
      refine (hG' _ HA.out).mono ?_; rintro e w1 ⟨rfl, hb1⟩
      go_wp2_with fail
      refine (hH' _ (HB.out.keep hb1)).mono ?_; rintro e w2 ⟨rfl, hb2⟩
      replace hb2 := nx hb1 hb2
      go_wp2_with fail
      go_ret3
      exact ⟨rfl, hb2⟩
    · rw [hf] at hG
      rw [hk] at hH
      have hG' : ∀ w, CellsS b w (.slice oa L.length cap) L → Calls Try.prog 56 #[.slice oa L.length cap] w (Gives (.bool true) w) := hG
      have hH' : ∀ w, CellsS b2 w (.slice ob M.length bcap) M → Calls Try.prog 56 #[.slice ob M.length bcap] w (Gives (.bool true) w) := hH
      obtain ⟨hL, hl8, hs8, hlast⟩ := forOf_strs hf
      obtain ⟨hM, hm8, ht8, hlastM⟩ := forOf_strs hk
      have hLu : L.length = us.length := by rw [hL, strs_length]
      have hMu : M.length = vs.length := by rw [hM, strs_length]
      have HSA : Hid (∀ w, CellsS b w (.slice oa L.length cap) L → CellsS b w (.slice oa L.length cap) (strs us)) := fun w h => by rw [← hL]; exact h
      have HSB : Hid (∀ w, CellsS b2 w (.slice ob M.length bcap) M → CellsS b2 w (.slice ob M.length bcap) (strs vs)) := fun w h => by rw [← hM]; exact h
      have HLA := Lib.hid hlast
      have HLB := Lib.hid hlastM
      have HLU := Lib.hid hLu
      have HMU := Lib.hid hMu
      clear hG hH hf hk hL hM hlast hlastM HC HD hLu hMu
      have c1 := combT_carets us
      have c2 := combT_carets vs
      have hU := fun w h => hung_any (.slice oa L.length cap) b us w h (by omega) (by omega)
      have hV := fun w h => hung_any (.slice ob M.length bcap) b2 vs w h (by omega) (by omega)
      have hTU := fun w => treeOf_any (combT us) w (by omega)
      have hTV := fun w => treeOf_any (combT vs) w (by omega)
      clear c1 c2
      go_enter Try.func44, Try.ntmps44
      go_wp2_with fail
      refine (hG' _ HA.out).mono ?_; rintro e w1 ⟨rfl, hb1⟩
      go_wp2_with fail
      refine (hH' _ (HB.out.keep hb1)).mono ?_; rintro e w2 ⟨rfl, hb2⟩
      replace hb2 := nx hb1 hb2
      go_wp2_with fail
      refine (hU _ (HSA.out _ (HA.out.keep hb2))).mono ?_; rintro e w3 ⟨rfl, hb3⟩
      replace hb3 := nx hb2 hb3
      go_wp2_with fail
      refine (hTU _).mono ?_; rintro e w4 ⟨p1, hp1, hb4, rfl⟩
      replace hb4 := nx hb3 hb4
      go_wp2_with fail
      refine (hV _ (HSB.out _ (HB.out.keep hb4))).mono ?_; rintro e w5 ⟨rfl, hb5⟩
      replace hp1 := hp1.keep hb5
      replace hb5 := nx hb4 hb5
      go_wp2_with fail
      refine (hTV _).mono ?_; rintro e w6 ⟨p2, hp2, hb6, rfl⟩
      replace hp1 := hp1.keep hb6
      replace hb6 := nx hb5 hb6
      go_wp2_with fail
      go_ret3
      exact ⟨_, _, hp1, hp2, hb6, rfl⟩

set_option maxRecDepth 100000 in
theorem foTree_any (v : Value) (b : Nat) (us : List Tr) (k : Nat) (w : World) (h : CellsS b w v (strs us)) (_hk : (k : Int) ≤ 1000000) :
    Calls Try.prog 42 #[v, .int .i64 k] w fun e w' => e = .returned (.string (us.getD k .lf).str) ∧ w = w' := by
  obtain ⟨oa, cap, rfl, hcl, hcm, hcc⟩ := h.form0
  unfold maxLen at hcm
  rw [strs_length] at *
  by_cases hlt : k < us.length
  · have hlt' : (k : Int) < (us.length : Int) := by omega
    obtain ⟨g, rfl, _, hgl, c1⟩ := hcc k hlt
    rw [show (strs us).getD k ⟨#[]⟩ = (us.getD k .lf).str from map_getD us k hlt] at c1
    generalize us.getD k .lf = t at *
    clear h hcc
    go_enter Try.func42, Try.ntmps42
    go_wp2_with fail
    go_ret
    exact ⟨rfl, rfl⟩
  · have hlt' : ¬ ((k : Int) < (us.length : Int)) := by omega
    rw [show us.getD k .lf = .lf by rw [List.getD_eq_getElem?_getD, List.getElem?_eq_none (by omega)]; rfl]
    clear h hcc hlt
    go_enter Try.func42, Try.ntmps42
    go_wp2_with fail
    go_ret
    exact ⟨rfl, rfl⟩

theorem str_same (a c : Tr) (h : a = c) : (a.str.toList == c.str.toList) = true := by rw [h]; exact beq_self_eq_true _
theorem str_diff (a c : Tr) (h : a ≠ c) : (a.str.toList == c.str.toList) = false := by
  rw [beq_eq_false_iff_ne]
  simp only [Lib.toList_data, Tr.str_list]
  intro e
  exact h (Tr.text_inj (r := []) (q := []) (by rw [e])).1

set_option maxRecDepth 100000 in
set_option maxHeartbeats 2000000 in
theorem foPart_any (v : Value) (b : Nat) (us : List Tr) (v2 : Value) (b2 : Nat) (vs : List Tr) (w : World) (h : CellsS b w v (strs us)) (h2 : CellsS b2 w v2 (strs vs)) (hs : sumT us ≤ 60) (ht : sumT vs ≤ 60) (hl : us.length ≤ 100) :
    Calls Try.prog 40 #[v, v2] w (Gives (.bool (partF us vs)) w) := by
  have HT := Lib.hid h2
  obtain ⟨oa, cap, rfl, hcl, hcm, hcc⟩ := h.form0
  obtain ⟨ob, bcap, rfl, _⟩ := h2.form0
  unfold maxLen at hcm
  rw [strs_length] at hcl hcc ⊢
  have HC := Lib.hid hcc
  have HCM : ∀ k, (us.getD k .lf).carets ≤ 60 := fun k => by
    by_cases hk : k < us.length
    · rw [List.getD_eq_getElem?_getD, List.getElem?_eq_getElem hk]; have := sumT_mem (List.getElem_mem hk); simp; omega
    · rw [List.getD_eq_getElem?_getD, List.getElem?_eq_none (by omega)]; simp [Tr.carets]
  have HDM : ∀ k, (vs.getD k .lf).carets ≤ 60 := fun k => by
    by_cases hk : k < vs.length
    · rw [List.getD_eq_getElem?_getD, List.getElem?_eq_getElem hk]; have := sumT_mem (List.getElem_mem hk); simp; omega
    · rw [List.getD_eq_getElem?_getD, List.getElem?_eq_none (by omega)]; simp [Tr.carets]
  have HE := Lib.hid HCM
  have HF := Lib.hid HDM
  have HP := Lib.hid (partF_all us vs)
  clear h h2 hcc HCM HDM hs ht
  generalize hB : (strs vs).length = nv at HT ⊢
  clear hB
  go_enter Try.func40, Try.ntmps40
  go_wp2_with fail
  go_loopw [9] (fun i wr => ∃ k : Nat, k ≤ us.length ∧ i = .int .i64 k ∧ Hid (∀ j, j < k → (us.getD j .lf).part (vs.getD j .lf) = true) ∧ Below w.heap.size w wr) (fun i _ => us.length - (intOf i).toNat)
  case atStart => exact ⟨0, Nat.zero_le _, rfl, fun j hj => absurd hj (Nat.not_lt_zero j), Below.refl _ _⟩
  case round =>
    obtain ⟨k, hk, rfl, he, hbw⟩ := hrel
    by_cases hlt : k < us.length
    · have hlt' : (k : Int) < (us.length : Int) := by omega
      obtain ⟨g, rfl, _, hgl, c0⟩ := HC.out k hlt
      have c1 := (hbw.cell (p := ⟨g, k, none⟩) hgl).trans c0
      rw [show (strs us).getD k ⟨#[]⟩ = (us.getD k .lf).str from map_getD us k hlt] at c1
      have hT := fun w h => foTree_any (.slice ob nv bcap) b2 vs k w h (by omega)
      have hJ := fun w => trJoin_any (us.getD k .lf) (vs.getD k .lf) w (HE.out k) (HF.out k)
      have hpj := part_iff_join (us.getD k .lf) (vs.getD k .lf)
      cases hp : (us.getD k .lf).part (vs.getD k .lf) with
      | true =>
        have HN : Hid (∀ j, j < k + 1 → (us.getD j .lf).part (vs.getD j .lf) = true) := fun j hj => by
          by_cases h1 : j < k
          · exact he.out j h1
          · obtain rfl : j = k := by omega
            exact hp
        have hseq := str_same _ _ (hpj.1 hp)
        generalize us.getD k .lf = t at *
        generalize vs.getD k .lf = u at *
        clear hpj hp he c0
        go_wp2_with fail
        refine (hT _ (HT.out.keep hbw)).mono ?_; rintro e w3 ⟨rfl, rfl⟩
        go_wp2_with fail
        refine (hJ _).mono ?_; rintro e w4 ⟨rfl, hb4⟩
        replace hb4 := nx hbw hb4
        go_wp2_with fail
        refine (hT _ (HT.out.keep hb4)).mono ?_; rintro e w5 ⟨rfl, rfl⟩
        go_wp2_with fail
        go_roundw
        case rel => exact ⟨k + 1, by omega, by go_num, HN, hb4⟩
        case measure => simp [intOf]; omega
      | false =>
        have HX : Hid (partF us vs = false) := by
          show partF us vs = false
          cases hq : partF us vs with
          | false => rfl
          | true => rw [HP.out.1 hq k hlt] at hp; cases hp
        have hseq := str_diff _ _ (fun e => by rw [hpj.2 e] at hp; cases hp)
        generalize us.getD k .lf = t at *
        generalize vs.getD k .lf = u at *
        clear hpj hp he c0
        go_wp2_with fail
        refine (hT _ (HT.out.keep hbw)).mono ?_; rintro e w3 ⟨rfl, rfl⟩
        go_wp2_with fail
        refine (hJ _).mono ?_; rintro e w4 ⟨rfl, hb4⟩
        replace hb4 := nx hbw hb4
        go_wp2_with fail
        refine (hT _ (HT.out.keep hb4)).mono ?_; rintro e w5 ⟨rfl, rfl⟩
        go_wp2_with fail
        go_ret
        exact ⟨by rw [HX.out]; rfl, hb4⟩
    · obtain rfl : k = us.length := by omega
      have HX : Hid (partF us vs = true) := HP.out.2 he.out
      clear he
      go_wp2_with fail
      go_ret
      exact ⟨by rw [HX.out]; rfl, hbw⟩

def partO (o p : Option (List Tr)) : Value := .tuple #[.bool (match o, p with | some us, some vs => partF us vs | _, _ => false), .bool (o.isSome && p.isSome)]

end Go.Proofs.Ytplmbdljhgicfab

/-! Ff7 -/
namespace Go.Proofs.Ytplmbdljhgicfab
open Go.RowKit

def ptrN (b : Nat) : Value := .pointer (some ⟨b, 0, none⟩)
theorem info_ptrN : (Try.prog.info? 57).map (fun i => (i.zero, i.size, i.bytes)) = some (some (.pointer none), 1, 8) := by kernel_rfl
/-- Slices of nodes that a call has made. -/
def OwnP (base : Nat) (w : World) (v : Value) (bs : List Nat) : Prop := w.ownsRow base 57 1 v bs.length (bs.map ptrN)
theorem OwnP.keep {base : Nat} {w w' : World} {v : Value} {bs : List Nat} (h : OwnP base w v bs) (hb : Below w.heap.size w w') : OwnP base w' v bs := ownsRow_keep h hb
theorem OwnP.mono {base base' : Nat} {w : World} {v : Value} {bs : List Nat} (h : OwnP base w v bs) (hb : base' ≤ base) : OwnP base' w v bs := ownsRow_mono h hb
theorem OwnP.nil (base : Nat) (w : World) : OwnP base w (.slice none 0 0) [] := World.ownsRow_nil _ _ _ _
theorem OwnP.one (w : World) (b : Nat) : OwnP w.heap.size (w.alloc (.cells #[ptrN b] 57 (0, 0))) (.slice (some ⟨w.heap.size, 0, none⟩) 1 1) [b] := by
  refine ⟨rfl, .inr ⟨w.heap.size, 1, #[ptrN b], rfl, Nat.le_refl _, ?_, Nat.le_refl _, by unfold maxLen; omega, rfl, rfl⟩⟩
  show (w.heap.push _)[w.heap.size]? = _
  simp
theorem OwnP.app {base : Nat} {w : World} {v : Value} {A B : List Nat} (h : w.ownsRow base 57 1 v (A.length + (B.map ptrN).length) (A.map ptrN ++ B.map ptrN)) : OwnP base w v (A ++ B) := by
  unfold OwnP; rw [List.length_append, List.map_append]; rw [List.length_map] at h; exact h
theorem OwnP.snoc {base : Nat} {w : World} {v : Value} {A : List Nat} {b : Nat} (h : w.ownsRow base 57 1 v (A.length + 1) (A.map ptrN ++ [ptrN b])) : OwnP base w v (A ++ [b]) := by
  unfold OwnP; rw [List.length_append, List.map_append]; exact h
theorem onePtr (bs : List Nat) : ∀ u ∈ bs.map ptrN, u.oneCell' = true := by
  intro u hu
  obtain ⟨x, _, rfl⟩ := List.mem_map.1 hu
  rfl
theorem onePtr1 (b : Nat) : ∀ u ∈ [ptrN b], u.oneCell' = true := by intro u hu; simp at hu; subst hu; rfl
def CellsP (base : Nat) (w : World) (v : Value) (bs : List Nat) : Prop :=
  ∃ oa cap, v = .slice oa bs.length cap ∧ bs.length ≤ cap ∧ cap ≤ maxLen ∧ ∀ i, i < bs.length → ∃ g, oa = some ⟨g, 0, none⟩ ∧ base ≤ g ∧ g < w.heap.size ∧ w.cell? ⟨g, i, none⟩ = some (ptrN (bs.getD i 0))
theorem OwnP.cells {base : Nat} {w : World} {v : Value} {bs : List Nat} (h : OwnP base w v bs) : CellsP base w v bs := by
  rcases h.2 with ⟨hv, hn⟩ | ⟨g, cap, cur, hv, hb, hr⟩
  · exact ⟨none, 0, by rw [hv, hn], by omega, by unfold maxLen; omega, fun i hi => by omega⟩
  · subst hv
    have hlt := World.ownsRow.lt h g rfl
    have hc := fun i (hi : i < bs.length) => World.ownsRow.cellAt h i (by omega)
    refine ⟨some ⟨g, 0, none⟩, cap, rfl, hr.2.1, hr.2.2.1, fun i hi => ⟨g, rfl, hlt.1, hlt.2, ?_⟩⟩
    rw [hc i hi]; simp [List.getElem?_eq_getElem hi]
theorem OwnP.src {base : Nat} {w : World} {v : Value} {bs : List Nat} (h : OwnP base w v bs) : SrcV w v (bs.map ptrN) := by
  rcases h.2 with ⟨hv, hn⟩ | ⟨g, cap, cur, hv, hb, hr⟩
  · left
    exact ⟨hv, by rw [List.length_eq_zero_iff.1 hn]; rfl⟩
  · subst hv
    refine .inr ⟨⟨g, 0, none⟩, cap, by simp, fun j x hj => ?_⟩
    have hj' : j < bs.length := by have := (List.getElem?_eq_some_iff.1 hj).1; simpa using this
    rw [addr_add, World.ownsRow.cellAt h j (by omega), hj]

/-- The nodes of a list of trees. -/
def NodesAt (w : World) : List Tr → List Nat → Prop
  | [], [] => True
  | t :: ts, b :: bs => NodeAt w t b ∧ NodesAt w ts bs
  | _, _ => False
theorem NodesAt.keep {w w' : World} (hb : Below w.heap.size w w') : ∀ {ts : List Tr} {bs : List Nat}, NodesAt w ts bs → NodesAt w' ts bs := by
  intro ts
  induction ts with
  | nil => intro bs h; cases bs with | nil => trivial | cons b bs => exact h.elim
  | cons t ts ih => intro bs h; cases bs with | nil => exact h.elim | cons b bs => exact ⟨h.1.keep hb, ih h.2⟩
theorem NodesAt.len {w : World} : ∀ {ts : List Tr} {bs : List Nat}, NodesAt w ts bs → bs.length = ts.length := by
  intro ts
  induction ts with
  | nil => intro bs h; cases bs with | nil => rfl | cons b bs => exact h.elim
  | cons t ts ih => intro bs h; cases bs with | nil => exact h.elim | cons b bs => simp [ih h.2]
theorem NodesAt.get {w : World} : ∀ {ts : List Tr} {bs : List Nat}, NodesAt w ts bs → ∀ i, i < ts.length → NodeAt w (ts.getD i .lf) (bs.getD i 0) := by
  intro ts
  induction ts with
  | nil => intro bs h i hi; simp at hi
  | cons t ts ih =>
    intro bs h i hi
    cases bs with
    | nil => exact h.elim
    | cons b bs =>
      cases i with
      | zero => simpa using h.1
      | succ i => simpa using ih h.2 i (by simp at hi; omega)
theorem NodesAt.snoc {w : World} : ∀ {ts : List Tr} {bs : List Nat} {t : Tr} {b : Nat}, NodesAt w ts bs → NodeAt w t b → NodesAt w (ts ++ [t]) (bs ++ [b]) := by
  intro ts
  induction ts with
  | nil => intro bs t b h k; cases bs with | nil => exact ⟨k, trivial⟩ | cons b bs => exact h.elim
  | cons t ts ih => intro bs u c h k; cases bs with | nil => exact h.elim | cons b bs => exact ⟨h.1, ih h.2 k⟩

/-- The carets on the right side. -/
def onR : Tr → List Tr
  | .lf => []
  | .nd l r => .nd l r :: onR r
def leftT : Tr → Tr
  | .lf => .lf
  | .nd l _ => l
theorem onR_left (t : Tr) : (onR t).map leftT = sidesT t := by
  induction t with
  | lf => rfl
  | nd l r _ ihr => rw [onR, List.map_cons, ihr]; rfl
theorem onR_length (t : Tr) : (onR t).length ≤ t.carets := by
  induction t with
  | lf => exact Nat.le_refl _
  | nd l r _ ihr => rw [onR, List.length_cons, Tr.carets]; omega
theorem onR_nd (t : Tr) : ∀ x ∈ onR t, ∃ l r, x = .nd l r := by
  induction t with
  | lf => intro x h; cases h
  | nd l r _ ihr =>
    intro x h
    rcases List.mem_cons.1 h with rfl | h
    · exact ⟨l, r, rfl⟩
    · exact ihr x h
/-- A call that hands back nodes of trees that lay in w0. -/
def GivesNodes (w0 : World) (ts : List Tr) (w : World) (e : Ending) (w' : World) : Prop :=
  ∃ v bs, OwnP w.heap.size w' v bs ∧ NodesAt w0 ts bs ∧ Below w.heap.size w w' ∧ e = .returned v

set_option maxRecDepth 100000 in
set_option maxHeartbeats 1000000 in
theorem onRight_any (w0 : World) (t : Tr) : ∀ (b : Nat) (w : World), NodeAt w0 t b → Below w0.heap.size w0 w → t.carets ≤ 1000 →
    Calls Try.prog 98 #[.pointer (some ⟨b, 0, none⟩)] w (GivesNodes w0 (onR t) w) := by
  obtain ⟨i0, hi, hz0, hz1, hz2⟩ := info_parts info_ptrN
  induction t with
  | lf =>
    intro b w h hbw _
    have H := Lib.hid (h.keep hbw)
    clear h hbw
    go_enter Try.func98, Try.ntmps98
    go_wp2_with fail
    refine (isLeaf_any .lf b _ H.out).mono ?_; rintro e w1 ⟨rfl, rfl⟩
    simp only [Tr.isLf]
    go_wp2_with fail
    go_ret
    exact ⟨_, [], OwnP.nil _ _, trivial, Below.refl _ _, rfl⟩
  | nd l r _ ihr =>
    intro b w h hbw hc
    have H0 := Lib.hid h
    have H := Lib.hid (h.keep hbw)
    obtain ⟨bl, br, h, hl, hr⟩ := h
    replace h := (hbw.block b (lt_of_block h)).trans h
    have h2 := two_right h
    have hcr : r.carets ≤ 1000 := by simp only [Tr.carets] at hc; omega
    have hlen := onR_length r
    have hOne := OwnP.one w b
    unfold OwnP ptrN at hOne
    clear h
    go_enter Try.func98, Try.ntmps98
    go_wp2_with fail
    refine (isLeaf_any (.nd l r) b _ H.out).mono ?_; rintro e w1 ⟨rfl, rfl⟩
    simp only [Tr.isLf]
    have hb0 := nxAlloc (Below.refl w.heap.size w) (.cells #[.pointer (some ⟨b, 0, none⟩)] 57 (0, 0))
    have c2 := keep_cell hb0 h2
    have hbw0 := hbw.trans (hb0.mono hbw.size)
    go_wp2_with fail
    refine (ihr br _ hr hbw0 hcr).mono ?_; rintro e w2 ⟨v2, bs, own2, hn2, hb2, rfl⟩
    have hbl := hn2.len
    have hOne2 := ownsRow_keep hOne hb2
    have hb3 := nx hb0 hb2
    have hsrc := own2.src
    have hmm : (bs.map ptrN).length = bs.length := by simp
    go_wp2_with (at_builtin; refine wpList_appSrc rfl (.tmp 6) (.tmp 11) 106 rfl w.heap.size 57 i0 (.pointer none) 8 Try.underlying106 hi hz0 hz1 hz2 rfl _ 1 _ rfl hOne2 _ _ rfl hsrc (onePtr bs) (by unfold maxLen; omega) (by omega) hb3.size ?_; intro v9 w9 hown9 hb9 hn9)
    have hfin : OwnP w.heap.size w9 v9 (b :: bs) := OwnP.app (A := [b]) hown9
    clear hown9 hn9 hsrc hOne2 hOne
    go_wp2_with fail
    go_ret
    exact ⟨_, _, hfin, ⟨H0.out, hn2⟩, hb3.trans hb9, rfl⟩

theorem leftSide_c (b : Nat) (v : Value) (w : World) (h : w.cell? ⟨b, 0, none⟩ = some v) :
    Calls Try.prog 99 #[.pointer (some ⟨b, 0, none⟩)] w fun e w' => e = .returned v ∧ w = w' := by
  go_enter Try.func99, Try.ntmps99
  go_wp2_with fail
  go_ret
  exact ⟨rfl, rfl⟩

set_option maxRecDepth 100000 in
set_option maxHeartbeats 2000000 in
theorem listOfLeft_any (w0 : World) (v : Value) (b : Nat) (ts : List Tr) (bs : List Nat) (w : World) (h : CellsP b w v bs) (hN : NodesAt w0 ts bs) (hb0 : Below w0.heap.size w0 w) (hnd : ∀ x ∈ ts, ∃ l r, x = .nd l r) (hl : ts.length ≤ 1000)
    (hcall : ∀ (args : Array Value) (w : World), (callFunc 99 args).run Try.prog w = .ok (.enter 99 args) w) :
    Calls Try.prog 97 #[v, .func (Fn.func 99) #[] #[]] w (GivesNodes w0 (ts.map leftT) w) := by
  obtain ⟨i0, hi, hz0, hz1, hz2⟩ := info_parts info_ptrN
  obtain ⟨oa, cap, rfl, hcl, hcm, hcc⟩ := h
  unfold maxLen at hcm
  have hbl := hN.len
  obtain ⟨n, hn⟩ : ∃ n, n = bs.length := ⟨_, rfl⟩
  rw [← hn] at hcl hcc hbl ⊢
  have HNN := Lib.hid hn
  have HC := Lib.hid hcc
  have HN := Lib.hid hN
  have HD := Lib.hid hnd
  have HBL := Lib.hid hbl
  have hn1 : n ≤ 1000 := by omega
  clear hcc hN hnd hbl hl hn
  go_enter Try.func97, Try.ntmps97
  go_wp2_with fail
  go_loopw [5, 10] (fun v i wr => ∃ (k : Nat) (cs : List Nat), k ≤ n ∧ i = .int .i64 k ∧ cs.length = k ∧ OwnP w.heap.size wr v cs ∧ Hid (NodesAt w0 ((ts.map leftT).take k) cs) ∧ Below w.heap.size w wr) (fun _ i _ => n - (intOf i).toNat)
  case atStart => exact ⟨0, [], Nat.zero_le _, rfl, rfl, OwnP.nil _ _, trivial, Below.refl _ _⟩
  case round =>
    obtain ⟨k, cs, hk, rfl, hcs, hown, hnodes, hbw⟩ := hrel
    by_cases hlt : k < n
    · have hlt' : (k : Int) < (n : Int) := by omega
      obtain ⟨g, rfl, _, hgl, c0⟩ := HC.out k hlt
      have c1 := (hbw.cell (p := ⟨g, k, none⟩) hgl).trans c0
      have hkt : k < ts.length := by have := HBL.out; omega
      have hnode := HN.out.get k hkt
      obtain ⟨l, r, hlr⟩ := HD.out (ts.getD k .lf) (by rw [List.getD_eq_getElem?_getD, List.getElem?_eq_getElem hkt]; exact List.getElem_mem hkt)
      rw [hlr] at hnode
      obtain ⟨bl, br, hblk, hnl, _⟩ := hnode
      have c2 := two_left ((nx hb0 hbw).block _ (lt_of_block hblk) |>.trans hblk)
      have hnext : NodesAt w0 ((ts.map leftT).take (k + 1)) (cs ++ [bl]) := by
        have e1 : (ts.map leftT).take (k + 1) = (ts.map leftT).take k ++ [l] := by
          rw [List.take_succ_eq_append_getElem (by simpa using hkt)]
          congr 1
          rw [List.getElem_map]
          rw [List.getD_eq_getElem?_getD, List.getElem?_eq_getElem hkt, Option.getD_some] at hlr
          rw [hlr]; rfl
        rw [e1]
        exact hnodes.out.snoc hnl
      have HX := Lib.hid hnext
      have HCS := Lib.hid hcs
      have hcs9 : cs.length ≤ 1000 := by omega
      unfold OwnP at hown
      have hown0 := hown
      generalize bs.getD k 0 = p at *
      unfold ptrN at c1
      have hLS := fun w h => leftSide_c p (.pointer (some ⟨bl, 0, none⟩)) w h
      clear hnext hnodes hlr hblk hnl c0 hcs
      go_wp2_with fail
      refine (hLS _ c2).mono ?_; rintro e w3 ⟨rfl, rfl⟩
      go_wp2_with (at_builtin; refine wpList_append_own _ rfl _ _ 106 rfl w.heap.size 57 i0 (.pointer none) 1 8 Try.underlying106 hi hz0 hz1 hz2 rfl (by decide) _ _ _ rfl (hown.alloc _) ⟨wr.heap.size, 0, none⟩ 1 1 [.pointer (some ⟨bl, 0, none⟩)] rfl rfl (new1 _ _ _) (onePtr1 bl) (by unfold maxLen; omega) (by omega) (size_al hbw _) ?_; intro v' w9 hown' hgrow hnn)
      have hbw9 := below_app hbw hown (Nat.le_refl _) hgrow
      have hown1 : OwnP w.heap.size w9 v' (cs ++ [bl]) := OwnP.snoc hown'
      clear hown hown0 hown' hgrow hbw hnn
      go_wp2_with fail
      go_roundw
      case rel => exact ⟨k + 1, _, by omega, by go_num, by have := HCS.out; simp; omega, hown1, HX, hbw9⟩
      case measure => simp [intOf]; omega
    · obtain rfl : k = n := by omega
      have h1 := hnodes.out
      rw [List.take_of_length_le (by simp; have := HBL.out; omega)] at h1
      have HX := Lib.hid h1
      clear h1 hnodes hcs
      go_wp2_with fail
      go_ret
      exact ⟨_, _, hown, HX.out, hbw, rfl⟩

set_option maxRecDepth 100000 in
set_option maxHeartbeats 2000000 in
theorem listOfText_any (w0 : World) (v : Value) (b : Nat) (ts : List Tr) (bs : List Nat) (w : World) (h : CellsP b w v bs) (hN : NodesAt w0 ts bs) (hb0 : Below w0.heap.size w0 w) (hcar : ∀ x ∈ ts, x.carets ≤ 1000) (hl : ts.length ≤ 1000)
    (hcall : ∀ (args : Array Value) (w : World), (callFunc 95 args).run Try.prog w = .ok (.enter 95 args) w) :
    Calls Try.prog 96 #[v, .func (Fn.func 95) #[] #[]] w (fun e w' => ∃ v', OwnS w.heap.size w' v' (strs ts) ∧ Below w.heap.size w w' ∧ e = .returned v') := by
  obtain ⟨i0, hi, hz0, hz1, hz2⟩ := info_parts info_str
  obtain ⟨oa, cap, rfl, hcl, hcm, hcc⟩ := h
  unfold maxLen at hcm
  have hbl := hN.len
  obtain ⟨n, hn⟩ : ∃ n, n = bs.length := ⟨_, rfl⟩
  rw [← hn] at hcl hcc hbl ⊢
  have HNN := Lib.hid hn
  have HC := Lib.hid hcc
  have HN := Lib.hid hN
  have HD := Lib.hid hcar
  have HBL := Lib.hid hbl
  have hn1 : n ≤ 1000 := by omega
  clear hcc hN hcar hbl hl hn
  go_enter Try.func96, Try.ntmps96
  go_wp2_with fail
  go_loopw [5, 10] (fun v i wr => ∃ (k : Nat) (ss : List ByteArray), k ≤ n ∧ i = .int .i64 k ∧ ss.length = k ∧ OwnS w.heap.size wr v ss ∧ Hid (ss = (strs ts).take k) ∧ Below w.heap.size w wr) (fun _ i _ => n - (intOf i).toNat)
  case atStart => exact ⟨0, [], Nat.zero_le _, rfl, rfl, OwnS.nil _ _, rfl, Below.refl _ _⟩
  case round =>
    obtain ⟨k, ss, hk, rfl, hcs, hown, hss, hbw⟩ := hrel
    by_cases hlt : k < n
    · have hlt' : (k : Int) < (n : Int) := by omega
      obtain ⟨g, rfl, _, hgl, c0⟩ := HC.out k hlt
      have c1 := (hbw.cell (p := ⟨g, k, none⟩) hgl).trans c0
      have hkt : k < ts.length := by have := HBL.out; omega
      have hnode := (HN.out.get k hkt).keep (nx hb0 hbw)
      have hct := HD.out (ts.getD k .lf) (by rw [List.getD_eq_getElem?_getD, List.getElem?_eq_getElem hkt]; exact List.getElem_mem hkt)
      have hnext : ss ++ [(ts.getD k .lf).str] = (strs ts).take (k + 1) := by
        rw [hss.out]
        unfold strs
        rw [List.take_succ_eq_append_getElem (by simpa using hkt)]
        simp [hkt]
      have HX := Lib.hid hnext
      have HCS := Lib.hid hcs
      have hcs9 : ss.length ≤ 1000 := by omega
      unfold OwnS at hown
      generalize bs.getD k 0 = p at *
      unfold ptrN at c1
      generalize ts.getD k .lf = t at *
      have hTX := text_any t p _ hnode hct
      generalize t.str = x at *
      clear hnext hss hnode c0 hcs
      go_wp2_with fail
      refine hTX.mono ?_; rintro e w3 ⟨rfl, d, hw3⟩
      have hb3 : Below wr.heap.size wr w3 := by rw [hw3]; exact drewB (Below.refl _ _) _
      clear hw3 hTX
      replace hown := ownsRow_keep hown hb3
      replace hbw := nx hbw hb3
      clear hb3
      go_wp2_with (at_builtin; refine wpList_append_own _ rfl _ _ 22 rfl w.heap.size 9 i0 (.string ⟨#[]⟩) 1 16 Try.underlying22 hi hz0 hz1 hz2 rfl (by decide) _ _ _ rfl (hown.alloc _) ⟨w3.heap.size, 0, none⟩ 1 1 [.string x] rfl rfl (new1 _ _ _) (oneS [x]) (by unfold maxLen; omega) (by omega) (size_al hbw _) ?_; intro v' w9 hown' hgrow hnn)
      have hbw9 := below_app hbw hown (Nat.le_refl _) hgrow
      have hown1 : OwnS w.heap.size w9 v' (ss ++ [x]) := OwnS.app (B := [x]) hown'
      clear hown hown' hgrow hbw hnn
      go_wp2_with fail
      go_roundw
      case rel => exact ⟨k + 1, _, by omega, by go_num, by have := HCS.out; simp; omega, hown1, HX, hbw9⟩
      case measure => simp [intOf]; omega
    · obtain rfl : k = n := by omega
      have h1 := hss.out
      rw [List.take_of_length_le (by rw [strs_length]; have := HBL.out; omega)] at h1
      have HX := Lib.hid h1
      clear h1 hss hcs
      go_wp2_with fail
      go_ret
      exact ⟨_, by rw [← HX.out]; exact hown, hbw, rfl⟩
end Go.Proofs.Ytplmbdljhgicfab

/-! Ff8 -/
namespace Go.Proofs.Ytplmbdljhgicfab
open Go.RowKit

theorem OwnS.cut {base : Nat} {w : World} {oa : Option Addr} {m cap : Nat} {xs : List ByteArray} (h : OwnS base w (.slice oa m cap) xs) (n : Nat) (hn : n ≤ xs.length) (hm : xs.length = m) : OwnS base w (.slice oa n cap) (xs.take n) := by
  obtain ⟨h1, h2⟩ := h
  have hl : (xs.take n).length = n := by rw [List.length_take]; omega
  unfold OwnS
  rw [hl]
  refine ⟨by simp; omega, ?_⟩
  rcases h2 with ⟨hv, hn0⟩ | ⟨g, cap', cur, hv, hb, hh, r1, r2, r3, r4⟩
  · cases hv
    obtain rfl : n = 0 := by omega
    exact .inl ⟨rfl, rfl⟩
  · cases hv
    refine .inr ⟨g, cap, cur, rfl, hb, hh, by omega, r2, r3, ?_⟩
    rw [List.map_take, ← r4, List.take_take, Nat.min_eq_left (by omega), Nat.mul_one]
def sliceN (v : Value) : Nat := match v with | .slice _ n _ => n | _ => 0
/-- A call that hands back texts of its own, or none. -/
def GivesOwn (ss : List ByteArray) (w : World) (e : Ending) (w' : World) : Prop := ∃ v, OwnS w.heap.size w' v ss ∧ Below w.heap.size w w' ∧ e = .returned v
theorem strip_snoc (ts : List Tr) (k : Nat) (h : k < ts.length) (hl : (ts.getD k .lf).isLf = true) : stripT (ts.take (k + 1)) = stripT (ts.take k) := by
  refine stripT_take (t := ts.getD k .lf) ?_ hl
  rw [List.getD_eq_getElem?_getD, List.getElem?_eq_getElem h]; rfl
theorem strip_end (ts : List Tr) (k : Nat) (h : k < ts.length) (hl : (ts.getD k .lf).isLf = false) : stripT (ts.take (k + 1)) = ts.take (k + 1) := by
  refine stripT_stop (t := ts.getD k .lf) ?_ hl
  rw [List.getD_eq_getElem?_getD, List.getElem?_eq_getElem h]; rfl

set_option maxRecDepth 100000 in
set_option maxHeartbeats 2000000 in
theorem hanging_any (t : Tr) (b : Nat) (w : World) (h : NodeAt w t b) (hc : t.carets ≤ 1000) :
    Calls Try.prog 48 #[.pointer (some ⟨b, 0, none⟩)] w (GivesOwn (strs (hangT t)) w) := by
  have hcall1 : ∀ (args : Array Value) (w : World), (callFunc 99 args).run Try.prog w = .ok (.enter 99 args) w := by intro args w; rfl
  have hcall2 : ∀ (args : Array Value) (w : World), (callFunc 95 args).run Try.prog w = .ok (.enter 95 args) w := by intro args w; rfl
  have hR := fun w' hb => onRight_any w t b w' h hb hc
  have hlen := onR_length t
  have hL := fun v b bs w' hcells hN hb => listOfLeft_any w v b (onR t) bs w' hcells hN hb (onR_nd t) (by omega) hcall1
  have hsum := sides_sum t
  have hT := fun v b bs w' hcells hN hb => listOfText_any w v b ((onR t).map leftT) bs w' hcells hN hb (fun x hx => by rw [onR_left] at hx; have := sumT_mem hx; omega) (by simp; omega) hcall2
  rw [onR_left] at hL hT
  have hsl : (sidesT t).length ≤ 1000 := by omega
  obtain ⟨ts, hts⟩ : ∃ ts, ts = sidesT t := ⟨_, rfl⟩
  have HH : Hid (stripT ts = hangT t) := by show _ = _; rw [hts]; rfl
  rw [← hts] at hL hT hsl
  clear hts hsum hlen hcall1 hcall2
  go_enter Try.func48, Try.ntmps48
  go_wp2_with fail
  refine (hR _ (Below.refl _ _)).mono ?_; rintro e w1 ⟨v1, bs1, own1, hn1, hb1, rfl⟩
  go_wp2_with fail
  refine (hL v1 _ bs1 _ own1.cells hn1 hb1).mono ?_; rintro e w2 ⟨v2, bs2, own2, hn2, hb2, rfl⟩
  replace hb2 := nx hb1 hb2
  go_wp2_with fail
  refine (hT v2 _ bs2 _ own2.cells hn2 hb2).mono ?_; rintro e w3 ⟨v3, own3, hb3, rfl⟩
  replace own3 := own3.mono hb2.size
  replace hb3 := nx hb2 hb3
  clear hR hL hT own1 own2 hn1 hn2 hb1 hb2
  go_wp2_with fail
  go_loopw [3] (fun u wr => ∃ k : Nat, k ≤ ts.length ∧ OwnS w.heap.size w3 u ((strs ts).take k) ∧ Hid (stripT ts = stripT (ts.take k)) ∧ wr = w3) (fun u _ => sliceN u)
  case atStart => exact ⟨ts.length, Nat.le_refl _, by rw [List.take_of_length_le (by rw [strs_length]; exact Nat.le_refl _)]; exact own3, by show _ = _; rw [List.take_length], rfl⟩
  case round =>
    obtain ⟨k, hk, hown, he, rfl⟩ := hrel
    have hkl : ((strs ts).take k).length = k := by rw [List.length_take, strs_length]; omega
    obtain ⟨oa, cap, rfl, hcl, hcm, hcc⟩ := hown.cells.form0
    unfold maxLen at hcm
    rw [hkl] at hcl hcc hown ⊢
    cases k with
    | zero =>
      have HE : Hid (strs (hangT t) = []) := by
        show strs (hangT t) = []
        rw [← HH.out, he.out]; rfl
      clear he hcc hkl
      go_wp2_with fail
      go_ret
      exact ⟨_, by rw [HE.out]; exact hown, hb3, rfl⟩
    | succ k =>
      obtain ⟨g, rfl, _, hgl, c1⟩ := hcc k (by omega)
      have hkt : k < ts.length := by omega
      rw [show ((strs ts).take (k + 1)).getD k ⟨#[]⟩ = (ts.getD k .lf).str by rw [List.getD_eq_getElem?_getD, List.getElem?_take_of_lt (by omega), ← List.getD_eq_getElem?_getD]; exact map_getD ts k hkt] at c1
      have hd := str_dot (ts.getD k .lf)
      have ei : ((k + 1 : Nat) : Int) - 1 = (k : Int) := by omega
      have hd1 : (0 : Int) ≤ (k : Int) := by omega
      have hd2 : (k : Int) < ((k + 1 : Nat) : Int) := by omega
      have hd3 : (0 : Int) < ((k + 1 : Nat) : Int) := by omega
      have hkc : k ≤ cap := by omega
      cases hlf : (ts.getD k .lf).isLf with
      | true =>
        have HN : Hid (stripT ts = stripT (ts.take k)) := by show _ = _; rw [he.out, strip_snoc ts k hkt hlf]
        rw [hlf] at hd
        have hown1 := OwnS.cut hown k (by omega) hkl
        rw [List.take_take, Nat.min_eq_left (by omega)] at hown1
        generalize (ts.getD k .lf).str = x at *
        clear hlf he hcc hkl hown
        go_wp2_with fail
        go_roundw
        case rel => exact ⟨k, by omega, hown1, HN, trivial⟩
        case measure => simp [sliceN]
      | false =>
        have HE : Hid (strs (hangT t) = (strs ts).take (k + 1)) := by
          show strs (hangT t) = _
          rw [← HH.out, he.out, strip_end ts k hkt hlf]; simp [strs]
        rw [hlf] at hd
        generalize (ts.getD k .lf).str = x at *
        clear hlf he hcc hkl
        go_wp2_with fail
        go_ret
        exact ⟨_, by rw [HE.out]; exact hown, hb3, rfl⟩

theorem treeOf_great {t : Tr} (h : 8 < t.carets) : treeOf t.str = none := by
  cases hf : treeOf t.str with
  | none => rfl
  | some u =>
    obtain ⟨h1, h2⟩ := treeOf_some hf
    have h3 : t.text = u.text := by rw [← Tr.str_list, ← Tr.str_list, h1]
    have : t = u := (Tr.text_inj (t := t) (u := u) (r := []) (q := []) (by rw [h3])).1
    rw [this] at h; omega
theorem forOf_any (ts : List Tr) : forOf (strs ts) = if okF ts = true then some ts else none := by
  by_cases h : okF ts = true
  · rw [if_pos h]; exact forOf_map h
  · rw [if_neg h]
    cases hf : forOf (strs ts) with
    | none => rfl
    | some us =>
      obtain ⟨h1, h2, h3, h4⟩ := forOf_some hf
      exfalso
      have h5 : ts = us := by
        have hi : ∀ (a c : List Tr), a.map Tr.str = c.map Tr.str → a = c := by
          intro a
          induction a with
          | nil => intro c hc; cases c with | nil => rfl | cons x c => cases hc
          | cons x a ih =>
            intro c hc
            cases c with
            | nil => cases hc
            | cons y c =>
              rw [List.map_cons, List.map_cons] at hc
              injection hc with e1 e2
              have e3 : x.text = y.text := by rw [← Tr.str_list, ← Tr.str_list, e1]
              have e4 : x = y := (Tr.text_inj (t := x) (u := y) (r := []) (q := []) (by rw [e3])).1
              rw [e4, ih c e2]
        exact hi ts us h1
      subst h5
      exact h (okF_iff.2 ⟨h2, h3, h4⟩)
theorem sz_strs {us : List Tr} (h : sumT us ≤ 1000) : ∀ x ∈ strs us, x.size ≤ 1048576 := by
  intro x hx
  obtain ⟨u, hu, rfl⟩ := List.mem_map.1 hx
  have := sumT_mem hu
  rw [u.str_size]; omega

set_option maxRecDepth 100000 in
theorem withinLimitsF_any (v : Value) (b : Nat) (ts : List Tr) (w : World) (h : CellsS b w v (strs ts)) (hs : sumT ts ≤ 1000) (hl : ts.length ≤ 1000) :
    Calls Try.prog 47 #[v] w fun e w' => e = .returned (.tuple #[if okF ts = true then v else .slice none 0 0, .bool (okF ts)]) ∧ Below w.heap.size w w' := by
  have hG := implIsForest_b v b (strs ts) w h (sz_strs hs) (by rw [strs_length]; omega)
  rw [forOf_any] at hG
  obtain ⟨oa, cap, rfl, hcl, hcm, _⟩ := h.form0
  unfold maxLen at hcm
  rw [strs_length] at *
  cases hk : okF ts with
  | true =>
    rw [if_pos hk] at hG
    have hG' : Calls Try.prog 56 #[.slice oa ts.length cap] w (Gives (.bool true) w) := hG
    rw [if_pos rfl]
    clear hG h
    go_enter Try.func47, Try.ntmps47
    go_wp2_with fail
    refine hG'.mono ?_; rintro e w1 ⟨rfl, hb1⟩
    go_wp2_with fail
    go_ret2
    exact ⟨rfl, hb1⟩
  | false =>
    rw [hk] at hG
    have hG' : Calls Try.prog 56 #[.slice oa ts.length cap] w (Gives (.bool false) w) := hG
    rw [if_neg (by decide)]
    clear hG h
    go_enter Try.func47, Try.ntmps47
    go_wp2_with fail
    refine hG'.mono ?_; rintro e w1 ⟨rfl, hb1⟩
    go_wp2_with fail
    go_ret2
    exact ⟨rfl, hb1⟩

set_option maxRecDepth 100000 in
set_option maxHeartbeats 2000000 in
theorem wdShort_none (w : World) : Calls Try.prog 92 #[.slice none 0 0] w (GivesOwn [] w) := by
  obtain ⟨i0, hi, hz0, hz1, hz2⟩ := info_parts info_str
  have hown0 := ownsRow_empty w 9
  have hb0 := nxAlloc (Below.refl w.heap.size w) (.cells #[] 9 (0, 0))
  have hsrc : SrcV (w.alloc (.cells #[] 9 (0, 0))) (.slice none 0 0) ([] : List Value) := .inl ⟨rfl, rfl⟩
  have hone : ∀ y ∈ ([] : List Value), y.oneCell' = true := by intro y hy; cases hy
  go_enter Try.func92, Try.ntmps92
  go_wp2_with fail
  go_loop [3] (fun i => i = .int .i64 0) (fun _ => 0)
  case atStart => exact rfl
  case round =>
    obtain rfl := hrel
    go_wp2_with (at_builtin; refine wpList_appSrc rfl (.tmp 18) (.tmp 21) 22 rfl w.heap.size 9 i0 (.string ⟨#[]⟩) 16 Try.underlying22 hi hz0 hz1 hz2 rfl _ 0 _ rfl hown0 _ _ rfl hsrc hone (by unfold maxLen; simp) (by simp) (by simp) ?_; intro w1v w1 w1o w1b w1n)
    have HF : OwnS w.heap.size w1 w1v [] := w1o
    clear w1o w1n
    go_wp2_with fail
    go_ret
    exact ⟨_, HF, hb0.trans w1b, rfl⟩
theorem wdShort_own (v : Value) (b : Nat) (ts : List Tr) (w : World) (h : CellsS b w v (strs ts)) (hl : ts.length ≤ 1000) :
    Calls Try.prog 92 #[v] w (GivesOwn (strs (stripT ts)) w) := by
  have h0 := h
  rcases h with ⟨rfl, hn⟩ | ⟨g, cap, rfl, _⟩
  · have : ts = [] := by
      have := congrArg List.length hn
      rw [strs_length] at this
      exact List.length_eq_zero_iff.1 this
    subst this
    exact wdShort_none w
  · rw [strs_length] at *
    refine (wdShort_any b g cap ts w h0 hl).mono ?_
    rintro e w' ⟨g', cap', ho, hb, he⟩
    exact ⟨_, ho, hb, he⟩

set_option maxRecDepth 100000 in
theorem foIf_any (v : Value) (b : Nat) (ts : List Tr) (w : World) (h : CellsS b w v (strs ts)) (hs : sumT ts ≤ 1000) (hl : ts.length ≤ 1000) :
    Calls Try.prog 43 #[v] w (AnsS2 (if okF (stripT ts) = true then strs (stripT ts) else []) (okF (stripT ts)) w) := by
  have hW := wdShort_own v b ts w h hl
  have hsl := stripT_length ts
  have hss := sumT_strip ts
  generalize stripT ts = us at *
  have hG := fun v b w h => foGood_any v b (strs us) w h (sz_strs (by omega)) (by rw [strs_length]; omega)
  rw [forOf_any] at hG
  obtain ⟨oa, cap, rfl, hcl, hcm, _⟩ := h.form0
  unfold maxLen at hcm
  cases hk : okF us with
  | true =>
    rw [if_pos hk] at hG
    have hG' : ∀ v b w, CellsS b w v (strs us) → Calls Try.prog 39 #[v] w (Gives (.bool true) w) := hG
    rw [if_pos rfl]
    clear hG h hsl hss hk
    go_enter Try.func43, Try.ntmps43
    go_wp2_with fail
    refine hW.mono ?_; rintro e w1 ⟨v1, own1, hb1, rfl⟩
    go_wp2_with fail
    refine (hG' v1 _ _ own1.cells).mono ?_; rintro e w2 ⟨rfl, hb2⟩
    go_wp2_with fail
    go_ret2
    exact ⟨_, own1.keep hb2, nx hb1 hb2, rfl⟩
  | false =>
    rw [hk] at hG
    have hG' : ∀ v b w, CellsS b w v (strs us) → Calls Try.prog 39 #[v] w (Gives (.bool false) w) := hG
    rw [if_neg (by decide)]
    clear hG h hsl hss hk
    go_enter Try.func43, Try.ntmps43
    go_wp2_with fail
    refine hW.mono ?_; rintro e w1 ⟨v1, own1, hb1, rfl⟩
    go_wp2_with fail
    refine (hG' v1 _ _ own1.cells).mono ?_; rintro e w2 ⟨rfl, hb2⟩
    go_wp2_with fail
    go_ret2
    exact ⟨_, OwnS.nil _ _, nx hb1 hb2, rfl⟩

end Go.Proofs.Ytplmbdljhgicfab

/-! Ff9 -/
namespace Go.Proofs.Ytplmbdljhgicfab
open Go.RowKit

def joinFo (o p : Option (List Tr)) : Option (List ByteArray) :=
  match o, p with
  | some us, some vs => if okF (joinF us vs) = true then some (strs (joinF us vs)) else none
  | _, _ => none
def comFo (o p : Option (List Tr)) : Option (List ByteArray) :=
  match o, p with
  | some us, some vs => some (strs (stripT (comF us vs)))
  | _, _ => none
theorem joinFo_ans (us vs : List Tr) (h : lastB us = true) (k : lastB vs = true) : AnsSs (joinFo (some us) (some vs)) = AnsS2 (if okF (stripT (joinL us vs)) = true then strs (stripT (joinL us vs)) else []) (okF (stripT (joinL us vs))) := by
  rw [joinL_eq, (lastB_strip _).1 (joinF_last us vs h k)]
  unfold AnsSs joinFo
  cases h : okF (joinF us vs) <;> simp [h]
theorem comF_ok {us : List Tr} (vs : List Tr) (h : us.length ≤ 8) (k : sumT us ≤ 8) : okF (stripT (comF us vs)) = true := by
  have h1 := comF_length us vs
  have h2 := comF_sum us vs
  have h3 := stripT_length (comF us vs)
  have h4 := sumT_strip (comF us vs)
  exact okF_iff.2 ⟨by omega, by omega, stripT_lastB _⟩
theorem comFo_ans (us vs : List Tr) (h : us.length ≤ 8) (k : sumT us ≤ 8) : AnsSs (comFo (some us) (some vs)) = AnsS2 (if okF (stripT (comL us vs)) = true then strs (stripT (comL us vs)) else []) (okF (stripT (comL us vs))) := by
  rw [comL_strip, comF_ok vs h k, if_pos rfl]
  rfl
theorem joinF_strip {us vs : List Tr} (h : lastB us = true) (k : lastB vs = true) : stripT (joinF us vs) = joinF us vs := (lastB_strip _).1 (joinF_last us vs h k)
theorem take_strs1 (ts : List Tr) (k : Nat) (h : k < ts.length) : strs (ts.take (k + 1)) = strs (ts.take k) ++ [(ts.getD k .lf).str] := by
  unfold strs
  rw [List.take_succ_eq_append_getElem h, List.map_append]
  simp [h]
theorem joinL_get (us vs : List Tr) (k : Nat) (h : k < max us.length vs.length) : (joinL us vs).getD k .lf = (us.getD k .lf).join (vs.getD k .lf) := by
  unfold joinL
  rw [List.getD_eq_getElem?_getD, List.getElem?_map, List.getElem?_range h]; rfl
theorem comL_get (us vs : List Tr) (k : Nat) (h : k < max us.length vs.length) : (comL us vs).getD k .lf = (us.getD k .lf).com (vs.getD k .lf) := by
  unfold comL
  rw [List.getD_eq_getElem?_getD, List.getElem?_map, List.getElem?_range h]; rfl
theorem joinL_length (us vs : List Tr) : (joinL us vs).length = max us.length vs.length := by simp [joinL]
theorem comL_length (us vs : List Tr) : (comL us vs).length = max us.length vs.length := by simp [comL]
theorem comL_sum (us vs : List Tr) : sumT (comL us vs) ≤ sumT us := by
  obtain ⟨m, hm⟩ := comL_eq us vs
  rw [hm, sumT_app, sumT_lf]
  have := comF_sum us vs
  omega
theorem carets_at (us : List Tr) (k : Nat) (h : sumT us ≤ 60) : (us.getD k .lf).carets ≤ 60 := by
  by_cases hj : k < us.length
  · rw [List.getD_eq_getElem?_getD, List.getElem?_eq_getElem hj]
    have := sumT_mem (List.getElem_mem hj); simp; omega
  · rw [List.getD_eq_getElem?_getD, List.getElem?_eq_none (by omega)]; simp [Tr.carets]

end Go.Proofs.Ytplmbdljhgicfab

/-! FfU -/
namespace Go.Proofs.Ytplmbdljhgicfab

theorem quoF_cons (u : Tr) (us vs : List Tr) : quoF (u :: us) vs = u.subs (vs.getD 0 .lf) ++ quoF us vs.tail := by cases vs <;> rfl
def quoN (us vs : List Tr) (k : Nat) : List Tr := (List.range k).flatMap fun j => (us.getD j .lf).subs (vs.getD j .lf)
theorem quoN_succ (us vs : List Tr) (k : Nat) : quoN us vs (k + 1) = quoN us vs k ++ (us.getD k .lf).subs (vs.getD k .lf) := by
  unfold quoN; rw [List.range_succ, List.flatMap_append]; simp
theorem quoN_cons (u : Tr) (us vs : List Tr) (k : Nat) : quoN (u :: us) vs (k + 1) = u.subs (vs.getD 0 .lf) ++ quoN us vs.tail k := by
  unfold quoN
  rw [List.range_succ_eq_map, List.flatMap_cons, List.flatMap_map]
  congr 1
  congr 1
  funext j
  cases vs <;> simp
theorem quoN_nil (vs : List Tr) : quoN [] vs vs.length = vs := by
  have h : ∀ k, k ≤ vs.length → quoN [] vs k = vs.take k := by
    intro k
    induction k with
    | zero => intro _; rfl
    | succ k ih =>
      intro hk
      rw [quoN_succ, ih (by omega), List.take_succ_eq_append_getElem (by omega)]
      congr 1
      simp [Tr.subs, List.getElem?_eq_getElem (show k < vs.length by omega)]
  rw [h _ (Nat.le_refl _), List.take_length]
theorem quoF_eq (us : List Tr) : ∀ vs : List Tr, quoF us vs = quoN us vs (max us.length vs.length) := by
  induction us with
  | nil => intro vs; rw [List.length_nil, Nat.zero_max, quoN_nil]; rfl
  | cons u us ih =>
    intro vs
    rw [quoF_cons, ih, List.length_cons]
    have e : max (us.length + 1) vs.length = max us.length vs.tail.length + 1 := by cases vs <;> simp
    rw [e, quoN_cons]
theorem sumC_eq (us : List Tr) : sumC us = sumT us := rfl
theorem quoF_bound {us vs : List Tr} (h : lastB us = true) (k : partF us vs = true) : sumT (quoF us vs) ≤ (combT vs).carets ∧ (quoF us vs).length ≤ (combT us).leaves + (combT vs).carets := by
  obtain ⟨A, E, h1, h2⟩ := subs_comb us vs h k
  have h3 := below_carets (combT us) (combT vs) (by rw [part_comb us vs h]; exact k)
  rw [h1, sumC_append, sumC_cons] at h3
  have h4 := sides_sum E
  rw [← h2, sumT_app, List.length_append]
  rw [sumC_eq] at h3
  have h5 := h3.2
  simp at h5
  omega
theorem quoN_part {us vs : List Tr} (k : Nat) : sumT (quoN us vs k) ≤ sumT (quoN us vs (k + 1)) := by
  rw [quoN_succ, sumT_app]; omega
theorem quoN_len (us vs : List Tr) : ∀ m k, k ≤ m → (quoN us vs k).length ≤ (quoN us vs m).length := by
  intro m
  induction m with
  | zero => intro k h; obtain rfl : k = 0 := by omega
            exact Nat.le_refl _
  | succ m ih =>
    intro k h
    by_cases hk : k = m + 1
    · subst hk; exact Nat.le_refl _
    · have := ih k (by omega)
      rw [quoN_succ, List.length_append]; omega
end Go.Proofs.Ytplmbdljhgicfab

/-! Build -/
namespace Go.Proofs.Ytplmbdljhgicfab
open Go.RowKit

theorem info_byte : (Try.prog.info? 5).map (fun i => (i.zero, i.size, i.bytes)) = some (some (.int .u8 0), 1, 1) := by kernel_rfl
theorem info_bld : (Try.prog.info? 152).map (fun i => i.size) = some 2 := by kernel_rfl
theorem lies_bld : liesAt Try.prog Try.prog.depth 152 (2 / Try.prog.cellsOf 152) 0 152 1 = true := by kernel_rfl
theorem cells_byte : Try.prog.cellsOf 5 = 1 := by kernel_rfl

set_option maxRecDepth 100000 in
theorem copyCheck_fresh (b : Nat) (w : World) (h0 : w.cell? ⟨b, 0, none⟩ = some (.pointer none)) (hsh : w.shape? b = some (152, 2)) (hfz : w.frozen? ⟨b, 0, none⟩ = false) :
    Calls Try.prog 164 #[.pointer (some ⟨b, 0, none⟩)] w fun e w' => e = .returned (.tuple #[]) ∧ w' = w.setCell ⟨b, 0, none⟩ (.pointer (some ⟨b, 0, none⟩)) := by
  obtain ⟨j, hj, hjs⟩ := Option.map_eq_some_iff.1 info_bld
  go_enter Try.func164, Try.ntmps164
  go_wp2
  rw [Lib.run_to_unsafe w ⟨b, 0, none⟩ Try.underlying150 Try.underlying179 hj (by rw [hjs]; decide) hsh (Nat.zero_lt_succ 1)]
  simp only [Result.andThen]
  rw [Oper.upon_value]
  go_wp2
  rw [run_callFunc_extern Try.func175 (by kernel_rfl) (by kernel_rfl) (by kernel_rfl) (e := Extern.AbiNoEscape.same) (by kernel_rfl)]
  rw [Lib.run_noEscape]
  simp only [Result.andThen]
  rw [Oper.upon_value]
  go_wp2
  rw [Lib.run_from_unsafe w ⟨b, 0, none⟩ Try.underlying179 Try.underlying150 hj hsh lies_bld]
  simp only [Result.andThen]
  rw [Oper.upon_value]
  go_wp2
  go_end0
  exact ⟨rfl, rfl⟩

set_option maxRecDepth 100000 in
theorem copyCheck_used (b : Nat) (w : World) (h0 : w.cell? ⟨b, 0, none⟩ = some (.pointer (some ⟨b, 0, none⟩))) :
    Calls Try.prog 164 #[.pointer (some ⟨b, 0, none⟩)] w fun e w' => e = .returned (.tuple #[]) ∧ w' = w := by
  obtain ⟨j, hj, _⟩ := Option.map_eq_some_iff.1 info_bld
  go_enter Try.func164, Try.ntmps164
  go_wp2
  rw [Lib.run_neq_ptr_same w _ Try.underlying150 hj]
  go_wp2
  go_end0
  exact ⟨rfl, rfl⟩

/-- A builder in the block b that holds the bytes bs; its row is of blocks from B on. -/
abbrev IsBld (B b : Nat) (bs : List Value) (w : World) : Prop := Lib.IsBuilder 152 5 B b bs w

theorem copyCheck_any (B b : Nat) (bs : List Value) (w : World) (h : IsBld B b bs w) :
    Calls Try.prog 164 #[.pointer (some ⟨b, 0, none⟩)] w fun e w' => e = .returned (.tuple #[]) ∧ (Lib.BuilderAt 152 5 B b (.pointer (some ⟨b, 0, none⟩)) bs w' ∧ Below B w w') := by
  rcases h with h | h
  · refine (copyCheck_fresh b w h.cell0 h.shape h.frozen0).mono ?_
    rintro e w' ⟨rfl, rfl⟩
    exact ⟨rfl, h.used _, (Below.refl B w).setCell (p := ⟨b, 0, none⟩) h.1 _⟩
  · refine (copyCheck_used b w h.cell0).mono ?_
    rintro e w' ⟨rfl, rfl⟩
    exact ⟨rfl, h, Below.refl B _⟩

set_option maxHeartbeats 2000000 in
set_option maxRecDepth 100000 in
theorem writeByte_any (B b : Nat) (bs : List Value) (c : Int) (w : World) (h : IsBld B b bs w) (hlen : bs.length + 1 ≤ 140737488355328) (hBw : B ≤ w.heap.size) :
    Calls Try.prog 143 #[.pointer (some ⟨b, 0, none⟩), .int .u8 c] w fun e w' => e = .returned .nilIface ∧ IsBld B b (bs ++ [.int .u8 c]) w' ∧ Below B w w' := by
  obtain ⟨i0, hi, hz0, hz1, hz2⟩ := info_parts info_byte
  go_enter Try.func143, Try.ntmps143
  go_wp2_with fail
  refine (copyCheck_any B b bs _ h).mono ?_
  rintro e w1 ⟨rfl, h1, hb1⟩
  obtain ⟨hB, v, hbk, hown, hne⟩ := h1
  have c0 : w1.cell? ⟨b, 0, none⟩ = some (.pointer (some ⟨b, 0, none⟩)) := by rw [Lib.cell_of_heap hbk]; rfl
  have c1 : w1.cell? ⟨b, 1, none⟩ = some v := by rw [Lib.cell_of_heap hbk]; rfl
  go_wp2_with (at_builtin; refine wpList_append_own _ rfl _ _ 117 rfl B 5 i0 (.int .u8 0) 1 1 Try.underlying117 hi hz0 hz1 hz2 rfl (by decide) _ _ _ rfl (hown.alloc _) ⟨w1.heap.size, 0, none⟩ 1 1 [.int .u8 c] rfl rfl ?c1 ?c2 ?c3 ?c4 ?c5 ?_)
  case c1 =>
    intro j u hj
    match j, hj with
    | 0, hj => simp at hj; subst hj; simp [Addr.add]
  case c2 => intro u hu; simp at hu; subst hu; rfl
  case c3 => unfold maxLen; omega
  case c4 => omega
  case c5 => have := hb1.size; simp; omega
  intro v' w2 hown' hgrow _
  have hlt : b < w1.heap.size := lt_of_block hbk
  have hb2 : w2.heap[b]? = some (.cells #[.pointer (some ⟨b, 0, none⟩), v] 152 (0, 0)) := by
    rw [hgrow.block b (by simp; omega) (fun e => hne e.symm), Lib.alloc_old w1 _ b hlt]
    exact hbk
  have d0 : w2.cell? ⟨b, 0, none⟩ = some (.pointer (some ⟨b, 0, none⟩)) := by rw [Lib.cell_of_heap hb2]; rfl
  have d1 : w2.cell? ⟨b, 1, none⟩ = some v := by rw [Lib.cell_of_heap hb2]; rfl
  have f1 : w2.frozen? ⟨b, 1, none⟩ = false := Lib.frozen_of_heap hb2 1
  obtain ⟨g, cap, rfl⟩ : ∃ g cap, v' = .slice (some ⟨g, 0, none⟩) (bs.length + 1) cap := by
    rcases hown'.2 with ⟨_, h0⟩ | ⟨g, cap, cur, hv, _⟩
    · omega
    · exact ⟨g, cap, hv⟩
  go_wp2
  go_ret
  refine ⟨rfl, ?_, ?_⟩
  · exact .inr (Lib.BuilderAt.put (T := 152) (e := 5) hB hb2 (bs' := bs ++ [.int .u8 c]) (by simpa using hown') (by decide))
  · exact ((hb1.alloc (by have := hb1.size; omega) _).grown hgrow (by have := hb1.size; simp; omega) (fun k hk => (hown.lt k hk).1)).setCell (p := ⟨b, 1, none⟩) hB _

set_option maxHeartbeats 2000000 in
set_option maxRecDepth 100000 in
theorem writeString_any (B b : Nat) (bs : List Value) (s : ByteArray) (w : World) (h : IsBld B b bs w) (hlen : bs.length + s.size ≤ 140737488355328) (hBw : B ≤ w.heap.size) :
    Calls Try.prog 144 #[.pointer (some ⟨b, 0, none⟩), .string s] w fun e w' => e = .returned (.tuple #[.int .i64 s.size, .nilIface]) ∧ IsBld B b (bs ++ Lib.strCells s) w' ∧ Below B w w' := by
  obtain ⟨i0, hi, hz0, hz1, hz2⟩ := info_parts info_byte
  go_enter Try.func144, Try.ntmps144
  go_wp2_with fail
  refine (copyCheck_any B b bs _ h).mono ?_
  rintro e w1 ⟨rfl, h1, hb1⟩
  obtain ⟨hB, v, hbk, hown, hne⟩ := h1
  have c0 : w1.cell? ⟨b, 0, none⟩ = some (.pointer (some ⟨b, 0, none⟩)) := by rw [Lib.cell_of_heap hbk]; rfl
  have c1 : w1.cell? ⟨b, 1, none⟩ = some v := by rw [Lib.cell_of_heap hbk]; rfl
  go_wp2_with (at_builtin; refine Lib.wpList_append_own_string _ rfl _ _ 117 9 rfl B 5 i0 Try.underlying117 Try.underlying9 hi hz0 hz1 hz2 _ _ _ rfl hown s rfl ?c3 ?c4 ?c5 ?_)
  case c3 => unfold maxLen; omega
  case c4 => omega
  case c5 => have := hb1.size; omega
  intro v' w2 hown' hgrow _
  have hlt : b < w1.heap.size := lt_of_block hbk
  have hb2 : w2.heap[b]? = some (.cells #[.pointer (some ⟨b, 0, none⟩), v] 152 (0, 0)) := by
    rw [hgrow.block b hlt (fun e => hne e.symm)]
    exact hbk
  have d0 : w2.cell? ⟨b, 0, none⟩ = some (.pointer (some ⟨b, 0, none⟩)) := by rw [Lib.cell_of_heap hb2]; rfl
  have d1 : w2.cell? ⟨b, 1, none⟩ = some v := by rw [Lib.cell_of_heap hb2]; rfl
  have f1 : w2.frozen? ⟨b, 1, none⟩ = false := Lib.frozen_of_heap hb2 1
  obtain ⟨ao, n', cap, rfl⟩ : ∃ ao n' cap, v' = .slice ao n' cap := by
    rcases hown'.2 with ⟨hv, _⟩ | ⟨g, cap, cur, hv, _⟩
    · exact ⟨_, _, _, hv⟩
    · exact ⟨_, _, _, hv⟩
  go_wp2
  go_ret2
  refine ⟨rfl, ?_, ?_⟩
  · exact .inr (Lib.BuilderAt.put (T := 152) (e := 5) hB hb2 (bs' := bs ++ Lib.strCells s) (by simpa [Lib.strCells_length] using hown') (by decide))
  · exact (hb1.grown hgrow (by have := hb1.size; omega) (fun k hk => (hown.lt k hk).1)).setCell (p := ⟨b, 1, none⟩) hB _

set_option maxHeartbeats 2000000 in
set_option maxRecDepth 100000 in
theorem builderString_any (B b : Nat) (l : List UInt8) (w : World) (h : IsBld B b (Lib.byteCells l) w) (h0 : l ≠ []) :
    Calls Try.prog 145 #[.pointer (some ⟨b, 0, none⟩)] w fun e w' => e = .returned (.string ⟨l.toArray⟩) ∧ Below B w w' := by
  obtain ⟨p, hB, v, hbk, hown, hne⟩ : ∃ p, Lib.BuilderAt 152 5 B b p (Lib.byteCells l) w := by
    rcases h with h | h
    · exact ⟨_, h⟩
    · exact ⟨_, h⟩
  have hl0 : l.length ≠ 0 := by simpa using h0
  rw [Lib.byteCells_length] at hown
  obtain ⟨g, cap, cur, rfl, hbg, hg, hnc, hcm, hcs, htake⟩ : ∃ g cap cur, v = .slice (some ⟨g, 0, none⟩) l.length cap ∧ B ≤ g ∧ w.heap[g]? = some (.cells cur 5 (0, 0)) ∧ l.length ≤ cap ∧ cap ≤ maxLen ∧ cur.size = cap * 1 ∧ cur.toList.take (l.length * 1) = Lib.byteCells l := by
    rcases hown.2 with ⟨_, hz⟩ | ⟨g, cap, cur, hv, r⟩
    · exact absurd hz hl0
    · exact ⟨g, cap, cur, hv, r⟩
  have c1 : w.drew.cell? ⟨b, 1, none⟩ = some (.slice (some ⟨g, 0, none⟩) l.length cap) := by
    have : w.drew.heap[b]? = some (.cells #[p, .slice (some ⟨g, 0, none⟩) l.length cap] 152 (0, 0)) := hbk
    rw [Lib.cell_of_heap this]; rfl
  have hSD : (Builtin.unsafeSliceData_ #[117] 170 #[.slice (some ⟨g, 0, none⟩) l.length cap]).run Try.prog w.drew = .ok (.pointer (some ⟨g, 0, none⟩)) w.drew :=
    Lib.run_unsafeSliceData_row _ _ _ _ _ _ (by omega)
  have hUS : (Builtin.unsafeString_ #[170, 3] 9 #[.pointer (some ⟨g, 0, none⟩), .int .i64 l.length]).run Try.prog w.drew = .ok (.string ⟨l.toArray⟩) (w.drew.freeze ⟨g, 0, none⟩ l.length) := by
    refine Lib.run_unsafeString_row w.drew 170 3 9 5 Try.underlying170 cells_byte g cur.size (by have hg' : w.drew.heap[g]? = some (.cells cur 5 (0, 0)) := hg; simp [World.shape?, hg']) l h0 (by omega) (by unfold maxLen at hcm; omega) ?_
    intro j x hx
    have := hown.cells (g := g) rfl j (.int .u8 x.toNat) (by simp [Lib.byteCells, hx])
    exact this
  clear hown hg htake hbk
  go_enter Try.func145, Try.ntmps145
  go_wp2
  go_region
  all_goals (go_wp2; go_ret; exact ⟨rfl, Lib.below_freeze (Below.drew (Below.refl B w)) (p := ⟨g, 0, none⟩) hbg _⟩)
end Go.Proofs.Ytplmbdljhgicfab

/-! Fill -/
namespace Go.Proofs.Ytplmbdljhgicfab
open Go.RowKit

/-- The texts of what a greater tree has at the leaves of a part of it. -/
def subsS (a g : Tr) : List ByteArray := (a.subs g).map Tr.str
theorem subsS_length (a g : Tr) (h : a.part g = true) : (subsS a g).length = a.leaves := by
  unfold subsS; rw [List.length_map]; exact (below_carets a g h).2

set_option maxRecDepth 100000 in
set_option maxHeartbeats 2000000 in
theorem prParts_any (t : Tr) : ∀ (u : Tr) (w : World), t.part u = true → u.carets ≤ 60 →
    Calls Try.prog 41 #[.string t.str, .string u.str] w (GivesTexts (subsS t u) w) := by
  obtain ⟨i0, hi, hz0, hz1, hz2⟩ := info_parts info_str
  induction t with
  | lf =>
    intro u w hp hu
    go_enter Try.func41, Try.ntmps41
    go_wp2_with fail
    refine (trLeaf_any .lf _).mono ?_; rintro e w1 ⟨rfl, rfl⟩
    simp only [Tr.isLf]
    go_wp2_with fail
    go_ret
    exact ⟨_, 1, OwnS.one _ _, nxAlloc (Below.refl _ _) _, rfl⟩
  | nd l r ihl ihr =>
    intro u w hp hu
    cases u with
    | lf => simp [Tr.part] at hp
    | nd p q =>
      simp only [Tr.part, Bool.and_eq_true] at hp
      obtain ⟨hp1, hp2⟩ := hp
      have hu' : p.carets + q.carets + 1 ≤ 60 := hu
      have ht1 := (below_carets l p hp1).1
      have ht2 := (below_carets r q hp2).1
      have ll := subsS_length l p hp1
      have lr := subsS_length r q hp2
      obtain ⟨A, hA⟩ : ∃ A, A = subsS l p := ⟨_, rfl⟩
      obtain ⟨B, hB⟩ : ∃ B, B = subsS r q := ⟨_, rfl⟩
      have hC : subsS (.nd l r) (.nd p q) = A ++ B := by rw [hA, hB]; simp [subsS, Tr.subs]
      have jl := fun w => ihl p w hp1 (by omega)
      have jr := fun w => ihr q w hp2 (by omega)
      rw [← hA] at ll jl
      rw [← hB] at lr jr
      rw [hC]
      have hAn : A.length ≤ 61 := by rw [ll]; unfold Tr.leaves; omega
      have hBn : B.length ≤ 61 := by rw [lr]; unfold Tr.leaves; omega
      have hBp : 0 < B.length := by rw [lr]; exact leaves_pos r
      have hAp : 0 < A.length := by rw [ll]; exact leaves_pos l
      clear ihl ihr hA hB hC ll lr hp1 hp2
      go_enter Try.func41, Try.ntmps41
      go_wp2_with fail
      refine (trLeaf_any (.nd l r) _).mono ?_; rintro e w1 ⟨rfl, rfl⟩
      simp only [Tr.isLf]
      go_wp2_with fail
      refine (trSides_any l r _ (by omega)).mono ?_; rintro e w1 ⟨rfl, hb1⟩
      go_wp2_with fail
      refine (trSides_any p q _ (by omega)).mono ?_; rintro e w1' ⟨rfl, hb1'⟩
      replace hb1 := nx hb1 hb1'
      clear hb1'
      go_wp2_with fail
      refine (jl _).mono ?_; rintro e w2 ⟨g1, cap1, own1, hb2, rfl⟩
      go_wp2_with fail
      refine (jr _).mono ?_; rintro e w3 ⟨g2, cap2, own2, hb3, rfl⟩
      have hown := (own1.keep hb3).mono hb1.size
      have hbw : Below w.heap.size w w3 := nx (nx hb1 hb2) hb3
      go_wp2_with (at_builtin; refine wpList_append_own _ rfl _ _ 22 rfl w.heap.size 9 i0 (.string ⟨#[]⟩) 1 16 Try.underlying22 hi hz0 hz1 hz2 rfl (by decide) _ _ _ rfl hown ⟨g2, 0, none⟩ B.length cap2 (B.map Value.string) rfl (by simp) (own2.news rfl) (oneS _) (by unfold maxLen; omega) (by omega) hbw.size ?_; intro v' w4 hown' hgrow hnn)
      have hbw' := below_app0 hbw hown (Nat.le_refl _) hgrow
      have hown1 := OwnS.app hown'
      obtain ⟨g, cap, hv⟩ := hown1.shape (by simp; omega)
      have HV := Lib.hid hv
      clear hown hown' hgrow hv hnn
      go_wp2_with fail
      go_ret
      exact ⟨g, cap, by rw [← HV.out]; exact hown1, hbw', by rw [← HV.out]; rfl⟩

set_option maxRecDepth 100000 in
set_option maxHeartbeats 4000000 in
theorem below_any (t : Tr) : ∀ (u : Tr) (b c : Nat) (w : World), NodeAt w t b → NodeAt w u c → t.part u = true → u.carets ≤ 60 →
    Calls Try.prog 46 #[.pointer (some ⟨b, 0, none⟩), .pointer (some ⟨c, 0, none⟩)] w (GivesTexts (subsS t u) w) := by
  obtain ⟨i0, hi, hz0, hz1, hz2⟩ := info_parts info_str
  induction t with
  | lf =>
    intro u b c w h k hp hu
    have H := Lib.hid h
    have K := Lib.hid k
    clear h k
    go_enter Try.func46, Try.ntmps46
    go_wp2_with fail
    refine (isLeaf_any .lf b _ H.out).mono ?_; rintro e w1 ⟨rfl, rfl⟩
    simp only [Tr.isLf]
    go_wp2_with fail
    refine (text_any u c _ K.out (by omega)).mono ?_; rintro e w1 ⟨rfl, d, hw1⟩
    have hb1 : Below w.heap.size w w1 := by rw [hw1]; exact drewB (Below.refl _ _) _
    clear hw1
    go_wp2_with fail
    go_ret
    exact ⟨_, 1, (OwnS.one _ _).mono hb1.size, nxAlloc hb1 _, rfl⟩
  | nd l r ihl ihr =>
    intro u b c w h k hp hu
    cases u with
    | lf => simp [Tr.part] at hp
    | nd p q =>
      simp only [Tr.part, Bool.and_eq_true] at hp
      obtain ⟨hp1, hp2⟩ := hp
      have hu' : p.carets + q.carets + 1 ≤ 60 := hu
      have ht1 := (below_carets l p hp1).1
      have ht2 := (below_carets r q hp2).1
      have ll := subsS_length l p hp1
      have lr := subsS_length r q hp2
      obtain ⟨A, hA⟩ : ∃ A, A = subsS l p := ⟨_, rfl⟩
      obtain ⟨B, hB⟩ : ∃ B, B = subsS r q := ⟨_, rfl⟩
      have hC : subsS (.nd l r) (.nd p q) = A ++ B := by rw [hA, hB]; simp [subsS, Tr.subs]
      have jl := fun b c w h k => ihl p b c w h k hp1 (by omega)
      have jr := fun b c w h k => ihr q b c w h k hp2 (by omega)
      rw [← hA] at ll jl
      rw [← hB] at lr jr
      rw [hC]
      have hAn : A.length ≤ 61 := by rw [ll]; unfold Tr.leaves; omega
      have hBn : B.length ≤ 61 := by rw [lr]; unfold Tr.leaves; omega
      have hBp : 0 < B.length := by rw [lr]; exact leaves_pos r
      have hAp : 0 < A.length := by rw [ll]; exact leaves_pos l
      have H := Lib.hid h
      obtain ⟨bl, br, h, hl, hr⟩ := h
      obtain ⟨cl, cr, k, kl, kr⟩ := k
      have h1 := two_left h
      have h2 := two_right h
      have k1 := two_left k
      have k2 := two_right k
      have hb0 := Below.refl w.heap.size w
      clear h k ihl ihr hA hB hC ll lr hp1 hp2
      go_enter Try.func46, Try.ntmps46
      go_wp2_with fail
      refine (isLeaf_any (.nd l r) b _ H.out).mono ?_; rintro e w1 ⟨rfl, rfl⟩
      simp only [Tr.isLf]
      go_wp2_with fail
      go_region_held3 (fun w' => w'.cell? ⟨b, 0, none⟩ = some (.pointer (some ⟨bl, 0, none⟩)) ∧ w'.cell? ⟨b, 1, none⟩ = some (.pointer (some ⟨br, 0, none⟩)) ∧ w'.cell? ⟨c, 0, none⟩ = some (.pointer (some ⟨cl, 0, none⟩)) ∧ w'.cell? ⟨c, 1, none⟩ = some (.pointer (some ⟨cr, 0, none⟩)))
        (first
          | exact ⟨h1, h2, k1, k2⟩
          | exact ⟨q1, q2, q3, q4⟩
          | exact ⟨s1, s2, s3, s4⟩
          | exact ⟨r1, r2, r3, r4⟩)
        (first
          | (go_at_call_of 46 (some (⟨bl, 0, none⟩ : Addr)); refine (jl bl cl _ ?_ ?_).mono ?_; exact hl.keep hb0.drew; exact kl.keep hb0.drew; rintro e w1 ⟨g1, cap1, own1, hb1, rfl⟩; have hb1' := nx hb0.drew hb1; obtain ⟨q1, q2⟩ := below_two hb1' h1 h2; obtain ⟨q3, q4⟩ := below_two hb1' k1 k2)
          | (go_at_call_of 46 (some (⟨br, 0, none⟩ : Addr)); refine (jr br cr _ ?_ ?_).mono ?_; exact hr.keep hb1'; exact kr.keep hb1'; rintro e w2 ⟨g2, cap2, own2, hb2, rfl⟩; have hb2' := nx hb1' hb2; obtain ⟨s1, s2⟩ := below_two hb2' h1 h2; obtain ⟨s3, s4⟩ := below_two hb2' k1 k2; have hown := (own1.keep hb2).mono hb0.drew.size)
          | (refine step_append_lies _ (by rfl) _ _ _ (by rfl) w.heap.size 9 i0 _ 1 16 Try.underlying22 hi hz0 hz1 hz2 rfl (by omega) (.slice (some ⟨g1, 0, none⟩) A.length cap1) A.length (A.map Value.string) (by rfl) hown ⟨g2, 0, none⟩ B.length cap2 (B.map Value.string) (by rfl) (by simp) (own2.news rfl) (oneS _) hBp (by unfold maxLen; omega) (by omega) hb2'.size w2.heap.size (by rfl) ?_; intro gg cap w3 hown1 hgrow hat hlt; have hb3 := below_app0 hb2' hown (Nat.le_refl _) hgrow; obtain ⟨r1, r2⟩ := below_two hb3 h1 h2; obtain ⟨r3, r4⟩ := below_two hb3 k1 k2))
      go_wp2_with fail
      go_ret
      exact ⟨gg, cap, by rw [List.length_append]; exact OwnS.app hown1, hb3, by rw [List.length_append]; rfl⟩

/-! Texts in place of leaves. -/
theorem CellsS.form {b1 : Nat} {w : World} {v : Value} {xs : List ByteArray} (h : CellsS b1 w v xs) :
    ∃ oa cap, v = .slice oa xs.length cap ∧ xs.length ≤ cap ∧ cap ≤ maxLen ∧ ∀ i, i < xs.length → ∃ g, oa = some ⟨g, 0, none⟩ ∧ b1 ≤ g ∧ g < w.heap.size ∧ w.cell? ⟨g, i, none⟩ = some (.string (xs.getD i ⟨#[]⟩)) := by
  rcases h with ⟨rfl, rfl⟩ | ⟨g, cap, rfl, h1, h2, h3, h4, h5, _⟩
  · exact ⟨none, 0, rfl, Nat.le_refl _, Nat.zero_le _, fun i hi => by simp at hi⟩
  · exact ⟨some ⟨g, 0, none⟩, cap, rfl, h3, h4, fun i hi => ⟨g, rfl, h1, h2, h5 i hi⟩⟩

theorem fillL_length : ∀ (l : List UInt8) (us : List ByteArray), (fillL l us).length ≤ l.length + (us.map ByteArray.size).sum := by
  intro l
  induction l with
  | nil => intro us; simp [fillL]
  | cons c r ih =>
    intro us
    rw [fillL]
    split
    · cases us with
      | nil => have := ih []; simp at *; omega
      | cons u us =>
        have := ih us
        have hu : u.data.toList.length = u.size := (Lib.size_eq u).symm
        simp at *; omega
    · have := ih us; simp at *; omega
theorem fillL_ne {l : List UInt8} {us : List ByteArray} (h : ∃ c r, l = c :: r ∧ c ≠ 46) : fillL l us ≠ [] := by
  obtain ⟨c, r, rfl, hc⟩ := h
  rw [fillL, if_neg hc]; simp
end Go.Proofs.Ytplmbdljhgicfab

/-! HeldW -/
namespace Go.Proofs.Ytplmbdljhgicfab
open Go.RowKit

section
variable {P : Program} {ops : Array Oper} {Q : Exit → Act → World → Prop} {md : Region.Mode}

theorem held_mono {S S' : World → Prop} (hSS : ∀ w, S' w → S w) : ∀ (fuel : Nat) (listed : Array Bool) (a : Act) (w : World),
    wpAnyH P md ops Q S' fuel listed a w → wpAnyH P md ops Q S fuel listed a w
  | 0, _, _, _, h => h
  | fuel + 1, _, _, _, h => ⟨h.1, fun i hi => wpOp_mono (fun a' w' h' => ⟨hSS _ h'.1, held_mono hSS fuel _ a' w' h'.2⟩) (h.2 i hi)⟩

/-- One operation alone may come up; behind it the condition may be another one. -/
theorem held_one {S : World → Prop} {fuel : Nat} {listed : Array Bool} {a : Act} {w : World} (i : Nat) {o : Oper} (ho : ops[i]? = some o) (hr : Region.ready md ops listed = [i])
    (h : ∀ K' : Act → World → Prop, Shut (∀ (S' : World → Prop) a w, (∀ w, S' w → S w) → S' w → wpAnyH P md ops Q S' fuel (listed.setIfInBounds i true) a w → K' a w) → if Region.wanted o (yielded ops a.tmps) = true then Oper.wp P o a w K' Q else K' (a.put o.dst undef) w) :
    wpAnyH P md ops Q S (fuel + 1) listed a w :=
  wpAnyH_ready hr (by simp) (AllReadyH.cons ho (fun K hK => h K (fun _ a w hSS hS hW => hK.out a w (hSS _ hS) (fun _ => held_mono hSS _ _ _ _ hW))) AllReadyH.nil)
/-- Two operations may come up, whichever first. -/
theorem held_two {S : World → Prop} {fuel : Nat} {listed : Array Bool} {a : Act} {w : World} (i j : Nat) {oi oj : Oper} (hoi : ops[i]? = some oi) (hoj : ops[j]? = some oj) (hr : Region.ready md ops listed = [i, j])
    (h : ∀ K' : Act → World → Prop, Shut (∀ (S' : World → Prop) a w, (∀ w, S' w → S w) → S' w → wpAnyH P md ops Q S' fuel (listed.setIfInBounds i true) a w → K' a w) → if Region.wanted oi (yielded ops a.tmps) = true then Oper.wp P oi a w K' Q else K' (a.put oi.dst undef) w)
    (k : ∀ K' : Act → World → Prop, Shut (∀ (S' : World → Prop) a w, (∀ w, S' w → S w) → S' w → wpAnyH P md ops Q S' fuel (listed.setIfInBounds j true) a w → K' a w) → if Region.wanted oj (yielded ops a.tmps) = true then Oper.wp P oj a w K' Q else K' (a.put oj.dst undef) w) :
    wpAnyH P md ops Q S (fuel + 1) listed a w :=
  wpAnyH_ready hr (by simp) (AllReadyH.cons hoi (fun K hK => h K (fun _ a w hSS hS hW => hK.out a w (hSS _ hS) (fun _ => held_mono hSS _ _ _ _ hW)))
    (AllReadyH.cons hoj (fun K hK => k K (fun _ a w hSS hS hW => hK.out a w (hSS _ hS) (fun _ => held_mono hSS _ _ _ _ hW))) AllReadyH.nil))
end
end Go.Proofs.Ytplmbdljhgicfab

/-! Ff13 -/
namespace Go.Proofs.Ytplmbdljhgicfab
open Go.RowKit

def quoFo (o p : Option (List Tr)) : Option (List ByteArray) :=
  match o, p with
  | some us, some vs => if partF us vs = true then (if okF (stripT (quoF us vs)) = true then some (strs (stripT (quoF us vs))) else none) else none
  | _, _ => none
theorem quoFo_ans (us vs : List Tr) (h : partF us vs = true) : AnsSs (quoFo (some us) (some vs)) = AnsS2 (if okF (stripT (quoF us vs)) = true then strs (stripT (quoF us vs)) else []) (okF (stripT (quoF us vs))) := by
  unfold AnsSs quoFo
  cases k : okF (stripT (quoF us vs)) <;> simp [h, k]
theorem quoFo_no (us vs : List Tr) (h : partF us vs = false) : AnsSs (quoFo (some us) (some vs)) = AnsS2 [] false := by
  unfold AnsSs quoFo
  simp [h]
theorem part_at {us vs : List Tr} (h : partF us vs = true) (k : Nat) : (us.getD k .lf).part (vs.getD k .lf) = true := by
  by_cases hk : k < us.length
  · exact (partF_all us vs).1 h k hk
  · rw [show us.getD k .lf = .lf by rw [List.getD_eq_getElem?_getD, List.getElem?_eq_none (by omega)]; rfl]; rfl

set_option maxRecDepth 100000 in
set_option maxHeartbeats 400000 in
theorem specLeftQuotient_any (v : Value) (b : Nat) (L : List ByteArray) (v2 : Value) (b2 : Nat) (M : List ByteArray) (w : World) (h : CellsS b w v L) (h2 : CellsS b2 w v2 M) (hz : ∀ s ∈ L, s.size ≤ 1048576) (hz2 : ∀ s ∈ M, s.size ≤ 1048576) (hn : L.length ≤ 1048576) (hn2 : M.length ≤ 1048576) :
    Calls Try.prog 11 #[v, v2] w (AnsSs (quoFo (forOf L) (forOf M)) w) := by
  have hG := fun w h => foGood_any v b L w h hz hn
  have hH := fun w h => foGood_any v2 b2 M w h hz2 hn2
  have HA := Lib.hid h
  have HB := Lib.hid h2
  obtain ⟨oa, cap, rfl, hcl, hcm, hcc⟩ := h.form0
  obtain ⟨ob, bcap, rfl, hdl, hdm, hdc⟩ := h2.form0
  unfold maxLen at hcm hdm
  have HC := Lib.hid hcc
  have HD := Lib.hid hdc
  clear h h2 hz hz2 hcc hdc
  rcases hf : forOf L with _ | us
  · rw [hf] at hG
    have hG' : ∀ w, CellsS b w (.slice oa L.length cap) L → Calls Try.prog 39 #[.slice oa L.length cap] w (Gives (.bool false) w) := hG
    clear hG hH hf HC HD
    go_enter Try.func11, Try.ntmps11
    go_wp2_with fail
    refine (hG' _ HA.out).mono ?_; rintro e w1 ⟨rfl, hb1⟩
    go_wp2_with fail
    go_ret2
    exact ⟨_, OwnS.nil _ _, hb1, rfl⟩
  · rcases hk : forOf M with _ | vs
    · rw [hf] at hG
      rw [hk] at hH
      have hG' : ∀ w, CellsS b w (.slice oa L.length cap) L → Calls Try.prog 39 #[.slice oa L.length cap] w (Gives (.bool true) w) := hG
      have hH' : ∀ w, CellsS b2 w (.slice ob M.length bcap) M → Calls Try.prog 39 #[.slice ob M.length bcap] w (Gives (.bool false) w) := hH
      clear hG hH hf hk HC HD
      go_enter Try.func11, Try.ntmps11
      go_wp2_with fail
      refine (hG' _ HA.out).mono ?_; rintro e w1 ⟨rfl, hb1⟩
      go_wp2_with fail
      refine (hH' _ (HB.out.keep hb1)).mono ?_; rintro e w2 ⟨rfl, hb2⟩
      replace hb2 := nx hb1 hb2
      go_wp2_with fail
      go_ret2
      exact ⟨_, OwnS.nil _ _, hb2, rfl⟩
    · rw [hf] at hG
      rw [hk] at hH
      have hG' : ∀ w, CellsS b w (.slice oa L.length cap) L → Calls Try.prog 39 #[.slice oa L.length cap] w (Gives (.bool true) w) := hG
      have hH' : ∀ w, CellsS b2 w (.slice ob M.length bcap) M → Calls Try.prog 39 #[.slice ob M.length bcap] w (Gives (.bool true) w) := hH
      obtain ⟨hL, hl8, hs8, hlast⟩ := forOf_strs hf
      obtain ⟨hM, hm8, ht8, hlastM⟩ := forOf_strs hk
      have hLu : L.length = us.length := by rw [hL, strs_length]
      have hMu : M.length = vs.length := by rw [hM, strs_length]
      have HSA : Hid (∀ w, CellsS b w (.slice oa L.length cap) L → CellsS b w (.slice oa L.length cap) (strs us)) := fun w h => by rw [← hL]; exact h
      have HSB : Hid (∀ w, CellsS b2 w (.slice ob M.length bcap) M → CellsS b2 w (.slice ob M.length bcap) (strs vs)) := fun w h => by rw [← hM]; exact h
      have HLA := Lib.hid hlast
      have HLB := Lib.hid hlastM
      have HLU := Lib.hid hLu
      have HMU := Lib.hid hMu
      clear hG hH hf hk hL hM hlast hlastM HC HD hLu hMu
      obtain ⟨i0, hi, hz0, hz1, hz2⟩ := info_parts info_str
      have hP := fun w h h' => foPart_any (.slice oa L.length cap) b us (.slice ob M.length bcap) b2 vs w h h' (by omega) (by omega) (by omega)
      cases hpt : partF us vs with
      | false =>
        have HAN := Lib.hid (quoFo_no us vs hpt)
        rw [hpt] at hP
        clear hpt
        go_enter Try.func11, Try.ntmps11
        go_wp2_with fail
        refine (hG' _ HA.out).mono ?_; rintro e w1 ⟨rfl, hb1⟩
        go_wp2_with fail
        refine (hH' _ (HB.out.keep hb1)).mono ?_; rintro e w2 ⟨rfl, hb2⟩
        replace hb2 := nx hb1 hb2
        go_wp2_with fail
        refine (hP _ (HSA.out _ (HA.out.keep hb2)) (HSB.out _ (HB.out.keep hb2))).mono ?_; rintro e w3 ⟨rfl, hb3⟩
        go_wp2_with fail
        go_ret2
        rw [HAN.out]
        exact ⟨_, OwnS.nil _ _, nx hb2 hb3, rfl⟩
      | true =>
        have HAN := Lib.hid (quoFo_ans us vs hpt)
        have HPT := Lib.hid hpt
        rw [hpt] at hP
        have hbd := quoF_bound HLA.out hpt
        have hqe := quoF_eq us vs
        have c1 := combT_carets us
        have c2 := combT_carets vs
        have hcl1 : (combT us).leaves ≤ 17 := by unfold Tr.leaves; omega
        obtain ⟨N, hN⟩ : ∃ N, N = max L.length M.length := ⟨_, rfl⟩
        have hN2 : N = max us.length vs.length := by have := HLU.out; have := HMU.out; omega
        have hN16 : N ≤ 16 := by omega
        rw [← hN2] at hqe
        have hQL : (quoN us vs N).length ≤ 33 := by rw [← hqe]; omega
        have hlen := quoN_len us vs N
        have HL33 : Hid (∀ k, k ≤ N → (quoN us vs k).length ≤ 33) := fun k hk => Nat.le_trans (hlen k hk) hQL
        have hF : ∀ u0 B w, CellsS B w u0 (strs (quoN us vs N)) → Calls Try.prog 43 #[u0] w (AnsSs (quoFo (some us) (some vs)) w) := fun u0 B w h => by
          have h1 := foIf_any u0 B (quoF us vs) w (by rw [hqe]; exact h) (by omega) (by omega)
          rw [HAN.out]; exact h1
        have HNN := Lib.hid hN
        have HS1 := Lib.hid hs8
        have HS2 := Lib.hid ht8
        clear hpt hbd hqe c1 c2 hcl1 hN hN2 hQL hlen hs8 ht8
        go_enter Try.func11, Try.ntmps11
        go_wp2_with fail
        refine (hG' _ HA.out).mono ?_; rintro e w1 ⟨rfl, hb1⟩
        go_wp2_with fail
        refine (hH' _ (HB.out.keep hb1)).mono ?_; rintro e w2 ⟨rfl, hb2⟩
        replace hb2 := nx hb1 hb2
        go_wp2_with fail
        refine (hP _ (HSA.out _ (HA.out.keep hb2)) (HSB.out _ (HB.out.keep hb2))).mono ?_; rintro e w3 ⟨rfl, hb3⟩
        replace hb3 := nx hb2 hb3
        go_wp2_with fail
        go_loopw [6, 7] (fun u i wr => ∃ (k : Nat) (ss : List ByteArray), k ≤ N ∧ i = .int .i64 k ∧ OwnS w3.heap.size wr u ss ∧ Hid (ss = strs (quoN us vs k)) ∧ Below w3.heap.size w3 wr) (fun _ i _ => N - (intOf i).toNat)
        case atStart => exact ⟨0, [], Nat.zero_le _, rfl, OwnS.nil _ _, rfl, Below.refl _ _⟩
        case round =>
          obtain ⟨k, ss, hk, rfl, hown, he, hbw⟩ := hrel
          by_cases hlt : k < N
          · have hnext : ss ++ subsS (us.getD k .lf) (vs.getD k .lf) = strs (quoN us vs (k + 1)) := by
              rw [quoN_succ, he.out]; unfold strs subsS; rw [List.map_append]
            have hTA := fun w h => foTree_any (.slice oa L.length cap) b us k w h (by omega)
            have hTB := fun w h => foTree_any (.slice ob M.length bcap) b2 vs k w h (by omega)
            have hJ := fun w => prParts_any (us.getD k .lf) (vs.getD k .lf) w (part_at HPT.out k) (carets_at vs k (by have := HS2.out; omega))
            have hss9 : ss.length ≤ 33 := by rw [he.out, strs_length]; exact HL33.out k (by omega)
            have hsu9 : (subsS (us.getD k .lf) (vs.getD k .lf)).length ≤ 33 := by
              have h1 := HL33.out (k + 1) (by omega)
              have h2 := congrArg List.length hnext
              rw [List.length_append, strs_length] at h2; omega
            generalize us.getD k .lf = ta at *
            generalize vs.getD k .lf = tb at *
            have HX := Lib.hid hnext
            unfold OwnS at hown
            have hor : (k : Int) < (L.length : Int) ∨ (¬ (k : Int) < (L.length : Int) ∧ (k : Int) < (M.length : Int)) := by have := HNN.out; omega
            clear hnext he
            rcases hor with hor1 | ⟨hor1, hor2⟩
            · have hlt' : (k : Int) < 16 := by omega
              have hb4 := hbw
              go_wp2_with fail
              refine (hTA _ (HSA.out _ (HA.out.keep (nx hb3 hb4)))).mono ?_; rintro e w4 ⟨rfl, rfl⟩
              go_wp2_with fail
              refine (hTB _ (HSB.out _ (HB.out.keep (nx hb3 hb4)))).mono ?_; rintro e w5 ⟨rfl, rfl⟩
              go_wp2_with fail
              refine (hJ _).mono ?_; rintro e w6 ⟨g6, cap6, own6, hb6, rfl⟩
              have hown6 := ownsRow_keep hown hb6
              have hbw6 := nx hbw hb6
              have hyl := src_cells own6.cells (subsS ta tb).length (Nat.le_refl _) cap6
              rw [List.take_length] at hyl
              clear hown hbw hb6 hb4
              go_wp2_with (at_builtin; refine wpList_appSrc rfl (.tmp 34) (.tmp 41) 22 rfl w3.heap.size 9 i0 (.string ⟨#[]⟩) 16 Try.underlying22 hi hz0 hz1 hz2 rfl _ _ _ rfl hown6 _ _ rfl hyl (oneStrs _) (by unfold maxLen; simp; omega) (by simp; omega) hbw6.size ?_; intro w9v w9 w9o w9b w9n)
              have hbw9 := hbw6.trans w9b
              have hown1 : OwnS w3.heap.size w9 w9v (ss ++ subsS ta tb) := OwnS.app (by simpa using w9o)
              clear hown6 own6 w9o w9n w9b hbw6 hyl
              go_wp2_with fail
              go_roundw
              case rel => exact ⟨k + 1, _, by omega, by go_num, hown1, HX, hbw9⟩
              case measure => simp [intOf]; omega
            · have hlt' : (k : Int) < 16 := by omega
              have hb4 := hbw
              go_wp2_with fail
              refine (hTA _ (HSA.out _ (HA.out.keep (nx hb3 hb4)))).mono ?_; rintro e w4 ⟨rfl, rfl⟩
              go_wp2_with fail
              refine (hTB _ (HSB.out _ (HB.out.keep (nx hb3 hb4)))).mono ?_; rintro e w5 ⟨rfl, rfl⟩
              go_wp2_with fail
              refine (hJ _).mono ?_; rintro e w6 ⟨g6, cap6, own6, hb6, rfl⟩
              have hown6 := ownsRow_keep hown hb6
              have hbw6 := nx hbw hb6
              have hyl := src_cells own6.cells (subsS ta tb).length (Nat.le_refl _) cap6
              rw [List.take_length] at hyl
              clear hown hbw hb6 hb4
              go_wp2_with (at_builtin; refine wpList_appSrc rfl (.tmp 34) (.tmp 41) 22 rfl w3.heap.size 9 i0 (.string ⟨#[]⟩) 16 Try.underlying22 hi hz0 hz1 hz2 rfl _ _ _ rfl hown6 _ _ rfl hyl (oneStrs _) (by unfold maxLen; simp; omega) (by simp; omega) hbw6.size ?_; intro w9v w9 w9o w9b w9n)
              have hbw9 := hbw6.trans w9b
              have hown1 : OwnS w3.heap.size w9 w9v (ss ++ subsS ta tb) := OwnS.app (by simpa using w9o)
              clear hown6 own6 w9o w9n w9b hbw6 hyl
              go_wp2_with fail
              go_roundw
              case rel => exact ⟨k + 1, _, by omega, by go_num, hown1, HX, hbw9⟩
              case measure => simp [intOf]; omega
          · obtain rfl : k = N := by omega
            have hno1 : ¬ ((k : Int) < (L.length : Int)) := by have := HNN.out; omega
            have hno2 : ¬ ((k : Int) < (M.length : Int)) := by have := HNN.out; omega
            rw [he.out] at hown
            clear he
            go_wp2_with fail
            refine (hF _ _ _ hown.cells).mono ?_; rintro e w9 ⟨v9, own9, hb9, rfl⟩
            replace own9 := own9.mono (by have := nx hb3 hbw; exact this.size)
            go_wp2_with fail
            go_ret2
            exact ⟨_, own9, nx (nx hb3 hbw) hb9, rfl⟩

def limV (ok : Bool) (v : Value) : Value := if ok = true then v else .slice none 0 0
theorem strs_app (A B : List Tr) : strs (A ++ B) = strs A ++ strs B := by unfold strs; rw [List.map_append]
set_option maxRecDepth 100000 in
set_option maxHeartbeats 400000 in
theorem implLeftQuotient_any (v : Value) (b : Nat) (L : List ByteArray) (v2 : Value) (b2 : Nat) (M : List ByteArray) (w : World) (h : CellsS b w v L) (h2 : CellsS b2 w v2 M) (hz : ∀ s ∈ L, s.size ≤ 1048576) (hz2 : ∀ s ∈ M, s.size ≤ 1048576) (hn : L.length ≤ 1048576) (hn2 : M.length ≤ 1048576) :
    Calls Try.prog 13 #[v, v2] w (AnsSs (quoFo (forOf L) (forOf M)) w) := by
  have hH := implhungTwo_any v b L v2 b2 M w h h2 hz hz2 hn hn2
  obtain ⟨oa, cap, rfl, _⟩ := h.form0
  obtain ⟨ob, bcap, rfl, _⟩ := h2.form0
  clear h h2 hz hz2
  rcases hf : forOf L with _ | us
  · rw [hf] at hH
    have hH' : Calls Try.prog 44 #[.slice oa L.length cap, .slice ob M.length bcap] w (fun e w' => e = .returned (.tuple #[.pointer none, .pointer none, .bool false]) ∧ Below w.heap.size w w') := by cases forOf M <;> exact hH
    clear hH hf
    go_enter Try.func13, Try.ntmps13
    go_wp2_with fail
    refine hH'.mono ?_; rintro e w1 ⟨rfl, hb1⟩
    go_wp2_with fail
    go_ret2
    exact ⟨_, OwnS.nil _ _, hb1, rfl⟩
  · rcases hk : forOf M with _ | vs
    · rw [hf, hk] at hH
      have hH' : Calls Try.prog 44 #[.slice oa L.length cap, .slice ob M.length bcap] w (fun e w' => e = .returned (.tuple #[.pointer none, .pointer none, .bool false]) ∧ Below w.heap.size w w') := hH
      clear hH hf hk
      go_enter Try.func13, Try.ntmps13
      go_wp2_with fail
      refine hH'.mono ?_; rintro e w1 ⟨rfl, hb1⟩
      go_wp2_with fail
      go_ret2
      exact ⟨_, OwnS.nil _ _, hb1, rfl⟩
    · rw [hf, hk] at hH
      have hH' : Calls Try.prog 44 #[.slice oa L.length cap, .slice ob M.length bcap] w (fun e w' => ∃ b c, NodeAt w' (combT us) b ∧ NodeAt w' (combT vs) c ∧ Below w.heap.size w w' ∧ e = .returned (.tuple #[.pointer (some ⟨b, 0, none⟩), .pointer (some ⟨c, 0, none⟩), .bool true])) := hH
      obtain ⟨hl8, hs8, hlast⟩ := (forOf_strs hf).2
      obtain ⟨hm8, ht8, hlastM⟩ := (forOf_strs hk).2
      have hpc := part_comb us vs hlast
      have c1 := combT_carets us
      have c2 := combT_carets vs
      have hIP := fun b c w h k => isPart_any (combT us) (combT vs) b c w h k
      cases hpt : partF us vs with
      | false =>
        have HAN := Lib.hid (quoFo_no us vs hpt)
        rw [hpc, hpt] at hIP
        generalize combT us = U at *
        generalize combT vs = V at *
        clear hH hf hk hpt hpc c1 c2 hlast hlastM
        go_enter Try.func13, Try.ntmps13
        go_wp2_with fail
        refine hH'.mono ?_; rintro e w1 ⟨p1, p2, hp1, hp2, hb1, rfl⟩
        go_wp2_with fail
        refine (hIP p1 p2 _ hp1 hp2).mono ?_; rintro e w2 ⟨rfl, n2, hw2⟩
        have hb2 : Below w.heap.size w w2 := by rw [hw2]; exact drewB hb1 _
        clear hw2
        go_wp2_with fail
        go_ret2
        rw [HAN.out]
        exact ⟨_, OwnS.nil _ _, hb2, rfl⟩
      | true =>
        have HAN := Lib.hid (quoFo_ans us vs hpt)
        have hbd := quoF_bound hlast hpt
        obtain ⟨A, E, hA1, hA2⟩ := subs_comb us vs hlast hpt
        have hpu : (combT us).part (combT vs) = true := by rw [hpc]; exact hpt
        rw [hpu] at hIP
        have h3 := below_carets (combT us) (combT vs) hpu
        rw [hA1, sumC_append, sumC_cons, sumC_eq, sumC_eq] at h3
        have h30 : sumT ([] : List Tr) = 0 := rfl
        have hB := fun b c w h k => below_any (combT us) (combT vs) b c w h k hpu (by omega)
        have hsub : subsS (combT us) (combT vs) = strs A ++ [E.str] := by unfold subsS; rw [hA1, List.map_append]; rfl
        rw [hsub] at hB
        have hAl : (strs A).length ≤ 17 := by
          have h5 := h3.2
          rw [List.length_append] at h5
          simp [Tr.leaves] at h5
          rw [strs_length]; omega
        have hHA := fun v b w h => hungAbove_any v b A E w h (by omega) (by omega) (by rw [strs_length] at hAl; omega)
        have hce : (combE A E).carets = sumT A + A.length + E.carets := by
          clear hHA hAl hsub hB h3 h30 hA1 hA2
          induction A with
          | nil => simp [combE, sumT]
          | cons a A ih => show (Tr.nd a (combE A E)).carets = _; rw [Tr.carets, ih, sumT_cons, List.length_cons]; omega
        have hTO := fun w => treeOf_any (combE A E) w (by rw [hce]; rw [strs_length] at hAl; omega)
        have hHg := fun b w h => hanging_any (combE A E) b w h (by rw [hce]; rw [strs_length] at hAl; omega)
        have hhang : hangT (combE A E) = stripT (quoF us vs) := by unfold hangT; rw [sides_combE, hA2]
        rw [hhang] at hHg
        have hst := sumT_strip (quoF us vs)
        have hsl := stripT_length (quoF us vs)
        have hlv : (combT us).leaves ≤ 17 := by unfold Tr.leaves; omega
        have hW := fun v b w h => withinLimitsF_any v b (stripT (quoF us vs)) w h (by omega) (by omega)
        generalize stripT (quoF us vs) = J at *
        generalize combE A E = T at *
        obtain ⟨xs, hxs⟩ : ∃ xs, xs = strs A := ⟨_, rfl⟩
        rw [← hxs] at hB hAl hHA
        have hel : (xs ++ [E.str]).getD xs.length ⟨#[]⟩ = E.str := by simp [List.getD_eq_getElem?_getD]
        have htk : (xs ++ [E.str]).take xs.length = xs := by simp
        generalize E.str = es at *
        generalize combT us = U at *
        generalize combT vs = V at *
        obtain ⟨n, hnx⟩ : ∃ n, n = xs.length := ⟨_, rfl⟩
        have hn17 : n ≤ 17 := by omega
        have hlen1 : (xs ++ [es]).length = n + 1 := by simp; omega
        rw [← hnx] at hel htk
        have HEL := Lib.hid hel
        have HTK := Lib.hid htk
        have HLEN := Lib.hid hlen1
        have hB' : ∀ b c w, NodeAt w U b → NodeAt w V c → Calls Try.prog 46 #[.pointer (some ⟨b, 0, none⟩), .pointer (some ⟨c, 0, none⟩)] w (fun e w' => ∃ g cap, OwnS w.heap.size w' (.slice (some ⟨g, 0, none⟩) (n + 1) cap) (xs ++ [es]) ∧ Below w.heap.size w w' ∧ e = .returned (.slice (some ⟨g, 0, none⟩) (n + 1) cap)) := by
          intro b c w h k
          have h1 := hB b c w h k
          unfold GivesTexts at h1
          rw [hlen1] at h1
          exact h1
        have hV : ∀ v b w, CellsS b w v (strs J) → Calls Try.prog 47 #[v] w (fun e w' => e = .returned (.tuple #[limV (okF J) v, .bool (okF J)]) ∧ Below w.heap.size w w') := hW
        generalize okF J = ok at hV HAN
        clear hW
        clear hH hf hk hlast hlastM hpc c1 c2 hpt hbd hA1 hA2 hpu h3 h30 hB hsub hAl hce hhang hst hsl hlv hxs hel htk hlen1 hnx
        go_enter Try.func13, Try.ntmps13
        go_wp2_with fail
        refine hH'.mono ?_; rintro e w1 ⟨p1, p2, hp1, hp2, hb1, rfl⟩
        go_wp2_with fail
        refine (hIP p1 p2 _ hp1 hp2).mono ?_; rintro e w2 ⟨rfl, n2, hw2⟩
        have hb12 : Below w1.heap.size w1 w2 := by rw [hw2]; exact drewB (Below.refl _ _) _
        have hb2 := nx hb1 hb12
        replace hp1 := hp1.keep hb12
        replace hp2 := hp2.keep hb12
        clear hw2 hb12
        go_wp2_with fail
        refine (hB' p1 p2 _ hp1 hp2).mono ?_; rintro e w3 ⟨g3, cap3, own3, hb3, rfl⟩
        replace hb3 := nx hb2 hb3
        have c1 : w3.cell? ⟨g3, n, none⟩ = some (.string es) := by
          rcases own3.cells with ⟨h0, _⟩ | ⟨g', cap', hv, _, _, _, _, hcell, _⟩
          · cases h0
          · injection hv with e1 e2 e3
            injection e1 with e1
            injection e1 with e1
            subst e1
            have := hcell n (by rw [HLEN.out]; omega)
            rw [this, HEL.out]
        have hfm := own3.cells.form0
        have hcap : n + 1 ≤ cap3 := by
          obtain ⟨oa', cap', hv, h1, _⟩ := hfm
          injection hv with e1 e2 e3
          have := HLEN.out; omega
        have hcm : cap3 ≤ 9223372036854775807 := by
          obtain ⟨oa', cap', hv, _, h1, _⟩ := hfm
          injection hv with e1 e2 e3
          unfold maxLen at h1; omega
        have hcut := OwnS.cut own3 n (by rw [HLEN.out]; omega) HLEN.out
        rw [HTK.out] at hcut
        have ei : ((n + 1 : Nat) : Int) - 1 = (n : Int) := by omega
        have hd1 : (0 : Int) ≤ (n : Int) := by omega
        have hd2 : (n : Int) < ((n + 1 : Nat) : Int) := by omega
        have hd3 : n ≤ cap3 := by omega
        have hd4 : (n : Int) < (n : Int) + 1 := by omega
        clear hfm own3
        have hz := Below.refl w3.heap.size w3
        try go_wp2_with fail
        refine wp_region_held_drew (S := (fun (w' : World) => w'.cell? ⟨g3, n, none⟩ = some (.string es))) (by kernel_rfl) c1 (fun hH0 => ?_)
        refine wpAnyH_take (i := 0) (oi := ?oi201) (v := ?vv201) ?hi201 ?hn201 ?hf201 ?hr201 ?hq201 (Or.inl ⟨?hg201, ?hy201⟩) hH0 ?rest201
        case hi201 => (simp only [List.getElem?_toArray, List.getElem?_cons_zero]; rfl)
        case hn201 => kernel_rfl
        case hf201 => kernel_rfl
        case hr201 => kernel_rfl
        case hg201 => rfl
        case hy201 => (intro w hSw; (try dsimp only at hSw); go_simp; first | done | with_reducible rfl)
        case hq201 => exact fun _ _ _ h => h
        try dsimp only [Act.put]
        refine wpAnyH_take (i := 1) (oi := ?oi202) (v := ?vv202) ?hi202 ?hn202 ?hf202 ?hr202 ?hq202 (Or.inl ⟨?hg202, ?hy202⟩) hH0 ?rest202
        case hi202 => (simp only [List.getElem?_toArray, List.getElem?_cons_succ, List.getElem?_cons_zero]; rfl)
        case hn202 => kernel_rfl
        case hf202 => kernel_rfl
        case hr202 => kernel_rfl
        case hg202 => rfl
        case hy202 => (intro w hSw; (try dsimp only at hSw); go_simp; first | done | with_reducible rfl)
        case hq202 => exact fun _ _ _ h => h
        try dsimp only [Act.put]
        refine wpAnyH_take (i := 2) (oi := ?oi203) (v := ?vv203) ?hi203 ?hn203 ?hf203 ?hr203 ?hq203 (Or.inl ⟨?hg203, ?hy203⟩) hH0 ?rest203
        case hi203 => (simp only [List.getElem?_toArray, List.getElem?_cons_succ, List.getElem?_cons_zero]; rfl)
        case hn203 => kernel_rfl
        case hf203 => kernel_rfl
        case hr203 => kernel_rfl
        case hg203 => rfl
        case hy203 => (intro w hSw; (try dsimp only at hSw); go_simp; first | done | with_reducible rfl)
        case hq203 => exact fun _ _ _ h => h
        try dsimp only [Act.put]
        refine wpAnyH_take (i := 3) (oi := ?oi204) (v := ?vv204) ?hi204 ?hn204 ?hf204 ?hr204 ?hq204 (Or.inl ⟨?hg204, ?hy204⟩) hH0 ?rest204
        case hi204 => (simp only [List.getElem?_toArray, List.getElem?_cons_succ, List.getElem?_cons_zero]; rfl)
        case hn204 => kernel_rfl
        case hf204 => kernel_rfl
        case hr204 => kernel_rfl
        case hg204 => rfl
        case hy204 => (intro w hSw; (try dsimp only at hSw); go_simp; first | done | with_reducible rfl)
        case hq204 => exact fun _ _ _ h => h
        try dsimp only [Act.put]
        refine wpAnyH_take (i := 4) (oi := ?oi205) (v := ?vv205) ?hi205 ?hn205 ?hf205 ?hr205 ?hq205 (Or.inl ⟨?hg205, ?hy205⟩) hH0 ?rest205
        case hi205 => (simp only [List.getElem?_toArray, List.getElem?_cons_succ, List.getElem?_cons_zero]; rfl)
        case hn205 => kernel_rfl
        case hf205 => kernel_rfl
        case hr205 => kernel_rfl
        case hg205 => rfl
        case hy205 => (intro w hSw; (try dsimp only at hSw); go_simp; first | done | with_reducible rfl)
        case hq205 => exact fun _ _ _ h => h
        try dsimp only [Act.put]
        refine wpAnyH_take (i := 5) (oi := ?oi206) (v := ?vv206) ?hi206 ?hn206 ?hf206 ?hr206 ?hq206 (Or.inl ⟨?hg206, ?hy206⟩) hH0 ?rest206
        case hi206 => (simp only [List.getElem?_toArray, List.getElem?_cons_succ, List.getElem?_cons_zero]; rfl)
        case hn206 => kernel_rfl
        case hf206 => kernel_rfl
        case hr206 => kernel_rfl
        case hg206 => rfl
        case hy206 => (intro w hSw; (try dsimp only at hSw); go_simp; first | done | with_reducible rfl)
        case hq206 => exact fun _ _ _ h => h
        try dsimp only [Act.put]
        refine wpAnyH_take (i := 6) (oi := ?oi207) (v := ?vv207) ?hi207 ?hn207 ?hf207 ?hr207 ?hq207 (Or.inl ⟨?hg207, ?hy207⟩) hH0 ?rest207
        case hi207 => (simp only [List.getElem?_toArray, List.getElem?_cons_succ, List.getElem?_cons_zero]; rfl)
        case hn207 => kernel_rfl
        case hf207 => kernel_rfl
        case hr207 => kernel_rfl
        case hg207 => rfl
        case hy207 => (intro w hSw; (try dsimp only at hSw); go_simp; first | done | with_reducible rfl)
        case hq207 => exact fun _ _ _ h => h
        try dsimp only [Act.put]
        refine held_one 7 rfl (by kernel_rfl) (fun K hK => ?_)
        go_simp
        refine (hHA _ _ _ ((hcut.keep hz.drew).cells)).mono ?_; rintro e w4 ⟨rfl, hb4⟩
        have hb4' := nx hz.drew hb4
        have K1 := keep_cell hb4' c1
        go_wp2_with fail
        have hH1 : (fun (w' : World) => w'.cell? ⟨g3, n, none⟩ = some (.string es)) _ := K1
        refine hK.out (fun (w' : World) => w'.cell? ⟨g3, n, none⟩ = some (.string es)) _ _ (fun _ h => h) hH1 ?_
        clear hK K
        try dsimp only [Act.put]
        refine held_one 8 rfl (by kernel_rfl) (fun K hK => ?_)
        go_simp
        refine (hTO _).mono ?_; rintro e w5 ⟨p5, hp5, hb5, rfl⟩
        have hb5' := nx hb4' hb5
        have K2 := keep_cell hb5' c1
        go_wp2_with fail
        have hH2 : (fun (w' : World) => w'.cell? ⟨g3, n, none⟩ = some (.string es)) _ := K2
        refine hK.out (fun (w' : World) => w'.cell? ⟨g3, n, none⟩ = some (.string es)) _ _ (fun _ h => h) hH2 ?_
        clear hK K
        try dsimp only [Act.put]
        refine held_one 9 rfl (by kernel_rfl) (fun K hK => ?_)
        go_simp
        refine (hHg p5 w5 hp5).mono ?_; rintro e w6 ⟨v6, own6, hb6, rfl⟩
        have hb6' := nx hb5' hb6
        have K3 := keep_cell hb6' c1
        go_wp2_with fail
        have hH3 : (fun (w' : World) => w'.cell? ⟨g3, n, none⟩ = some (.string es)) _ := K3
        refine hK.out (fun (w' : World) => w'.cell? ⟨g3, n, none⟩ = some (.string es)) _ _ (fun _ h => h) hH3 ?_
        clear hK K
        try dsimp only [Act.put]
        refine held_one 10 rfl (by kernel_rfl) (fun K hK => ?_)
        go_simp
        refine (hV v6 _ w6 own6.cells).mono ?_; rintro e w7 ⟨rfl, hb7⟩
        have hb7' := nx hb6' hb7
        have K4 := keep_cell hb7' c1
        go_wp2_with fail
        have hH4 : (fun (w' : World) => w'.cell? ⟨g3, n, none⟩ = some (.string es)) _ := K4
        refine hK.out (fun (w' : World) => w'.cell? ⟨g3, n, none⟩ = some (.string es)) _ _ (fun _ h => h) hH4 ?_
        clear hK K
        try dsimp only [Act.put]
        refine wpAnyH_take (i := 11) (oi := ?oi208) (v := ?vv208) ?hi208 ?hn208 ?hf208 ?hr208 ?hq208 (Or.inl ⟨?hg208, ?hy208⟩) hH4 ?rest208
        case hi208 => (simp only [List.getElem?_toArray, List.getElem?_cons_succ, List.getElem?_cons_zero]; rfl)
        case hn208 => kernel_rfl
        case hf208 => kernel_rfl
        case hr208 => kernel_rfl
        case hg208 => rfl
        case hy208 => (intro w hSw; (try dsimp only at hSw); go_simp; first | done | with_reducible rfl)
        case hq208 => exact fun _ _ _ h => h
        try dsimp only [Act.put]
        refine wpAnyH_take (i := 12) (oi := ?oi209) (v := ?vv209) ?hi209 ?hn209 ?hf209 ?hr209 ?hq209 (Or.inl ⟨?hg209, ?hy209⟩) hH4 ?rest209
        case hi209 => (simp only [List.getElem?_toArray, List.getElem?_cons_succ, List.getElem?_cons_zero]; rfl)
        case hn209 => kernel_rfl
        case hf209 => kernel_rfl
        case hr209 => kernel_rfl
        case hg209 => rfl
        case hy209 => (intro w hSw; (try dsimp only at hSw); go_simp; first | done | with_reducible rfl)
        case hq209 => exact fun _ _ _ h => h
        try dsimp only [Act.put]
        refine wpAnyH_take (i := 13) (oi := ?oi210) (v := ?vv210) ?hi210 ?hn210 ?hf210 ?hr210 ?hq210 (Or.inl ⟨?hg210, ?hy210⟩) hH4 ?rest210
        case hi210 => (simp only [List.getElem?_toArray, List.getElem?_cons_succ, List.getElem?_cons_zero]; rfl)
        case hn210 => kernel_rfl
        case hf210 => kernel_rfl
        case hr210 => kernel_rfl
        case hg210 => rfl
        case hy210 => (intro w hSw; (try dsimp only at hSw); go_simp; first | done | with_reducible rfl)
        case hq210 => exact fun _ _ _ h => h
        try dsimp only [Act.put]
        refine wpAnyH_take (i := 14) (oi := ?oi211) (v := ?vv211) ?hi211 ?hn211 ?hf211 ?hr211 ?hq211 (Or.inl ⟨?hg211, ?hy211⟩) hH4 ?rest211
        case hi211 => (simp only [List.getElem?_toArray, List.getElem?_cons_succ, List.getElem?_cons_zero]; rfl)
        case hn211 => kernel_rfl
        case hf211 => kernel_rfl
        case hr211 => kernel_rfl
        case hg211 => rfl
        case hy211 => (intro w hSw; (try dsimp only at hSw); go_simp; first | done | with_reducible rfl)
        case hq211 => exact fun _ _ _ h => h
        try dsimp only [Act.put]
        refine wpAnyH_done (by kernel_rfl) ?_ _
        simp only [List.setIfInBounds_toArray, List.set_cons_zero, List.set_cons_succ]
        have hb37 := nx hb3 hb7'
        replace own6 := (own6.mono (by have := nx hb3 hb5'; exact this.size)).keep hb7
        clear hb4 hb5 hb6 hb4' hb5' hb6' hb7' K1 K2 K3 K4 hz hp5
        cases ok with
        | true =>
          have HAP : Hid (AnsSs (quoFo (some us) (some vs)) = AnsS2 (strs J) true) := by show _ = _; rw [HAN.out, if_pos rfl]
          rw [show limV true v6 = v6 from rfl]
          clear HAN hV
          go_wp2_with fail
          go_ret2
          rw [HAP.out]
          exact ⟨_, own6, hb37, rfl⟩
        | false =>
          have HAP : Hid (AnsSs (quoFo (some us) (some vs)) = AnsS2 [] false) := by show _ = _; rw [HAN.out, if_neg (by decide)]
          rw [show limV false v6 = .slice none 0 0 from rfl]
          clear HAN hV
          go_wp2_with fail
          go_ret2
          rw [HAP.out]
          exact ⟨_, OwnS.nil _ _, hb37, rfl⟩
end Go.Proofs.Ytplmbdljhgicfab

/-! WLeftQuotient -/
namespace Go.Proofs.Ytplmbdljhgicfab
open Go.RowKit
def LeftQuotient_o (L M : List ByteArray) : Option (List ByteArray) := quoFo (forOf L) (forOf M)
theorem LeftQuotient_len (L M : List ByteArray) : ((LeftQuotient_o L M).getD []).length ≤ 1000000000 := by
  unfold LeftQuotient_o quoFo
  rcases hf : forOf L with _ | us
  · simp
  · rcases hk : forOf M with _ | vs
    · simp
    · show ((if partF us vs = true then (if okF (stripT (quoF us vs)) = true then some (strs (stripT (quoF us vs))) else none) else none).getD []).length ≤ _
      split
      · split
        · next ho => have := (okF_iff.1 ho).1; rw [Option.getD_some, strs_length]; omega
        · simp
      · simp

set_option maxRecDepth 100000 in
set_option maxHeartbeats 4000000 in
theorem fnExactLeftQuotient_law (W : World) (a0 : Option Addr) (len0 cap0 : Nat) (L : List ByteArray) (hl0 : L.length = len0) (hm0 : (len0 : Int) ≤ 9223372036854775807) (hz0 : ∀ s ∈ L, (s.size : Int) ≤ 9223372036854775807) (hin0 : InS W a0 L) (a1 : Option Addr) (len1 cap1 : Nat) (M : List ByteArray) (hl1 : M.length = len1) (hm1 : (len1 : Int) ≤ 9223372036854775807) (hz1 : ∀ s ∈ M, (s.size : Int) ≤ 9223372036854775807) (hin1 : InS W a1 M) :
    Calls Try.prog 3 #[.slice a0 len0 cap0, .slice a1 len1 cap1] W fun e w' => e = .returned (.bool true) ∧ Below W.heap.size W w' := by
  have hsz0 := fun left h0 h1 => szStringS_at a0 cap0 len0 L left W h0 h1 hl0 hm0 hz0 hin0
  have hsz1 := fun left h0 h1 => szStringS_at a1 cap1 len1 M left W h0 h1 hl1 hm1 hz1 hin1
  have HI0 := Lib.hid hin0
  have HL0 := Lib.hid hl0
  clear hin0 hz0 hl0
  have HI1 := Lib.hid hin1
  have HL1 := Lib.hid hl1
  clear hin1 hz1 hl1
  go_enter Try.func3, Try.ntmps3
  go_wp2_with fail
  refine (hsz0 1048576 (by omega) (by omega)).mono ?_; rintro e w1 ⟨r0, rfl, rfl, hM0, hR0⟩
  by_cases hneg0 : r0 < 0
  · clear hM0 hR0
    go_wp2_with fail
    go_ret
    exact ⟨rfl, Below.refl _ _⟩
  have hM0' := hM0.out
  obtain ⟨hn0, hs0⟩ := hR0.out (by omega)
  have HS0 := Lib.hid hs0
  have HN0 := Lib.hid hn0
  clear hM0 hR0 hs0 hn0 hsz0
  go_wp2_with fail
  refine (hsz1 r0 (by omega) hM0').mono ?_; rintro e w1 ⟨r1, rfl, rfl, hM1, hR1⟩
  by_cases hneg1 : r1 < 0
  · clear hM1 hR1
    go_wp2_with fail
    go_ret
    exact ⟨rfl, Below.refl _ _⟩
  have hM1' := hM1.out
  obtain ⟨hn1, hs1⟩ := hR1.out (by omega)
  have HS1 := Lib.hid hs1
  have HN1 := Lib.hid hn1
  clear hM1 hR1 hs1 hn1 hsz1
  have hn9 := LeftQuotient_len L M
  obtain ⟨o, ho⟩ : ∃ o, o = LeftQuotient_o L M := ⟨_, rfl⟩
  have hS : ∀ (v0 : Value) (b0 : Nat) (v1 : Value) (b1 : Nat) (w : World), CellsS b0 w v0 L → CellsS b1 w v1 M → Calls Try.prog 11 #[v0, v1] w (AnsS2 (o.getD []) o.isSome w) := fun v0 b0 v1 b1 w h0 h1 => by rw [ho]; exact specLeftQuotient_any v0 b0 L v1 b1 M w h0 h1 HS0.out HS1.out HN0.out HN1.out
  have hI : ∀ (v0 : Value) (b0 : Nat) (v1 : Value) (b1 : Nat) (w : World), CellsS b0 w v0 L → CellsS b1 w v1 M → Calls Try.prog 13 #[v0, v1] w (AnsS2 (o.getD []) o.isSome w) := fun v0 b0 v1 b1 w h0 h1 => by rw [ho]; exact implLeftQuotient_any v0 b0 L v1 b1 M w h0 h1 HS0.out HS1.out HN0.out HN1.out
  rw [← ho] at hn9
  clear ho
  generalize o.getD [] = xs at hS hI hn9
  generalize o.isSome = ok at hS hI
  clear o
  have hT0 := fun w h => toStringS_any a0 cap0 len0 L w HL0.out (by have := HN0.out; have := HL0.out; omega) h
  have hN0 : len0 ≤ 1048576 := by have := HN0.out; have := HL0.out; omega
  have hT1 := fun w h => toStringS_any a1 cap1 len1 M w HL1.out (by have := HN1.out; have := HL1.out; omega) h
  have hN1 : len1 ≤ 1048576 := by have := HN1.out; have := HL1.out; omega
  clear HS0 HN0
  clear HS1 HN1
  have hc0 := Below.refl W.heap.size W
  go_wp2_with fail
  refine (hT0 _ (HI0.out.keep hc0)).mono ?_; rintro e u1 ⟨pg0, po0, hb, rfl⟩
  have hc1 := nx hc0 hb
  clear hb hc0
  go_wp2_with fail
  refine (hT1 _ (HI1.out.keep hc1)).mono ?_; rintro e u2 ⟨pg1, po1, hb, rfl⟩
  have hc2 := nx hc1 hb
  replace po0 := po0.keep hb
  clear hb hc1
  go_wp2_with fail
  refine (hS _ _ _ _ _ po0.cells po1.cells).mono ?_; rintro e u3 ⟨v0, own0, hb, rfl⟩
  clear po0 po1
  have hc3 := nx hc2 hb
  clear hb hc2
  have hd0 := Below.refl u3.heap.size u3
  have hcW := hc3
  go_wp2_with fail
  refine (hT0 _ (HI0.out.keep (nx hcW hd0))).mono ?_; rintro e u4 ⟨qg0, qo0, hb, rfl⟩
  have ql0 := qo0.lt
  have qs0 := hb.size
  have hd1 := nx hd0 hb
  clear hb hd0
  have qd0 := hd1.size
  go_wp2_with fail
  refine (hT1 _ (HI1.out.keep (nx hcW hd1))).mono ?_; rintro e u5 ⟨qg1, qo1, hb, rfl⟩
  have ql1 := qo1.lt
  have qs1 := hb.size
  have hd2 := nx hd1 hb
  replace qo0 := qo0.keep hb
  clear hb hd1
  have qd1 := hd2.size
  go_wp2_with fail
  refine (hI _ _ _ _ _ qo0.cells qo1.cells).mono ?_; rintro e u6 ⟨v1, own1, hb, rfl⟩
  have hszk := hb.size
  have hd3 := nx hd2 hb
  replace qo0 := qo0.keep hb
  replace qo1 := qo1.keep hb
  clear hb hd2
  go_wp2_with fail
  refine (eqStringS_any _ _ v1 v0 xs _ own1.cells (own0.keep hd3).cells).mono ?_; rintro e u7 ⟨rfl, dd, hw⟩
  have hb : Below u6.heap.size u6 u7 := by rw [hw]; exact drewB (Below.refl _ _) dd
  clear hw
  have hd4 := nx hd3 hb
  replace qo0 := qo0.keep hb
  replace qo1 := qo1.keep hb
  replace own1 := own1.keep hb
  replace hszk := Nat.le_trans hszk hb.size
  clear hb hd3
  go_wp2_with fail
  refine (hT0 _ (HI0.out.keep (nx hcW hd4))).mono ?_; rintro e u8 ⟨rg0, ro0, hb, rfl⟩
  have hd5 := nx hd4 hb
  replace qo0 := qo0.keep hb
  replace qo1 := qo1.keep hb
  replace own1 := own1.keep hb
  replace hszk := Nat.le_trans hszk hb.size
  clear hb hd4
  go_wp2_with fail
  refine (eqStringS_any _ _ _ _ L _ qo0.cells ro0.cells).mono ?_; rintro e u9 ⟨rfl, dd, hw⟩
  have hb : Below u8.heap.size u8 u9 := by rw [hw]; exact drewB (Below.refl _ _) dd
  clear hw
  have hd6 := nx hd5 hb
  replace qo0 := qo0.keep hb
  replace qo1 := qo1.keep hb
  replace own1 := own1.keep hb
  replace hszk := Nat.le_trans hszk hb.size
  clear hb hd5
  clear ro0
  go_wp2_with fail
  refine (hT1 _ (HI1.out.keep (nx hcW hd6))).mono ?_; rintro e u10 ⟨rg1, ro1, hb, rfl⟩
  have hd7 := nx hd6 hb
  replace qo0 := qo0.keep hb
  replace qo1 := qo1.keep hb
  replace own1 := own1.keep hb
  replace hszk := Nat.le_trans hszk hb.size
  clear hb hd6
  go_wp2_with fail
  refine (eqStringS_any _ _ _ _ M _ qo1.cells ro1.cells).mono ?_; rintro e u11 ⟨rfl, dd, hw⟩
  have hb : Below u10.heap.size u10 u11 := by rw [hw]; exact drewB (Below.refl _ _) dd
  clear hw
  have hd8 := nx hd7 hb
  replace qo0 := qo0.keep hb
  replace qo1 := qo1.keep hb
  replace own1 := own1.keep hb
  replace hszk := Nat.le_trans hszk hb.size
  clear hb hd7
  clear ro1
  go_wp2_with fail
  refine (markStringS_one1 _ qg0 _ len0 L HL0.out  _ (by omega) qo0).mono ?_; rintro e u12 ⟨rfl, _, hg⟩
  have hd9 := hd8.trans (grown_below hg hd8.size (by omega))
  replace qo1 := qo1.kept hg (by omega)
  replace own1 := own1.kept hg (by omega)
  replace hszk := Nat.le_trans hszk hg.size
  clear hg hd8 qo0
  go_wp2_with fail
  refine (markStringS_one _ qg1 _ len1 M HL1.out (1 + len0) _ (by omega) (by omega) (by omega) qo1).mono ?_; rintro e u13 ⟨rfl, _, hg⟩
  have hd10 := hd9.trans (grown_below hg hd9.size (by omega))
  replace own1 := own1.kept hg (by omega)
  replace hszk := Nat.le_trans hszk hg.size
  clear hg hd9 qo1
  go_wp2_with fail
  refine (eqStringS_any _ _ v1 v0 xs _ own1.cells (own0.keep hd10).cells).mono ?_; rintro e u14 ⟨rfl, dd, hw⟩
  have hb : Below u13.heap.size u13 u14 := by rw [hw]; exact drewB (Below.refl _ _) dd
  clear hw
  have hd11 := nx hd10 hb
  replace own1 := own1.keep hb
  replace hszk := Nat.le_trans hszk hb.size
  clear hb hd10
  go_wp2_with fail
  refine (markStringS_1 u5.heap.size v1 xs _ hn9 hszk own1).mono ?_; rintro e u15 ⟨rfl, own9, hb⟩
  have hd12 := hd11.trans (hb.mono (by omega))
  clear hb hd11 own1
  go_wp2_with fail
  refine (heldStringS_1 _ v1 xs.length _ hn9 own9.cells).mono ?_; rintro e u16 ⟨rfl, hb⟩
  have hd13 := nx hd12 hb
  replace own9 := own9.keep hb
  clear hb hd12
  go_wp2_with fail
  refine (hT0 _ (HI0.out.keep (nx hcW hd13))).mono ?_; rintro e u17 ⟨sg0, so0, hb, rfl⟩
  have sl0 := so0.lt
  have ss0 := hb.size
  have hd14 := nx hd13 hb
  replace own9 := own9.keep hb
  clear hb hd13
  have sd0 := hd14.size
  go_wp2_with fail
  refine (hT1 _ (HI1.out.keep (nx hcW hd14))).mono ?_; rintro e u18 ⟨sg1, so1, hb, rfl⟩
  have sl1 := so1.lt
  have ss1 := hb.size
  have hd15 := nx hd14 hb
  replace own9 := own9.keep hb
  replace so0 := so0.keep hb
  clear hb hd14
  have sd1 := hd15.size
  go_wp2_with fail
  refine (hI _ _ _ _ _ so0.cells so1.cells).mono ?_; rintro e u19 ⟨v2, own2, hb, rfl⟩
  clear so0 so1
  have hd16 := nx hd15 hb
  replace own9 := own9.keep hb
  clear hb hd15
  go_wp2_with fail
  refine (eqStringS_any _ _ v2 v0 xs _ own2.cells (own0.keep hd16).cells).mono ?_; rintro e u20 ⟨rfl, dd, hw⟩
  have hb : Below u19.heap.size u19 u20 := by rw [hw]; exact drewB (Below.refl _ _) dd
  clear hw
  have hd17 := nx hd16 hb
  replace own9 := own9.keep hb
  replace own2 := own2.keep hb
  clear hb hd16
  go_wp2_with fail
  refine (heldStringS_1 _ v1 xs.length _ hn9 own9.cells).mono ?_; rintro e u21 ⟨rfl, hb⟩
  have hd18 := nx hd17 hb
  replace own9 := own9.keep hb
  replace own2 := own2.keep hb
  clear hb hd17
  go_wp2_with fail
  go_ret
  exact ⟨rfl, nx hcW hd18⟩

theorem fnExactLeftQuotient_walk (W : World) (a0 : Option Addr) (len0 cap0 : Nat) (z0 : List ByteArray) (h0 : IsStrs W a0 len0 cap0 z0) (a1 : Option Addr) (len1 cap1 : Nat) (z1 : List ByteArray) (h1 : IsStrs W a1 len1 cap1 z1) :
    Calls Try.prog 3 #[.slice a0 len0 cap0, .slice a1 len1 cap1] W fun e w' => e = .returned (.bool true) ∧ Below W.heap.size W w' := by
  obtain ⟨x0, y0, s0, t0⟩ := h0.inS
  obtain ⟨x1, y1, s1, t1⟩ := h1.inS
  exact fnExactLeftQuotient_law W a0 len0 cap0 (z0.take len0) y0 s0 t0 x0 a1 len1 cap1 (z1.take len1) y1 s1 t1 x1

end Go.Proofs.Ytplmbdljhgicfab

/-! LFnExactLeftQuotient -/
namespace Go.Proofs.Ytplmbdljhgicfab.fnExactLeftQuotient
open Go.ChangeShapes Go.WideShapes Go.ChangeAt Go.RowKit
open Go.ChangeMaps (open_string shut_string)
set_option linter.unusedVariables false

theorem own : ownKnob Try.prog.godebug = none := by kernel_rfl
theorem laidOut : laidOutB Try.prog = true := by kernel_rfl

set_option maxRecDepth 100000 in
theorem lifted (os : Os) (started : os.Started) (H : Type) (enc : TypeId × Value → H) :
    ReturnsInHanded {} Try.checked os 3 .any (Rows.fnExactLeftQuotientSpec.pre6 enc Try.prog Try.f3 Rows.fnExactLeftQuotientRow.domain false) (Rows.fnExactLeftQuotientSpec.post enc Try.prog Try.f3 false true false false) := by
  refine returnsInHanded_of_change (C := Try.checked) own started (by kernel_rfl) Try.func3
    (ChangeSpec.witness6 (enc := enc) (C := Try.checked) false ⟨#[], #[.slice none 0 0, .slice none 0 0], []⟩ 8 (by kernel_rfl) (by kernel_rfl) (by kernel_rfl) (by kernel_rfl)) ?_
  intro W base args ds gs before hval0 hW hcnd _
  have hval : ∀ (j : Nat) t v, Try.f3.params[j]? = some t → args[j]? = some v → Value.okWide Try.prog W .any base t v := hval0
  have hW' := hW
  obtain ⟨p, q, hA0, hV, rfl, hfz, hnd⟩ := hW
  have hA : DataW.TrodAll enc Try.prog W 0 (fun _ => true) true Try.f3.params.toList args.toList ds p := hA0
  rw [Try.params3] at hA hval
  obtain ⟨v0, vs0, d0, ds0, p0, q0, hargs, rfl, rfl, h0, r0⟩ := trodAll_cons hA
  obtain ⟨v1, vs1, d1, ds1, p1, q1, rfl, rfl, rfl, h1, r1⟩ := trodAll_cons r0
  obtain ⟨rfl, rfl, rfl⟩ := trodAll_nil r1
  obtain rfl : args = #[v0, v1] := by cases args; simp_all
  obtain ⟨rfl, rfl⟩ := trodVars_none hV
  obtain ⟨a0, len0, cap0, rfl⟩ := okWide_slice Try.underlying22 (hval 0 22 v0 rfl rfl)
  have k0 := h0
  have lt0 : ∀ x ∈ p0, x.block < W.heap.size := by obtain ⟨m, hm⟩ := k0; exact DataW.trod_lt m _ _ _ hm
  obtain ⟨z0, w0⟩ : ∃ zs, IsStrs W a0 len0 cap0 zs := by
    obtain ⟨fuel, hf⟩ := h0
    rcases open_strings Try.underlying22 Try.underlying9 (by kernel_rfl) hf with ⟨hcs, _⟩ | ⟨x, l, c, zs, hcs, _, hl, hm, hz, _, hcell, hwz⟩
    · simp [Value.cells] at hcs
      obtain ⟨rfl, rfl, rfl⟩ := hcs
      exact ⟨[], .inl ⟨rfl, rfl, rfl, rfl⟩⟩
    · simp [Value.cells] at hcs
      obtain ⟨rfl, rfl, rfl⟩ := hcs
      exact ⟨zs, .inr ⟨_, rfl, hl, hm, by simpa using hz, hcell, hwz⟩⟩
  obtain ⟨a1, len1, cap1, rfl⟩ := okWide_slice Try.underlying22 (hval 1 22 v1 rfl rfl)
  have k1 := h1
  have lt1 : ∀ x ∈ p1, x.block < W.heap.size := by obtain ⟨m, hm⟩ := k1; exact DataW.trod_lt m _ _ _ hm
  obtain ⟨z1, w1⟩ : ∃ zs, IsStrs W a1 len1 cap1 zs := by
    obtain ⟨fuel, hf⟩ := h1
    rcases open_strings Try.underlying22 Try.underlying9 (by kernel_rfl) hf with ⟨hcs, _⟩ | ⟨x, l, c, zs, hcs, _, hl, hm, hz, _, hcell, hwz⟩
    · simp [Value.cells] at hcs
      obtain ⟨rfl, rfl, rfl⟩ := hcs
      exact ⟨[], .inl ⟨rfl, rfl, rfl, rfl⟩⟩
    · simp [Value.cells] at hcs
      obtain ⟨rfl, rfl, rfl⟩ := hcs
      exact ⟨zs, .inr ⟨_, rfl, hl, hm, by simpa using hz, hcell, hwz⟩⟩
  clear hA0 hval0
  simp only [List.append_nil] at hW'
  refine (fnExactLeftQuotient_walk W a0 len0 cap0 z0 w0 a1 len1 cap1 z1 w1).mono fun e W' ⟨he, bel⟩ => ?_
  subst he
  exact ⟨_, rfl, _, _, _, [], _, [], hW', trodAll_mk1 (shut_bool Try.underlying4 _), (trodAll_cons_mk (Below.trod laidOut (by kernel_rfl) (of_decide_eq_true (by kernel_rfl)) k0 bel lt0) (trodAll_cons_mk (Below.trod laidOut (by kernel_rfl) (of_decide_eq_true (by kernel_rfl)) k1 bel lt1) trodAll_mk0)), rfl, bel.frame _, fun h => by cases h⟩

theorem over : Rows.fnExactLeftQuotientRow.holds Try.pinned (OpenSpec.ofChange Rows.fnExactLeftQuotientSpec) :=
  OpenClaim.holds_of_wide 3 Try.f3 rfl rfl rfl rfl rfl rfl rfl ⟨rfl, rfl, rfl, rfl, rfl⟩ rfl rfl rfl rfl rfl (by kernel_rfl) Try.func3 (by kernel_rfl)
    (of_decide_eq_true (by kernel_rfl)) (by unfold Func.isWrapper; first | (rw [if_pos (by decide +kernel)]; kernel_rfl) | (rw [if_neg (by decide +kernel)]; exact ⟨rfl, rfl⟩))
    (fun os started H enc _ => lifted os started H enc)

theorem proved : Rows.FnExactLeftQuotientSaid := over
#print axioms proved
end Go.Proofs.Ytplmbdljhgicfab.fnExactLeftQuotient
