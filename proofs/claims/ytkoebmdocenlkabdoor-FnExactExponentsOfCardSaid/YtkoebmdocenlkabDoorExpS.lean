/- Walks: spec.ExponentsOf. -/
import Derived.Test.YtkoebmdocenlkabDoorRowS
import Derived.Test.YtkoebmdocenlkabDoorSpecTr
import Derived.Test.YtkoebmdocenlkabDoorWayP
import Derived.Test.YtkoebmdocenlkabDoorAns
namespace Go.Proofs.YtkoebmdocenlkabDoor
open Go.RowKit

/-- A call that hands back a slice of integers of its own, not empty. -/
def GivesNums (xs : List Int) (w : World) (e : Ending) (w' : World) : Prop :=
  ∃ g cap : Nat, OwnI w.heap.size w' (.slice (some ⟨g, 0, none⟩) xs.length cap) xs ∧ Below w.heap.size w w' ∧ e = .returned (.slice (some ⟨g, 0, none⟩) xs.length cap)
theorem OwnI.one (w : World) (s : Int) : OwnI w.heap.size (w.alloc (.cells #[.int .i64 s] 3 (0, 0))) (.slice (some ⟨w.heap.size, 0, none⟩) 1 1) [s] := by
  refine ⟨rfl, .inr ⟨w.heap.size, 1, #[.int .i64 s], rfl, Nat.le_refl _, ?_, Nat.le_refl _, by unfold maxLen; omega, rfl, rfl⟩⟩
  show (w.heap.push _)[w.heap.size]? = _
  simp
theorem OwnI.news {base : Nat} {w : World} {g cap n : Nat} {xs : List Int} (h : OwnI base w (.slice (some ⟨g, 0, none⟩) n cap) xs) (hn : xs.length = n) :
    ∀ (j : Nat) (u : Value), (xs.map (Value.int .i64))[j]? = some u → w.cell? ((⟨g, 0, none⟩ : Addr).add j) = some u := by
  intro j u hj
  subst hn
  have hlt : j < xs.length := by
    rcases Nat.lt_or_ge j xs.length with h | h
    · exact h
    · rw [List.getElem?_eq_none (by simpa using h)] at hj; simp at hj
  have := World.ownsRow.cellAt h j (by omega)
  rw [addr_add, this, hj]
theorem oneIs (xs : List Int) : ∀ u ∈ xs.map (Value.int .i64), u.oneCell' = true := by
  intro u hu
  rw [List.mem_map] at hu
  obtain ⟨s, _, rfl⟩ := hu
  rfl
theorem OwnI.app {base : Nat} {w : World} {v : Value} {A B : List Int} (h : w.ownsRow base 3 1 v (A.length + B.length) (A.map (Value.int .i64) ++ B.map (Value.int .i64))) : OwnI base w v (A ++ B) := by
  unfold OwnI; rw [List.length_append, List.map_append]; exact h
theorem OwnI.shape {base : Nat} {w : World} {v : Value} {xs : List Int} (h : OwnI base w v xs) (hn : 0 < xs.length) : ∃ g cap, v = .slice (some ⟨g, 0, none⟩) xs.length cap := by
  rcases h.2 with ⟨_, h2⟩ | ⟨g, cap, cur, hv, _⟩
  · omega
  · exact ⟨g, cap, hv⟩

def ints (L : List Nat) : List Int := L.map (fun n : Nat => (n : Int))
theorem ints_append (A B : List Nat) : ints (A ++ B) = ints A ++ ints B := by simp [ints]
theorem ints_length (A : List Nat) : (ints A).length = A.length := by simp [ints]

set_option maxRecDepth 100000 in
set_option maxHeartbeats 2000000 in
theorem wdExponents_any (t : Tr) : ∀ (k : Nat) (w : World), t.carets ≤ 60 → k + t.carets ≤ 1000 →
    Calls Tryd.prog 55 #[.string t.str, .int .i64 k] w (GivesNums (ints (t.expN k)) w) := by
  obtain ⟨i0, hi, hz0, hz1, hz2⟩ := info_parts info_int
  induction t with
  | lf =>
    intro k w ht hh
    go_enter Tryd.func55, Tryd.ntmps55
    go_wp2_with fail
    refine (trLeaf_any .lf _).mono ?_; rintro e w1 ⟨rfl, rfl⟩
    simp only [Tr.isLf]
    go_wp2_with fail
    go_ret
    exact ⟨_, 1, OwnI.one _ _, nxAlloc (Below.refl _ _) _, rfl⟩
  | nd l r ihl ihr =>
    intro k w ht hh
    have ht' : l.carets + r.carets + 1 ≤ 60 := ht
    have hh' : k + (l.carets + r.carets + 1) ≤ 1000 := hh
    have ll := expN_length l (k + 1)
    have lr := expN_length r 0
    have jl := fun w => ihl (k + 1) w (by omega) (by omega)
    have jr := fun w => ihr 0 w (by omega) (by omega)
    rw [← ints_length] at ll lr
    have hC : ints ((Tr.nd l r).expN k) = ints (l.expN (k + 1)) ++ ints (r.expN 0) := by rw [← ints_append]; rfl
    rw [hC]
    have ek : ((k + 1 : Nat) : Int) = (k : Int) + 1 := by omega
    have e0 : ((0 : Nat) : Int) = 0 := rfl
    rw [ek] at jl
    rw [e0] at jr
    generalize ints (l.expN (k + 1)) = A at *
    generalize ints (r.expN 0) = B at *
    have hAn : A.length ≤ 61 := by omega
    have hBn : B.length ≤ 61 := by omega
    have hBp : 0 < B.length := by omega
    have hAp : 0 < A.length := by omega
    clear ihl ihr ll lr hC ek e0
    go_enter Tryd.func55, Tryd.ntmps55
    go_wp2_with fail
    refine (trLeaf_any (.nd l r) _).mono ?_; rintro e w1 ⟨rfl, rfl⟩
    simp only [Tr.isLf]
    go_wp2_with fail
    refine (trSides_any l r _ (by omega)).mono ?_; rintro e w1 ⟨rfl, hb1⟩
    go_wp2_with fail
    refine (jl _).mono ?_; rintro e w2 ⟨g1, cap1, own1, hb2, rfl⟩
    go_wp2_with fail
    refine (jr _).mono ?_; rintro e w3 ⟨g2, cap2, own2, hb3, rfl⟩
    have hown := (own1.keep hb3).mono hb1.size
    have hbw : Below w.heap.size w w3 := nx (nx hb1 hb2) hb3
    go_wp2_with (at_builtin; refine wpList_append_own _ rfl _ _ 25 rfl w.heap.size 3 i0 (.int .i64 0) 1 8 Tryd.underlying25 hi hz0 hz1 hz2 rfl (by decide) _ _ _ rfl hown ⟨g2, 0, none⟩ B.length cap2 (B.map (Value.int .i64)) rfl (by simp) (own2.news rfl) (oneIs _) (by unfold maxLen; omega) (by omega) hbw.size ?_; intro v' w4 hown' hgrow hnn)
    have hbw' := below_app0 hbw hown (Nat.le_refl _) hgrow
    have hown1 := OwnI.app hown'
    obtain ⟨g, cap, hv⟩ := hown1.shape (by simp; omega)
    have HV := Lib.hid hv
    clear hown hown' hgrow hv hnn
    go_wp2_with fail
    go_ret
    exact ⟨g, cap, by rw [← HV.out]; exact hown1, hbw', by rw [← HV.out]; rfl⟩

set_option maxRecDepth 100000 in
set_option maxHeartbeats 2000000 in
theorem wdRight_any (t : Tr) : ∀ (w : World), t.carets ≤ 60 →
    Calls Tryd.prog 27 #[.string t.str] w (GivesNums (ints t.expR) w) := by
  obtain ⟨i0, hi, hz0, hz1, hz2⟩ := info_parts info_int
  induction t with
  | lf =>
    intro w ht
    go_enter Tryd.func27, Tryd.ntmps27
    go_wp2_with fail
    refine (trLeaf_any .lf _).mono ?_; rintro e w1 ⟨rfl, rfl⟩
    simp only [Tr.isLf]
    go_wp2_with fail
    go_ret
    exact ⟨_, 1, OwnI.one _ _, nxAlloc (Below.refl _ _) _, rfl⟩
  | nd l r ihl ihr =>
    intro w ht
    have ht' : l.carets + r.carets + 1 ≤ 60 := ht
    have ll := expN_length l 0
    have lr := expR_length r
    have jl := fun w => wdExponents_any l 0 w (by omega) (by omega)
    have jr := fun w => ihr w (by omega)
    rw [← ints_length] at ll lr
    have hC : ints ((Tr.nd l r).expR) = ints (l.expN 0) ++ ints r.expR := by rw [← ints_append]; rfl
    rw [hC]
    have e0 : ((0 : Nat) : Int) = 0 := rfl
    rw [e0] at jl
    generalize ints (l.expN 0) = A at *
    generalize ints r.expR = B at *
    have hAn : A.length ≤ 61 := by omega
    have hBn : B.length ≤ 61 := by omega
    have hBp : 0 < B.length := by omega
    have hAp : 0 < A.length := by omega
    clear ihl ihr ll lr hC e0
    go_enter Tryd.func27, Tryd.ntmps27
    go_wp2_with fail
    refine (trLeaf_any (.nd l r) _).mono ?_; rintro e w1 ⟨rfl, rfl⟩
    simp only [Tr.isLf]
    go_wp2_with fail
    refine (trSides_any l r _ (by omega)).mono ?_; rintro e w1 ⟨rfl, hb1⟩
    go_wp2_with fail
    refine (jl _).mono ?_; rintro e w2 ⟨g1, cap1, own1, hb2, rfl⟩
    go_wp2_with fail
    refine (jr _).mono ?_; rintro e w3 ⟨g2, cap2, own2, hb3, rfl⟩
    have hown := (own1.keep hb3).mono hb1.size
    have hbw : Below w.heap.size w w3 := nx (nx hb1 hb2) hb3
    go_wp2_with (at_builtin; refine wpList_append_own _ rfl _ _ 25 rfl w.heap.size 3 i0 (.int .i64 0) 1 8 Tryd.underlying25 hi hz0 hz1 hz2 rfl (by decide) _ _ _ rfl hown ⟨g2, 0, none⟩ B.length cap2 (B.map (Value.int .i64)) rfl (by simp) (own2.news rfl) (oneIs _) (by unfold maxLen; omega) (by omega) hbw.size ?_; intro v' w4 hown' hgrow hnn)
    have hbw' := below_app0 hbw hown (Nat.le_refl _) hgrow
    have hown1 := OwnI.app hown'
    obtain ⟨g, cap, hv⟩ := hown1.shape (by simp; omega)
    have HV := Lib.hid hv
    clear hown hown' hgrow hv hnn
    go_wp2_with fail
    go_ret
    exact ⟨g, cap, by rw [← HV.out]; exact hown1, hbw', by rw [← HV.out]; rfl⟩

def ExponentsOf_o (a : ByteArray) : Option (List Int) :=
  match treeOf a with
  | some t => some (ints t.expR)
  | none => none
theorem ExponentsOf_len (a : ByteArray) : ((ExponentsOf_o a).getD []).length ≤ 1000000000 := by
  unfold ExponentsOf_o
  cases h : treeOf a with
  | none => simp
  | some t =>
    have := expR_length t
    have := ints_length t.expR
    have := (treeOf_some h).2
    simp; omega

theorem specExponentsOf_any (a : ByteArray) (w : World) (ha : a.size ≤ 9223372036854775806) :
    Calls Tryd.prog 13 #[.string a] w (AnsIs (ExponentsOf_o a) w) := by
  cases h : treeOf a with
  | none =>
    rw [show ExponentsOf_o a = none by simp [ExponentsOf_o, h]]
    have H := Lib.hid h
    clear h
    go_enter Tryd.func13, Tryd.ntmps13
    go_wp2_with fail
    refine (trIs_no a _ ha H.out).mono ?_; rintro e w1 ⟨rfl, rfl⟩
    go_wp2_with fail
    go_ret2
    exact ⟨_, OwnI.nil _ _, Below.refl _ _, rfl⟩
  | some t =>
    obtain ⟨rfl, hc⟩ := treeOf_some h
    rw [show ExponentsOf_o t.str = some (ints t.expR) by simp [ExponentsOf_o, h]]
    have hA := fun w => wdRight_any t w (by omega)
    clear h
    go_enter Tryd.func13, Tryd.ntmps13
    go_wp2_with fail
    refine (trIs_yes t _ hc).mono ?_; rintro e w1 ⟨rfl, rfl⟩
    go_wp2_with fail
    refine (hA _).mono ?_; rintro e w2 ⟨g, cap, own, hb1, rfl⟩
    go_wp2_with fail
    go_ret2
    exact ⟨_, own, hb1, rfl⟩

end Go.Proofs.YtkoebmdocenlkabDoor
