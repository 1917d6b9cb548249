/- Walks: countOn. -/
import Derived.Test.YtkoebmdocenlkabTb2
import Derived.Test.YtkoebmdocenlkabTreeO
import Derived.Test.YtkoebmdocenlkabGenC
namespace Go.Proofs.Ytkoebmdocenlkab
open Go.RowKit

theorem dig3 {n i j k : Nat} (_hi : i < n) (hj : j < n) (hk : k < n) : digN n 3 ((i * n + j) * n + k) = [(i : Int), (j : Int), (k : Int)] := by
  have hn : 0 < n := by omega
  have h2 : n ^ 2 = n * n := by rw [Nat.pow_succ, Nat.pow_one]
  have hjk : j * n + k < n * n := by
    have : j * n + n ≤ n * n := by rw [← Nat.succ_mul]; exact Nat.mul_le_mul_right _ hj
    omega
  have e0 : (i * n + j) * n + k = (n * n) * i + (j * n + k) := by
    rw [Nat.add_mul, Nat.mul_assoc, Nat.mul_comm i (n * n), Nat.add_assoc]
  have e1 : ((i * n + j) * n + k) / n ^ 2 = i := by
    rw [h2, e0, Nat.mul_add_div (Nat.mul_pos hn hn), Nat.div_eq_of_lt hjk, Nat.add_zero]
  have e2 : ((i * n + j) * n + k) % n ^ 2 = j * n + k := by
    rw [h2, e0, Nat.mul_add_mod, Nat.mod_eq_of_lt hjk]
  have e3 : (j * n + k) / n ^ 1 = j := by
    rw [Nat.pow_one, Nat.mul_comm j n, Nat.mul_add_div hn, Nat.div_eq_of_lt hk, Nat.add_zero]
  have e4 : (j * n + k) % n ^ 1 = k := by
    rw [Nat.pow_one, Nat.mul_comm j n, Nat.mul_add_mod, Nat.mod_eq_of_lt hk]
  show [((((i * n + j) * n + k) / n ^ 2 : Nat) : Int), (((((i * n + j) * n + k) % n ^ 2) / n ^ 1 : Nat) : Int), ((((((i * n + j) * n + k) % n ^ 2) % n ^ 1) / n ^ 0 : Nat) : Int)] = _
  rw [e1, e2, e3, e4, Nat.pow_zero, Nat.div_one]
theorem rep_setI {A : List Int} {B : List Int} {x y : Int} : (A ++ x :: B).set A.length y = A ++ y :: B := by
  rw [List.set_append_right _ _ (Nat.le_refl _), Nat.sub_self, List.set_cons_zero]
/-- What lies in the cells while the last n - j numbers have been set to none. -/
def offs (vs : List Int) (j : Nat) : List Int := vs.take j ++ List.replicate (vs.length - j) (0 : Int)
theorem offs_len {vs : List Int} {j : Nat} (h : j ≤ vs.length) : (offs vs j).length = vs.length := by
  unfold offs
  rw [List.length_append, List.length_take, List.length_replicate]; omega
theorem offs_at {vs : List Int} {m : Nat} (h : m < vs.length) : offs vs (m + 1) = vs.take m ++ vs.getD m 0 :: List.replicate (vs.length - (m + 1)) 0 := by
  unfold offs
  rw [List.take_succ_eq_append_getElem h, List.append_assoc]
  simp [h]
theorem offs_up {vs : List Int} {m : Nat} (h : m < vs.length) (y : Int) : (offs vs (m + 1)).set m y = vs.take m ++ y :: List.replicate (vs.length - (m + 1)) 0 := by
  rw [offs_at h]
  have e : (vs.take m).length = m := by rw [List.length_take]; omega
  have := rep_setI (A := vs.take m) (B := List.replicate (vs.length - (m + 1)) 0) (x := vs.getD m 0) (y := y)
  rw [e] at this
  exact this
theorem offs_dn {vs : List Int} {m : Nat} (h : m < vs.length) (y : Int) : ((offs vs (m + 1)).set m y).set m 0 = offs vs m := by
  rw [List.set_set, offs_up h]
  unfold offs
  rw [show vs.length - m = (vs.length - (m + 1)) + 1 by omega, List.replicate_succ]
theorem split_at {vs : List Int} {m : Nat} (h : m < vs.length) : vs.drop m = vs.getD m 0 :: vs.drop (m + 1) ∧ vs = vs.take m ++ vs.getD m 0 :: vs.drop (m + 1) := by
  have h1 : vs.drop m = vs.getD m 0 :: vs.drop (m + 1) := by rw [List.drop_eq_getElem_cons h]; simp [h]
  exact ⟨h1, by rw [← h1, List.take_append_drop]⟩
theorem cellOf {base : Nat} {w : World} {g n cap : Nat} {xs : List Int} (h : w.ownsRow base 3 1 (.slice (some ⟨g, 0, none⟩) n cap) n (xs.map (Value.int .i64))) (hn : xs.length = n) {i : Nat} (hi : i < n) : w.cell? ⟨g, i, none⟩ = some (.int .i64 (xs.getD i 0)) := by
  rw [World.ownsRow.cellAt h i (by omega)]
  simp [List.getElem?_eq_getElem (show i < xs.length by omega)]
def OnTo (n : Nat) (base g k : Nat) (vs : List Int) (w : World) (e : Ending) (w' : World) : Prop :=
  e = .returned (.bool (cntOn n vs).2) ∧ OwnI base w' (.slice (some ⟨g, 0, none⟩) k k) (cntOn n vs).1 ∧ w.grownBy w' (some g)

set_option maxRecDepth 100000 in
set_option maxHeartbeats 1000000 in
theorem countOn_any (gT : Option Addr) (nT cT base g n : Nat) (vs : List Int) (w : World) (hn : vs.length = n) (hn9 : n ≤ 1000) (hnT : nT ≤ 1000) (hin : ∀ x ∈ vs, 0 ≤ x ∧ x < nT) (h : OwnI base w (.slice (some ⟨g, 0, none⟩) n n) vs) :
    Calls Try.prog 83 #[.slice gT nT cT, .slice (some ⟨g, 0, none⟩) n n] w (OnTo nT base g n vs w) := by
  have H0 : Hid (w.ownsRow base 3 1 (.slice (some ⟨g, 0, none⟩) n n) n ((offs vs n).map (Value.int .i64))) := by
    show World.ownsRow ..
    have e : offs vs n = vs := by unfold offs; rw [List.take_of_length_le (by omega), hn, Nat.sub_self, List.replicate_zero, List.append_nil]
    rw [e]
    unfold OwnI at h
    rw [hn] at h
    exact h
  have HN := Lib.hid hn
  have HIN := Lib.hid hin
  clear h hn hin
  go_enter Try.func83, Try.ntmps83
  go_wp2_with fail
  go_loopw [5] (fun i wr => ∃ (j : Nat) (z : Int), i = .int .i64 z ∧ z = (j : Int) - 1 ∧ j ≤ n ∧ Hid ((cntOn nT (vs.drop j)).2 = false) ∧ Hid (wr.ownsRow base 3 1 (.slice (some ⟨g, 0, none⟩) n n) n ((offs vs j).map (Value.int .i64))) ∧ w.grownBy wr (some g)) (fun i _ => (intOf i + 1).toNat)
  case atStart => exact ⟨n, _, rfl, by omega, Nat.le_refl _, by rw [List.drop_of_length_le (by have := HN.out; omega)]; exact rfl, H0, grown_refl _ _⟩
  case round =>
    obtain ⟨j, z, rfl, hz, hj, hno, hown, hgr⟩ := hrel
    cases j with
    | zero =>
      obtain rfl : z = -1 := by omega
      have HF : Hid ((cntOn nT vs).2 = false ∧ (cntOn nT vs).1 = offs vs 0) := by
        have h1 := hno.out
        rw [List.drop_zero] at h1
        exact ⟨h1, by rw [cntOn_no h1]; unfold offs; simp⟩
      have HO : Hid (OwnI base wr (.slice (some ⟨g, 0, none⟩) n n) (offs vs 0)) := by
        show OwnI ..
        unfold OwnI
        rw [offs_len (Nat.zero_le _), HN.out]
        exact hown.out
      clear hown hno hz
      go_wp2_with fail
      go_ret
      exact ⟨ret_bool (by rw [HF.out.1]), by rw [HF.out.2]; exact HO.out, hgr⟩
    | succ m =>
      obtain rfl : z = (m : Int) := by omega
      have hlt : m < n := by omega
      have hm : m < vs.length := by have := HN.out; omega
      have hlo : (offs vs (m + 1)).length = n := by rw [offs_len (by omega)]; exact HN.out
      have c1 := cellOf hown.out hlo hlt
      have f1 : wr.frozen? ⟨g, m, none⟩ = false := World.ownsRow.frozenAt hown.out m
      have ex : (offs vs (m + 1)).getD m 0 = vs.getD m 0 := by
        rw [offs_at hm]
        have e : (vs.take m).length = m := by rw [List.length_take]; omega
        simp [List.getD_eq_getElem?_getD, e]
      rw [ex] at c1
      have hxi := HIN.out _ (getD_mem (d := 0) hm)
      obtain ⟨x, hx⟩ : ∃ x, x = vs.getD m 0 := ⟨_, rfl⟩
      rw [← hx] at c1 hxi
      have hs := split_at hm
      rw [← hx] at hs
      have hr1 := World.ownsRow.stored hown.out m (.int .i64 (x + 1))
      rw [← List.map_set] at hr1
      have c2 := cellOf hr1.1 (by rw [List.length_set]; exact hlo) hlt
      have e2 : ((offs vs (m + 1)).set m (x + 1)).getD m 0 = x + 1 := by
        simp [List.getD_eq_getElem?_getD, show m < (offs vs (m + 1)).length by omega]
      rw [e2] at c2
      have f2 : (wr.setCell ⟨g, m, none⟩ (.int .i64 (x + 1))).frozen? ⟨g, m, none⟩ = false := World.ownsRow.frozenAt hr1.1 m
      have HG := grown_trans hgr hr1.2
      by_cases hxn : x + 1 < nT
      · have HF : Hid ((cntOn nT vs).2 = true ∧ (cntOn nT vs).1 = (offs vs (m + 1)).set m (x + 1)) := by
          have h1 := cntOn_app hno.out (vs.take m) hxn
          rw [← hs.2] at h1
          rw [h1, offs_up hm]
          exact ⟨rfl, by rw [List.length_drop]⟩
        have HO : Hid (OwnI base (wr.setCell ⟨g, m, none⟩ (.int .i64 (x + 1))) (.slice (some ⟨g, 0, none⟩) n n) ((offs vs (m + 1)).set m (x + 1))) := by
          show OwnI ..
          unfold OwnI
          rw [List.length_set, hlo]
          exact hr1.1
        clear hown hno hz hr1 hs hx ex e2 hlo hgr
        go_wp2_with fail
        go_ret
        exact ⟨ret_bool (by rw [HF.out.1]), by rw [HF.out.2]; exact HO.out, HG⟩
      · have hr2 := World.ownsRow.stored hr1.1 m (.int .i64 0)
        rw [← List.map_set] at hr2
        have HO : Hid ((((wr.setCell ⟨g, m, none⟩ (.int .i64 (x + 1))).setCell ⟨g, m, none⟩ (.int .i64 0))).ownsRow base 3 1 (.slice (some ⟨g, 0, none⟩) n n) n ((offs vs m).map (Value.int .i64))) := by
          show World.ownsRow ..
          rw [← offs_dn hm (x + 1)]
          exact hr2.1
        have HF : Hid ((cntOn nT (vs.drop m)).2 = false) := by
          show _ = _
          rw [hs.1]
          exact cntOn_cons_no hno.out hxn
        have HG2 := grown_trans HG hr2.2
        clear hown hno hz hr1 hr2 hs hx ex e2 hlo hgr HG
        go_wp2_with fail
        go_roundw
        case rel => exact ⟨m, _, rfl, by omega, by omega, HF, HO, HG2⟩
        case measure => simp [intOf]
end Go.Proofs.Ytkoebmdocenlkab
