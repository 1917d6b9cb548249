/- Walks: texts of words. -/
import Derived.Test.YtlcepokenaiggabDoorGt0
import Derived.Test.YtlcepokenaiggabDoorShelfJoin
import Derived.Test.YtlcepokenaiggabDoorWd1
import Derived.Test.YtlcepokenaiggabDoorWd4n
import Derived.Test.YtlcepokenaiggabDoorWd4
import Derived.Test.YtlcepokenaiggabDoorWd3
import Derived.Test.YtlcepokenaiggabDoorSrc
import Derived.Test.YtlcepokenaiggabDoorTailS
import Derived.Test.YtlcepokenaiggabDoorArgI
import Derived.Test.YtlcepokenaiggabDoorHeldW
namespace Go.Proofs.YtlcepokenaiggabDoor
open Go.RowKit

/-- The text of a letter. -/
def letB (x : Int) : ByteArray := if x < 0 then (⟨#[120]⟩ ++ numT (num x).toNat) ++ ⟨#[39]⟩ else ⟨#[120]⟩ ++ numT (num x).toNat
theorem s120 : (⟨#[120]⟩ : ByteArray).size = 1 := rfl
theorem s39 : (⟨#[39]⟩ : ByteArray).size = 1 := rfl
theorem s46 : (⟨#[46]⟩ : ByteArray).size = 1 := rfl
theorem letB_size {x : Int} (h : -100 ≤ x) (k : x ≤ 100) : 1 ≤ (letB x).size ∧ (letB x).size ≤ 6 := by
  have h1 := numT_size (num x).toNat (by unfold num; split <;> omega)
  unfold letB
  split
  · rw [ByteArray.size_append, ByteArray.size_append, s120, s39]; omega
  · rw [ByteArray.size_append, s120]; omega
/-- The text of the first letters, with marks between them. -/
def wtJ (L : List Int) : Nat → ByteArray
  | 0 => ⟨#[]⟩
  | j + 1 => (if 0 < j then wtJ L j ++ ⟨#[46]⟩ else wtJ L j) ++ letB (L.getD j 0)
theorem getD_mem {L : List Int} {k : Nat} (h : k < L.length) : L.getD k 0 ∈ L := by
  rw [List.getD_eq_getElem?_getD, List.getElem?_eq_getElem h]; exact List.getElem_mem _
theorem wtJ_size {L : List Int} (h : ∀ x ∈ L, -100 ≤ x ∧ x ≤ 100) : ∀ j, j ≤ L.length → (wtJ L j).size ≤ 7 * j ∧ (0 < j → 0 < (wtJ L j).size) := by
  intro j
  induction j with
  | zero => intro _; exact ⟨Nat.le_refl _, fun h => absurd h (by omega)⟩
  | succ j ih =>
    intro hj
    obtain ⟨h1, _⟩ := ih (by omega)
    have hm := h _ (getD_mem (L := L) (k := j) (by omega))
    have h2 := letB_size hm.1 hm.2
    rw [wtJ]
    split
    · rw [ByteArray.size_append, ByteArray.size_append, s46]; omega
    · rw [ByteArray.size_append]; omega
theorem data_app (a b : ByteArray) : (a ++ b).data.toList = a.data.toList ++ b.data.toList := by simp [ByteArray.data_append]
theorem join_snoc1 (x : List UInt8) (r : List (List UInt8)) (y sep : List UInt8) : Lib.join (x :: r ++ [y]) sep = Lib.join (x :: r) sep ++ (sep ++ y) := by
  rw [List.cons_append, Lib.join_cons, Lib.join_cons]
  unfold Lib.joinTail
  simp
theorem take_let {L : List Int} {k : Nat} (h : k < L.length) : (L.take (k + 1)).map letB = (L.take k).map letB ++ [letB (L.getD k 0)] := by
  rw [List.take_succ_eq_append_getElem h, List.map_append]
  simp [h]
theorem join_wtJ (L : List Int) : ∀ j, j + 1 ≤ L.length → Lib.join (((L.take (j + 1)).map letB).map (·.data.toList)) [46] = (wtJ L (j + 1)).data.toList := by
  intro j
  induction j with
  | zero =>
    intro h
    rw [take_let (by omega), wtJ, if_neg (by omega)]
    show Lib.join [(letB (L.getD 0 0)).data.toList] [46] = ((⟨#[]⟩ : ByteArray) ++ letB (L.getD 0 0)).data.toList
    rw [Lib.join_one, data_app]
    rfl
  | succ j ih =>
    intro h
    have ih := ih (by omega)
    rw [take_let (by omega), List.map_append]
    have hl : ((L.take (j + 1)).map letB).length = j + 1 := by simp; omega
    obtain ⟨x, r, hx⟩ : ∃ x r, ((L.take (j + 1)).map letB).map (·.data.toList) = x :: r := by
      cases hq : (L.take (j + 1)).map letB with
      | nil => rw [hq] at hl; simp at hl
      | cons a t => exact ⟨_, _, rfl⟩
    rw [hx] at ih ⊢
    show Lib.join (x :: r ++ [(letB (L.getD (j + 1) 0)).data.toList]) [46] = _
    have e : wtJ L (j + 1 + 1) = (wtJ L (j + 1) ++ ⟨#[46]⟩) ++ letB (L.getD (j + 1) 0) := by show (if 0 < j + 1 then _ else _) ++ _ = _; rw [if_pos (by omega)]
    rw [join_snoc1, ih, e, data_app, data_app, List.append_assoc]
def WordText_o (L : List Int) : Option ByteArray := if goodW L = true then some (if L.length = 0 then ⟨#[49]⟩ else wtJ L L.length) else none

set_option maxRecDepth 100000 in
set_option maxHeartbeats 2000000 in
theorem wdText_any (v : Value) (b1 : Nat) (L : List Int) (w : World) (hv : CellsI b1 w v L) (hn : L.length ≤ 100) (hL : ∀ x ∈ L, x ≠ 0 ∧ -100 ≤ x ∧ x ≤ 100) :
    Calls Tryd.prog 26 #[v] w (Gives (.string (if L.length = 0 then ⟨#[49]⟩ else wtJ L L.length)) w) := by
  obtain ⟨oa, cap, rfl, hcl, hcm, hcc⟩ := hv.form
  unfold maxLen at hcm
  have HC := Lib.hid hcc
  have HL := Lib.hid hL
  have HZ := Lib.hid (wtJ_size (fun x hx => (hL x hx).2))
  obtain ⟨R, hR⟩ : ∃ R, R = (if L.length = 0 then (⟨#[49]⟩ : ByteArray) else wtJ L L.length) := ⟨_, rfl⟩
  rw [← hR]
  have HR := Lib.hid hR
  obtain ⟨n, hn0⟩ : ∃ n, n = L.length := ⟨_, rfl⟩
  rw [← hn0] at hn hcl ⊢
  have HN := Lib.hid hn0
  clear hv hcc hL hR hn0
  go_enter Tryd.func26, Tryd.ntmps26
  go_wp2_with fail
  go_loopw [3, 8] (fun u i wr => ∃ j : Nat, j ≤ n ∧ i = .int .i64 j ∧ u = .string (wtJ L j) ∧ Below w.heap.size w wr) (fun _ i _ => n - (intOf i).toNat)
  case atStart => exact ⟨0, Nat.zero_le _, rfl, rfl, Below.refl _ _⟩
  case round =>
    obtain ⟨j, hj, rfl, rfl, hbw⟩ := hrel
    by_cases hlt : j < n
    · have hlt' : (j : Int) < (n : Int) := by omega
      obtain ⟨g, rfl, _, hgl, c1⟩ := HC.out j (by have := HN.out; omega)
      replace c1 := (hbw.cell (p := ⟨g, j, none⟩) hgl).trans c1
      have hjl : j < L.length := by have := HN.out; omega
      have hxm := HL.out _ (getD_mem hjl)
      have hzj := HZ.out j (by omega)
      have hnext : wtJ L (j + 1) = (if 0 < j then wtJ L j ++ ⟨#[46]⟩ else wtJ L j) ++ letB (L.getD j 0) := rfl
      generalize L.getD j 0 = x at *
      generalize wtJ L j = T at *
      have hzT : T.size ≤ 700 := by have := hzj.1; omega
      have hA := fun w => l1Abs_any x w (by omega) (by omega)
      obtain ⟨y, hy, hny⟩ : ∃ y : Nat, absI x = (y : Int) + 1 ∧ (num x).toNat = y := ⟨(num x).toNat, by have := hxm.1; unfold absI num; split <;> omega, rfl⟩
      have hy9 : y ≤ 9999 := by have := hxm.2; unfold absI at hy; split at hy <;> omega
      have hN := fun w => l1Num_any y y w (Nat.le_refl _) hy9
      have hnz := numT_size y hy9
      have hle : letB x = if x < 0 then (⟨#[120]⟩ ++ numT y) ++ ⟨#[39]⟩ else ⟨#[120]⟩ ++ numT y := by unfold letB; rw [hny]
      rw [hle] at hnext
      rw [hy] at hA
      have hw1 : IntKind.i64.wrap ((y : Int) + 1 - 1) = (y : Int) := by rw [IntKind.wrap_i64] <;> omega
      generalize numT y = N at *
      have q1 : (⟨#[120]⟩ ++ N).size = 1 + N.size := by rw [ByteArray.size_append, s120]
      have a1 : ¬ (9223372036854775807 < (⟨#[120]⟩ : ByteArray).size + N.size) := by rw [s120]; omega
      have a1' : ¬ (9223372036854775807 < 1 + N.size) := by omega
      have HNX := Lib.hid hnext
      clear hnext hle hzj hy hny hgl
      by_cases hj0 : 0 < j
      · have hj0' : (0 : Int) < (j : Int) := by omega
        have a2 : ¬ (9223372036854775807 < T.size + (⟨#[46]⟩ : ByteArray).size) := by rw [s46]; omega
        have a2' : ¬ (9223372036854775807 < T.size + 1) := by omega
        have a3 : ¬ (9223372036854775807 < (T ++ ⟨#[46]⟩).size + (⟨#[120]⟩ ++ N).size) := by rw [ByteArray.size_append, s46, q1]; omega
        have a3' : ¬ (9223372036854775807 < T.size + 1 + (1 + N.size)) := by omega
        by_cases hx0 : x < 0
        · have a4 : ¬ (9223372036854775807 < (T ++ ⟨#[46]⟩ ++ (⟨#[120]⟩ ++ N)).size + (⟨#[39]⟩ : ByteArray).size) := by rw [ByteArray.size_append, ByteArray.size_append, s46, q1, s39]; omega
          have a4' : ¬ (9223372036854775807 < T.size + 1 + (1 + N.size) + 1) := by omega
          clear q1
          go_wp2_with fail
          refine (hA _).mono ?_; rintro e w1 ⟨rfl, rfl⟩
          go_wp2_with fail
          refine (hN _).mono ?_; rintro e w2 ⟨rfl, hb2⟩
          go_wp2_with fail
          go_roundw
          case rel => exact ⟨j + 1, by omega, by go_num, by rw [HNX.out, if_pos (by omega), if_pos (by omega)]; simp [ByteArray.append_assoc], nx hbw hb2⟩
          case measure => simp [intOf]; omega
        · clear q1
          go_wp2_with fail
          refine (hA _).mono ?_; rintro e w1 ⟨rfl, rfl⟩
          go_wp2_with fail
          refine (hN _).mono ?_; rintro e w2 ⟨rfl, hb2⟩
          go_wp2_with fail
          go_roundw
          case rel => exact ⟨j + 1, by omega, by go_num, by rw [HNX.out, if_pos (by omega), if_neg (by omega)], nx hbw hb2⟩
          case measure => simp [intOf]; omega
      · have hj0' : ¬ (0 : Int) < (j : Int) := by omega
        have a3 : ¬ (9223372036854775807 < T.size + (⟨#[120]⟩ ++ N).size) := by rw [q1]; omega
        have a3' : ¬ (9223372036854775807 < T.size + (1 + N.size)) := by omega
        by_cases hx0 : x < 0
        · have a4 : ¬ (9223372036854775807 < (T ++ (⟨#[120]⟩ ++ N)).size + (⟨#[39]⟩ : ByteArray).size) := by rw [ByteArray.size_append, q1, s39]; omega
          have a4' : ¬ (9223372036854775807 < T.size + (1 + N.size) + 1) := by omega
          clear q1
          go_wp2_with fail
          refine (hA _).mono ?_; rintro e w1 ⟨rfl, rfl⟩
          go_wp2_with fail
          refine (hN _).mono ?_; rintro e w2 ⟨rfl, hb2⟩
          go_wp2_with fail
          go_roundw
          case rel => exact ⟨j + 1, by omega, by go_num, by rw [HNX.out, if_neg (by omega), if_pos (by omega)]; simp [ByteArray.append_assoc], nx hbw hb2⟩
          case measure => simp [intOf]; omega
        · clear q1
          go_wp2_with fail
          refine (hA _).mono ?_; rintro e w1 ⟨rfl, rfl⟩
          go_wp2_with fail
          refine (hN _).mono ?_; rintro e w2 ⟨rfl, hb2⟩
          go_wp2_with fail
          go_roundw
          case rel => exact ⟨j + 1, by omega, by go_num, by rw [HNX.out, if_neg (by omega), if_neg (by omega)], nx hbw hb2⟩
          case measure => simp [intOf]; omega
    · obtain rfl : j = n := by omega
      have hz := HZ.out j (by have := HN.out; omega)
      by_cases hn0 : j = 0
      · have hR2 : Hid (R = ⟨#[49]⟩) := by have h1 := HN.out; have h2 := HR.out; rw [if_pos (by omega)] at h2; exact h2
        subst hn0
        have hw0 : wtJ L 0 = ⟨#[]⟩ := rfl
        rw [hw0]
        go_wp2_with fail
        go_ret
        exact ⟨by rw [hR2.out]; rfl, hbw⟩
      · have hR2 : Hid (R = wtJ L j) := by have h1 := HN.out; have h2 := HR.out; rw [if_neg (by omega), ← h1] at h2; exact h2
        have hne : ((wtJ L j).toList == []) = false := by
          rw [beq_eq_false_iff_ne, Lib.toList_data]
          intro h
          have h3 := hz.2 (by omega)
          rw [Lib.size_eq, h] at h3
          simp at h3
        generalize wtJ L j = T at *
        clear hz
        go_wp2_with fail
        go_ret
        exact ⟨by rw [hR2.out]; rfl, hbw⟩
end Go.Proofs.YtlcepokenaiggabDoor
