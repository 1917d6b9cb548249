/- Walks: ForestText of both sides. -/
import Derived.Test.YtplmbdljhgicfaaFf4
import Derived.Test.YtplmbdljhgicfaaShelfJoin
namespace Go.Proofs.Ytplmbdljhgicfaa
open Go.RowKit

/-- The text of the first trees, with blanks between them. -/
def foJ (us : List Tr) : Nat → ByteArray
  | 0 => ⟨#[]⟩
  | j + 1 => (if 0 < j then foJ us j ++ ⟨#[32]⟩ else foJ us j) ++ (us.getD j .lf).str
theorem s32 : (⟨#[32]⟩ : ByteArray).size = 1 := rfl
theorem carets_getD (us : List Tr) (j : Nat) (h : sumT us ≤ 8) : (us.getD j .lf).carets ≤ 8 := by
  by_cases hj : j < us.length
  · rw [List.getD_eq_getElem?_getD, List.getElem?_eq_getElem hj]
    have := sumT_mem (List.getElem_mem hj); simp; omega
  · rw [List.getD_eq_getElem?_getD, List.getElem?_eq_none (by omega)]; simp [Tr.carets]
theorem foJ_size (us : List Tr) (h : sumT us ≤ 8) : ∀ j, (foJ us j).size ≤ 26 * j ∧ (0 < j → 0 < (foJ us j).size) := by
  intro j
  induction j with
  | zero => exact ⟨Nat.le_refl _, fun h => absurd h (by omega)⟩
  | succ j ih =>
    obtain ⟨h1, _⟩ := ih
    have hc := carets_getD us j h
    have hs := (us.getD j .lf).str_size
    unfold foJ
    rw [ByteArray.size_append]
    split
    · rw [ByteArray.size_append, s32]; omega
    · omega
theorem foText_app (a b : ByteArray) : (a ++ b).data.toList = a.data.toList ++ b.data.toList := by simp [ByteArray.data_append]
theorem foJoin_snoc (x : List UInt8) (r : List (List UInt8)) (y sep : List UInt8) : Lib.join (x :: r ++ [y]) sep = Lib.join (x :: r) sep ++ (sep ++ y) := by
  rw [List.cons_append, Lib.join_cons, Lib.join_cons]
  unfold Lib.joinTail
  simp
theorem take_strs {us : List Tr} {k : Nat} (h : k < us.length) : (strs us).take (k + 1) = (strs us).take k ++ [(us.getD k .lf).str] := by
  unfold strs
  rw [List.take_succ_eq_append_getElem (by simpa using h)]
  simp [h]
theorem join_foJ (us : List Tr) : ∀ j, j + 1 ≤ us.length → Lib.join (((strs us).take (j + 1)).map (·.data.toList)) [32] = (foJ us (j + 1)).data.toList := by
  intro j
  induction j with
  | zero =>
    intro h
    rw [take_strs (by omega), foJ, if_neg (by omega)]
    show Lib.join [(us.getD 0 .lf).str.data.toList] [32] = ((⟨#[]⟩ : ByteArray) ++ (us.getD 0 .lf).str).data.toList
    rw [Lib.join_one, foText_app]
    rfl
  | succ j ih =>
    intro h
    have ih := ih (by omega)
    rw [take_strs (by omega), List.map_append]
    have hl : ((strs us).take (j + 1)).length = j + 1 := by rw [List.length_take, strs_length]; omega
    obtain ⟨x, r, hx⟩ : ∃ x r, ((strs us).take (j + 1)).map (·.data.toList) = x :: r := by
      cases hq : (strs us).take (j + 1) with
      | nil => rw [hq] at hl; simp at hl
      | cons a t => exact ⟨_, _, rfl⟩
    rw [hx] at ih ⊢
    show Lib.join (x :: r ++ [(us.getD (j + 1) .lf).str.data.toList]) [32] = _
    have e : foJ us (j + 1 + 1) = (foJ us (j + 1) ++ ⟨#[32]⟩) ++ (us.getD (j + 1) .lf).str := by show (if 0 < j + 1 then _ else _) ++ _ = _; rw [if_pos (by omega)]
    rw [foJoin_snoc, ih, e, foText_app, foText_app, List.append_assoc]
def foTextT (us : List Tr) : ByteArray := if us.length = 0 then ⟨#[45]⟩ else foJ us us.length
def textO (o : Option (List Tr)) : Value := .tuple #[.string (match o with | some us => foTextT us | none => ⟨#[]⟩), .bool o.isSome]

set_option maxRecDepth 100000 in
set_option maxHeartbeats 2000000 in
theorem foText_any (v : Value) (b : Nat) (us : List Tr) (w : World) (h : CellsS b w v (strs us)) (hs : sumT us ≤ 8) (hn : us.length ≤ 8) :
    Calls Try.prog 48 #[v] w (Gives (.string (foTextT us)) w) := by
  obtain ⟨oa, cap, rfl, hcl, hcm, hcc⟩ := h.form0
  unfold maxLen at hcm
  rw [strs_length] at *
  have HC := Lib.hid hcc
  have HZ := Lib.hid (foJ_size us hs)
  have HS := Lib.hid hs
  obtain ⟨R, hR⟩ : ∃ R, R = foTextT us := ⟨_, rfl⟩
  rw [← hR]
  have HR := Lib.hid hR
  obtain ⟨n, hn0⟩ : ∃ n, n = us.length := ⟨_, rfl⟩
  rw [← hn0] at hn hcl ⊢
  have HN := Lib.hid hn0
  clear h hcc hs hR hn0
  go_enter Try.func48, Try.ntmps48
  go_wp2_with fail
  go_loopw [3, 8] (fun u i wr => ∃ j : Nat, j ≤ n ∧ i = .int .i64 j ∧ u = .string (foJ us j) ∧ wr = w) (fun _ i _ => n - (intOf i).toNat)
  case atStart => exact ⟨0, Nat.zero_le _, rfl, rfl, rfl⟩
  case round =>
    obtain ⟨j, hj, rfl, rfl, rfl⟩ := hrel
    by_cases hlt : j < n
    · have hlt' : (j : Int) < (n : Int) := by omega
      obtain ⟨g, rfl, _, hgl, c1⟩ := HC.out j (by have := HN.out; omega)
      have hjl : j < us.length := by have := HN.out; omega
      have hzj := HZ.out j
      have hct := carets_getD us j HS.out
      have hts := (us.getD j .lf).str_size
      have hnext : foJ us (j + 1) = (if 0 < j then foJ us j ++ ⟨#[32]⟩ else foJ us j) ++ (us.getD j .lf).str := rfl
      rw [show (strs us).getD j ⟨#[]⟩ = (us.getD j .lf).str from map_getD us j hjl] at c1
      generalize (us.getD j .lf).str = x at *
      generalize us.getD j .lf = t at *
      generalize foJ us j = T at *
      have hzT : T.size ≤ 700 := by have := hzj.1; omega
      have hzx : x.size ≤ 700 := by omega
      have HNX := Lib.hid hnext
      clear hnext hzj hgl hct hts
      by_cases hj0 : 0 < j
      · have hj0' : (0 : Int) < (j : Int) := by omega
        have a2 : ¬ (9223372036854775807 < T.size + (⟨#[32]⟩ : ByteArray).size) := by rw [s32]; omega
        have a2' : ¬ (9223372036854775807 < T.size + 1) := by omega
        have a3 : ¬ (9223372036854775807 < (T ++ ⟨#[32]⟩).size + x.size) := by rw [ByteArray.size_append, s32]; omega
        have a3' : ¬ (9223372036854775807 < T.size + 1 + x.size) := by omega
        go_wp2_with fail
        go_roundw
        case rel => exact ⟨j + 1, by omega, by go_num, by rw [HNX.out, if_pos hj0], trivial⟩
        case measure => simp [intOf]; omega
      · obtain rfl : j = 0 := by omega
        have a3 : ¬ (9223372036854775807 < T.size + x.size) := by omega
        go_wp2_with fail
        go_roundw
        case rel => exact ⟨1, by omega, by go_num, by rw [HNX.out, if_neg (by omega)], trivial⟩
        case measure => simp [intOf]; omega
    · obtain rfl : j = n := by omega
      have hRR := HR.out
      unfold foTextT at hRR
      by_cases h0 : j = 0
      · obtain rfl := h0
        rw [if_pos HN.out.symm] at hRR
        have HF := Lib.hid hRR
        clear hRR
        rw [show foJ us 0 = (⟨#[]⟩ : ByteArray) from rfl]
        go_wp2_with fail
        go_ret
        exact ⟨by rw [HF.out]; rfl, Below.refl _ _⟩
      · rw [if_neg (by have := HN.out; omega), ← HN.out] at hRR
        have hpos := (HZ.out j).2 (by omega)
        rw [← hRR] at hpos ⊢
        have hne : (R.toList == []) = false := by
          rw [beq_eq_false_iff_ne, Lib.toList_data]
          intro e
          have := congrArg List.length e
          simp at this
          have hz : R.size = R.data.size := rfl
          rw [hz, this] at hpos
          simp at hpos
        clear hRR hpos h0
        go_wp2_with fail
        go_ret
        exact ⟨rfl, Below.refl _ _⟩


set_option maxRecDepth 100000 in
set_option maxHeartbeats 2000000 in
theorem implForestText_any (v : Value) (b : Nat) (L : List ByteArray) (w : World) (h : CellsS b w v L) (hz : ∀ s ∈ L, s.size ≤ 1048576) (hn : L.length ≤ 1048576) :
    Calls Try.prog 23 #[v] w (Gives (textO (forOf L)) w) := by
  have hG := fun w h => implIsForest_b v b L w h hz hn
  have HH := Lib.hid h
  obtain ⟨oa, cap, rfl, hcl, hcm, hcc⟩ := h.form0
  unfold maxLen at hcm
  have HC := Lib.hid hcc
  clear h hz hcc
  rcases hf : forOf L with _ | us
  · rw [hf] at hG
    have hG' : ∀ w, CellsS b w (.slice oa L.length cap) L → Calls Try.prog 16 #[.slice oa L.length cap] w (Gives (.bool false) w) := hG
    clear hG hf
    go_enter Try.func23, Try.ntmps23
    go_wp2_with fail
    refine (hG' _ HH.out).mono ?_; rintro e w1 ⟨rfl, hb1⟩
    go_wp2_with fail
    go_ret2
    exact ⟨rfl, hb1⟩
  · rw [hf] at hG
    have hG' : ∀ w, CellsS b w (.slice oa L.length cap) L → Calls Try.prog 16 #[.slice oa L.length cap] w (Gives (.bool true) w) := hG
    obtain ⟨hL, hl8, hs8, hlast⟩ := forOf_strs hf
    have hus : L.length = us.length := by rw [hL, strs_length]
    by_cases h0 : L.length = 0
    · have hd0 : ((L.length : Int) == 0) = true := by simp [h0]
      have HF : Hid (foTextT us = ⟨#[45]⟩) := by show foTextT us = _; unfold foTextT; rw [if_pos (by omega)]
      clear hG hf hL hlast hus h0 HC
      go_enter Try.func23, Try.ntmps23
      go_wp2_with fail
      refine (hG' _ HH.out).mono ?_; rintro e w1 ⟨rfl, hb1⟩
      go_wp2_with fail
      go_ret2
      exact ⟨by show _ = Ending.returned (.tuple #[.string (foTextT us), .bool true]); rw [HF.out]; rfl, hb1⟩
    · have hd0 : ((L.length : Int) == 0) = false := by rw [beq_eq_false_iff_ne]; omega
      obtain ⟨g, rfl, _, hgl, _⟩ := HC.out 0 (by omega)
      have hsz := (foJ_size us hs8 us.length).1
      have hT : foTextT us = foJ us us.length := by unfold foTextT; rw [if_neg (by omega)]
      have hjn : Lib.join (L.map (·.data.toList)) [32] = (foTextT us).data.toList := by
        have h1 := join_foJ us (us.length - 1) (by omega)
        rw [show us.length - 1 + 1 = us.length by omega, List.take_of_length_le (by rw [strs_length]; omega), ← hL] at h1
        rw [h1, hT]
      rw [← hT] at hsz
      obtain ⟨R, hR⟩ : ∃ R, R = foTextT us := ⟨_, rfl⟩
      have hJ : ∀ wr, Below w.heap.size w wr → Calls Try.prog 49 #[.slice (some ⟨g, 0, none⟩) L.length cap, .string ⟨#[32]⟩] wr (Gives (.string R) wr) := fun wr hb => by
        have hJ0 := Try.strings_Join g 0 cap L ⟨#[32]⟩ wr (fun k x hk => by
          have hk' := (List.getElem?_eq_some_iff.1 hk).1
          obtain ⟨g', e, _, hg', c⟩ := HC.out k hk'
          obtain rfl : g = g' := by simpa using e
          rw [Nat.zero_add]
          refine (hb.cell (p := ⟨g, k, none⟩) hg').trans ?_
          rw [c, List.getD_eq_getElem?_getD, hk]
          rfl) (Nat.lt_of_lt_of_le hgl hb.size) (by omega) hcl (by
            show (Lib.join _ [32]).length ≤ _
            rw [hjn]
            have : (foTextT us).data.toList.length = (foTextT us).size := by rw [Array.length_toList]; rfl
            omega)
        change Calls _ _ _ wr (fun e w' => e = .returned (.string ⟨(Lib.join (L.map (·.data.toList)) [32]).toArray⟩) ∧ Below wr.heap.size wr w') at hJ0
        rw [hjn] at hJ0
        rw [hR]
        exact hJ0
      have HF := Lib.hid hR
      clear hG hf hL hlast hus h0 HC hjn hT hsz hR
      go_enter Try.func23, Try.ntmps23
      go_wp2_with fail
      refine (hG' _ HH.out).mono ?_; rintro e w1 ⟨rfl, hb1⟩
      have hJ1 := hJ _ hb1
      go_wp2_with fail
      refine hJ1.mono ?_; rintro e w2 ⟨rfl, hb2⟩
      go_wp2_with fail
      go_ret2
      exact ⟨by show _ = Ending.returned (.tuple #[.string (foTextT us), .bool true]); rw [← HF.out]; rfl, nx hb1 hb2⟩

set_option maxRecDepth 100000 in
set_option maxHeartbeats 2000000 in
theorem specForestText_any (v : Value) (b : Nat) (L : List ByteArray) (w : World) (h : CellsS b w v L) (hz : ∀ s ∈ L, s.size ≤ 1048576) (hn : L.length ≤ 1048576) :
    Calls Try.prog 22 #[v] w (Gives (textO (forOf L)) w) := by
  have hG := fun w h => foGood_any v b L w h hz hn
  have HH := Lib.hid h
  obtain ⟨oa, cap, rfl, hcl, hcm, _⟩ := h.form0
  unfold maxLen at hcm
  clear h hz
  rcases hf : forOf L with _ | us
  · rw [hf] at hG
    have hG' : ∀ w, CellsS b w (.slice oa L.length cap) L → Calls Try.prog 41 #[.slice oa L.length cap] w (Gives (.bool false) w) := hG
    clear hG hf
    go_enter Try.func22, Try.ntmps22
    go_wp2_with fail
    refine (hG' _ HH.out).mono ?_; rintro e w1 ⟨rfl, hb1⟩
    go_wp2_with fail
    go_ret2
    exact ⟨rfl, hb1⟩
  · rw [hf] at hG
    have hG' : ∀ w, CellsS b w (.slice oa L.length cap) L → Calls Try.prog 41 #[.slice oa L.length cap] w (Gives (.bool true) w) := hG
    obtain ⟨hL, hl8, hs8, hlast⟩ := forOf_strs hf
    have hC := fun w h => foText_any (.slice oa L.length cap) b us w h (by omega) (by omega)
    have hus : L.length = us.length := by rw [hL, strs_length]
    have HC : Hid (∀ w, CellsS b w (.slice oa L.length cap) L → CellsS b w (.slice oa L.length cap) (strs us)) := fun w h => by rw [← hL]; exact h
    have HU := Lib.hid hus
    clear hG hf hL hlast hus
    go_enter Try.func22, Try.ntmps22
    go_wp2_with fail
    refine (hG' _ HH.out).mono ?_; rintro e w1 ⟨rfl, hb1⟩
    go_wp2_with fail
    refine (hC _ (HC.out _ (HH.out.keep hb1))).mono ?_; rintro e w2 ⟨rfl, hb2⟩
    go_wp2_with fail
    go_ret2
    exact ⟨rfl, nx hb1 hb2⟩

end Go.Proofs.Ytplmbdljhgicfaa
