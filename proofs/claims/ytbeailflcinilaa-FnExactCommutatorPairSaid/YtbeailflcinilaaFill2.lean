/- Walks: spec.prFill, impl.withLeaves. -/
import Derived.Test.YtbeailflcinilaaFill
import Derived.Test.YtbeailflcinilaaLeaf
namespace Go.Proofs.Ytbeailflcinilaa
open Go.RowKit

def fillB (s : ByteArray) (us : List ByteArray) : ByteArray := ⟨(fillL s.data.toList us).toArray⟩

theorem byteCells_app (x y : List UInt8) : Lib.byteCells x ++ Lib.byteCells y = Lib.byteCells (x ++ y) := by simp [Lib.byteCells]
theorem IsBld.drewN {B b : Nat} {bs : List Value} {w : World} (h : IsBld B b bs w) (n : Nat) : IsBld B b bs (w.drewN n) := h

theorem fillB_tr (t : Tr) (us : List Tr) (h : us.length = t.leaves) : fillB t.str (us.map Tr.str) = (t.fill us).str := by
  unfold fillB
  rw [Tr.str_list, fill_text t us h]
  rfl

/-- One byte of a text, and what is filled in. -/
theorem fill_dot {s : ByteArray} {us : List ByteArray} {i k : Nat} (hi : i < s.size) (hk : k < us.length) (h : byteAt s i = 46) :
    fillL (s.data.toList.drop i) (us.drop k) = (us.getD k ⟨#[]⟩).data.toList ++ fillL (s.data.toList.drop (i + 1)) (us.drop (k + 1)) := by
  obtain ⟨c, r, hd, hc, hr⟩ := drop_of_byteAt hi
  have : c = 46 := u8_eq (n := 46) (by omega) (by rw [← hc, h]; rfl)
  subst this
  rw [hd, fillL, if_pos rfl, hr, List.drop_eq_getElem_cons hk]
  simp [hk]
theorem fill_other {s : ByteArray} {us : List ByteArray} {i k : Nat} (hi : i < s.size) (h : ¬ byteAt s i = 46) :
    fillL (s.data.toList.drop i) (us.drop k) = (s.extract i (i + 1)).data.toList ++ fillL (s.data.toList.drop (i + 1)) (us.drop k) ∧ ∃ c : UInt8, (s[i]'hi) = c ∧ fillL (s.data.toList.drop i) (us.drop k) = c :: fillL (s.data.toList.drop (i + 1)) (us.drop k) := by
  obtain ⟨c, r, hd, hc, hr⟩ := drop_of_byteAt hi
  have hne : ¬ c = 46 := fun e => h (by rw [hc, e]; rfl)
  have hx : s[i]'hi = c := by
    have h1 := byteAt_eq s i (by simpa using hi)
    rw [hc] at h1
    have : (s[i]'hi).toNat = c.toNat := by
      have h2 : ((c.toNat : Nat) : Int) = ((s[i]'hi).toNat : Int) := h1
      omega
    exact UInt8.toNat_inj.1 this
  have hf : fillL (s.data.toList.drop i) (us.drop k) = c :: fillL (s.data.toList.drop (i + 1)) (us.drop k) := by
    rw [hd, fillL, if_neg hne, hr]
  refine ⟨?_, c, hx, hf⟩
  rw [hf, Lib.extract_data, hd]
  have : i + 1 - i = 1 := by omega
  rw [this]
  simp

/-- The leaves that are left. -/
theorem dots_drop {s : ByteArray} {i : Nat} (hi : i < s.size) : (s.data.toList.drop i).count 46 = (if byteAt s i = 46 then 1 else 0) + (s.data.toList.drop (i + 1)).count 46 := by
  obtain ⟨c, r, hd, hc, hr⟩ := drop_of_byteAt hi
  rw [hd, List.count_cons, hr, hc]
  by_cases h : c = 46
  · subst h; simp; omega
  · have : ¬ ((c.toNat : Int) = 46) := fun e => h (u8_eq (n := 46) (by omega) e)
    rw [if_neg this]
    simp [h]

set_option maxRecDepth 100000 in
set_option maxHeartbeats 2000000 in
theorem prFill_any (b1 : Nat) (s : ByteArray) (v : Value) (us : List ByteArray) (w : World) (hs : s.size ≤ 1000) (hv : CellsS b1 w v us) (hd : s.data.toList.count 46 ≤ us.length) (_hu : us.length ≤ 1000) (hl : (fillL s.data.toList us).length ≤ 1000000) :
    Calls Try.prog 82 #[.string s, v] w (Gives (.string (fillB s us)) w) := by
  obtain ⟨oa, cap, rfl, h1, h2, hc⟩ := hv.form
  unfold maxLen at h2
  clear hv
  obtain ⟨F, hF⟩ : ∃ F, F = fillL s.data.toList us := ⟨_, rfl⟩
  have hB : fillB s us = ⟨F.toArray⟩ := by rw [hF]; rfl
  rw [← hF] at hl
  rw [hB]
  have HF := Lib.hid hF
  clear hF hB
  go_enter Try.func82, Try.ntmps82
  go_wp2_with fail
  go_loopw [5, 6, 7] (fun o k i wr => ∃ (x : ByteArray) (a j : Nat), o = .string x ∧ k = .int .i64 a ∧ i = .int .i64 j ∧ j ≤ s.size ∧ a ≤ us.length ∧ Below w.heap.size w wr ∧ x.size ≤ 1000000 ∧ (s.data.toList.drop j).count 46 + a ≤ us.length ∧ Hid (F = x.data.toList ++ fillL (s.data.toList.drop j) (us.drop a))) (fun _ _ i _ => s.size - (intOf i).toNat)
  case atStart => exact ⟨⟨#[]⟩, 0, 0, rfl, rfl, rfl, Nat.zero_le _, Nat.zero_le _, Below.refl _ _, Nat.zero_le _, by simpa using hd, by show _ = _; rw [HF.out]; simp⟩
  case round =>
    obtain ⟨x, a, j, rfl, rfl, rfl, hj, ha, hbw, hx, hcnt, he⟩ := hrel
    by_cases hlt : j < s.size
    · have hcc := dots_drop hlt
      have hbj := byteAt_eq s j (by simpa using hlt)
      have hlt' : (j : Int) < (s.size : Int) := by omega
      by_cases h46 : byteAt s j = 46
      · rw [if_pos h46] at hcc
        have hka : a < us.length := by omega
        have hfd := fill_dot hlt hka h46
        have h46' : (((s[j]'hlt).toNat : Int) == 46) = true := by
          rw [beq_iff_eq, ← h46, hbj]; rfl
        obtain ⟨g, rfl, _, hg, c1⟩ := hc a hka
        have c1' := (hbw.cell (p := ⟨g, a, none⟩) hg).trans c1
        have he' : F = (x ++ us.getD a ⟨#[]⟩).data.toList ++ fillL (s.data.toList.drop (j + 1)) (us.drop (a + 1)) := by
          rw [he.out, hfd]; simp
        have hz : (x ++ us.getD a ⟨#[]⟩).size ≤ 1000000 := by
          rw [Lib.size_eq]
          have := congrArg List.length he'
          rw [List.length_append] at this
          omega
        rw [ByteArray.size_append] at hz
        generalize us.getD a ⟨#[]⟩ = u at *
        have HE := Lib.hid he'
        clear hfd he' he c1 hbj h46
        go_wp2_with fail
        go_roundw
        case rel => exact ⟨x ++ u, a + 1, j + 1, rfl, by go_num, by go_num, by omega, by omega, hbw, by rw [ByteArray.size_append]; exact hz, by omega, HE⟩
        case measure => simp [intOf]; omega
      · rw [if_neg h46] at hcc
        have hfd := (fill_other (us := us) (k := a) hlt h46).1
        have h46' : (((s[j]'hlt).toNat : Int) == 46) = false := by
          rw [beq_eq_false_iff_ne]; intro e; apply h46; rw [hbj]; exact e
        have he' : F = (x ++ s.extract j (j + 1)).data.toList ++ fillL (s.data.toList.drop (j + 1)) (us.drop a) := by
          rw [he.out, hfd]; simp
        have hz : (x ++ s.extract j (j + 1)).size ≤ 1000000 := by
          rw [Lib.size_eq]
          have := congrArg List.length he'
          rw [List.length_append] at this
          omega
        have hz' : x.size + (s.extract j (j + 1)).size ≤ 1000000 := by rw [ByteArray.size_append] at hz; exact hz
        have HE := Lib.hid he'
        clear hfd he' he hbj h46
        go_wp2_with fail
        go_roundw
        case rel => exact ⟨x ++ s.extract j (j + 1), a, j + 1, rfl, rfl, by go_num, by omega, by omega, hbw, hz, by omega, HE⟩
        case measure => simp [intOf]; omega
    · obtain rfl : j = s.size := by omega
      have hend : F = x.data.toList := by
        rw [he.out, List.drop_of_length_le (by rw [Lib.size_eq]; exact Nat.le_refl _)]
        simp [fillL]
      have HE := Lib.hid hend
      clear hend he
      go_wp2_with fail
      go_ret
      exact ⟨ret_str (by rw [HE.out]), hbw⟩

set_option maxRecDepth 100000 in
set_option maxHeartbeats 2000000 in
theorem withLeaves_any (b1 : Nat) (s : ByteArray) (v : Value) (us : List ByteArray) (w : World) (hs : s.size ≤ 1000) (hv : CellsS b1 w v us) (hd : s.data.toList.count 46 ≤ us.length) (_hu : us.length ≤ 1000) (hl : (fillL s.data.toList us).length ≤ 1000000) (hne : fillL s.data.toList us ≠ []) :
    Calls Try.prog 86 #[.string s, v] w (Gives (.string (fillB s us)) w) := by
  obtain ⟨oa, cap, rfl, h1, h2, hc⟩ := hv.form
  unfold maxLen at h2
  clear hv
  obtain ⟨F, hF⟩ : ∃ F, F = fillL s.data.toList us := ⟨_, rfl⟩
  have hB : fillB s us = ⟨F.toArray⟩ := by rw [hF]; rfl
  rw [← hF] at hl hne
  rw [hB]
  have HF := Lib.hid hF
  clear hF hB
  go_enter Try.func86, Try.ntmps86
  go_wp2_with fail
  go_loopw [6, 10] (fun k i wr => ∃ (x : List UInt8) (a j : Nat), k = .int .i64 a ∧ i = .int .i64 j ∧ j ≤ s.size ∧ a ≤ us.length ∧ Below w.heap.size w wr ∧ w.heap.size < wr.heap.size ∧ x.length ≤ 1000000 ∧ IsBld w.heap.size w.heap.size (Lib.byteCells x) wr ∧ (s.data.toList.drop j).count 46 + a ≤ us.length ∧ Hid (F = x ++ fillL (s.data.toList.drop j) (us.drop a))) (fun _ i _ => s.size - (intOf i).toNat)
  case atStart => exact ⟨[], 0, 0, rfl, rfl, Nat.zero_le _, Nat.zero_le _, nxAlloc (Below.refl _ _) _, by simp, Nat.zero_le _, Lib.fresh_isBuilder _ _ _, by simpa using hd, by show _ = _; rw [HF.out]; simp⟩
  case round =>
    obtain ⟨x, a, j, rfl, rfl, hj, ha, hbw, hlw, hx, hbld, hcnt, he⟩ := hrel
    by_cases hlt : j < s.size
    · have hcc := dots_drop hlt
      have hbj := byteAt_eq s j (by simpa using hlt)
      have hlt' : (j : Int) < (s.size : Int) := by omega
      by_cases h46 : byteAt s j = 46
      · rw [if_pos h46] at hcc
        have hka : a < us.length := by omega
        have hfd := fill_dot hlt hka h46
        have h46' : (((s[j]'hlt).toNat : Int) != 46) = false := by
          rw [bne_eq_false_iff_eq, ← h46, hbj]; rfl
        obtain ⟨g, rfl, _, hg, c1⟩ := hc a hka
        have c1' := (hbw.cell (p := ⟨g, a, none⟩) hg).trans c1
        have he' : F = (x ++ (us.getD a ⟨#[]⟩).data.toList) ++ fillL (s.data.toList.drop (j + 1)) (us.drop (a + 1)) := by
          rw [he.out, hfd]; simp
        have hz : (x ++ (us.getD a ⟨#[]⟩).data.toList).length ≤ 1000000 := by
          have := congrArg List.length he'
          rw [List.length_append] at this
          omega
        have hz2 : x.length + (us.getD a ⟨#[]⟩).size ≤ 1000000 := by rw [List.length_append, ← Lib.size_eq] at hz; exact hz
        generalize us.getD a ⟨#[]⟩ = u at *
        have HE := Lib.hid he'
        clear hfd he' he c1 hbj h46
        have gz : ((⟨#[46]⟩ : ByteArray)[0]'(by decide)).toNat = 46 := rfl
        go_wp2_with fail
        go_quiet (fail)
        clear gz h46'
        have hbw2 : Below w.heap.size w (wr.drewN nq) := drewB hbw nq
        have hlw2 : w.heap.size < (wr.drewN nq).heap.size := hlw
        have hbld2 := hbld.drewN nq
        have c2 : (wr.drewN nq).cell? ⟨g, a, none⟩ = some (.string u) := c1'
        generalize wr.drewN nq = w2 at *
        clear hbw hlw hbld c1'
        go_wp2_with fail
        refine (writeString_any w.heap.size w.heap.size _ u _ hbld2 (by rw [Lib.byteCells_length]; omega) (Nat.le_of_lt hlw2)).mono ?_; rintro e w3 ⟨rfl, hbld3, hb3⟩
        rw [Lib.strCells_eq, byteCells_app] at hbld3
        have hbw3 := hbw2.trans hb3
        have hlw3 : w.heap.size < w3.heap.size := Nat.lt_of_lt_of_le hlw2 hb3.size
        clear c2 hbld2 hb3 hbw2 hlw2
        go_wp2_with fail
        go_roundw
        case rel => exact ⟨x ++ u.data.toList, a + 1, j + 1, by go_num, by go_num, by omega, by omega, hbw3, hlw3, hz, hbld3, by omega, HE⟩
        case measure => simp [intOf]; omega
      · rw [if_neg h46] at hcc
        obtain ⟨c, hsc, hfd⟩ := (fill_other (us := us) (k := a) hlt h46).2
        have h46' : (((s[j]'hlt).toNat : Int) != 46) = true := by
          rw [bne_iff_ne]; intro e; apply h46; rw [hbj]; exact e
        have he' : F = (x ++ [c]) ++ fillL (s.data.toList.drop (j + 1)) (us.drop a) := by
          rw [he.out, hfd]; simp
        have hz : (x ++ [c]).length ≤ 1000000 := by
          have := congrArg List.length he'
          rw [List.length_append] at this
          omega
        have hz2 : x.length + 1 ≤ 1000000 := by rw [List.length_append] at hz; exact hz
        have HE := Lib.hid he'
        have hsc' : Hid (((s[j]'hlt).toNat : Int) = (c.toNat : Int)) := by show _ = _; rw [hsc]
        clear hfd he' he hbj h46 hsc
        have gz : ((⟨#[46]⟩ : ByteArray)[0]'(by decide)).toNat = 46 := rfl
        go_wp2_with fail
        go_quiet (fail)
        clear gz h46'
        have hbw2 : Below w.heap.size w (wr.drewN nq) := drewB hbw nq
        have hlw2 : w.heap.size < (wr.drewN nq).heap.size := hlw
        have hbld2 := hbld.drewN nq
        generalize wr.drewN nq = w2 at *
        clear hbw hlw hbld
        go_wp2_with fail
        refine (writeByte_any w.heap.size w.heap.size _ _ _ hbld2 (by rw [Lib.byteCells_length]; omega) (Nat.le_of_lt hlw2)).mono ?_; rintro e w3 ⟨rfl, hbld3, hb3⟩
        rw [hsc'.out, show Lib.byteCells x ++ [Value.int .u8 (c.toNat : Int)] = Lib.byteCells (x ++ [c]) by rw [← byteCells_app]; rfl] at hbld3
        have hbw3 := hbw2.trans hb3
        have hlw3 : w.heap.size < w3.heap.size := Nat.lt_of_lt_of_le hlw2 hb3.size
        clear hbld2 hb3 hbw2 hlw2
        go_wp2_with fail
        go_roundw
        case rel => exact ⟨x ++ [c], a, j + 1, rfl, by go_num, by omega, by omega, hbw3, hlw3, hz, hbld3, by omega, HE⟩
        case measure => simp [intOf]; omega
    · obtain rfl : j = s.size := by omega
      have hend : F = x := by
        rw [he.out, List.drop_of_length_le (by rw [Lib.size_eq]; exact Nat.le_refl _)]
        simp [fillL]
      have HE := Lib.hid hend
      clear hend he
      go_wp2_with fail
      refine (builderString_any _ _ x _ hbld (by rw [← HE.out]; exact hne)).mono ?_; rintro e w1 ⟨rfl, hb1⟩
      go_wp2_with fail
      go_ret
      exact ⟨ret_str (by rw [HE.out]), hbw.trans hb1⟩
end Go.Proofs.Ytbeailflcinilaa
