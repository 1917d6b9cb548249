/- Texts that the claim needs, part 3. -/
import Derived.Test.YtjmbkieocmhmiaaMgGeneratorsRelate1
import Derived.RegionTactic
import Derived.Shelf.Strings.Builder1
import Derived.Deep.RegionHeld3
import Derived.Deep.AppendLies
import Derived.Lib.Bytealg
import Derived.Maps.AppendAt
import Derived.Lib.SmallJoins
/-! Build -/
namespace Go.Proofs.Ytjmbkieocmhmiaa
open Go.RowKit

theorem info_byte : (Try.prog.info? 5).map (fun i => (i.zero, i.size, i.bytes)) = some (some (.int .u8 0), 1, 1) := by kernel_rfl
theorem info_bld : (Try.prog.info? 86).map (fun i => i.size) = some 2 := by kernel_rfl
theorem lies_bld : liesAt Try.prog Try.prog.depth 86 (2 / Try.prog.cellsOf 86) 0 86 1 = true := by kernel_rfl
theorem cells_byte : Try.prog.cellsOf 5 = 1 := by kernel_rfl

set_option maxRecDepth 100000 in
theorem copyCheck_fresh (b : Nat) (w : World) (h0 : w.cell? ⟨b, 0, none⟩ = some (.pointer none)) (hsh : w.shape? b = some (86, 2)) (hfz : w.frozen? ⟨b, 0, none⟩ = false) :
    Calls Try.prog 71 #[.pointer (some ⟨b, 0, none⟩)] w fun e w' => e = .returned (.tuple #[]) ∧ w' = w.setCell ⟨b, 0, none⟩ (.pointer (some ⟨b, 0, none⟩)) := by
  obtain ⟨j, hj, hjs⟩ := Option.map_eq_some_iff.1 info_bld
  go_enter Try.func71, Try.ntmps71
  go_wp2
  rw [Lib.run_to_unsafe w ⟨b, 0, none⟩ Try.underlying84 Try.underlying98 hj (by rw [hjs]; decide) hsh (Nat.zero_lt_succ 1)]
  simp only [Result.andThen]
  rw [Oper.upon_value]
  go_wp2
  rw [run_callFunc_extern Try.func76 (by kernel_rfl) (by kernel_rfl) (by kernel_rfl) (e := Extern.AbiNoEscape.same) (by kernel_rfl)]
  rw [Lib.run_noEscape]
  simp only [Result.andThen]
  rw [Oper.upon_value]
  go_wp2
  rw [Lib.run_from_unsafe w ⟨b, 0, none⟩ Try.underlying98 Try.underlying84 hj hsh lies_bld]
  simp only [Result.andThen]
  rw [Oper.upon_value]
  go_wp2
  go_end0
  exact ⟨rfl, rfl⟩

set_option maxRecDepth 100000 in
theorem copyCheck_used (b : Nat) (w : World) (h0 : w.cell? ⟨b, 0, none⟩ = some (.pointer (some ⟨b, 0, none⟩))) :
    Calls Try.prog 71 #[.pointer (some ⟨b, 0, none⟩)] w fun e w' => e = .returned (.tuple #[]) ∧ w' = w := by
  obtain ⟨j, hj, _⟩ := Option.map_eq_some_iff.1 info_bld
  go_enter Try.func71, Try.ntmps71
  go_wp2
  rw [Lib.run_neq_ptr_same w _ Try.underlying84 hj]
  go_wp2
  go_end0
  exact ⟨rfl, rfl⟩

/-- A builder in the block b that holds the bytes bs; its row is of blocks from B on. -/
abbrev IsBld (B b : Nat) (bs : List Value) (w : World) : Prop := Lib.IsBuilder 86 5 B b bs w

theorem copyCheck_any (B b : Nat) (bs : List Value) (w : World) (h : IsBld B b bs w) :
    Calls Try.prog 71 #[.pointer (some ⟨b, 0, none⟩)] w fun e w' => e = .returned (.tuple #[]) ∧ (Lib.BuilderAt 86 5 B b (.pointer (some ⟨b, 0, none⟩)) bs w' ∧ Below B w w') := by
  rcases h with h | h
  · refine (copyCheck_fresh b w h.cell0 h.shape h.frozen0).mono ?_
    rintro e w' ⟨rfl, rfl⟩
    exact ⟨rfl, h.used _, (Below.refl B w).setCell (p := ⟨b, 0, none⟩) h.1 _⟩
  · refine (copyCheck_used b w h.cell0).mono ?_
    rintro e w' ⟨rfl, rfl⟩
    exact ⟨rfl, h, Below.refl B _⟩

set_option maxHeartbeats 2000000 in
set_option maxRecDepth 100000 in
theorem writeByte_any (B b : Nat) (bs : List Value) (c : Int) (w : World) (h : IsBld B b bs w) (hlen : bs.length + 1 ≤ 140737488355328) (hBw : B ≤ w.heap.size) :
    Calls Try.prog 60 #[.pointer (some ⟨b, 0, none⟩), .int .u8 c] w fun e w' => e = .returned .nilIface ∧ IsBld B b (bs ++ [.int .u8 c]) w' ∧ Below B w w' := by
  obtain ⟨i0, hi, hz0, hz1, hz2⟩ := info_parts info_byte
  go_enter Try.func60, Try.ntmps60
  go_wp2_with fail
  refine (copyCheck_any B b bs _ h).mono ?_
  rintro e w1 ⟨rfl, h1, hb1⟩
  obtain ⟨hB, v, hbk, hown, hne⟩ := h1
  have c0 : w1.cell? ⟨b, 0, none⟩ = some (.pointer (some ⟨b, 0, none⟩)) := by rw [Lib.cell_of_heap hbk]; rfl
  have c1 : w1.cell? ⟨b, 1, none⟩ = some v := by rw [Lib.cell_of_heap hbk]; rfl
  go_wp2_with (at_builtin; refine wpList_append_own _ rfl _ _ 22 rfl B 5 i0 (.int .u8 0) 1 1 Try.underlying22 hi hz0 hz1 hz2 rfl (by decide) _ _ _ rfl (hown.alloc _) ⟨w1.heap.size, 0, none⟩ 1 1 [.int .u8 c] rfl rfl ?c1 ?c2 ?c3 ?c4 ?c5 ?_)
  case c1 =>
    intro j u hj
    match j, hj with
    | 0, hj => simp at hj; subst hj; simp [Addr.add]
  case c2 => intro u hu; simp at hu; subst hu; rfl
  case c3 => unfold maxLen; omega
  case c4 => omega
  case c5 => have := hb1.size; simp; omega
  intro v' w2 hown' hgrow _
  have hlt : b < w1.heap.size := lt_of_block hbk
  have hb2 : w2.heap[b]? = some (.cells #[.pointer (some ⟨b, 0, none⟩), v] 86 (0, 0)) := by
    rw [hgrow.block b (by simp; omega) (fun e => hne e.symm), Lib.alloc_old w1 _ b hlt]
    exact hbk
  have d0 : w2.cell? ⟨b, 0, none⟩ = some (.pointer (some ⟨b, 0, none⟩)) := by rw [Lib.cell_of_heap hb2]; rfl
  have d1 : w2.cell? ⟨b, 1, none⟩ = some v := by rw [Lib.cell_of_heap hb2]; rfl
  have f1 : w2.frozen? ⟨b, 1, none⟩ = false := Lib.frozen_of_heap hb2 1
  obtain ⟨g, cap, rfl⟩ : ∃ g cap, v' = .slice (some ⟨g, 0, none⟩) (bs.length + 1) cap := by
    rcases hown'.2 with ⟨_, h0⟩ | ⟨g, cap, cur, hv, _⟩
    · omega
    · exact ⟨g, cap, hv⟩
  go_wp2
  go_ret
  refine ⟨rfl, ?_, ?_⟩
  · exact .inr (Lib.BuilderAt.put (T := 86) (e := 5) hB hb2 (bs' := bs ++ [.int .u8 c]) (by simpa using hown') (by decide))
  · exact ((hb1.alloc (by have := hb1.size; omega) _).grown hgrow (by have := hb1.size; simp; omega) (fun k hk => (hown.lt k hk).1)).setCell (p := ⟨b, 1, none⟩) hB _

set_option maxHeartbeats 2000000 in
set_option maxRecDepth 100000 in
theorem writeString_any (B b : Nat) (bs : List Value) (s : ByteArray) (w : World) (h : IsBld B b bs w) (hlen : bs.length + s.size ≤ 140737488355328) (hBw : B ≤ w.heap.size) :
    Calls Try.prog 61 #[.pointer (some ⟨b, 0, none⟩), .string s] w fun e w' => e = .returned (.tuple #[.int .i64 s.size, .nilIface]) ∧ IsBld B b (bs ++ Lib.strCells s) w' ∧ Below B w w' := by
  obtain ⟨i0, hi, hz0, hz1, hz2⟩ := info_parts info_byte
  go_enter Try.func61, Try.ntmps61
  go_wp2_with fail
  refine (copyCheck_any B b bs _ h).mono ?_
  rintro e w1 ⟨rfl, h1, hb1⟩
  obtain ⟨hB, v, hbk, hown, hne⟩ := h1
  have c0 : w1.cell? ⟨b, 0, none⟩ = some (.pointer (some ⟨b, 0, none⟩)) := by rw [Lib.cell_of_heap hbk]; rfl
  have c1 : w1.cell? ⟨b, 1, none⟩ = some v := by rw [Lib.cell_of_heap hbk]; rfl
  go_wp2_with (at_builtin; refine Lib.wpList_append_own_string _ rfl _ _ 22 9 rfl B 5 i0 Try.underlying22 Try.underlying9 hi hz0 hz1 hz2 _ _ _ rfl hown s rfl ?c3 ?c4 ?c5 ?_)
  case c3 => unfold maxLen; omega
  case c4 => omega
  case c5 => have := hb1.size; omega
  intro v' w2 hown' hgrow _
  have hlt : b < w1.heap.size := lt_of_block hbk
  have hb2 : w2.heap[b]? = some (.cells #[.pointer (some ⟨b, 0, none⟩), v] 86 (0, 0)) := by
    rw [hgrow.block b hlt (fun e => hne e.symm)]
    exact hbk
  have d0 : w2.cell? ⟨b, 0, none⟩ = some (.pointer (some ⟨b, 0, none⟩)) := by rw [Lib.cell_of_heap hb2]; rfl
  have d1 : w2.cell? ⟨b, 1, none⟩ = some v := by rw [Lib.cell_of_heap hb2]; rfl
  have f1 : w2.frozen? ⟨b, 1, none⟩ = false := Lib.frozen_of_heap hb2 1
  obtain ⟨ao, n', cap, rfl⟩ : ∃ ao n' cap, v' = .slice ao n' cap := by
    rcases hown'.2 with ⟨hv, _⟩ | ⟨g, cap, cur, hv, _⟩
    · exact ⟨_, _, _, hv⟩
    · exact ⟨_, _, _, hv⟩
  go_wp2
  go_ret2
  refine ⟨rfl, ?_, ?_⟩
  · exact .inr (Lib.BuilderAt.put (T := 86) (e := 5) hB hb2 (bs' := bs ++ Lib.strCells s) (by simpa [Lib.strCells_length] using hown') (by decide))
  · exact (hb1.grown hgrow (by have := hb1.size; omega) (fun k hk => (hown.lt k hk).1)).setCell (p := ⟨b, 1, none⟩) hB _

set_option maxHeartbeats 2000000 in
set_option maxRecDepth 100000 in
theorem builderString_any (B b : Nat) (l : List UInt8) (w : World) (h : IsBld B b (Lib.byteCells l) w) (h0 : l ≠ []) :
    Calls Try.prog 62 #[.pointer (some ⟨b, 0, none⟩)] w fun e w' => e = .returned (.string ⟨l.toArray⟩) ∧ Below B w w' := by
  obtain ⟨p, hB, v, hbk, hown, hne⟩ : ∃ p, Lib.BuilderAt 86 5 B b p (Lib.byteCells l) w := by
    rcases h with h | h
    · exact ⟨_, h⟩
    · exact ⟨_, h⟩
  have hl0 : l.length ≠ 0 := by simpa using h0
  rw [Lib.byteCells_length] at hown
  obtain ⟨g, cap, cur, rfl, hbg, hg, hnc, hcm, hcs, htake⟩ : ∃ g cap cur, v = .slice (some ⟨g, 0, none⟩) l.length cap ∧ B ≤ g ∧ w.heap[g]? = some (.cells cur 5 (0, 0)) ∧ l.length ≤ cap ∧ cap ≤ maxLen ∧ cur.size = cap * 1 ∧ cur.toList.take (l.length * 1) = Lib.byteCells l := by
    rcases hown.2 with ⟨_, hz⟩ | ⟨g, cap, cur, hv, r⟩
    · exact absurd hz hl0
    · exact ⟨g, cap, cur, hv, r⟩
  have c1 : w.drew.cell? ⟨b, 1, none⟩ = some (.slice (some ⟨g, 0, none⟩) l.length cap) := by
    have : w.drew.heap[b]? = some (.cells #[p, .slice (some ⟨g, 0, none⟩) l.length cap] 86 (0, 0)) := hbk
    rw [Lib.cell_of_heap this]; rfl
  have hSD : (Builtin.unsafeSliceData_ #[22] 96 #[.slice (some ⟨g, 0, none⟩) l.length cap]).run Try.prog w.drew = .ok (.pointer (some ⟨g, 0, none⟩)) w.drew :=
    Lib.run_unsafeSliceData_row _ _ _ _ _ _ (by omega)
  have hUS : (Builtin.unsafeString_ #[96, 3] 9 #[.pointer (some ⟨g, 0, none⟩), .int .i64 l.length]).run Try.prog w.drew = .ok (.string ⟨l.toArray⟩) (w.drew.freeze ⟨g, 0, none⟩ l.length) := by
    refine Lib.run_unsafeString_row w.drew 96 3 9 5 Try.underlying96 cells_byte g cur.size (by have hg' : w.drew.heap[g]? = some (.cells cur 5 (0, 0)) := hg; simp [World.shape?, hg']) l h0 (by omega) (by unfold maxLen at hcm; omega) ?_
    intro j x hx
    have := hown.cells (g := g) rfl j (.int .u8 x.toNat) (by simp [Lib.byteCells, hx])
    exact this
  clear hown hg htake hbk
  go_enter Try.func62, Try.ntmps62
  go_wp2
  go_region
  all_goals (go_wp2; go_ret; exact ⟨rfl, Lib.below_freeze (Below.drew (Below.refl B w)) (p := ⟨g, 0, none⟩) hbg _⟩)
end Go.Proofs.Ytjmbkieocmhmiaa

/-! Fill -/
namespace Go.Proofs.Ytjmbkieocmhmiaa
open Go.RowKit

/-- The texts of what a greater tree has at the leaves of a part of it. -/
def subsS (a g : Tr) : List ByteArray := (a.subs g).map Tr.str
theorem subsS_length (a g : Tr) (h : a.part g = true) : (subsS a g).length = a.leaves := by
  unfold subsS; rw [List.length_map]; exact (below_carets a g h).2

set_option maxRecDepth 100000 in
set_option maxHeartbeats 4000000 in
theorem below_any (t : Tr) : ∀ (u : Tr) (b c : Nat) (w : World), NodeAt w t b → NodeAt w u c → t.part u = true → u.carets ≤ 60 →
    Calls Try.prog 48 #[.pointer (some ⟨b, 0, none⟩), .pointer (some ⟨c, 0, none⟩)] w (GivesTexts (subsS t u) w) := by
  obtain ⟨i0, hi, hz0, hz1, hz2⟩ := info_parts info_str
  induction t with
  | lf =>
    intro u b c w h k hp hu
    have H := Lib.hid h
    have K := Lib.hid k
    clear h k
    go_enter Try.func48, Try.ntmps48
    go_wp2_with fail
    refine (isLeaf_any .lf b _ H.out).mono ?_; rintro e w1 ⟨rfl, rfl⟩
    simp only [Tr.isLf]
    go_wp2_with fail
    refine (text_any u c _ K.out (by omega)).mono ?_; rintro e w1 ⟨rfl, d, hw1⟩
    have hb1 : Below w.heap.size w w1 := by rw [hw1]; exact drewB (Below.refl _ _) _
    clear hw1
    go_wp2_with fail
    go_ret
    exact ⟨_, 1, (OwnS.one _ _).mono hb1.size, nxAlloc hb1 _, rfl⟩
  | nd l r ihl ihr =>
    intro u b c w h k hp hu
    cases u with
    | lf => simp [Tr.part] at hp
    | nd p q =>
      simp only [Tr.part, Bool.and_eq_true] at hp
      obtain ⟨hp1, hp2⟩ := hp
      have hu' : p.carets + q.carets + 1 ≤ 60 := hu
      have ht1 := (below_carets l p hp1).1
      have ht2 := (below_carets r q hp2).1
      have ll := subsS_length l p hp1
      have lr := subsS_length r q hp2
      obtain ⟨A, hA⟩ : ∃ A, A = subsS l p := ⟨_, rfl⟩
      obtain ⟨B, hB⟩ : ∃ B, B = subsS r q := ⟨_, rfl⟩
      have hC : subsS (.nd l r) (.nd p q) = A ++ B := by rw [hA, hB]; simp [subsS, Tr.subs]
      have jl := fun b c w h k => ihl p b c w h k hp1 (by omega)
      have jr := fun b c w h k => ihr q b c w h k hp2 (by omega)
      rw [← hA] at ll jl
      rw [← hB] at lr jr
      rw [hC]
      have hAn : A.length ≤ 61 := by rw [ll]; unfold Tr.leaves; omega
      have hBn : B.length ≤ 61 := by rw [lr]; unfold Tr.leaves; omega
      have hBp : 0 < B.length := by rw [lr]; exact leaves_pos r
      have hAp : 0 < A.length := by rw [ll]; exact leaves_pos l
      have H := Lib.hid h
      obtain ⟨bl, br, h, hl, hr⟩ := h
      obtain ⟨cl, cr, k, kl, kr⟩ := k
      have h1 := two_left h
      have h2 := two_right h
      have k1 := two_left k
      have k2 := two_right k
      have hb0 := Below.refl w.heap.size w
      clear h k ihl ihr hA hB hC ll lr hp1 hp2
      go_enter Try.func48, Try.ntmps48
      go_wp2_with fail
      refine (isLeaf_any (.nd l r) b _ H.out).mono ?_; rintro e w1 ⟨rfl, rfl⟩
      simp only [Tr.isLf]
      go_wp2_with fail
      go_region_held3 (fun w' => w'.cell? ⟨b, 0, none⟩ = some (.pointer (some ⟨bl, 0, none⟩)) ∧ w'.cell? ⟨b, 1, none⟩ = some (.pointer (some ⟨br, 0, none⟩)) ∧ w'.cell? ⟨c, 0, none⟩ = some (.pointer (some ⟨cl, 0, none⟩)) ∧ w'.cell? ⟨c, 1, none⟩ = some (.pointer (some ⟨cr, 0, none⟩)))
        (first
          | exact ⟨h1, h2, k1, k2⟩
          | exact ⟨q1, q2, q3, q4⟩
          | exact ⟨s1, s2, s3, s4⟩
          | exact ⟨r1, r2, r3, r4⟩)
        (first
          | (go_at_call_of 48 (some (⟨bl, 0, none⟩ : Addr)); refine (jl bl cl _ ?_ ?_).mono ?_; exact hl.keep hb0.drew; exact kl.keep hb0.drew; rintro e w1 ⟨g1, cap1, own1, hb1, rfl⟩; have hb1' := nx hb0.drew hb1; obtain ⟨q1, q2⟩ := below_two hb1' h1 h2; obtain ⟨q3, q4⟩ := below_two hb1' k1 k2)
          | (go_at_call_of 48 (some (⟨br, 0, none⟩ : Addr)); refine (jr br cr _ ?_ ?_).mono ?_; exact hr.keep hb1'; exact kr.keep hb1'; rintro e w2 ⟨g2, cap2, own2, hb2, rfl⟩; have hb2' := nx hb1' hb2; obtain ⟨s1, s2⟩ := below_two hb2' h1 h2; obtain ⟨s3, s4⟩ := below_two hb2' k1 k2; have hown := (own1.keep hb2).mono hb0.drew.size)
          | (refine step_append_lies _ (by rfl) _ _ _ (by rfl) w.heap.size 9 i0 _ 1 16 Try.underlying51 hi hz0 hz1 hz2 rfl (by omega) (.slice (some ⟨g1, 0, none⟩) A.length cap1) A.length (A.map Value.string) (by rfl) hown ⟨g2, 0, none⟩ B.length cap2 (B.map Value.string) (by rfl) (by simp) (own2.news rfl) (oneS _) hBp (by unfold maxLen; omega) (by omega) hb2'.size w2.heap.size (by rfl) ?_; intro gg cap w3 hown1 hgrow hat hlt; have hb3 := below_app0 hb2' hown (Nat.le_refl _) hgrow; obtain ⟨r1, r2⟩ := below_two hb3 h1 h2; obtain ⟨r3, r4⟩ := below_two hb3 k1 k2))
      go_wp2_with fail
      go_ret
      exact ⟨gg, cap, by rw [List.length_append]; exact OwnS.app hown1, hb3, by rw [List.length_append]; rfl⟩

/-! Texts in place of leaves. -/
theorem CellsS.form {b1 : Nat} {w : World} {v : Value} {xs : List ByteArray} (h : CellsS b1 w v xs) :
    ∃ oa cap, v = .slice oa xs.length cap ∧ xs.length ≤ cap ∧ cap ≤ maxLen ∧ ∀ i, i < xs.length → ∃ g, oa = some ⟨g, 0, none⟩ ∧ b1 ≤ g ∧ g < w.heap.size ∧ w.cell? ⟨g, i, none⟩ = some (.string (xs.getD i ⟨#[]⟩)) := by
  rcases h with ⟨rfl, rfl⟩ | ⟨g, cap, rfl, h1, h2, h3, h4, h5, _⟩
  · exact ⟨none, 0, rfl, Nat.le_refl _, Nat.zero_le _, fun i hi => by simp at hi⟩
  · exact ⟨some ⟨g, 0, none⟩, cap, rfl, h3, h4, fun i hi => ⟨g, rfl, h1, h2, h5 i hi⟩⟩

theorem fillL_length : ∀ (l : List UInt8) (us : List ByteArray), (fillL l us).length ≤ l.length + (us.map ByteArray.size).sum := by
  intro l
  induction l with
  | nil => intro us; simp [fillL]
  | cons c r ih =>
    intro us
    rw [fillL]
    split
    · cases us with
      | nil => have := ih []; simp at *; omega
      | cons u us =>
        have := ih us
        have hu : u.data.toList.length = u.size := (Lib.size_eq u).symm
        simp at *; omega
    · have := ih us; simp at *; omega
theorem fillL_ne {l : List UInt8} {us : List ByteArray} (h : ∃ c r, l = c :: r ∧ c ≠ 46) : fillL l us ≠ [] := by
  obtain ⟨c, r, rfl, hc⟩ := h
  rw [fillL, if_neg hc]; simp
end Go.Proofs.Ytjmbkieocmhmiaa

/-! Fill2 -/
namespace Go.Proofs.Ytjmbkieocmhmiaa
open Go.RowKit

def fillB (s : ByteArray) (us : List ByteArray) : ByteArray := ⟨(fillL s.data.toList us).toArray⟩

theorem byteCells_app (x y : List UInt8) : Lib.byteCells x ++ Lib.byteCells y = Lib.byteCells (x ++ y) := by simp [Lib.byteCells]
theorem IsBld.drewN {B b : Nat} {bs : List Value} {w : World} (h : IsBld B b bs w) (n : Nat) : IsBld B b bs (w.drewN n) := h

theorem fillB_tr (t : Tr) (us : List Tr) (h : us.length = t.leaves) : fillB t.str (us.map Tr.str) = (t.fill us).str := by
  unfold fillB
  rw [Tr.str_list, fill_text t us h]
  rfl

/-- One byte of a text, and what is filled in. -/
theorem fill_dot {s : ByteArray} {us : List ByteArray} {i k : Nat} (hi : i < s.size) (hk : k < us.length) (h : byteAt s i = 46) :
    fillL (s.data.toList.drop i) (us.drop k) = (us.getD k ⟨#[]⟩).data.toList ++ fillL (s.data.toList.drop (i + 1)) (us.drop (k + 1)) := by
  obtain ⟨c, r, hd, hc, hr⟩ := drop_of_byteAt hi
  have : c = 46 := u8_eq (n := 46) (by omega) (by rw [← hc, h]; rfl)
  subst this
  rw [hd, fillL, if_pos rfl, hr, List.drop_eq_getElem_cons hk]
  simp [hk]
theorem fill_other {s : ByteArray} {us : List ByteArray} {i k : Nat} (hi : i < s.size) (h : ¬ byteAt s i = 46) :
    fillL (s.data.toList.drop i) (us.drop k) = (s.extract i (i + 1)).data.toList ++ fillL (s.data.toList.drop (i + 1)) (us.drop k) ∧ ∃ c : UInt8, (s[i]'hi) = c ∧ fillL (s.data.toList.drop i) (us.drop k) = c :: fillL (s.data.toList.drop (i + 1)) (us.drop k) := by
  obtain ⟨c, r, hd, hc, hr⟩ := drop_of_byteAt hi
  have hne : ¬ c = 46 := fun e => h (by rw [hc, e]; rfl)
  have hx : s[i]'hi = c := by
    have h1 := byteAt_eq s i (by simpa using hi)
    rw [hc] at h1
    have : (s[i]'hi).toNat = c.toNat := by
      have h2 : ((c.toNat : Nat) : Int) = ((s[i]'hi).toNat : Int) := h1
      omega
    exact UInt8.toNat_inj.1 this
  have hf : fillL (s.data.toList.drop i) (us.drop k) = c :: fillL (s.data.toList.drop (i + 1)) (us.drop k) := by
    rw [hd, fillL, if_neg hne, hr]
  refine ⟨?_, c, hx, hf⟩
  rw [hf, Lib.extract_data, hd]
  have : i + 1 - i = 1 := by omega
  rw [this]
  simp

/-- The leaves that are left. -/
theorem dots_drop {s : ByteArray} {i : Nat} (hi : i < s.size) : (s.data.toList.drop i).count 46 = (if byteAt s i = 46 then 1 else 0) + (s.data.toList.drop (i + 1)).count 46 := by
  obtain ⟨c, r, hd, hc, hr⟩ := drop_of_byteAt hi
  rw [hd, List.count_cons, hr, hc]
  by_cases h : c = 46
  · subst h; simp; omega
  · have : ¬ ((c.toNat : Int) = 46) := fun e => h (u8_eq (n := 46) (by omega) e)
    rw [if_neg this]
    simp [h]

set_option maxRecDepth 100000 in
set_option maxHeartbeats 2000000 in
theorem withLeaves_any (b1 : Nat) (s : ByteArray) (v : Value) (us : List ByteArray) (w : World) (hs : s.size ≤ 1000) (hv : CellsS b1 w v us) (hd : s.data.toList.count 46 ≤ us.length) (_hu : us.length ≤ 1000) (hl : (fillL s.data.toList us).length ≤ 1000000) (hne : fillL s.data.toList us ≠ []) :
    Calls Try.prog 47 #[.string s, v] w (Gives (.string (fillB s us)) w) := by
  obtain ⟨oa, cap, rfl, h1, h2, hc⟩ := hv.form
  unfold maxLen at h2
  clear hv
  obtain ⟨F, hF⟩ : ∃ F, F = fillL s.data.toList us := ⟨_, rfl⟩
  have hB : fillB s us = ⟨F.toArray⟩ := by rw [hF]; rfl
  rw [← hF] at hl hne
  rw [hB]
  have HF := Lib.hid hF
  clear hF hB
  go_enter Try.func47, Try.ntmps47
  go_wp2_with fail
  go_loopw [6, 10] (fun k i wr => ∃ (x : List UInt8) (a j : Nat), k = .int .i64 a ∧ i = .int .i64 j ∧ j ≤ s.size ∧ a ≤ us.length ∧ Below w.heap.size w wr ∧ w.heap.size < wr.heap.size ∧ x.length ≤ 1000000 ∧ IsBld w.heap.size w.heap.size (Lib.byteCells x) wr ∧ (s.data.toList.drop j).count 46 + a ≤ us.length ∧ Hid (F = x ++ fillL (s.data.toList.drop j) (us.drop a))) (fun _ i _ => s.size - (intOf i).toNat)
  case atStart => exact ⟨[], 0, 0, rfl, rfl, Nat.zero_le _, Nat.zero_le _, nxAlloc (Below.refl _ _) _, by simp, Nat.zero_le _, Lib.fresh_isBuilder _ _ _, by simpa using hd, by show _ = _; rw [HF.out]; simp⟩
  case round =>
    obtain ⟨x, a, j, rfl, rfl, hj, ha, hbw, hlw, hx, hbld, hcnt, he⟩ := hrel
    by_cases hlt : j < s.size
    · have hcc := dots_drop hlt
      have hbj := byteAt_eq s j (by simpa using hlt)
      have hlt' : (j : Int) < (s.size : Int) := by omega
      by_cases h46 : byteAt s j = 46
      · rw [if_pos h46] at hcc
        have hka : a < us.length := by omega
        have hfd := fill_dot hlt hka h46
        have h46' : (((s[j]'hlt).toNat : Int) != 46) = false := by
          rw [bne_eq_false_iff_eq, ← h46, hbj]; rfl
        obtain ⟨g, rfl, _, hg, c1⟩ := hc a hka
        have c1' := (hbw.cell (p := ⟨g, a, none⟩) hg).trans c1
        have he' : F = (x ++ (us.getD a ⟨#[]⟩).data.toList) ++ fillL (s.data.toList.drop (j + 1)) (us.drop (a + 1)) := by
          rw [he.out, hfd]; simp
        have hz : (x ++ (us.getD a ⟨#[]⟩).data.toList).length ≤ 1000000 := by
          have := congrArg List.length he'
          rw [List.length_append] at this
          omega
        have hz2 : x.length + (us.getD a ⟨#[]⟩).size ≤ 1000000 := by rw [List.length_append, ← Lib.size_eq] at hz; exact hz
        generalize us.getD a ⟨#[]⟩ = u at *
        have HE := Lib.hid he'
        clear hfd he' he c1 hbj h46
        have gz : ((⟨#[46]⟩ : ByteArray)[0]'(by decide)).toNat = 46 := rfl
        go_wp2_with fail
        go_quiet (fail)
        clear gz h46'
        have hbw2 : Below w.heap.size w (wr.drewN nq) := drewB hbw nq
        have hlw2 : w.heap.size < (wr.drewN nq).heap.size := hlw
        have hbld2 := hbld.drewN nq
        have c2 : (wr.drewN nq).cell? ⟨g, a, none⟩ = some (.string u) := c1'
        generalize wr.drewN nq = w2 at *
        clear hbw hlw hbld c1'
        go_wp2_with fail
        refine (writeString_any w.heap.size w.heap.size _ u _ hbld2 (by rw [Lib.byteCells_length]; omega) (Nat.le_of_lt hlw2)).mono ?_; rintro e w3 ⟨rfl, hbld3, hb3⟩
        rw [Lib.strCells_eq, byteCells_app] at hbld3
        have hbw3 := hbw2.trans hb3
        have hlw3 : w.heap.size < w3.heap.size := Nat.lt_of_lt_of_le hlw2 hb3.size
        clear c2 hbld2 hb3 hbw2 hlw2
        go_wp2_with fail
        go_roundw
        case rel => exact ⟨x ++ u.data.toList, a + 1, j + 1, by go_num, by go_num, by omega, by omega, hbw3, hlw3, hz, hbld3, by omega, HE⟩
        case measure => simp [intOf]; omega
      · rw [if_neg h46] at hcc
        obtain ⟨c, hsc, hfd⟩ := (fill_other (us := us) (k := a) hlt h46).2
        have h46' : (((s[j]'hlt).toNat : Int) != 46) = true := by
          rw [bne_iff_ne]; intro e; apply h46; rw [hbj]; exact e
        have he' : F = (x ++ [c]) ++ fillL (s.data.toList.drop (j + 1)) (us.drop a) := by
          rw [he.out, hfd]; simp
        have hz : (x ++ [c]).length ≤ 1000000 := by
          have := congrArg List.length he'
          rw [List.length_append] at this
          omega
        have hz2 : x.length + 1 ≤ 1000000 := by rw [List.length_append] at hz; exact hz
        have HE := Lib.hid he'
        have hsc' : Hid (((s[j]'hlt).toNat : Int) = (c.toNat : Int)) := by show _ = _; rw [hsc]
        clear hfd he' he hbj h46 hsc
        have gz : ((⟨#[46]⟩ : ByteArray)[0]'(by decide)).toNat = 46 := rfl
        go_wp2_with fail
        go_quiet (fail)
        clear gz h46'
        have hbw2 : Below w.heap.size w (wr.drewN nq) := drewB hbw nq
        have hlw2 : w.heap.size < (wr.drewN nq).heap.size := hlw
        have hbld2 := hbld.drewN nq
        generalize wr.drewN nq = w2 at *
        clear hbw hlw hbld
        go_wp2_with fail
        refine (writeByte_any w.heap.size w.heap.size _ _ _ hbld2 (by rw [Lib.byteCells_length]; omega) (Nat.le_of_lt hlw2)).mono ?_; rintro e w3 ⟨rfl, hbld3, hb3⟩
        rw [hsc'.out, show Lib.byteCells x ++ [Value.int .u8 (c.toNat : Int)] = Lib.byteCells (x ++ [c]) by rw [← byteCells_app]; rfl] at hbld3
        have hbw3 := hbw2.trans hb3
        have hlw3 : w.heap.size < w3.heap.size := Nat.lt_of_lt_of_le hlw2 hb3.size
        clear hbld2 hb3 hbw2 hlw2
        go_wp2_with fail
        go_roundw
        case rel => exact ⟨x ++ [c], a, j + 1, rfl, by go_num, by omega, by omega, hbw3, hlw3, hz, hbld3, by omega, HE⟩
        case measure => simp [intOf]; omega
    · obtain rfl : j = s.size := by omega
      have hend : F = x := by
        rw [he.out, List.drop_of_length_le (by rw [Lib.size_eq]; exact Nat.le_refl _)]
        simp [fillL]
      have HE := Lib.hid hend
      clear hend he
      go_wp2_with fail
      refine (builderString_any _ _ x _ hbld (by rw [← HE.out]; exact hne)).mono ?_; rintro e w1 ⟨rfl, hb1⟩
      go_wp2_with fail
      go_ret
      exact ⟨ret_str (by rw [HE.out]), hbw.trans hb1⟩
end Go.Proofs.Ytjmbkieocmhmiaa

/-! TreeO -/
namespace Go.Proofs.Ytjmbkieocmhmiaa
open Go.RowKit

theorem keep_cell {w w' : World} {b o : Nat} {v : Value} (hb : Below w.heap.size w w') (h : w.cell? ⟨b, o, none⟩ = some v) : w'.cell? ⟨b, o, none⟩ = some v :=
  (hb.cell (p := ⟨b, o, none⟩) (World.block_lt_of_cell? _ _ h)).trans h

theorem treeOf_any (t : Tr) (w : World) (h : t.carets ≤ 1000) : Calls Try.prog 44 #[.string t.str] w (GivesNode t w) := by
  have hz := t.str_size
  have hp := place_any (t.str.size + 1) t.str
  rw [parse_str t _ (by have := t.text_len; omega)] at hp
  have hp' : ∀ w, Calls Try.prog 56 #[.string t.str] w (PlaceOk t [] t.str w) := fun w => hp w (by omega) (by omega)
  clear hz hp
  go_enter Try.func44, Try.ntmps44
  go_wp2_with fail
  refine (hp' _).mono ?_; rintro e w1 ⟨b1, s1, hs1, hz1, hn1, hb1, rfl⟩
  clear hs1 hz1
  go_wp2_with fail
  go_ret
  exact ⟨b1, hn1, hb1, rfl⟩

end Go.Proofs.Ytjmbkieocmhmiaa

/-! Times -/
namespace Go.Proofs.Ytjmbkieocmhmiaa
open Go.RowKit

/-- What is asked of the factors of a product, and what its parts are. -/
theorem raw_len {p q : Pr} (hp : okP p) (hq : okP q) : (subsS p.2 (p.2.join q.1)).length = p.1.leaves ∧ (subsS q.1 (p.2.join q.1)).length = q.2.leaves := by
  have h1 := subsS_length p.2 _ (part_join p.2 q.1)
  have h2 := subsS_length q.1 _ (part_join' p.2 q.1)
  unfold okP Tr.leaves at *
  omega
theorem raw_fill1 {p q : Pr} (hp : okP p) (hq : okP q) : fillB p.1.str (subsS p.2 (p.2.join q.1)) = (rawP p q).1.str :=
  fillB_tr p.1 _ (by have := (raw_len hp hq).1; unfold subsS at this; simpa using this)
theorem raw_fill2 {p q : Pr} (hp : okP p) (hq : okP q) : fillB q.2.str (subsS q.1 (p.2.join q.1)) = (rawP p q).2.str :=
  fillB_tr q.2 _ (by have := (raw_len hp hq).2; unfold subsS at this; simpa using this)
theorem fillL_of {s : ByteArray} {us : List ByteArray} {t : Tr} (h : fillB s us = t.str) : fillL s.data.toList us = t.text := by
  have := congrArg (fun b : ByteArray => b.data.toList) h
  simpa [fillB, Tr.str] using this
theorem text_ne (t : Tr) : t.text ≠ [] := by cases t <;> simp [Tr.text]

theorem withLeaves_raw1 {p q : Pr} (hp : okP p) (hq : okP q) (h1 : p.1.carets ≤ 30) (h2 : q.1.carets ≤ 30) (b1 : Nat) (v : Value) (w : World) (hv : CellsS b1 w v (subsS p.2 (p.2.join q.1))) :
    Calls Try.prog 47 #[.string p.1.str, v] w (Gives (.string (rawP p q).1.str) w) := by
  have hl := raw_len hp hq
  have hr := rawP_carets hp hq
  have hj := join_carets p.2 q.1
  have ht := (rawP p q).1.text_len
  unfold okP at hp hq
  have hz := p.1.str_size
  unfold Tr.leaves at hl
  have := withLeaves_any b1 p.1.str v _ w (by omega) hv (by rw [Tr.str_list, text_dots]; omega) (by omega) (by rw [fillL_of (raw_fill1 hp hq)]; omega) (by rw [fillL_of (raw_fill1 hp hq)]; exact text_ne _)
  rwa [raw_fill1 hp hq] at this

theorem withLeaves_raw2 {p q : Pr} (hp : okP p) (hq : okP q) (h1 : p.1.carets ≤ 30) (h2 : q.1.carets ≤ 30) (b1 : Nat) (v : Value) (w : World) (hv : CellsS b1 w v (subsS q.1 (p.2.join q.1))) :
    Calls Try.prog 47 #[.string q.2.str, v] w (Gives (.string (rawP p q).2.str) w) := by
  have hl := raw_len hp hq
  have hr := rawP_carets hp hq
  have hj := join_carets p.2 q.1
  have ht := (rawP p q).2.text_len
  unfold okP at hp hq
  have hz := q.2.str_size
  unfold Tr.leaves at hl
  have := withLeaves_any b1 q.2.str v _ w (by omega) hv (by rw [Tr.str_list, text_dots]; omega) (by omega) (by rw [fillL_of (raw_fill2 hp hq)]; omega) (by rw [fillL_of (raw_fill2 hp hq)]; exact text_ne _)
  rwa [raw_fill2 hp hq] at this

set_option maxRecDepth 100000 in
set_option maxHeartbeats 4000000 in
theorem product_any (p q : Pr) (w : World) (hp : okP p) (hq : okP q) (h1 : p.1.carets ≤ 30) (h2 : q.1.carets ≤ 30) :
    Calls Try.prog 27 #[.agg #[.string p.1.str, .string p.2.str], .agg #[.string q.1.str, .string q.2.str]] w (Gives (.agg #[.string (mulP p q).1.str, .string (mulP p q).2.str]) w) := by
  have hr := rawP_carets hp hq
  have hj := join_carets p.2 q.1
  have hp' : p.1.carets = p.2.carets := hp
  have hq' : q.1.carets = q.2.carets := hq
  have T1 := fun w => treeOf_any p.2 w (by omega)
  have T2 := fun w => treeOf_any q.1 w (by omega)
  have W1 := fun b v w h => withLeaves_raw1 hp hq h1 h2 b v w h
  have W2 := fun b v w h => withLeaves_raw2 hp hq h1 h2 b v w h
  have RR : ∀ w, Calls Try.prog 46 #[.agg #[.string (rawP p q).1.str, .string (rawP p q).2.str], .func (Fn.func 49) #[] #[]] w (Gives (.agg #[.string (mulP p q).1.str, .string (mulP p q).2.str]) w) := fun w => reducedBy_first (rawP p q) w (by omega) (by omega)
  have PJ1 := part_join p.2 q.1
  have PJ2 := part_join' p.2 q.1
  have hjc : (p.2.join q.1).carets ≤ 60 := by omega
  clear hr hj
  go_enter Try.func27, Try.ntmps27
  go_wp2_with fail
  have hb0 : Below w.heap.size w (((w.alloc (.cells #[.string p.1.str, .string p.2.str] 26 (0, 0))).alloc (.cells #[.string q.1.str, .string q.2.str] 26 (0, 0))).alloc (.cells #[.string ⟨#[]⟩, .string ⟨#[]⟩] 26 (0, 0))) := nxAlloc (nxAlloc (nxAlloc (Below.refl _ _) _) _) _
  have hx0 := heap_keep (nxAlloc (Below.refl _ _) (.cells #[.string ⟨#[]⟩, .string ⟨#[]⟩] 26 (0, 0))) (heap_keep (nxAlloc (Below.refl _ _) (.cells #[.string q.1.str, .string q.2.str] 26 (0, 0))) (heap_alloc_at w (.cells #[.string p.1.str, .string p.2.str] 26 (0, 0))))
  have hx1 := heap_keep (nxAlloc (Below.refl _ _) (.cells #[.string ⟨#[]⟩, .string ⟨#[]⟩] 26 (0, 0))) (heap_alloc_at (w.alloc (.cells #[.string p.1.str, .string p.2.str] 26 (0, 0))) (.cells #[.string q.1.str, .string q.2.str] 26 (0, 0)))
  have hx2 := heap_alloc_at ((w.alloc (.cells #[.string p.1.str, .string p.2.str] 26 (0, 0))).alloc (.cells #[.string q.1.str, .string q.2.str] 26 (0, 0))) (.cells #[.string ⟨#[]⟩, .string ⟨#[]⟩] 26 (0, 0))
  generalize (((w.alloc (.cells #[.string p.1.str, .string p.2.str] 26 (0, 0))).alloc (.cells #[.string q.1.str, .string q.2.str] 26 (0, 0))).alloc (.cells #[.string ⟨#[]⟩, .string ⟨#[]⟩] 26 (0, 0))) = w0 at *
  have e1 : (w.alloc (.cells #[.string p.1.str, .string p.2.str] 26 (0, 0))).heap.size = w.heap.size + 1 := by simp
  rw [e1] at hx1
  clear e1
  have e2 : ((w.alloc (.cells #[.string p.1.str, .string p.2.str] 26 (0, 0))).alloc (.cells #[.string q.1.str, .string q.2.str] 26 (0, 0))).heap.size = w.heap.size + 1 + 1 := by simp
  rw [e2] at hx2
  clear e2
  obtain ⟨hx0a, hx0b, hx0c⟩ := two_facts hx0
  obtain ⟨hx0f, hx0g⟩ := two_frozen hx0
  obtain ⟨hx1a, hx1b, hx1c⟩ := two_facts hx1
  obtain ⟨hx1f, hx1g⟩ := two_frozen hx1
  obtain ⟨hx2a, hx2b, hx2c⟩ := two_facts hx2
  obtain ⟨hx2f, hx2g⟩ := two_frozen hx2
  have hz0 := Below.refl w0.heap.size w0
  go_region_held3 (fun w' => w'.cell? ⟨w.heap.size, 1, none⟩ = some (.string p.2.str) ∧ w'.cell? ⟨w.heap.size + 1, 0, none⟩ = some (.string q.1.str))
    (first
      | exact ⟨hx0b, hx1a⟩
      | exact ⟨A1, A2⟩
      | exact ⟨B1, B2⟩)
    (first
      | (go_at_call 44; (with_reducible refine (T1 _).mono ?_); rintro e w1 ⟨b1, hn1, hb1, rfl⟩; have hb1' := nx hz0.drew hb1; have A1 := keep_cell hb1' hx0b; have A2 := keep_cell hb1' hx1a)
      | (go_at_call 44; (with_reducible refine (T2 _).mono ?_); rintro e w2 ⟨b2, hn2, hb2, rfl⟩; have hb2' := nx hb1' hb2; have B1 := keep_cell hb2' hx0b; have B2 := keep_cell hb2' hx1a))
  go_wp2_with fail
  have hn1' := hn1.keep hb2
  refine (join_any p.2 q.1 b1 b2 _ hn1' hn2).mono ?_; rintro e w3 ⟨b3, hn3, hb3, rfl⟩
  have hbw3 := nx hb0 (nx hb2' hb3)
  have m1 := hn1'.keep hb3
  have m2 := hn2.keep hb3
  have hy0 := heap_keep (nx hb2' hb3) hx0
  have hy1 := heap_keep (nx hb2' hb3) hx1
  have hy2 := heap_keep (nx hb2' hb3) hx2
  have hb00 := Below.refl w3.heap.size w3
  clear hx0 hx1 hx2 hx0a hx0b hx0c hx0f hx0g hx1a hx1b hx1c hx1f hx1g hx2a hx2b hx2c hx2f hx2g A1 A2 B1 B2 hn1 hn2 hn1' hb1 hb2 hb1' hb2' hb3 hz0 hb0 T1 T2
  obtain ⟨k1, _⟩ := two_cells hy0
  obtain ⟨_, k2⟩ := two_cells hy1
  generalize hJ : p.2.join q.1 = J at *
  clear hJ
  go_wp2_with fail
  go_region_held3 (fun w' => w'.cell? ⟨w.heap.size, 0, none⟩ = some (.string p.1.str) ∧ w'.cell? ⟨w.heap.size + 1, 1, none⟩ = some (.string q.2.str))
    (first
      | exact ⟨k1, k2⟩
      | exact ⟨A1, A2⟩
      | exact ⟨B1, B2⟩
      | exact ⟨C1, C2⟩
      | exact ⟨D1, D2⟩
      | exact ⟨E1, E2⟩
      | exact ⟨G1, G2⟩)
    (first
      | (go_at_call_of 48 (some (⟨b1, 0, none⟩ : Addr)); refine (below_any p.2 J b1 b3 _ ?_ ?_ PJ1 hjc).mono ?_; exact m1.keep hb00.drew; exact hn3.keep hb00.drew; rintro e w4 ⟨g1, cap1, own1, hb4, rfl⟩; have hb4' := nx hb00.drew hb4; have A1 := keep_cell hb4' k1; have A2 := keep_cell hb4' k2)
      | (go_at_call_of 47 (some (⟨g1, 0, none⟩ : Addr)); refine (W1 _ _ _ own1.cells).mono ?_; rintro e w5 ⟨rfl, hb5⟩; have hb5' := nx hb4' hb5; have B1 := keep_cell hb5' k1; have B2 := keep_cell hb5' k2)
      | (go_at_call_of 48 (some (⟨b2, 0, none⟩ : Addr)); refine (below_any q.1 J b2 b3 _ ?_ ?_ PJ2 hjc).mono ?_; exact m2.keep hb5'; exact hn3.keep hb5'; rintro e w6 ⟨g2, cap2, own2, hb6, rfl⟩; have hb6' := nx hb5' hb6; have C1 := keep_cell hb6' k1; have C2 := keep_cell hb6' k2)
      | (go_at_call_of 47 (some (⟨g2, 0, none⟩ : Addr)); refine (W2 _ _ _ own2.cells).mono ?_; rintro e w7 ⟨rfl, hb7⟩; have hb7' := nx hb6' hb7; have D1 := keep_cell hb7' k1; have D2 := keep_cell hb7' k2)
      | (go_at_call 46; refine (RR _).mono ?_; rintro e w8 ⟨rfl, hb8⟩; have hb8' := nx hb7' hb8; have E1 := keep_cell hb8' k1; have E2 := keep_cell hb8' k2; have hz2 := heap_keep hb8' hy2; have hz0 := heap_keep hb8' hy0; have hz1 := heap_keep hb8' hy1; obtain ⟨n1, n2⟩ := two_cells hz2; obtain ⟨f1, f2⟩ := two_frozen hz2; have hq0 := (Below.heap_setCell (w8.setCell ⟨w.heap.size + 1 + 1, 0, none⟩ (.string (mulP p q).1.str)) ⟨w.heap.size + 1 + 1, 1, none⟩ (.string (mulP p q).2.str) w.heap.size (by show ¬ w.heap.size = w.heap.size + 1 + 1; omega)).trans ((Below.heap_setCell w8 ⟨w.heap.size + 1 + 1, 0, none⟩ (.string (mulP p q).1.str) w.heap.size (by show ¬ w.heap.size = w.heap.size + 1 + 1; omega)).trans hz0); have hq1 := (Below.heap_setCell (w8.setCell ⟨w.heap.size + 1 + 1, 0, none⟩ (.string (mulP p q).1.str)) ⟨w.heap.size + 1 + 1, 1, none⟩ (.string (mulP p q).2.str) (w.heap.size + 1) (by show ¬ w.heap.size + 1 = w.heap.size + 1 + 1; omega)).trans ((Below.heap_setCell w8 ⟨w.heap.size + 1 + 1, 0, none⟩ (.string (mulP p q).1.str) (w.heap.size + 1) (by show ¬ w.heap.size + 1 = w.heap.size + 1 + 1; omega)).trans hz1); have G1 := (two_cells hq0).1; have G2 := (two_cells hq1).2))
  go_wp2_with fail
  obtain ⟨q1, q2⟩ := two_cells (set_two (.string (mulP p q).1.str) (.string (mulP p q).2.str) hz2)
  refine bodyPost_ret (v := .agg #[.string (mulP p q).1.str, .string (mulP p q).2.str]) (by simp [q1, q2, results, Try.results27, go_sem]) rfl ⟨rfl, ?_⟩
  exact ((nx hbw3 hb8').setCell (by show w.heap.size ≤ w.heap.size + 1 + 1; omega) _).setCell (by show w.heap.size ≤ w.heap.size + 1 + 1; omega) _

end Go.Proofs.Ytjmbkieocmhmiaa

/-! LimP -/
namespace Go.Proofs.Ytjmbkieocmhmiaa
open Go.RowKit

/-- A pair, if its trees have no more carets than allowed. -/
def limP (p : Pr) : Option Pr := if p.1.carets ≤ 8 then some p else none
theorem treeOf_big {t : Tr} (h : 8 < t.carets) : treeOf t.str = none := by
  unfold treeOf
  rw [parse_str t _ (by have := t.str_size; have := t.text_len; omega)]
  show (if t.carets ≤ 8 then some t else none) = none
  rw [if_neg (by omega)]
theorem pairOf_lim {p : Pr} (h : okP p) : pairOf p.1.str p.2.str = limP p := by
  unfold limP
  by_cases hc : p.1.carets ≤ 8
  · rw [if_pos hc, pairOf_str h hc]
  · rw [if_neg hc]
    unfold pairOf
    rw [treeOf_big (by omega)]

set_option maxHeartbeats 1000000 in
theorem pairLimit_any (p : Pr) (w : World) :
    Calls Try.prog 26 #[.agg #[.string p.1.str, .string p.2.str]] w (Gives (ansPr (limP p)) w) := by
  have hg : ∀ w, Calls Try.prog 40 #[.string p.1.str] w (Gives (ansV (lim p.1)) w) := fun w => (limit_any p.1 w).mono fun _ _ ⟨h1, h2⟩ => ⟨h1, by rw [← h2]; exact Below.refl _ _⟩
  unfold lim at hg
  unfold limP
  by_cases h : p.1.carets ≤ 8
  · rw [if_pos h] at hg ⊢
    have hg' : ∀ w, Calls Try.prog 40 #[.string p.1.str] w (Gives (.tuple #[.string p.1.str, .bool true]) w) := hg
    clear hg h
    go_enter Try.func26, Try.ntmps26
    go_wp2_with fail
    have hb0 : Below w.heap.size w ((w.alloc (.cells #[.string p.1.str, .string p.2.str] 26 (0, 0))).alloc (.cells #[.string ⟨#[]⟩, .string ⟨#[]⟩] 26 (0, 0))) := nxAlloc (nxAlloc (Below.refl _ _) _) _
    have hx0 := heap_keep (nxAlloc (Below.refl _ _) (.cells #[.string ⟨#[]⟩, .string ⟨#[]⟩] 26 (0, 0))) (heap_alloc_at w (.cells #[.string p.1.str, .string p.2.str] 26 (0, 0)))
    have hx1 := heap_alloc_at (w.alloc (.cells #[.string p.1.str, .string p.2.str] 26 (0, 0))) (.cells #[.string ⟨#[]⟩, .string ⟨#[]⟩] 26 (0, 0))
    generalize ((w.alloc (.cells #[.string p.1.str, .string p.2.str] 26 (0, 0))).alloc (.cells #[.string ⟨#[]⟩, .string ⟨#[]⟩] 26 (0, 0))) = w0 at *
    have e1 : (w.alloc (.cells #[.string p.1.str, .string p.2.str] 26 (0, 0))).heap.size = w.heap.size + 1 := by simp
    rw [e1] at hx1
    clear e1
    obtain ⟨hx0a, hx0b, hx0c⟩ := two_facts hx0
    obtain ⟨hx0f, hx0g⟩ := two_frozen hx0
    obtain ⟨hx1a, hx1b, hx1c⟩ := two_facts hx1
    obtain ⟨hx1f, hx1g⟩ := two_frozen hx1
    refine (hg' _).mono ?_; rintro e w1 ⟨rfl, hb1⟩
    have hbw1 := nx hb0 hb1
    replace hx0 := heap_keep hb1 hx0
    replace hx1 := heap_keep hb1 hx1
    clear hx0a hx0b hx0c hx0f hx0g
    obtain ⟨hx0a, hx0b, hx0c⟩ := two_facts hx0
    obtain ⟨hx0f, hx0g⟩ := two_frozen hx0
    clear hx1a hx1b hx1c hx1f hx1g
    obtain ⟨hx1a, hx1b, hx1c⟩ := two_facts hx1
    obtain ⟨hx1f, hx1g⟩ := two_frozen hx1
    clear hb1 hb0
    go_wp2_with fail
    obtain ⟨q1, q2⟩ := two_cells (set_two (.string p.1.str) (.string p.2.str) hx1)
    refine bodyPost_ret (v := .tuple #[.agg #[.string p.1.str, .string p.2.str], .bool true]) (by simp [q1, q2, results, Try.results26, go_sem]) rfl ⟨rfl, ?_⟩
    exact (hbw1.setCell (by show w.heap.size ≤ w.heap.size + 1; omega) _).setCell (by show w.heap.size ≤ w.heap.size + 1; omega) _
  · rw [if_neg h] at hg ⊢
    have hg' : ∀ w, Calls Try.prog 40 #[.string p.1.str] w (Gives (.tuple #[.string ⟨#[]⟩, .bool false]) w) := hg
    clear hg h
    go_enter Try.func26, Try.ntmps26
    go_wp2_with fail
    have hb0 : Below w.heap.size w ((w.alloc (.cells #[.string p.1.str, .string p.2.str] 26 (0, 0))).alloc (.cells #[.string ⟨#[]⟩, .string ⟨#[]⟩] 26 (0, 0))) := nxAlloc (nxAlloc (Below.refl _ _) _) _
    have hx0 := heap_keep (nxAlloc (Below.refl _ _) (.cells #[.string ⟨#[]⟩, .string ⟨#[]⟩] 26 (0, 0))) (heap_alloc_at w (.cells #[.string p.1.str, .string p.2.str] 26 (0, 0)))
    have hx1 := heap_alloc_at (w.alloc (.cells #[.string p.1.str, .string p.2.str] 26 (0, 0))) (.cells #[.string ⟨#[]⟩, .string ⟨#[]⟩] 26 (0, 0))
    generalize ((w.alloc (.cells #[.string p.1.str, .string p.2.str] 26 (0, 0))).alloc (.cells #[.string ⟨#[]⟩, .string ⟨#[]⟩] 26 (0, 0))) = w0 at *
    have e1 : (w.alloc (.cells #[.string p.1.str, .string p.2.str] 26 (0, 0))).heap.size = w.heap.size + 1 := by simp
    rw [e1] at hx1
    clear e1
    obtain ⟨hx0a, hx0b, hx0c⟩ := two_facts hx0
    obtain ⟨hx0f, hx0g⟩ := two_frozen hx0
    obtain ⟨hx1a, hx1b, hx1c⟩ := two_facts hx1
    obtain ⟨hx1f, hx1g⟩ := two_frozen hx1
    refine (hg' _).mono ?_; rintro e w1 ⟨rfl, hb1⟩
    have hbw1 := nx hb0 hb1
    replace hx0 := heap_keep hb1 hx0
    replace hx1 := heap_keep hb1 hx1
    clear hx0a hx0b hx0c hx0f hx0g
    obtain ⟨hx0a, hx0b, hx0c⟩ := two_facts hx0
    obtain ⟨hx0f, hx0g⟩ := two_frozen hx0
    clear hx1a hx1b hx1c hx1f hx1g
    obtain ⟨hx1a, hx1b, hx1c⟩ := two_facts hx1
    obtain ⟨hx1f, hx1g⟩ := two_frozen hx1
    clear hb1 hb0
    go_wp2_with fail
    obtain ⟨q1, q2⟩ := two_cells (set_two (.string ⟨#[]⟩) (.string ⟨#[]⟩) hx1)
    refine bodyPost_ret (v := .tuple #[.agg #[.string ⟨#[]⟩, .string ⟨#[]⟩], .bool false]) (by simp [q1, q2, results, Try.results26, go_sem]) rfl ⟨rfl, ?_⟩
    exact (hbw1.setCell (by show w.heap.size ≤ w.heap.size + 1; omega) _).setCell (by show w.heap.size ≤ w.heap.size + 1; omega) _
end Go.Proofs.Ytjmbkieocmhmiaa

/-! ProdC -/
namespace Go.Proofs.Ytjmbkieocmhmiaa
open Go.RowKit

set_option maxRecDepth 100000 in
set_option maxHeartbeats 2000000 in
theorem implProductPair_any (a b c d : ByteArray) (w : World) (ha : a.size ≤ 9223372036854775806) (hb : b.size ≤ 9223372036854775806) (hc : c.size ≤ 9223372036854775806) (hd : d.size ≤ 9223372036854775806) :
    Calls Try.prog 9 #[.agg #[.string a, .string b], .agg #[.string c, .string d]] w (Gives (ansPr ((pairOf a b).bind fun p => (pairOf c d).bind fun q => limP (mulP p q))) w) := by
  have hg := fun w => isPair_any a b w ha hb
  have hk := fun w => isPair_any c d w hc hd
  cases h : pairOf a b with
  | none =>
    rw [h] at hg
    clear h hk
    go_enter Try.func9, Try.ntmps9
    go_wp2_with fail
    have hb0 : Below w.heap.size w (((w.alloc (.cells #[.string a, .string b] 26 (0, 0))).alloc (.cells #[.string c, .string d] 26 (0, 0))).alloc (.cells #[.string ⟨#[]⟩, .string ⟨#[]⟩] 26 (0, 0))) := nxAlloc (nxAlloc (nxAlloc (Below.refl _ _) _) _) _
    have hx0 := heap_keep (nxAlloc (Below.refl _ _) (.cells #[.string ⟨#[]⟩, .string ⟨#[]⟩] 26 (0, 0))) (heap_keep (nxAlloc (Below.refl _ _) (.cells #[.string c, .string d] 26 (0, 0))) (heap_alloc_at w (.cells #[.string a, .string b] 26 (0, 0))))
    have hx1 := heap_keep (nxAlloc (Below.refl _ _) (.cells #[.string ⟨#[]⟩, .string ⟨#[]⟩] 26 (0, 0))) (heap_alloc_at (w.alloc (.cells #[.string a, .string b] 26 (0, 0))) (.cells #[.string c, .string d] 26 (0, 0)))
    have hx2 := heap_alloc_at ((w.alloc (.cells #[.string a, .string b] 26 (0, 0))).alloc (.cells #[.string c, .string d] 26 (0, 0))) (.cells #[.string ⟨#[]⟩, .string ⟨#[]⟩] 26 (0, 0))
    generalize (((w.alloc (.cells #[.string a, .string b] 26 (0, 0))).alloc (.cells #[.string c, .string d] 26 (0, 0))).alloc (.cells #[.string ⟨#[]⟩, .string ⟨#[]⟩] 26 (0, 0))) = w0 at *
    have e1 : (w.alloc (.cells #[.string a, .string b] 26 (0, 0))).heap.size = w.heap.size + 1 := by simp
    rw [e1] at hx1
    clear e1
    have e2 : ((w.alloc (.cells #[.string a, .string b] 26 (0, 0))).alloc (.cells #[.string c, .string d] 26 (0, 0))).heap.size = w.heap.size + 1 + 1 := by simp
    rw [e2] at hx2
    clear e2
    obtain ⟨hx0a, hx0b, hx0c⟩ := two_facts hx0
    obtain ⟨hx0f, hx0g⟩ := two_frozen hx0
    obtain ⟨hx1a, hx1b, hx1c⟩ := two_facts hx1
    obtain ⟨hx1f, hx1g⟩ := two_frozen hx1
    obtain ⟨hx2a, hx2b, hx2c⟩ := two_facts hx2
    obtain ⟨hx2f, hx2g⟩ := two_frozen hx2
    refine (hg _).mono ?_; rintro e w1 ⟨rfl, hb1⟩
    have hbw1 := nx hb0 hb1
    replace hx0 := heap_keep hb1 hx0
    replace hx1 := heap_keep hb1 hx1
    replace hx2 := heap_keep hb1 hx2
    clear hx0a hx0b hx0c hx0f hx0g
    obtain ⟨hx0a, hx0b, hx0c⟩ := two_facts hx0
    obtain ⟨hx0f, hx0g⟩ := two_frozen hx0
    clear hx1a hx1b hx1c hx1f hx1g
    obtain ⟨hx1a, hx1b, hx1c⟩ := two_facts hx1
    obtain ⟨hx1f, hx1g⟩ := two_frozen hx1
    clear hx2a hx2b hx2c hx2f hx2g
    obtain ⟨hx2a, hx2b, hx2c⟩ := two_facts hx2
    obtain ⟨hx2f, hx2g⟩ := two_frozen hx2
    clear hb1 hb0
    go_wp2_with fail
    obtain ⟨q1, q2⟩ := two_cells (set_two (.string ⟨#[]⟩) (.string ⟨#[]⟩) hx2)
    refine bodyPost_ret (v := .tuple #[.agg #[.string ⟨#[]⟩, .string ⟨#[]⟩], .bool false]) (by simp [q1, q2, results, Try.results9, go_sem]) rfl ⟨rfl, ?_⟩
    exact (hbw1.setCell (by show w.heap.size ≤ w.heap.size + 1 + 1; omega) _).setCell (by show w.heap.size ≤ w.heap.size + 1 + 1; omega) _
  | some p =>
    rw [h] at hg
    obtain ⟨rfl, rfl, hok1, hp1, hp2⟩ := pairOf_some h
    clear h
    cases k : pairOf c d with
    | none =>
      rw [k] at hk
      clear k
      go_enter Try.func9, Try.ntmps9
      go_wp2_with fail
      have hb0 : Below w.heap.size w (((w.alloc (.cells #[.string p.1.str, .string p.2.str] 26 (0, 0))).alloc (.cells #[.string c, .string d] 26 (0, 0))).alloc (.cells #[.string ⟨#[]⟩, .string ⟨#[]⟩] 26 (0, 0))) := nxAlloc (nxAlloc (nxAlloc (Below.refl _ _) _) _) _
      have hx0 := heap_keep (nxAlloc (Below.refl _ _) (.cells #[.string ⟨#[]⟩, .string ⟨#[]⟩] 26 (0, 0))) (heap_keep (nxAlloc (Below.refl _ _) (.cells #[.string c, .string d] 26 (0, 0))) (heap_alloc_at w (.cells #[.string p.1.str, .string p.2.str] 26 (0, 0))))
      have hx1 := heap_keep (nxAlloc (Below.refl _ _) (.cells #[.string ⟨#[]⟩, .string ⟨#[]⟩] 26 (0, 0))) (heap_alloc_at (w.alloc (.cells #[.string p.1.str, .string p.2.str] 26 (0, 0))) (.cells #[.string c, .string d] 26 (0, 0)))
      have hx2 := heap_alloc_at ((w.alloc (.cells #[.string p.1.str, .string p.2.str] 26 (0, 0))).alloc (.cells #[.string c, .string d] 26 (0, 0))) (.cells #[.string ⟨#[]⟩, .string ⟨#[]⟩] 26 (0, 0))
      generalize (((w.alloc (.cells #[.string p.1.str, .string p.2.str] 26 (0, 0))).alloc (.cells #[.string c, .string d] 26 (0, 0))).alloc (.cells #[.string ⟨#[]⟩, .string ⟨#[]⟩] 26 (0, 0))) = w0 at *
      have e1 : (w.alloc (.cells #[.string p.1.str, .string p.2.str] 26 (0, 0))).heap.size = w.heap.size + 1 := by simp
      rw [e1] at hx1
      clear e1
      have e2 : ((w.alloc (.cells #[.string p.1.str, .string p.2.str] 26 (0, 0))).alloc (.cells #[.string c, .string d] 26 (0, 0))).heap.size = w.heap.size + 1 + 1 := by simp
      rw [e2] at hx2
      clear e2
      obtain ⟨hx0a, hx0b, hx0c⟩ := two_facts hx0
      obtain ⟨hx0f, hx0g⟩ := two_frozen hx0
      obtain ⟨hx1a, hx1b, hx1c⟩ := two_facts hx1
      obtain ⟨hx1f, hx1g⟩ := two_frozen hx1
      obtain ⟨hx2a, hx2b, hx2c⟩ := two_facts hx2
      obtain ⟨hx2f, hx2g⟩ := two_frozen hx2
      refine (hg _).mono ?_; rintro e w1 ⟨rfl, hb1⟩
      have hbw1 := nx hb0 hb1
      replace hx0 := heap_keep hb1 hx0
      replace hx1 := heap_keep hb1 hx1
      replace hx2 := heap_keep hb1 hx2
      clear hx0a hx0b hx0c hx0f hx0g
      obtain ⟨hx0a, hx0b, hx0c⟩ := two_facts hx0
      obtain ⟨hx0f, hx0g⟩ := two_frozen hx0
      clear hx1a hx1b hx1c hx1f hx1g
      obtain ⟨hx1a, hx1b, hx1c⟩ := two_facts hx1
      obtain ⟨hx1f, hx1g⟩ := two_frozen hx1
      clear hx2a hx2b hx2c hx2f hx2g
      obtain ⟨hx2a, hx2b, hx2c⟩ := two_facts hx2
      obtain ⟨hx2f, hx2g⟩ := two_frozen hx2
      clear hb1 hb0
      go_wp2_with fail
      refine (hk _).mono ?_; rintro e w2 ⟨rfl, hb2⟩
      have hbw2 := nx hbw1 hb2
      replace hx0 := heap_keep hb2 hx0
      replace hx1 := heap_keep hb2 hx1
      replace hx2 := heap_keep hb2 hx2
      clear hx0a hx0b hx0c hx0f hx0g
      obtain ⟨hx0a, hx0b, hx0c⟩ := two_facts hx0
      obtain ⟨hx0f, hx0g⟩ := two_frozen hx0
      clear hx1a hx1b hx1c hx1f hx1g
      obtain ⟨hx1a, hx1b, hx1c⟩ := two_facts hx1
      obtain ⟨hx1f, hx1g⟩ := two_frozen hx1
      clear hx2a hx2b hx2c hx2f hx2g
      obtain ⟨hx2a, hx2b, hx2c⟩ := two_facts hx2
      obtain ⟨hx2f, hx2g⟩ := two_frozen hx2
      clear hb2 hbw1
      go_wp2_with fail
      obtain ⟨q1, q2⟩ := two_cells (set_two (.string ⟨#[]⟩) (.string ⟨#[]⟩) hx2)
      refine bodyPost_ret (v := .tuple #[.agg #[.string ⟨#[]⟩, .string ⟨#[]⟩], .bool false]) (by simp [q1, q2, results, Try.results9, go_sem]) rfl ⟨rfl, ?_⟩
      exact (hbw2.setCell (by show w.heap.size ≤ w.heap.size + 1 + 1; omega) _).setCell (by show w.heap.size ≤ w.heap.size + 1 + 1; omega) _
    | some q =>
      rw [k] at hk
      obtain ⟨rfl, rfl, hok2, hq1, hq2⟩ := pairOf_some k
      clear k
      show Calls _ _ _ _ (Gives (ansPr (limP (mulP p q))) w)
      have hm := mulP_ok hok1 hok2
      have hmc := mulP_carets hok1 hok2
      have hL := fun w => pairLimit_any (mulP p q) w
      generalize limP (mulP p q) = o at *
      unfold ansPr at *
      generalize pS1 o = X at *
      generalize pS2 o = Y at *
      generalize o.isSome = ok at *
      go_enter Try.func9, Try.ntmps9
      go_wp2_with fail
      have hb0 : Below w.heap.size w (((w.alloc (.cells #[.string p.1.str, .string p.2.str] 26 (0, 0))).alloc (.cells #[.string q.1.str, .string q.2.str] 26 (0, 0))).alloc (.cells #[.string ⟨#[]⟩, .string ⟨#[]⟩] 26 (0, 0))) := nxAlloc (nxAlloc (nxAlloc (Below.refl _ _) _) _) _
      have hx0 := heap_keep (nxAlloc (Below.refl _ _) (.cells #[.string ⟨#[]⟩, .string ⟨#[]⟩] 26 (0, 0))) (heap_keep (nxAlloc (Below.refl _ _) (.cells #[.string q.1.str, .string q.2.str] 26 (0, 0))) (heap_alloc_at w (.cells #[.string p.1.str, .string p.2.str] 26 (0, 0))))
      have hx1 := heap_keep (nxAlloc (Below.refl _ _) (.cells #[.string ⟨#[]⟩, .string ⟨#[]⟩] 26 (0, 0))) (heap_alloc_at (w.alloc (.cells #[.string p.1.str, .string p.2.str] 26 (0, 0))) (.cells #[.string q.1.str, .string q.2.str] 26 (0, 0)))
      have hx2 := heap_alloc_at ((w.alloc (.cells #[.string p.1.str, .string p.2.str] 26 (0, 0))).alloc (.cells #[.string q.1.str, .string q.2.str] 26 (0, 0))) (.cells #[.string ⟨#[]⟩, .string ⟨#[]⟩] 26 (0, 0))
      generalize (((w.alloc (.cells #[.string p.1.str, .string p.2.str] 26 (0, 0))).alloc (.cells #[.string q.1.str, .string q.2.str] 26 (0, 0))).alloc (.cells #[.string ⟨#[]⟩, .string ⟨#[]⟩] 26 (0, 0))) = w0 at *
      have e1 : (w.alloc (.cells #[.string p.1.str, .string p.2.str] 26 (0, 0))).heap.size = w.heap.size + 1 := by simp
      rw [e1] at hx1
      clear e1
      have e2 : ((w.alloc (.cells #[.string p.1.str, .string p.2.str] 26 (0, 0))).alloc (.cells #[.string q.1.str, .string q.2.str] 26 (0, 0))).heap.size = w.heap.size + 1 + 1 := by simp
      rw [e2] at hx2
      clear e2
      obtain ⟨hx0a, hx0b, hx0c⟩ := two_facts hx0
      obtain ⟨hx0f, hx0g⟩ := two_frozen hx0
      obtain ⟨hx1a, hx1b, hx1c⟩ := two_facts hx1
      obtain ⟨hx1f, hx1g⟩ := two_frozen hx1
      obtain ⟨hx2a, hx2b, hx2c⟩ := two_facts hx2
      obtain ⟨hx2f, hx2g⟩ := two_frozen hx2
      refine (hg _).mono ?_; rintro e w1 ⟨rfl, hb1⟩
      have hbw1 := nx hb0 hb1
      replace hx0 := heap_keep hb1 hx0
      replace hx1 := heap_keep hb1 hx1
      replace hx2 := heap_keep hb1 hx2
      clear hx0a hx0b hx0c hx0f hx0g
      obtain ⟨hx0a, hx0b, hx0c⟩ := two_facts hx0
      obtain ⟨hx0f, hx0g⟩ := two_frozen hx0
      clear hx1a hx1b hx1c hx1f hx1g
      obtain ⟨hx1a, hx1b, hx1c⟩ := two_facts hx1
      obtain ⟨hx1f, hx1g⟩ := two_frozen hx1
      clear hx2a hx2b hx2c hx2f hx2g
      obtain ⟨hx2a, hx2b, hx2c⟩ := two_facts hx2
      obtain ⟨hx2f, hx2g⟩ := two_frozen hx2
      clear hb1 hb0
      go_wp2_with fail
      refine (hk _).mono ?_; rintro e w2 ⟨rfl, hb2⟩
      have hbw2 := nx hbw1 hb2
      replace hx0 := heap_keep hb2 hx0
      replace hx1 := heap_keep hb2 hx1
      replace hx2 := heap_keep hb2 hx2
      clear hx0a hx0b hx0c hx0f hx0g
      obtain ⟨hx0a, hx0b, hx0c⟩ := two_facts hx0
      obtain ⟨hx0f, hx0g⟩ := two_frozen hx0
      clear hx1a hx1b hx1c hx1f hx1g
      obtain ⟨hx1a, hx1b, hx1c⟩ := two_facts hx1
      obtain ⟨hx1f, hx1g⟩ := two_frozen hx1
      clear hx2a hx2b hx2c hx2f hx2g
      obtain ⟨hx2a, hx2b, hx2c⟩ := two_facts hx2
      obtain ⟨hx2f, hx2g⟩ := two_frozen hx2
      clear hb2 hbw1
      go_wp2_with fail
      refine (product_any p q _ hok1 hok2 (by omega) (by omega)).mono ?_; rintro e w3 ⟨rfl, hb3⟩
      have hbw3 := nx hbw2 hb3
      replace hx0 := heap_keep hb3 hx0
      replace hx1 := heap_keep hb3 hx1
      replace hx2 := heap_keep hb3 hx2
      clear hx0a hx0b hx0c hx0f hx0g
      obtain ⟨hx0a, hx0b, hx0c⟩ := two_facts hx0
      obtain ⟨hx0f, hx0g⟩ := two_frozen hx0
      clear hx1a hx1b hx1c hx1f hx1g
      obtain ⟨hx1a, hx1b, hx1c⟩ := two_facts hx1
      obtain ⟨hx1f, hx1g⟩ := two_frozen hx1
      clear hx2a hx2b hx2c hx2f hx2g
      obtain ⟨hx2a, hx2b, hx2c⟩ := two_facts hx2
      obtain ⟨hx2f, hx2g⟩ := two_frozen hx2
      clear hb3 hbw2
      go_wp2_with fail
      refine (hL _).mono ?_; rintro e w4 ⟨rfl, hb4⟩
      have hbw4 := nx hbw3 hb4
      replace hx0 := heap_keep hb4 hx0
      replace hx1 := heap_keep hb4 hx1
      replace hx2 := heap_keep hb4 hx2
      clear hx0a hx0b hx0c hx0f hx0g
      obtain ⟨hx0a, hx0b, hx0c⟩ := two_facts hx0
      obtain ⟨hx0f, hx0g⟩ := two_frozen hx0
      clear hx1a hx1b hx1c hx1f hx1g
      obtain ⟨hx1a, hx1b, hx1c⟩ := two_facts hx1
      obtain ⟨hx1f, hx1g⟩ := two_frozen hx1
      clear hx2a hx2b hx2c hx2f hx2g
      obtain ⟨hx2a, hx2b, hx2c⟩ := two_facts hx2
      obtain ⟨hx2f, hx2g⟩ := two_frozen hx2
      clear hb4 hbw3
      go_wp2_with fail
      obtain ⟨q1, q2⟩ := two_cells (set_two (.string X) (.string Y) hx2)
      refine bodyPost_ret (v := .tuple #[.agg #[.string X, .string Y], .bool ok]) (by simp [q1, q2, results, Try.results9, go_sem]) rfl ⟨rfl, ?_⟩
      exact (hbw4.setCell (by show w.heap.size ≤ w.heap.size + 1 + 1; omega) _).setCell (by show w.heap.size ≤ w.heap.size + 1 + 1; omega) _
end Go.Proofs.Ytjmbkieocmhmiaa

/-! Inv -/
namespace Go.Proofs.Ytjmbkieocmhmiaa
open Go.RowKit

theorem inverse_any (a b : ByteArray) (w : World) : Calls Try.prog 25 #[.agg #[.string a, .string b]] w (Gives (.agg #[.string b, .string a]) w) := by
  go_enter Try.func25, Try.ntmps25
  go_wp2
  refine bodyPost_ret (v := .agg #[.string b, .string a]) (by simp [results, Try.results25, go_sem]) rfl ⟨rfl, ?_⟩
  exact nxAlloc (nxAlloc (Below.refl _ _) _) _
end Go.Proofs.Ytjmbkieocmhmiaa

/-! WInversePair -/
namespace Go.Proofs.Ytjmbkieocmhmiaa
open Go.RowKit

set_option maxHeartbeats 1000000 in
theorem implInversePair_any (a b : ByteArray) (w : World) (ha : a.size ≤ 9223372036854775806) (hb : b.size ≤ 9223372036854775806) :
    Calls Try.prog 8 #[.agg #[.string a, .string b]] w (Gives (ansPr ((pairOf a b).bind fun p => some (invP p))) w) := by
  have hg := fun w => isPair_any a b w ha hb
  cases h : pairOf a b with
  | none =>
    rw [h] at hg
    clear h
    go_enter Try.func8, Try.ntmps8
    go_wp2_with fail
    have hb0 : Below w.heap.size w ((w.alloc (.cells #[.string a, .string b] 26 (0, 0))).alloc (.cells #[.string ⟨#[]⟩, .string ⟨#[]⟩] 26 (0, 0))) := nxAlloc (nxAlloc (Below.refl _ _) _) _
    have hx0 := heap_keep (nxAlloc (Below.refl _ _) (.cells #[.string ⟨#[]⟩, .string ⟨#[]⟩] 26 (0, 0))) (heap_alloc_at w (.cells #[.string a, .string b] 26 (0, 0)))
    have hx1 := heap_alloc_at (w.alloc (.cells #[.string a, .string b] 26 (0, 0))) (.cells #[.string ⟨#[]⟩, .string ⟨#[]⟩] 26 (0, 0))
    generalize ((w.alloc (.cells #[.string a, .string b] 26 (0, 0))).alloc (.cells #[.string ⟨#[]⟩, .string ⟨#[]⟩] 26 (0, 0))) = w0 at *
    have e1 : (w.alloc (.cells #[.string a, .string b] 26 (0, 0))).heap.size = w.heap.size + 1 := by simp
    rw [e1] at hx1
    clear e1
    obtain ⟨hx0a, hx0b, hx0c⟩ := two_facts hx0
    obtain ⟨hx0f, hx0g⟩ := two_frozen hx0
    obtain ⟨hx1a, hx1b, hx1c⟩ := two_facts hx1
    obtain ⟨hx1f, hx1g⟩ := two_frozen hx1
    refine (hg _).mono ?_; rintro e w1 ⟨rfl, hb1⟩
    have hbw1 := nx hb0 hb1
    replace hx0 := heap_keep hb1 hx0
    replace hx1 := heap_keep hb1 hx1
    clear hx0a hx0b hx0c hx0f hx0g
    obtain ⟨hx0a, hx0b, hx0c⟩ := two_facts hx0
    obtain ⟨hx0f, hx0g⟩ := two_frozen hx0
    clear hx1a hx1b hx1c hx1f hx1g
    obtain ⟨hx1a, hx1b, hx1c⟩ := two_facts hx1
    obtain ⟨hx1f, hx1g⟩ := two_frozen hx1
    clear hb1 hb0
    go_wp2_with fail
    obtain ⟨q1, q2⟩ := two_cells (set_two (.string ⟨#[]⟩) (.string ⟨#[]⟩) hx1)
    refine bodyPost_ret (v := .tuple #[.agg #[.string ⟨#[]⟩, .string ⟨#[]⟩], .bool false]) (by simp [q1, q2, results, Try.results8, go_sem]) rfl ⟨rfl, ?_⟩
    exact (hbw1.setCell (by show w.heap.size ≤ w.heap.size + 1; omega) _).setCell (by show w.heap.size ≤ w.heap.size + 1; omega) _
  | some p =>
    rw [h] at hg
    obtain ⟨rfl, rfl, hok, hc1, hc2⟩ := pairOf_some h
    clear h
    show Calls _ _ _ _ (Gives (ansPr (some (invP p))) w)
    go_enter Try.func8, Try.ntmps8
    go_wp2_with fail
    have hb0 : Below w.heap.size w ((w.alloc (.cells #[.string p.1.str, .string p.2.str] 26 (0, 0))).alloc (.cells #[.string ⟨#[]⟩, .string ⟨#[]⟩] 26 (0, 0))) := nxAlloc (nxAlloc (Below.refl _ _) _) _
    have hx0 := heap_keep (nxAlloc (Below.refl _ _) (.cells #[.string ⟨#[]⟩, .string ⟨#[]⟩] 26 (0, 0))) (heap_alloc_at w (.cells #[.string p.1.str, .string p.2.str] 26 (0, 0)))
    have hx1 := heap_alloc_at (w.alloc (.cells #[.string p.1.str, .string p.2.str] 26 (0, 0))) (.cells #[.string ⟨#[]⟩, .string ⟨#[]⟩] 26 (0, 0))
    generalize ((w.alloc (.cells #[.string p.1.str, .string p.2.str] 26 (0, 0))).alloc (.cells #[.string ⟨#[]⟩, .string ⟨#[]⟩] 26 (0, 0))) = w0 at *
    have e1 : (w.alloc (.cells #[.string p.1.str, .string p.2.str] 26 (0, 0))).heap.size = w.heap.size + 1 := by simp
    rw [e1] at hx1
    clear e1
    obtain ⟨hx0a, hx0b, hx0c⟩ := two_facts hx0
    obtain ⟨hx0f, hx0g⟩ := two_frozen hx0
    obtain ⟨hx1a, hx1b, hx1c⟩ := two_facts hx1
    obtain ⟨hx1f, hx1g⟩ := two_frozen hx1
    refine (hg _).mono ?_; rintro e w1 ⟨rfl, hb1⟩
    have hbw1 := nx hb0 hb1
    replace hx0 := heap_keep hb1 hx0
    replace hx1 := heap_keep hb1 hx1
    clear hx0a hx0b hx0c hx0f hx0g
    obtain ⟨hx0a, hx0b, hx0c⟩ := two_facts hx0
    obtain ⟨hx0f, hx0g⟩ := two_frozen hx0
    clear hx1a hx1b hx1c hx1f hx1g
    obtain ⟨hx1a, hx1b, hx1c⟩ := two_facts hx1
    obtain ⟨hx1f, hx1g⟩ := two_frozen hx1
    clear hb1 hb0
    go_wp2_with fail
    refine (inverse_any _ _ _).mono ?_; rintro e w2 ⟨rfl, hb2⟩
    have hbw2 := nx hbw1 hb2
    replace hx0 := heap_keep hb2 hx0
    replace hx1 := heap_keep hb2 hx1
    clear hx0a hx0b hx0c hx0f hx0g
    obtain ⟨hx0a, hx0b, hx0c⟩ := two_facts hx0
    obtain ⟨hx0f, hx0g⟩ := two_frozen hx0
    clear hx1a hx1b hx1c hx1f hx1g
    obtain ⟨hx1a, hx1b, hx1c⟩ := two_facts hx1
    obtain ⟨hx1f, hx1g⟩ := two_frozen hx1
    clear hb2 hbw1
    go_wp2_with fail
    obtain ⟨q1, q2⟩ := two_cells (set_two (.string p.2.str) (.string p.1.str) hx1)
    refine bodyPost_ret (v := .tuple #[.agg #[.string p.2.str, .string p.1.str], .bool true]) (by simp [q1, q2, results, Try.results8, go_sem]) rfl ⟨rfl, ?_⟩
    exact (hbw2.setCell (by show w.heap.size ≤ w.heap.size + 1; omega) _).setCell (by show w.heap.size ≤ w.heap.size + 1; omega) _

end Go.Proofs.Ytjmbkieocmhmiaa

/-! ParseI -/
namespace Go.Proofs.Ytjmbkieocmhmiaa
open Go.RowKit

/-- The index of the first byte c from an index on. -/
def idxB (s : ByteArray) (c : UInt8) : Int := Lib.indexByte s.data.toList c

set_option maxRecDepth 100000 in
set_option maxHeartbeats 1000000 in
theorem indexByteS_any (s : ByteArray) (c : UInt8) (w : World) :
    Calls Try.prog 77 #[.string s, .int .u8 c.toNat] w fun e w' => e = .returned (.int .i64 (idxB s c)) ∧ w = w' := by
  go_enter Try.func77, Try.ntmps77
  go_wp2
  rw [run_callFunc_extern Try.func81 (by kernel_rfl) (by kernel_rfl) (by kernel_rfl) (e := Extern.BytealgIndexByte.indexByte) (by kernel_rfl), Lib.run_indexByteString]
  simp only [Result.andThen]
  rw [Oper.upon_value]
  go_wp2
  go_ret
  refine ⟨ret_int ?_, rfl⟩
  unfold idxB
  simp

set_option maxRecDepth 100000 in
set_option maxHeartbeats 1000000 in
theorem index62_any (s : ByteArray) (w : World) :
    Calls Try.prog 72 #[.string s, .string ⟨#[62]⟩] w fun e w' => e = .returned (.int .i64 (idxB s 62)) ∧ w = w' := by
  have hI := fun w => indexByteS_any s 62 w
  have gz : ((⟨#[62]⟩ : ByteArray)[0]'(by decide)).toNat = 62 := rfl
  have ez : ((62 : UInt8).toNat : Int) = 62 := rfl
  rw [ez] at hI
  cases hq : ([62] == s.toList) with
  | true =>
    have h0 : idxB s 62 = 0 := by
      unfold idxB
      rw [← Lib.toList_data, ← (beq_iff_eq.1 hq)]
      rfl
    rw [h0]
    clear hI h0 ez
    go_enter Try.func72, Try.ntmps72
    go_wp2_with fail
    go_ret
    exact ⟨rfl, rfl⟩
  | false =>
    generalize idxB s 62 = z at *
    clear ez
    go_enter Try.func72, Try.ntmps72
    go_wp2_with fail
    refine (hI _).mono ?_; rintro e w1 ⟨rfl, rfl⟩
    go_wp2_with fail
    go_ret
    exact ⟨rfl, rfl⟩

theorem idx_spec (l : List UInt8) (c : UInt8) : (Lib.indexByte l c = -1 ∧ ∀ j : Nat, l[j]? ≠ some c) ∨ ∃ k : Nat, Lib.indexByte l c = k ∧ k < l.length ∧ l[k]? = some c ∧ ∀ j, j < k → l[j]? ≠ some c := by
  induction l with
  | nil => exact .inl ⟨rfl, fun j => by simp⟩
  | cons a l ih =>
    unfold Lib.indexByte
    by_cases h : (a == c) = true
    · rw [if_pos h]
      have : a = c := by simpa using h
      exact .inr ⟨0, rfl, by simp, by simp [this], fun j hj => by omega⟩
    · rw [if_neg h]
      have hne : a ≠ c := by simpa using h
      rcases ih with ⟨h1, h2⟩ | ⟨k, h1, h2, h3, h4⟩
      · left
        refine ⟨by rw [h1]; rfl, fun j => ?_⟩
        cases j with
        | zero => simpa using hne
        | succ j => simpa using h2 j
      · right
        refine ⟨k + 1, ?_, by simp; omega, by simpa using h3, fun j hj => ?_⟩
        · rw [h1]
          have : (((k : Nat) : Int) == -1) = false := by rw [beq_eq_false_iff_ne]; omega
          rw [this]
          simp
        · cases j with
          | zero => simpa using hne
          | succ j => simpa using h4 j (by omega)
theorem idxB_spec (s : ByteArray) (c : UInt8) : (idxB s c = -1 ∧ ∀ j : Nat, s.data.toList[j]? ≠ some c) ∨ ∃ k : Nat, idxB s c = k ∧ k < s.size ∧ s.data.toList[k]? = some c ∧ ∀ j, j < k → s.data.toList[j]? ≠ some c := by
  have := idx_spec s.data.toList c
  rw [← Lib.size_eq] at this
  exact this

def CutV (s : ByteArray) : Value := if 0 ≤ idxB s 62 then .tuple #[.string (s.extract 0 (idxB s 62).toNat), .string (s.extract ((idxB s 62).toNat + 1) s.size), .bool true] else .tuple #[.string s, .string ⟨#[]⟩, .bool false]

/-- The pieces of a text between the bytes 62, from an index on (fuel: what is left). -/
def pcs (s : ByteArray) : Nat → Nat → Nat → List ByteArray
  | 0, a, _ => [s.extract a s.size]
  | k + 1, a, i => if s.data.toList[i]? = some 62 then s.extract a i :: pcs s k (i + 1) (i + 1) else pcs s k a (i + 1)

theorem oneS1 (m : ByteArray) : ∀ u ∈ [Value.string m], u.oneCell' = true := by intro u hu; simp at hu; subst hu; rfl
theorem OwnS.snoc {base : Nat} {w : World} {v : Value} {xs : List ByteArray} {m : ByteArray} (h : w.ownsRow base 9 1 v (xs.length + 1) (xs.map Value.string ++ [Value.string m])) : OwnS base w v (xs ++ [m]) := by
  unfold OwnS; rw [List.length_append, List.map_append]; exact h

end Go.Proofs.Ytjmbkieocmhmiaa

/-! OrdP -/
namespace Go.Proofs.Ytjmbkieocmhmiaa
open Go.Op (bytesLess)

namespace Tr
def eqB : Tr → Tr → Bool
  | lf, lf => true
  | nd l r, nd p q => l.eqB p && r.eqB q
  | _, _ => false
/-- The order of texts, read off the trees. -/
def lt : Tr → Tr → Bool
  | lf, _ => false
  | nd _ _, lf => true
  | nd l r, nd p q => l.lt p || (l.eqB p && r.lt q)
end Tr

theorem eqB_iff (t : Tr) : ∀ u : Tr, t.eqB u = true ↔ t = u := by
  induction t with
  | lf => intro u; cases u <;> simp [Tr.eqB]
  | nd l r ihl ihr => intro u; cases u with
    | lf => simp [Tr.eqB]
    | nd p q => simp [Tr.eqB, ihl, ihr]
theorem eqB_self (t : Tr) : t.eqB t = true := (eqB_iff t t).2 rfl
theorem lt_irrefl (t : Tr) : t.lt t = false := by
  induction t with
  | lf => rfl
  | nd l r ihl ihr => simp [Tr.lt, ihl, ihr]

theorem bytesLess_text (t : Tr) : ∀ (u : Tr) (q q' : List UInt8), bytesLess (t.text ++ q) (u.text ++ q') = (t.lt u || (t.eqB u && bytesLess q q')) := by
  induction t with
  | lf =>
    intro u q q'
    cases u with
    | lf => simp [Tr.text, bytesLess, Tr.lt, Tr.eqB]
    | nd a b => simp [Tr.text, bytesLess, Tr.lt, Tr.eqB]
  | nd l r ihl ihr =>
    intro u q q'
    cases u with
    | lf => simp [Tr.text, bytesLess, Tr.lt, Tr.eqB]
    | nd a b =>
      have e1 : (Tr.nd l r).text ++ q = 40 :: (l.text ++ (r.text ++ (41 :: q))) := by simp [Tr.text]
      have e2 : (Tr.nd a b).text ++ q' = 40 :: (a.text ++ (b.text ++ (41 :: q'))) := by simp [Tr.text]
      rw [e1, e2, bytesLess, ihl, ihr, bytesLess]
      simp only [Tr.lt, Tr.eqB]
      cases l.lt a <;> cases l.eqB a <;> cases r.lt b <;> cases r.eqB b <;> simp

theorem bytesLess_str (t u : Tr) : bytesLess t.str.toList u.str.toList = t.lt u := by
  have := bytesLess_text t u [] []
  rw [Lib.toList_data, Lib.toList_data, Tr.str_list, Tr.str_list]
  simpa [bytesLess] using this

/-! Lists of trees: m trees with c carets together, in the order of their texts. -/

/-- The order of lists of as many trees. -/
def ltL : List Tr → List Tr → Bool
  | t :: ts, u :: us => t.lt u || (t.eqB u && ltL ts us)
  | _, _ => false

def mkNd : List Tr → List Tr
  | l :: r :: ts => .nd l r :: ts
  | ts => ts

/-- All lists of m trees with c carets together, in order (fuel: 2 c + m). -/
def enumF : Nat → Nat → Nat → List (List Tr)
  | 0, _, c => if c = 0 then [[]] else []
  | k + 1, m, c =>
    if m = 0 then (if c = 0 then [[]] else [])
    else (if c = 0 then [] else (enumF k (m + 1) (c - 1)).map mkNd) ++ (enumF k (m - 1) c).map (.lf :: ·)

theorem mem_enumF (k : Nat) : ∀ (m c : Nat) (ts : List Tr), 2 * c + m ≤ k → (ts ∈ enumF k m c ↔ ts.length = m ∧ (ts.map Tr.carets).sum = c) := by
  induction k with
  | zero =>
    intro m c ts h
    obtain ⟨rfl, rfl⟩ : m = 0 ∧ c = 0 := by omega
    simp [enumF]
    intro h; subst h; rfl
  | succ k ih =>
    intro m c ts h
    rw [enumF]
    by_cases hm : m = 0
    · subst hm
      rw [if_pos rfl]
      by_cases hc : c = 0
      · subst hc
        simp
        intro h; subst h; rfl
      · rw [if_neg hc]
        simp
        intro h; subst h; simp; omega
    · rw [if_neg hm, List.mem_append]
      constructor
      · rintro (h1 | h1)
        · by_cases hc : c = 0
          · simp [hc] at h1
          · rw [if_neg hc, List.mem_map] at h1
            obtain ⟨us, h2, rfl⟩ := h1
            rw [ih _ _ _ (by omega)] at h2
            match us, h2 with
            | [], h2 => simp at h2
            | [_], h2 => simp at h2; omega
            | l :: r :: us, h2 => simp [mkNd, Tr.carets] at h2 ⊢; omega
        · rw [List.mem_map] at h1
          obtain ⟨us, h2, rfl⟩ := h1
          rw [ih _ _ _ (by omega)] at h2
          simp [Tr.carets]; omega
      · rintro ⟨h1, h2⟩
        match ts, h1, h2 with
        | [], h1, h2 => simp at h1; omega
        | .lf :: ts, h1, h2 =>
          right
          rw [List.mem_map]
          refine ⟨ts, ?_, rfl⟩
          rw [ih _ _ _ (by omega)]
          simp [Tr.carets] at h1 h2; omega
        | .nd l r :: ts, h1, h2 =>
          left
          simp [Tr.carets] at h1 h2
          rw [if_neg (by omega), List.mem_map]
          refine ⟨l :: r :: ts, ?_, rfl⟩
          rw [ih _ _ _ (by omega)]
          simp; omega

theorem ltL_mkNd {ts us : List Tr} (h1 : 2 ≤ ts.length) (h2 : 2 ≤ us.length) : ltL (mkNd ts) (mkNd us) = ltL ts us := by
  match ts, us, h1, h2 with
  | l :: r :: ts, p :: q :: us, _, _ =>
    simp only [mkNd, ltL, Tr.lt, Tr.eqB]
    cases l.lt p <;> cases l.eqB p <;> cases r.lt q <;> cases r.eqB q <;> simp

theorem enumF_sorted (k : Nat) : ∀ (m c : Nat), 2 * c + m ≤ k → (enumF k m c).Pairwise (fun a b => ltL a b = true) := by
  induction k with
  | zero => intro m c h; rw [enumF]; split <;> simp
  | succ k ih =>
    intro m c h
    rw [enumF]
    split
    · split <;> simp
    · next hm =>
      rw [List.pairwise_append]
      refine ⟨?_, ?_, ?_⟩
      · split
        · simp
        · rw [List.pairwise_map]
          refine (ih (m + 1) (c - 1) (by omega)).imp_of_mem ?_
          intro a b ha hb hab
          rw [mem_enumF k _ _ _ (by omega)] at ha hb
          rw [ltL_mkNd (by omega) (by omega)]; exact hab
      · rw [List.pairwise_map]
        refine (ih (m - 1) c (by omega)).imp ?_
        intro a b hab
        simp [ltL, Tr.lt, Tr.eqB, hab]
      · intro a ha b hb
        split at ha
        · simp at ha
        · rw [List.mem_map] at ha hb
          obtain ⟨us, h1, rfl⟩ := ha
          obtain ⟨vs, h2, rfl⟩ := hb
          rw [mem_enumF k _ _ _ (by omega)] at h1
          match us, h1 with
          | [], h1 => simp at h1
          | [_], h1 => simp at h1; omega
          | l :: r :: us, _ => simp [mkNd, ltL, Tr.lt]

/-- All trees with n carets, in order. -/
def treesN (n : Nat) : List Tr := (enumF (2 * n + 1) 1 n).map fun ts => ts.headD .lf

theorem mem_treesN (n : Nat) (t : Tr) : t ∈ treesN n ↔ t.carets = n := by
  unfold treesN
  rw [List.mem_map]
  constructor
  · rintro ⟨ts, h, rfl⟩
    rw [mem_enumF _ _ _ _ (by omega)] at h
    match ts, h with
    | [t], h => simpa using h.2
  · intro h
    refine ⟨[t], ?_, rfl⟩
    rw [mem_enumF _ _ _ _ (by omega)]
    simpa using h

theorem treesN_sorted (n : Nat) : (treesN n).Pairwise (fun a b => a.lt b = true) := by
  unfold treesN
  rw [List.pairwise_map]
  refine (enumF_sorted (2 * n + 1) 1 n (by omega)).imp_of_mem ?_
  intro a b ha hb hab
  rw [mem_enumF _ _ _ _ (by omega)] at ha hb
  match a, b, ha, hb with
  | [a], [b], _, _ => simpa [ltL] using hab

theorem treesN_nodup (n : Nat) : (treesN n).Nodup := by
  refine (treesN_sorted n).imp ?_
  intro a b h e
  subst e
  rw [lt_irrefl] at h
  simp at h

/-! Counting. -/
theorem listsN_rec : ∀ c, c ≤ 8 → ∀ m, m ≤ 17 → 2 * c + m ≤ 18 → listsN (m + 1) c = (if c = 0 then 0 else listsN (m + 2) (c - 1)) + (if m = 0 then (if c = 0 then 1 else 0) else listsN m c) := by decide

theorem enumF_length (k : Nat) : ∀ (m c : Nat), 2 * c + m ≤ k → c ≤ 8 → 2 * c + m ≤ 18 → (enumF k m c).length = if m = 0 then (if c = 0 then 1 else 0) else listsN m c := by
  induction k with
  | zero =>
    intro m c h _ _
    obtain ⟨rfl, rfl⟩ : m = 0 ∧ c = 0 := by omega
    rfl
  | succ k ih =>
    intro m c h h8 h18
    rw [enumF]
    by_cases hm : m = 0
    · subst hm; simp only [if_true]; split <;> rfl
    · rw [if_neg hm, if_neg hm]
      obtain ⟨m', rfl⟩ : ∃ m', m = m' + 1 := ⟨m - 1, by omega⟩
      have hr := listsN_rec c h8 m' (by omega) (by omega)
      rw [hr, List.length_append, List.length_map]
      have h2 := ih m' c (by omega) h8 (by omega)
      have e : m' + 1 - 1 = m' := by omega
      rw [e, h2]
      congr 1
      split
      · rfl
      · next hc =>
        rw [List.length_map, ih (m' + 1 + 1) (c - 1) (by omega) (by omega) (by omega), if_neg (by omega)]

theorem treesN_length (n : Nat) (h : n ≤ 8) : (treesN n).length = listsN 1 n := by
  unfold treesN
  rw [List.length_map, enumF_length _ _ _ (by omega) h (by omega)]
  rfl

theorem enumF_fuel (k : Nat) : ∀ (j m c : Nat), 2 * c + m ≤ k → 2 * c + m ≤ j → enumF k m c = enumF j m c := by
  induction k with
  | zero =>
    intro j m c h1 h2
    obtain ⟨rfl, rfl⟩ : m = 0 ∧ c = 0 := by omega
    cases j <;> rfl
  | succ k ih =>
    intro j m c h1 h2
    cases j with
    | zero =>
      obtain ⟨rfl, rfl⟩ : m = 0 ∧ c = 0 := by omega
      rfl
    | succ j =>
      rw [enumF, enumF]
      split
      · rfl
      · rw [ih j (m - 1) c (by omega) (by omega)]
        split
        · rfl
        · rw [ih j (m + 1) (c - 1) (by omega) (by omega)]

/-- All lists of m trees with c carets together, in order. -/
def enum (m c : Nat) : List (List Tr) := enumF (2 * c + m) m c
theorem enum_rec {m c : Nat} (h : 1 ≤ m) : enum m c = (if c = 0 then [] else (enum (m + 1) (c - 1)).map mkNd) ++ (enum (m - 1) c).map (.lf :: ·) := by
  unfold enum
  obtain ⟨k, hk⟩ : ∃ k, 2 * c + m = k + 1 := ⟨2 * c + m - 1, by omega⟩
  rw [hk, enumF, if_neg (by omega), enumF_fuel k (2 * c + (m - 1)) (m - 1) c (by omega) (by omega)]
  split
  · rfl
  · rw [enumF_fuel k (2 * (c - 1) + (m + 1)) (m + 1) (c - 1) (by omega) (by omega)]
theorem mem_enum {m c : Nat} {ts : List Tr} : ts ∈ enum m c ↔ ts.length = m ∧ (ts.map Tr.carets).sum = c := mem_enumF _ _ _ _ (Nat.le_refl _)
theorem enum_length {m c : Nat} (h8 : c ≤ 8) (h : 2 * c + m ≤ 18) (hm : 1 ≤ m) : (enum m c).length = listsN m c := by
  unfold enum
  rw [enumF_length _ _ _ (Nat.le_refl _) h8 h, if_neg (by omega)]
theorem enum_zero : enum 0 0 = [[]] := rfl

/-! The walk by ranks: where a list of trees is. -/

/-- How many lists have a caret first. -/
def frontN (m c : Nat) : Nat := if c = 0 then 0 else listsN (m + 1) (c - 1)

theorem front_length {m c : Nat} (h8 : c ≤ 8) (h : 2 * c + m ≤ 18) : (if c = 0 then [] else (enum (m + 1) (c - 1)).map mkNd).length = frontN m c := by
  unfold frontN
  split
  · rfl
  · rw [List.length_map, enum_length (by omega) (by omega) (by omega)]

/-- The first tree of the list with rank r, and where the rest is: trees, carets, rank. -/
def nextF : Nat → Nat → Nat → Nat → Tr × Nat × Nat × Nat
  | 0, m, c, r => (.lf, m, c, r)
  | k + 1, m, c, r =>
    if frontN m c ≤ r then (.lf, m - 1, c, r - frontN m c)
    else (.nd (nextF k (m + 1) (c - 1) r).1 (nextF k (nextF k (m + 1) (c - 1) r).2.1 (nextF k (m + 1) (c - 1) r).2.2.1 (nextF k (m + 1) (c - 1) r).2.2.2).1,
      (nextF k (nextF k (m + 1) (c - 1) r).2.1 (nextF k (m + 1) (c - 1) r).2.2.1 (nextF k (m + 1) (c - 1) r).2.2.2).2)

theorem nextF_get (k : Nat) : ∀ (m c r : Nat) (us : List Tr), 2 * c + m ≤ k → 1 ≤ m → c ≤ 8 → 2 * c + m ≤ 18 → (enum m c)[r]? = some us →
    ∃ ts, us = (nextF k m c r).1 :: ts ∧ (nextF k m c r).2.1 + 1 = m ∧ (nextF k m c r).2.2.1 + (nextF k m c r).1.carets = c ∧ (enum (m - 1) (nextF k m c r).2.2.1)[(nextF k m c r).2.2.2]? = some ts := by
  induction k with
  | zero => intro m c r us h h1; omega
  | succ k ih =>
    intro m c r us hk hm h8 h18 hget
    have hl := front_length (m := m) h8 h18
    rw [enum_rec hm] at hget
    rw [nextF]
    by_cases hf : frontN m c ≤ r
    · rw [if_pos hf]
      rw [List.getElem?_append_right (by omega), hl, List.getElem?_map] at hget
      cases h0 : (enum (m - 1) c)[r - frontN m c]? with
      | none => rw [h0] at hget; simp at hget
      | some ts =>
        rw [h0] at hget
        simp at hget
        exact ⟨ts, hget.symm, by show m - 1 + 1 = m; omega, by simp [Tr.carets], rfl⟩
    · rw [if_neg hf]
      rw [List.getElem?_append_left (by omega)] at hget
      have hc : ¬ c = 0 := by intro h; rw [if_pos h] at hget; simp at hget
      rw [if_neg hc, List.getElem?_map] at hget
      cases h0 : (enum (m + 1) (c - 1))[r]? with
      | none => rw [h0] at hget; simp at hget
      | some vs =>
        rw [h0] at hget
        simp at hget
        obtain ⟨ts1, e1, s1, s2, s3⟩ := ih (m + 1) (c - 1) r vs (by omega) (by omega) (by omega) (by omega) h0
        have hm1 : (nextF k (m + 1) (c - 1) r).2.1 = m := by omega
        obtain ⟨ts2, e2, q1, q2, q3⟩ := ih m (nextF k (m + 1) (c - 1) r).2.2.1 (nextF k (m + 1) (c - 1) r).2.2.2 ts1 (by omega) hm (by omega) (by omega) s3
        rw [hm1]
        refine ⟨ts2, ?_, q1, ?_, q3⟩
        · rw [← hget, e1, e2]; rfl
        · simp only [Tr.carets]; omega

/-- The tree with n carets and the rank r. -/
def treeAt (n r : Nat) : Tr := (nextF (2 * n + 1) 1 n r).1
theorem treesN_get (n r : Nat) (hn : n ≤ 8) (hr : r < listsN 1 n) : (treesN n)[r]? = some (treeAt n r) := by
  have hlen := enum_length (m := 1) hn (by omega) (Nat.le_refl _)
  have hx : r < (enum 1 n).length := by omega
  obtain ⟨ts, e, _, _, _⟩ := nextF_get (2 * n + 1) 1 n r _ (by omega) (Nat.le_refl _) hn (by omega) (List.getElem?_eq_getElem hx)
  unfold treesN
  show ((enum 1 n).map _)[r]? = _
  rw [List.getElem?_map, List.getElem?_eq_getElem hx, e]
  rfl
theorem treesN_eq (n : Nat) (hn : n ≤ 8) : treesN n = (List.range (listsN 1 n)).map (treeAt n) := by
  apply List.ext_getElem?
  intro r
  by_cases hr : r < listsN 1 n
  · rw [treesN_get n r hn hr, List.getElem?_map, List.getElem?_range hr]
    rfl
  · rw [List.getElem?_eq_none (by rw [treesN_length n hn]; omega), List.getElem?_eq_none (by simp; omega)]

/-- Where a walk along a tree ends: trees, carets, rank. -/
def rkT : Tr → Nat × Nat × Nat → Nat × Nat × Nat
  | .lf, s => (s.1 - 1, s.2.1, s.2.2 + frontN s.1 s.2.1)
  | .nd l r, s => rkT r (rkT l (s.1 + 1, s.2.1 - 1, s.2.2))

theorem rkT_get (t : Tr) : ∀ (m c r i : Nat) (ts : List Tr), 1 ≤ m → c ≤ 8 → 2 * c + m ≤ 18 → t.carets ≤ c → (enum (m - 1) (c - t.carets))[i]? = some ts →
    ∃ d, rkT t (m, c, r) = (m - 1, c - t.carets, r + d) ∧ (enum m c)[d + i]? = some (t :: ts) := by
  induction t with
  | lf =>
    intro m c r i ts hm h8 h18 ht hget
    refine ⟨frontN m c, rfl, ?_⟩
    have hl := front_length (m := m) h8 h18
    rw [enum_rec hm, List.getElem?_append_right (by omega), hl, Nat.add_sub_cancel_left, List.getElem?_map]
    have : (enum (m - 1) c)[i]? = some ts := hget
    rw [this]; rfl
  | nd l r ihl ihr =>
    intro m c x i ts hm h8 h18 ht hget
    simp only [Tr.carets] at ht hget ⊢
    have e1 : c - 1 - l.carets - r.carets = c - (l.carets + r.carets + 1) := by omega
    have h2 := fun x => ihr m (c - 1 - l.carets) x i ts hm (by omega) (by omega) (by omega) (by rw [e1]; exact hget)
    obtain ⟨d0, _, g0⟩ := h2 0
    obtain ⟨d1, f1, g1⟩ := ihl (m + 1) (c - 1) x (d0 + i) (r :: ts) (by omega) (by omega) (by omega) (by omega) (by rw [Nat.add_sub_cancel]; exact g0)
    obtain ⟨d2, f2, g2⟩ := h2 (x + d1)
    have hd : d2 + i = d0 + i := by
      have hn : (enum m (c - 1 - l.carets)).Nodup := by
        refine (enumF_sorted _ m (c - 1 - l.carets) (Nat.le_refl _)).imp ?_
        intro a b h e
        subst e
        have : ∀ a : List Tr, ltL a a = false := by
          intro a; induction a with
          | nil => rfl
          | cons t ts ih => simp [ltL, lt_irrefl, ih]
        rw [this] at h; simp at h
      have hx := List.getElem?_eq_some_iff.1 g2
      have hy := List.getElem?_eq_some_iff.1 g0
      exact (List.getElem_inj hn).1 (hx.2.trans hy.2.symm)
    refine ⟨d1 + d2, ?_, ?_⟩
    · rw [rkT]
      show rkT r (rkT l (m + 1, c - 1, x)) = _
      rw [f1, Nat.add_sub_cancel, f2, e1, Nat.add_assoc x d1 d2]
    · have hl := front_length (m := m) h8 h18
      have hlt := (List.getElem?_eq_some_iff.1 g1).1
      rw [enum_length (by omega) (by omega) (by omega)] at hlt
      have hfr : frontN m c = listsN (m + 1) (c - 1) := by unfold frontN; rw [if_neg (by omega)]
      rw [enum_rec hm, List.getElem?_append_left (by rw [hl]; omega), if_neg (by omega), List.getElem?_map]
      have e2 : d1 + d2 + i = d1 + (d0 + i) := by omega
      rw [e2, g1]; rfl

/-- The rank of a tree. -/
def rankT (t : Tr) : Nat := (rkT t (1, t.carets, 0)).2.2
theorem rankT_get (t : Tr) (h : t.carets ≤ 8) : (treesN t.carets)[rankT t]? = some t := by
  obtain ⟨d, f, g⟩ := rkT_get t 1 t.carets 0 0 [] (Nat.le_refl _) h (by omega) (Nat.le_refl _) (by rw [Nat.sub_self, Nat.sub_self, enum_zero]; rfl)
  have : rankT t = d := by unfold rankT; rw [f]; simp
  rw [this]
  unfold treesN
  show ((enum 1 t.carets).map _)[d]? = _
  rw [List.getElem?_map]
  have g' : (enum 1 t.carets)[d]? = some [t] := g
  rw [g']; rfl

/-- In a sorted list as many are less than one as are in front of it. -/
theorem countP_sorted {l : List Tr} (h : l.Pairwise (fun a b => a.lt b = true)) {i : Nat} {t : Tr} (hi : l[i]? = some t) : l.countP (fun u => u.lt t) = i := by
  induction l generalizing i with
  | nil => simp at hi
  | cons a l ih =>
    rw [List.pairwise_cons] at h
    cases i with
    | zero =>
      simp at hi
      subst hi
      rw [List.countP_cons_of_neg (by rw [lt_irrefl]; simp)]
      rw [List.countP_eq_zero]
      intro b hb hba
      have := h.1 b hb
      have asym : ∀ x y : Tr, x.lt y = true → y.lt x = true → False := by
        intro x
        induction x with
        | lf => intro y h; simp [Tr.lt] at h
        | nd l r ihl ihr =>
          intro y h1 h2
          cases y with
          | lf => simp [Tr.lt] at h2
          | nd p q =>
            simp [Tr.lt, eqB_iff] at h1 h2
            rcases h1 with h1 | ⟨rfl, h1⟩
            · rcases h2 with h2 | ⟨rfl, h2⟩
              · exact ihl _ h1 h2
              · rw [lt_irrefl] at h1; simp at h1
            · rcases h2 with h2 | ⟨_, h2⟩
              · rw [lt_irrefl] at h2; simp at h2
              · exact ihr _ h1 h2
      exact asym _ _ this hba
    | succ i =>
      have hi' : l[i]? = some t := by simpa using hi
      have hm : t ∈ l := List.mem_of_getElem? hi'
      have := ih h.2 hi'
      rw [List.countP_cons_of_pos (by exact h.1 t hm), this]

theorem lt_total (t : Tr) : ∀ u : Tr, t.lt u = true ∨ t = u ∨ u.lt t = true := by
  induction t with
  | lf => intro u; cases u with
    | lf => exact .inr (.inl rfl)
    | nd p q => exact .inr (.inr rfl)
  | nd l r ihl ihr =>
    intro u
    cases u with
    | lf => exact .inl rfl
    | nd p q =>
      simp only [Tr.lt, Bool.or_eq_true, Bool.and_eq_true, eqB_iff]
      rcases ihl p with h | rfl | h
      · exact .inl (.inl h)
      · rcases ihr q with h | rfl | h
        · exact .inl (.inr ⟨rfl, h⟩)
        · exact .inr (.inl rfl)
        · exact .inr (.inr (.inr ⟨rfl, h⟩))
      · exact .inr (.inr (.inl h))

/-! The spec's list, before it is sorted. -/
/-- All trees with n + 1 carets, by the carets of the left side. -/
def rawT (n : Nat) : List Tr := (List.range (n + 1)).flatMap fun i => (treesN i).flatMap fun l => (treesN (n - i)).map fun r => .nd l r

theorem mem_rawT (n : Nat) (t : Tr) : t ∈ rawT n ↔ t.carets = n + 1 := by
  unfold rawT
  simp only [List.mem_flatMap, List.mem_range, List.mem_map, mem_treesN]
  constructor
  · rintro ⟨i, hi, l, rfl, r, hr, rfl⟩
    simp [Tr.carets]; omega
  · intro h
    cases t with
    | lf => simp [Tr.carets] at h
    | nd l r =>
      simp [Tr.carets] at h
      exact ⟨l.carets, by omega, l, rfl, r, by omega, rfl⟩

theorem nodup_flatMap {α β : Type} {l : List α} {f : α → List β} (h1 : ∀ x ∈ l, (f x).Nodup) (h2 : l.Pairwise (fun x y => ∀ b, b ∈ f x → b ∈ f y → False)) : (l.flatMap f).Nodup := by
  induction l with
  | nil => simp
  | cons a l ih =>
    rw [List.pairwise_cons] at h2
    rw [List.flatMap_cons, List.nodup_append]
    refine ⟨h1 a (by simp), ih (fun x hx => h1 x (by simp [hx])) h2.2, ?_⟩
    intro b hb c hc e
    subst e
    rw [List.mem_flatMap] at hc
    obtain ⟨y, hy, hby⟩ := hc
    exact h2.1 y hy b hb hby

theorem rawT_nodup (n : Nat) : (rawT n).Nodup := by
  unfold rawT
  refine nodup_flatMap ?_ ?_
  · intro i _
    refine nodup_flatMap ?_ ?_
    · intro l _
      rw [List.nodup_iff_pairwise_ne, List.pairwise_map]
      refine (treesN_nodup _).imp ?_
      intro a b hne e
      injection e with e1 e2
      exact hne e2
    · refine (treesN_nodup i).imp ?_
      intro l l' hne b h1 h2
      simp only [List.mem_map] at h1 h2
      obtain ⟨r, _, rfl⟩ := h1
      obtain ⟨r', _, e⟩ := h2
      injection e with e1 e2
      exact hne e1.symm
  · refine List.nodup_range.imp ?_
    intro i j hne b h1 h2
    simp only [List.mem_flatMap, List.mem_map, mem_treesN] at h1 h2
    obtain ⟨l, hl, r, _, rfl⟩ := h1
    obtain ⟨l', hl', r', _, e⟩ := h2
    injection e with e1 e2
    subst e1
    exact hne (hl.symm.trans hl')

/-- Whatever is sorted and holds the same trees is the list in order. -/
theorem sorted_eq {n : Nat} {l : List Tr} (hs : l.Pairwise (fun a b => a.lt b = true)) (hp : List.Perm l (rawT n)) : l = treesN (n + 1) := by
  have h1 : List.Perm l (treesN (n + 1)) := by
    refine hp.trans ((List.perm_ext_iff_of_nodup (rawT_nodup n) (treesN_nodup _)).2 ?_)
    intro t
    rw [mem_rawT, mem_treesN]
  refine List.Perm.eq_of_pairwise ?_ hs (treesN_sorted _) h1
  intro a b _ _ hab hba
  exfalso
  have := countP_sorted (l := [a, b]) (i := 1) (t := b) (by simpa using hab) rfl
  have h2 := countP_sorted (l := [b, a]) (i := 1) (t := a) (by simpa using hba) rfl
  have h3 := countP_sorted (l := [a, b]) (i := 0) (t := a) (by simpa using hab) rfl
  simp [lt_irrefl, hba] at h3
end Go.Proofs.Ytjmbkieocmhmiaa

/-! TrList -/
namespace Go.Proofs.Ytjmbkieocmhmiaa
open Go.RowKit

def trTexts (n : Nat) : List ByteArray := (treesN n).map Tr.str
theorem trTexts_pos (n : Nat) (h : n ≤ 8) : 0 < (trTexts n).length := by
  obtain ⟨t, ht⟩ : ∃ t : Tr, t.carets = n := ⟨treeAt n 0, by
    have hp : 0 < listsN 1 n := by
      have : ∀ n, n ≤ 8 → 0 < listsN 1 n := by decide
      exact this n h
    have := treesN_get n 0 h hp
    exact (mem_treesN n _).1 (List.mem_of_getElem? this)⟩
  have := (mem_treesN n t).2 ht
  unfold trTexts
  rw [List.length_map]
  exact List.length_pos_of_mem this

/-- The trees with a left tree l, as they are made. -/
def rowG (l : Tr) (rs : List Tr) : List Tr := rs.map fun r => .nd l r
def rowF (m i : Nat) : List Tr := (treesN i).flatMap fun l => rowG l (treesN (m - i))
theorem rawT_rows (m : Nat) : rawT m = (List.range' 0 (m + 1)).flatMap (rowF m) := by
  rw [← List.range_eq_range']; rfl
theorem rowF_at {m i : Nat} (k : Nat) {t : Tr} (h : (treesN i)[k]? = some t) : ((treesN i).drop k).flatMap (fun l => rowG l (treesN (m - i))) = rowG t (treesN (m - i)) ++ ((treesN i).drop (k + 1)).flatMap fun l => rowG l (treesN (m - i)) := by
  obtain ⟨hk, rfl⟩ := List.getElem?_eq_some_iff.1 h
  rw [List.drop_eq_getElem_cons hk, List.flatMap_cons]

theorem treesN_small (n : Nat) (h : n ≤ 8) : (treesN n).length ≤ 5000 := by
  rw [treesN_length _ h]
  have : ∀ n, n ≤ 8 → listsN 1 n ≤ 5000 := by decide
  exact this _ h
theorem rawT_small : ∀ m, m ≤ 7 → (rawT m).length ≤ 5000 := by
  intro m hm
  have hp : (rawT m).length = (treesN (m + 1)).length := by
    refine List.Perm.length_eq ((List.perm_ext_iff_of_nodup (rawT_nodup m) (treesN_nodup (m + 1))).2 fun t => ?_)
    rw [mem_rawT, mem_treesN]
  rw [hp]
  exact treesN_small _ (by omega)

theorem rawT_length (m : Nat) (hm : m ≤ 7) : (rawT m).length = (treesN (m + 1)).length := by
  refine List.Perm.length_eq ((List.perm_ext_iff_of_nodup (rawT_nodup m) (treesN_nodup (m + 1))).2 fun t => ?_)
  have := hm
  rw [mem_rawT, mem_treesN]
/-- The trees, the first k of them sorted. -/
def SortK (m k : Nat) (L : List Tr) : Prop := L.Perm (rawT m) ∧ (L.take k).Pairwise fun a b => a.lt b = true
theorem sort_done {m N : Nat} {L : List Tr} (hl : L.length = N) (h : SortK m N L) : L = treesN (m + 1) := by
  obtain ⟨h1, h2⟩ := h
  rw [List.take_of_length_le (by omega)] at h2
  exact sorted_eq h2 h1

theorem lt_trans' (a b c : Tr) (h1 : a.lt b = true) (h2 : b.lt c = true) : a.lt c = true := by
  induction a generalizing b c with
  | lf => cases b <;> simp [Tr.lt] at h1
  | nd l r ihl ihr =>
    cases b with
    | lf => cases c <;> simp [Tr.lt] at h2
    | nd l2 r2 =>
      cases c with
      | lf => simp [Tr.lt]
      | nd l3 r3 =>
        simp only [Tr.lt, Bool.or_eq_true, Bool.and_eq_true, eqB_iff] at h1 h2 ⊢
        rcases h1 with h1 | ⟨rfl, h1⟩
        · rcases h2 with h2 | ⟨rfl, h2⟩
          · exact .inl (ihl _ _ h1 h2)
          · exact .inl h1
        · rcases h2 with h2 | ⟨rfl, h2⟩
          · exact .inl h2
          · exact .inr ⟨rfl, ihr _ _ h1 h2⟩

theorem sort_round {m k : Nat} {A1 A2 C : List Tr} {t : Tr} (h : SortK m k (A1 ++ A2 ++ t :: C)) (hk : A1.length + A2.length = k) (h2 : ∀ y ∈ A2, t.lt y = true) (h1 : A1 = [] ∨ ∃ A y, A1 = A ++ [y] ∧ t.lt y = false) :
    SortK m (k + 1) (A1 ++ t :: (A2 ++ C)) := by
  obtain ⟨hp, hs⟩ := h
  have hnd : (A1 ++ A2 ++ t :: C).Nodup := hp.nodup_iff.2 (rawT_nodup m)
  have hp' : (A1 ++ t :: (A2 ++ C)).Perm (A1 ++ A2 ++ t :: C) := by
    rw [List.append_assoc]
    exact List.Perm.append_left A1 List.perm_middle.symm
  refine ⟨hp'.trans hp, ?_⟩
  rw [List.take_append_of_le_length (by simp; omega), List.take_of_length_le (by simp; omega)] at hs
  rw [show A1 ++ t :: (A2 ++ C) = (A1 ++ t :: A2) ++ C by simp, List.take_append_of_le_length (by simp; omega), List.take_of_length_le (by simp; omega)]
  rw [List.pairwise_append] at hs ⊢
  obtain ⟨s1, s2, s3⟩ := hs
  refine ⟨s1, List.pairwise_cons.2 ⟨h2, s2⟩, fun a ha b hb => ?_⟩
  have key : a.lt t = true := by
    rcases h1 with rfl | ⟨A, y, rfl, hy⟩
    · simp at ha
    · have hyt : y.lt t = true := by
        rcases lt_total y t with h | h | h
        · exact h
        · subst h
          exfalso
          rw [List.append_assoc, List.append_assoc, List.nodup_append] at hnd
          simp at hnd
        · rw [h] at hy; cases hy
      rcases List.mem_append.1 ha with ha | ha
      · exact lt_trans' _ _ _ ((List.pairwise_append.1 s1).2.2 a ha y (by simp)) hyt
      · rw [List.mem_singleton.1 ha]; exact hyt
  rcases List.mem_cons.1 hb with rfl | hb
  · exact key
  · exact s3 a ha b hb

theorem CellsS.at {base : Nat} {w : World} {g n cap i : Nat} {ss : List ByteArray} {t : ByteArray} (h : CellsS base w (.slice (some ⟨g, 0, none⟩) n cap) ss) (ht : ss[i]? = some t) : w.cell? ⟨g, i, none⟩ = some (.string t) := by
  obtain ⟨hi, rfl⟩ := List.getElem?_eq_some_iff.1 ht
  rcases h with ⟨h, _⟩ | ⟨g', cap', h, _, _, _, _, hc, _⟩
  · cases h
  · cases h
    rw [hc i hi, List.getD_eq_getElem?_getD, List.getElem?_eq_getElem hi]; rfl

theorem lt_asymm' (a b : Tr) (h : a.lt b = true) : b.lt a = false := by
  cases hh : b.lt a with
  | false => rfl
  | true =>
    have := lt_trans' _ _ _ h hh
    rw [lt_irrefl] at this
    cases this
theorem gt_text (t y : Tr) : (!(Go.Op.bytesLess y.str.toList t.str.toList || y.str.toList == t.str.toList)) = t.lt y := by
  rw [bytesLess_str]
  rcases lt_total y t with h | h | h
  · rw [h, lt_asymm' _ _ h]; rfl
  · subst h; simp [lt_irrefl]
  · have h3 : (y.str.toList == t.str.toList) = false := by
      rw [beq_eq_false_iff_ne]
      intro e
      have h4 := bytesLess_str t y
      rw [e, bytesLess_str, lt_irrefl, h] at h4
      cases h4
    rw [h, h3, lt_asymm' _ _ h]; rfl

/-- Two blocks are as they were, and v lies in neither. -/
def Far (w2 wr : World) (g1 g2 : Nat) (v : Value) : Prop := wr.heap[g1]? = w2.heap[g1]? ∧ wr.heap[g2]? = w2.heap[g2]? ∧ w2.heap.size ≤ wr.heap.size ∧ some g1 ≠ v.ownBlock ∧ some g2 ≠ v.ownBlock
theorem own_lt {base : Nat} {w : World} {v : Value} {ss : List ByteArray} (h : OwnS base w v ss) {b : Nat} (hb : some b = v.ownBlock) : b < w.heap.size := by
  rcases h.cells with ⟨rfl, _⟩ | ⟨g, cap, rfl, _, hg, _⟩
  · simp [Value.ownBlock] at hb
  · simp [Value.ownBlock] at hb; omega
theorem Far.start {base : Nat} {wr w2 : World} {g1 g2 : Nat} {v : Value} {ss : List ByteArray} (h : OwnS base wr v ss) (h1 : wr.heap.size ≤ g1) (h2 : wr.heap.size ≤ g2) : Far w2 w2 g1 g2 v :=
  ⟨rfl, rfl, Nat.le_refl _, fun e => by have := own_lt h e; omega, fun e => by have := own_lt h e; omega⟩
theorem Far.app {w2 wr w' : World} {g1 g2 : Nat} {v v' : Value} {x : Obj} (h : Far w2 wr g1 g2 v) (h1 : g1 < w2.heap.size) (h2 : g2 < w2.heap.size) (hg : (wr.alloc x).grownBy w' v.ownBlock) (ho : v'.ownBlock = v.ownBlock ∨ v'.ownBlock = some (wr.alloc x).heap.size) : Far w2 w' g1 g2 v' := by
  obtain ⟨p1, p2, p3, p4, p5⟩ := h
  have hs : (wr.alloc x).heap.size = wr.heap.size + 1 := by simp
  have hb := nxAlloc (Below.refl wr.heap.size wr) x
  refine ⟨(hg.block g1 (by omega) p4).trans ((hb.block g1 (by omega)).trans p1), (hg.block g2 (by omega) p5).trans ((hb.block g2 (by omega)).trans p2), ?_, ?_, ?_⟩
  · have := hg.size; omega
  · rcases ho with ho | ho <;> rw [ho]
    · exact p4
    · intro e; injection e with e; omega
  · rcases ho with ho | ho <;> rw [ho]
    · exact p5
    · intro e; injection e with e; omega

/-- What is asked of the sort that follows. -/
def GivesList (n : Nat) (w : World) (e : Ending) (w' : World) : Prop := GivesTexts (trTexts n) w e w'

set_option maxRecDepth 100000 in
set_option maxHeartbeats 4000000 in
theorem trList_any (n : Nat) : n ≤ 8 → ∀ w : World, Calls Try.prog 30 #[.int .i64 n] w (GivesTexts (trTexts n) w) := by
  obtain ⟨i0, hi, hz0, hz1, hz2⟩ := info_parts info_str
  induction n using Nat.strongRecOn with
  | _ n IH =>
    intro hn w
    cases n with
    | zero =>
      show Calls Try.prog 30 #[.int .i64 0] w (GivesTexts [Tr.lf.str] w)
      clear IH
      go_enter Try.func30, Try.ntmps30
      go_wp2_with fail
      go_ret
      exact ⟨_, _, OwnS.one w _, nxAlloc (Below.refl _ _) _, rfl⟩
    | succ m =>
      have hcast : (((m + 1 : Nat) : Int)) = (m : Int) + 1 := by omega
      have hmz : ((m : Int) + 1 == 0) = false := by rw [beq_eq_false_iff_ne]; omega
      have hm64 : (m : Int) ≤ 7 := by omega
      have hfull := rawT_small m (by omega)
      have hIH : ∀ i, i ≤ m → ∀ w, Calls Try.prog 30 #[.int .i64 i] w (GivesTexts (trTexts i) w) := fun i hi w => IH i (by omega) (by omega) w
      have HI := Lib.hid hIH
      rw [hcast]
      clear IH hIH hcast
      go_enter Try.func30, Try.ntmps30
      go_wp2_with fail
      go_loopw [3, 4] (fun v i wr => ∃ (k : Nat) (xs : List Tr), i = .int .i64 k ∧ k ≤ m + 1 ∧ OwnS w.heap.size wr v (xs.map Tr.str) ∧ Below w.heap.size w wr ∧ Hid (rawT m = xs ++ (List.range' k (m + 1 - k)).flatMap (rowF m))) (fun _ i _ => m + 1 - (intOf i).toNat)
      case atStart => exact ⟨0, [], rfl, Nat.zero_le _, OwnS.nil _ _, Below.refl _ _, by show _ = _; rw [rawT_rows]; rfl⟩
      case round =>
        obtain ⟨k, xs, rfl, hk, hown, hbw, he⟩ := hrel
        by_cases hlt : k < m + 1
        · have hlt' : (k : Int) < (m : Int) + 1 := by omega
          have e1 : IntKind.i64.wrap ((m : Int) + 1 - 1) = ((m : Nat) : Int) := by rw [IntKind.wrap_i64] <;> omega
          have e2 : IntKind.i64.wrap ((m : Int) - (k : Int)) = (((m - k : Nat)) : Int) := by rw [IntKind.wrap_i64] <;> omega
          have C1 := fun w => HI.out k (by omega) w
          have C2 := fun w => HI.out (m - k) (by omega) w
          go_wp2_with fail
          refine (C1 _).mono ?_; rintro e w1 ⟨g1, cap1, own1, hb1, rfl⟩
          have hbw1 := nx hbw hb1
          have hown1 := hown.keep hb1
          have hs1 := hb1.size
          have hfar : ∀ g1 g2 w2, wr.heap.size ≤ g1 → wr.heap.size ≤ g2 → Far w2 w2 g1 g2 u3 := fun g1 g2 w2 h1 h2 => Far.start hown h1 h2
          have HF := Lib.hid hfar
          clear hown hbw C1 hfar
          go_wp2_with fail
          refine (C2 _).mono ?_; rintro e w2 ⟨g2, cap2, own2, hb2, rfl⟩
          have hbw2 := nx hbw1 hb2
          have hown2 := hown1.keep hb2
          have own1' := own1.keep hb2
          clear hown1 hbw1 C2
          have hc1 := own1'.cells
          have hc2 := own2.cells
          clear own1 own2 own1' hb1 hb2 e1 e2
          rcases hc1 with ⟨h, _⟩ | ⟨g1', cap1', h, hgb1, hg1, hl1, hm1, hcell1, _⟩
          · cases h
          rcases hc2 with ⟨h', _⟩ | ⟨g2', cap2', h', hgb2, hg2, hl2, hm2, hcell2, _⟩
          · cases h'
          cases h
          cases h'
          have HC1 := Lib.hid hcell1
          have HC2 := Lib.hid hcell2
          clear hcell1 hcell2
          have hfar := HF.out g1 g2 w2 hgb1 (by omega)
          clear HF hs1
          have he' := he.out
          rw [show m + 1 - k = (m - k) + 1 by omega, List.range'_succ, List.flatMap_cons, rowF] at he'
          obtain ⟨rest, hrest⟩ : ∃ rest, rest = (List.range' (k + 1) (m - k)).flatMap (rowF m) := ⟨_, rfl⟩
          rw [← hrest] at he'
          have HE := Lib.hid he'
          have HR := Lib.hid hrest
          clear he he' hrest
          have hn1 : (trTexts k).length = (treesN k).length := by simp [trTexts]
          have hn2 : (trTexts (m - k)).length = (treesN (m - k)).length := by simp [trTexts]
          rw [hn1, hn2]
          have hL1 := treesN_small k (by omega)
          have hL2 := treesN_small (m - k) (by omega)
          have HN1 := Lib.hid hn1
          have HN2 := Lib.hid hn2
          clear hn1 hn2
          go_wp2_with fail
          go_loopw [3, 31] (fun v i wr2 => ∃ (a : Nat) (ys : List Tr), i = .int .i64 a ∧ a ≤ (treesN k).length ∧ OwnS w.heap.size wr2 v (ys.map Tr.str) ∧ Below w.heap.size w wr2 ∧ Far w2 wr2 g1 g2 v ∧ Hid (rawT m = ys ++ (((treesN k).drop a).flatMap (fun l => rowG l (treesN (m - k))) ++ rest))) (fun _ i _ => (treesN k).length - (intOf i).toNat)
          case atStart => exact ⟨0, xs, rfl, Nat.zero_le _, hown2, hbw2, hfar, HE⟩
          case round =>
            obtain ⟨a, ys, rfl, ha, hown3, hbw3, hbx3, he3⟩ := hrel
            by_cases hlta : a < (treesN k).length
            · have hlta' : (a : Int) < ((treesN k).length : Int) := by omega
              obtain ⟨t, ht⟩ : ∃ t, (treesN k)[a]? = some t := ⟨_, List.getElem?_eq_getElem hlta⟩
              have c1 := (World.cell?_of_block (a := ⟨g1, a, none⟩) hbx3.1).trans (HC1.out a (by rw [HN1.out]; exact hlta))
              rw [show (trTexts k).getD a ⟨#[]⟩ = t.str by simp [trTexts, List.getD_eq_getElem?_getD, ht]] at c1
              have htc : t.carets = k := (mem_treesN k t).1 (List.mem_of_getElem? ht)
              have he3' := he3.out
              rw [rowF_at a ht] at he3'
              obtain ⟨rest2, hrest2⟩ : ∃ rest2, rest2 = ((treesN k).drop (a + 1)).flatMap (fun l => rowG l (treesN (m - k))) ++ rest := ⟨_, rfl⟩
              rw [List.append_assoc, ← hrest2] at he3'
              have HE3 := Lib.hid he3'
              have HR2 := Lib.hid hrest2
              clear he3 he3' hrest2 ht
              go_wp2_with fail
              go_loopw [3, 37] (fun v i wr3 => ∃ (b : Nat) (zs : List Tr), i = .int .i64 b ∧ b ≤ (treesN (m - k)).length ∧ OwnS w.heap.size wr3 v (zs.map Tr.str) ∧ Below w.heap.size w wr3 ∧ Far w2 wr3 g1 g2 v ∧ Hid (rawT m = zs ++ (rowG t ((treesN (m - k)).drop b) ++ rest2))) (fun _ i _ => (treesN (m - k)).length - (intOf i).toNat)
              case atStart => exact ⟨0, ys, rfl, Nat.zero_le _, hown3, hbw3, hbx3, HE3⟩
              case round =>
                clear hown3 hbw3 hbx3 HE3 c1
                obtain ⟨b, zs, rfl, hb, hown4, hbw4, hbx4, he4⟩ := hrel
                have he4' := he4.out
                by_cases hltb : b < (treesN (m - k)).length
                · have hltb' : (b : Int) < ((treesN (m - k)).length : Int) := by omega
                  obtain ⟨r, hr⟩ : ∃ r, (treesN (m - k))[b]? = some r := ⟨_, List.getElem?_eq_getElem hltb⟩
                  have c2 := (World.cell?_of_block (a := ⟨g2, b, none⟩) hbx4.2.1).trans (HC2.out b (by rw [HN2.out]; exact hltb))
                  rw [show (trTexts (m - k)).getD b ⟨#[]⟩ = r.str by simp [trTexts, List.getD_eq_getElem?_getD, hr]] at c2
                  have hrc : r.carets = m - k := (mem_treesN _ r).1 (List.mem_of_getElem? hr)
                  have hsplit : rowG t ((treesN (m - k)).drop b) = .nd t r :: rowG t ((treesN (m - k)).drop (b + 1)) := by
                    obtain ⟨hk', rfl⟩ := List.getElem?_eq_some_iff.1 hr
                    rw [List.drop_eq_getElem_cons hk']; rfl
                  rw [hsplit] at he4'
                  have hzl : zs.length ≤ 5000 := by
                    have := congrArg List.length he4'
                    rw [List.length_append] at this
                    omega
                  have he5 : rawT m = (zs ++ [Tr.nd t r]) ++ (rowG t ((treesN (m - k)).drop (b + 1)) ++ rest2) := by rw [he4']; simp
                  have HE5 := Lib.hid he5
                  have hO := fun w => trOf_any t r w (by omega)
                  obtain ⟨qs, hqs⟩ : ∃ qs, qs = zs.map Tr.str := ⟨_, rfl⟩
                  have hql : qs.length ≤ 5000 := by rw [hqs, List.length_map]; exact hzl
                  rw [← hqs] at hown4
                  have HQ := Lib.hid hqs
                  clear hqs
                  clear he4 he4' he5 hsplit hr
                  go_wp2_with fail
                  refine (hO _).mono ?_; rintro e w3 ⟨rfl, rfl⟩
                  go_wp2_with (at_builtin; refine wpList_append_own_at _ rfl _ _ 51 rfl w.heap.size 9 i0 (.string ⟨#[]⟩) 1 16 Try.underlying51 hi hz0 hz1 hz2 rfl (by decide) _ _ _ rfl (hown4.alloc _) ⟨wr.heap.size, 0, none⟩ 1 1 [.string (Tr.nd t r).str] rfl rfl (new1 _ _ _) (oneS1 _) (by unfold maxLen; omega) (by omega) (size_al hbw4 _) ?_; intro v' w1 hown' hgrow hnn hob)
                  have hbw' := below_app hbw4 hown4 (Nat.le_refl _) hgrow
                  have hbx' := hbx4.app hg1 hg2 hgrow hob
                  have hown1 := OwnS.snoc hown'
                  have hq' : qs ++ [(Tr.nd t r).str] = (zs ++ [Tr.nd t r]).map Tr.str := by rw [HQ.out]; simp
                  rw [hq'] at hown1
                  clear hown' hown4 hgrow hob hnn hbw4 hbx4 HQ hq' hql
                  go_wp2_with fail
                  go_roundw
                  case rel => exact ⟨b + 1, zs ++ [Tr.nd t r], by go_num, by omega, hown1, hbw', hbx', HE5⟩
                  case measure => simp [intOf]; omega
                · obtain rfl : b = (treesN (m - k)).length := by omega
                  rw [List.drop_length] at he4'
                  have he5 : rawT m = zs ++ rest2 := he4'
                  rw [HR2.out] at he5
                  have HE5 := Lib.hid he5
                  clear he4 he4' he5
                  go_wp2_with fail
                  go_roundw
                  case rel => exact ⟨a + 1, zs, by go_num, by omega, hown4, hbw4, hbx4, HE5⟩
                  case measure => simp [intOf]; omega
            · obtain rfl : a = (treesN k).length := by omega
              have he3' := he3.out
              rw [List.drop_length] at he3'
              have he5 : rawT m = ys ++ rest := he3'
              rw [HR.out] at he5
              have HE5 := Lib.hid he5
              clear he3 he3' he5
              go_wp2_with fail
              go_roundw
              case rel => exact ⟨k + 1, ys, by go_num, by omega, hown3, hbw3, by rw [show m + 1 - (k + 1) = m - k by omega]; exact HE5⟩
              case measure => simp [intOf]; omega
        · obtain rfl : k = m + 1 := by omega
          have he' := he.out
          rw [Nat.sub_self] at he'
          have hx : rawT m = xs := by rw [he']; simp
          have hN : 0 < xs.length := by
            rw [← hx, rawT_length m (by omega)]
            have := trTexts_pos (m + 1) hn
            simpa [trTexts] using this
          have hN5 : xs.length ≤ 5000 := by rw [← hx]; exact hfull
          obtain ⟨g, cap, rfl⟩ := hown.shape (by simpa using hN)
          have hgb : w.heap.size ≤ g := by
            rcases hown.cells with ⟨h, _⟩ | ⟨g', cap', h, hb, _⟩
            · cases h
            · cases h; exact hb
          have hS : SortK m 1 xs := ⟨by rw [hx], by cases xs with
            | nil => simp at hN
            | cons a l => simp⟩
          rw [List.length_map] at hown ⊢
          obtain ⟨N, hNe⟩ : ∃ N, N = xs.length := ⟨_, rfl⟩
          rw [← hNe] at hown hN hN5 ⊢
          have HS : Hid (xs.length = N ∧ SortK m 1 xs) := ⟨hNe.symm, hS⟩
          clear he he' hx hS hNe hk hlt hfull
          go_wp2_with fail
          go_loopw [11] (fun i wr => ∃ (k : Nat) (L : List Tr), i = .int .i64 k ∧ 1 ≤ k ∧ k ≤ N ∧ OwnS w.heap.size wr (.slice (some ⟨g, 0, none⟩) N cap) (L.map Tr.str) ∧ Below w.heap.size w wr ∧ Hid (L.length = N ∧ SortK m k L)) (fun i _ => N - (intOf i).toNat)
          case atStart => exact ⟨1, xs, rfl, Nat.le_refl _, hN, hown, hbw, HS⟩
          case round =>
            clear hown hbw HS
            obtain ⟨k, L, rfl, hk1, hkN, hown, hbw, hs⟩ := hrel
            have hlen : (L.map Tr.str).length = N := by rw [List.length_map]; exact hs.out.1
            by_cases hlt : k < N
            · have hlt' : (k : Int) < (N : Int) := by omega
              obtain ⟨hL, hK⟩ := hs.out
              obtain ⟨t, ht⟩ : ∃ t, L[k]? = some t := ⟨_, List.getElem?_eq_getElem (by omega)⟩
              have hsplit : L = L.take k ++ t :: L.drop (k + 1) := by
                obtain ⟨hk', rfl⟩ := List.getElem?_eq_some_iff.1 ht
                rw [List.getElem_cons_drop, List.take_append_drop]
              obtain ⟨A, hA⟩ : ∃ A, A = L.take k := ⟨_, rfl⟩
              obtain ⟨C, hC⟩ : ∃ C, C = L.drop (k + 1) := ⟨_, rfl⟩
              have hAl : A.length = k := by rw [hA, List.length_take]; omega
              rw [← hA, ← hC] at hsplit
              clear hA hC
              subst hsplit
              have hcell := CellsS.at hown.cells (i := k) (t := t.str) (by rw [List.getElem?_map, ht]; rfl)
              have HK := Lib.hid hK
              have HL := Lib.hid hL
              clear ht hs hlen hK hL
              go_wp2_with fail
              go_loopw [13] (fun j wr => ∃ (q : Nat) (A1 A2 : List Tr) (x : Tr), j = .int .i64 q ∧ A1.length = q ∧ OwnS w.heap.size wr (.slice (some ⟨g, 0, none⟩) N cap) ((A1 ++ x :: (A2 ++ C)).map Tr.str) ∧ Below w.heap.size w wr ∧ Hid (A = A1 ++ A2 ∧ ∀ y ∈ A2, t.lt y = true)) (fun j _ => (intOf j).toNat)
              case atStart => exact ⟨k, A, [], t, rfl, hAl, hown, hbw, by show _ ∧ _; simp⟩
              case round =>
                clear hown hbw hcell
                obtain ⟨q, A1, A2, x, rfl, hq, hown, hbw, hs⟩ := hrel
                have hqk : q ≤ k := by
                  have := congrArg List.length hs.out.1
                  simp at this; omega
                have hnl : ((A1 ++ x :: (A2 ++ C)).map Tr.str).length = N := by
                  have h1 := HL.out
                  rw [hs.out.1] at h1
                  simp at h1 ⊢; omega
                have hcx := CellsS.at hown.cells (i := q) (t := x.str) (by subst hq; simp)
                have hfz : wr.frozen? ⟨g, q, none⟩ = false := by
                  rcases hown.cells with ⟨h, _⟩ | ⟨g', cap', h, _, _, _, _, _, hf⟩
                  · cases h
                  · cases h; exact hf q
                have hqN : q ≤ 5000 := by omega
                rcases List.eq_nil_or_concat A1 with hnil | ⟨B, y, hB⟩
                · have hq0 : q = 0 := by rw [← hq, hnil]; rfl
                  have hS' := sort_round (A1 := A1) (A2 := A2) (C := C) (t := t) (m := m) (k := k) (by rw [← hs.out.1]; exact HK.out) (by have := congrArg List.length hs.out.1; simp at this; omega) hs.out.2 (.inl hnil)
                  have hl2 : (A1 ++ t :: (A2 ++ C)).length = N := by have h1 := HL.out; rw [hs.out.1] at h1; simp at h1 ⊢; omega
                  have hown1 := OwnS.set hnl hown q t.str
                  have hset : ((A1 ++ x :: (A2 ++ C)).map Tr.str).set q t.str = (A1 ++ t :: (A2 ++ C)).map Tr.str := by subst hq; simp
                  rw [hset] at hown1
                  have hbw1 : Below w.heap.size w (wr.setCell ⟨g, q, none⟩ (.string t.str)) := Below.setCell hbw hgb _
                  have HS1 : Hid ((A1 ++ t :: (A2 ++ C)).length = N ∧ SortK m (k + 1) (A1 ++ t :: (A2 ++ C))) := ⟨hl2, hS'⟩
                  clear hS' hl2 hset hnl hs
                  subst hq0
                  clear hown hbw hnil
                  go_wp2_with fail
                  go_roundw
                  case rel => exact ⟨k + 1, _, by go_num, by omega, by omega, hown1, hbw1, HS1⟩
                  case measure => simp [intOf]; omega
                · rw [List.concat_eq_append] at hB
                  have hqB : q = B.length + 1 := by rw [← hq, hB]; simp
                  have hcy := CellsS.at hown.cells (i := B.length) (t := y.str) (by rw [hB]; simp)
                  have e1 : IntKind.i64.wrap ((q : Int) - 1) = ((B.length : Nat) : Int) := by rw [IntKind.wrap_i64] <;> omega
                  have e0 : (0 : Int) < (q : Int) := by omega
                  have e2 : ((B.length : Nat) : Int) < (N : Int) := by omega
                  have e3 : (q : Int) < (N : Int) := by omega
                  have HqB := Lib.hid hqB
                  have hcmp := gt_text t y
                  have hgt : (binOp BinOp.gtr 9 (.string y.str) (.string t.str)).run Try.prog wr = .ok (.bool (!(Go.Op.bytesLess y.str.toList t.str.toList || y.str.toList == t.str.toList))) wr := rfl
                  cases hty : t.lt y with
                  | true =>
                    rw [hcmp, hty] at hgt
                    clear hcmp
                    have hown1 := OwnS.set hnl hown q y.str
                    have hset : ((A1 ++ x :: (A2 ++ C)).map Tr.str).set q y.str = (B ++ y :: ((y :: A2) ++ C)).map Tr.str := by subst hq; rw [hB]; simp
                    rw [hset] at hown1
                    have hbw1 : Below w.heap.size w (wr.setCell ⟨g, q, none⟩ (.string y.str)) := Below.setCell hbw hgb _
                    have HS1 : Hid (A = B ++ (y :: A2) ∧ ∀ z ∈ y :: A2, t.lt z = true) := ⟨by rw [hs.out.1, hB]; simp, by
                      intro z hz
                      rcases List.mem_cons.1 hz with rfl | hz
                      · exact hty
                      · exact hs.out.2 z hz⟩
                    clear hown hbw hs hset hnl hB hqB hq hty
                    go_wp2_with fail
                    go_roundw
                    case rel =>
                      (repeat apply Exists.intro)
                      refine ⟨?_, rfl⟩
                      exact ⟨B.length, B, y :: A2, y, by first | rfl | (have := HqB.out; go_num), rfl, hown1, hbw1, HS1⟩
                    case measure => have := HqB.out; simp [intOf]; omega
                  | false =>
                    rw [hcmp, hty] at hgt
                    clear hcmp
                    have hS' := sort_round (A1 := A1) (A2 := A2) (C := C) (t := t) (m := m) (k := k) (by rw [← hs.out.1]; exact HK.out) (by have := congrArg List.length hs.out.1; simp at this; omega) hs.out.2 (.inr ⟨B, y, hB, hty⟩)
                    have hl2 : (A1 ++ t :: (A2 ++ C)).length = N := by have h1 := HL.out; rw [hs.out.1] at h1; simp at h1 ⊢; omega
                    have hown1 := OwnS.set hnl hown q t.str
                    have hset : ((A1 ++ x :: (A2 ++ C)).map Tr.str).set q t.str = (A1 ++ t :: (A2 ++ C)).map Tr.str := by subst hq; simp
                    rw [hset] at hown1
                    have hbw1 : Below w.heap.size w (wr.setCell ⟨g, q, none⟩ (.string t.str)) := Below.setCell hbw hgb _
                    have HS1 : Hid ((A1 ++ t :: (A2 ++ C)).length = N ∧ SortK m (k + 1) (A1 ++ t :: (A2 ++ C))) := ⟨hl2, hS'⟩
                    clear hS' hl2 hset hnl hs
                    clear hown hbw hB hqB hq hty
                    go_wp2_with fail
                    go_roundw
                    case rel =>
                      (repeat apply Exists.intro)
                      refine ⟨?_, rfl⟩
                      exact ⟨k + 1, _, by go_num, by omega, by omega, hown1, hbw1, HS1⟩
                    case measure => simp [intOf]; omega
            · obtain rfl : k = N := by omega
              have hfin := sort_done hs.out.1 hs.out.2
              go_wp2_with fail
              go_ret
              exact ⟨g, cap, by rw [trTexts, ← hfin, hlen]; exact hown, hbw, by rw [trTexts, ← hfin, hlen]; rfl⟩
end Go.Proofs.Ytjmbkieocmhmiaa

/-! Next1 -/
namespace Go.Proofs.Ytjmbkieocmhmiaa
open Go.RowKit

theorem grown_set (w : World) (b i : Nat) (v : Value) : w.grownBy (w.setCell ⟨b, i, none⟩ v) (some b) :=
  ⟨rfl, rfl, rfl, by simp, fun k _ hk => heap_setCell_other w ⟨b, i, none⟩ k v (fun e => hk (by rw [e]))⟩
theorem grownR (w : World) (r : Option Nat) : w.grownBy w r := ⟨rfl, rfl, rfl, Nat.le_refl _, fun _ _ _ => rfl⟩
theorem grownT {a b c : World} {r : Option Nat} (h : a.grownBy b r) (k : b.grownBy c r) : a.grownBy c r :=
  ⟨k.os.trans h.os, k.tape.trans h.tape, k.output.trans h.output, Nat.le_trans h.size k.size, fun i hi hn => (k.block i (Nat.lt_of_lt_of_le hi h.size) hn).trans (h.block i hi hn)⟩
theorem grownB {a b c : World} {r : Option Nat} (h : a.grownBy b r) (k : Below b.heap.size b c) : a.grownBy c r :=
  ⟨k.os.trans h.os, k.tape.trans h.tape, k.output.trans h.output, Nat.le_trans h.size k.size, fun i hi hn => (k.block i (Nat.lt_of_lt_of_le hi h.size)).trans (h.block i hi hn)⟩

theorem grownD {w w' : World} {n : Nat} {r : Option Nat} (h : (w.drewN n).grownBy w' r) : w.grownBy w' r := ⟨h.os, h.tape, h.output, h.size, h.block⟩

/-- Nodes in blocks from n0 on. -/
def NodeUp (n0 : Nat) (w : World) : Tr → Nat → Prop
  | .lf, b => n0 ≤ b ∧ w.heap[b]? = some (.cells #[.pointer none, .pointer none] 82 (0, 0))
  | .nd l r, b => n0 ≤ b ∧ ∃ bl br, w.heap[b]? = some (.cells #[.pointer (some ⟨bl, 0, none⟩), .pointer (some ⟨br, 0, none⟩)] 82 (0, 0)) ∧ NodeUp n0 w l bl ∧ NodeUp n0 w r br
theorem NodeUp.at {n0 : Nat} {w : World} : ∀ {t : Tr} {b : Nat}, NodeUp n0 w t b → NodeAt w t b := by
  intro t
  induction t with
  | lf => intro b h; exact h.2
  | nd l r ihl ihr => intro b h; obtain ⟨_, bl, br, h, h1, h2⟩ := h; exact ⟨bl, br, h, ihl h1, ihr h2⟩
theorem NodeUp.kept {n0 b0 : Nat} {w w' : World} (hg : w.grownBy w' (some b0)) (hb : b0 < n0) : ∀ {t : Tr} {b : Nat}, NodeUp n0 w t b → NodeUp n0 w' t b := by
  intro t
  induction t with
  | lf => intro b h; exact ⟨h.1, (hg.block b (lt_of_block h.2) (fun e => by injection e with e; have := h.1; omega)).trans h.2⟩
  | nd l r ihl ihr =>
    intro b h
    obtain ⟨hn, bl, br, h, h1, h2⟩ := h
    exact ⟨hn, bl, br, (hg.block b (lt_of_block h) (fun e => by injection e with e; omega)).trans h, ihl h1, ihr h2⟩
theorem NodeUp.mono {n0 n1 : Nat} (hn : n1 ≤ n0) {w : World} : ∀ {t : Tr} {b : Nat}, NodeUp n0 w t b → NodeUp n1 w t b := by
  intro t
  induction t with
  | lf => intro b h; exact ⟨by have := h.1; omega, h.2⟩
  | nd l r ihl ihr => intro b h; obtain ⟨hk, bl, br, h, h1, h2⟩ := h; exact ⟨by omega, bl, br, h, ihl h1, ihr h2⟩
theorem NodeUp.keepB {n0 : Nat} {w w' : World} (hb : Below w.heap.size w w') : ∀ {t : Tr} {b : Nat}, NodeUp n0 w t b → NodeUp n0 w' t b := by
  intro t
  induction t with
  | lf => intro b h; exact ⟨h.1, (hb.block b (lt_of_block h.2)).trans h.2⟩
  | nd l r ihl ihr =>
    intro b h
    obtain ⟨hn, bl, br, h, h1, h2⟩ := h
    exact ⟨hn, bl, br, (hb.block b (lt_of_block h)).trans h, ihl h1, ihr h2⟩

theorem lists_small0 : ∀ c, c ≤ 8 → ∀ m, m ≤ 18 → 2 * c + m ≤ 18 → listsN m c ≤ 8000 := by decide
theorem lists_small (m c : Nat) (h : c ≤ 8) (k : 2 * c + m ≤ 18) : listsN m c ≤ 8000 := lists_small0 c h m (by omega) k
end Go.Proofs.Ytjmbkieocmhmiaa

/-! WTreeAt -/
namespace Go.Proofs.Ytjmbkieocmhmiaa
open Go.RowKit

def TreeAt_o (n r : Int) : Option Tr := if 0 ≤ n ∧ n ≤ 8 then if 0 ≤ r ∧ r < (catN n.toNat : Nat) then some (treeAt n.toNat r.toNat) else none else none
theorem treeAt_carets {n r : Nat} (hn : n ≤ 8) (hr : r < listsN 1 n) : (treeAt n r).carets = n := (mem_treesN n _).1 (List.mem_of_getElem? (treesN_get n r hn hr))
end Go.Proofs.Ytjmbkieocmhmiaa

/-! WAllTrees -/
namespace Go.Proofs.Ytjmbkieocmhmiaa
open Go.RowKit

theorem ownsRow_far {w w2 : World} {base : Nat} {e : TypeId} {size : Nat} {v : Value} {n : Nat} {xs : List Value} {o : Obj} (h : w.ownsRow base e size v n xs) (hg : (w.alloc o).grownBy w2 (some w.heap.size)) : w2.ownsRow base e size v n xs := by
  obtain ⟨h1, h2⟩ := h
  refine ⟨h1, ?_⟩
  rcases h2 with h2 | ⟨g, cap, cur, hv, hb, hh, r⟩
  · exact .inl h2
  · have hl := lt_of_block hh
    refine .inr ⟨g, cap, cur, hv, hb, ?_, r⟩
    rw [hg.block g (by simp; omega) (fun e => by injection e with e; omega), (World.grownBy_alloc w o none).block g hl (fun e => by cases e)]
    exact hh
def AllTrees_o (n : Int) : Option (List ByteArray) := if 0 ≤ n ∧ n ≤ 5 then some (trTexts n.toNat) else none
theorem AllTrees_len (n : Int) : ((AllTrees_o n).getD []).length ≤ 1000000000 := by
  unfold AllTrees_o
  split
  · next h =>
    have := treesN_small n.toNat (by omega)
    simp [trTexts]; omega
  · simp
/-- The first trees of a list, by their ranks. -/
def firstT (k q : Nat) : List ByteArray := (List.range q).map fun r => (treeAt k r).str
theorem firstT_succ (k q : Nat) : firstT k (q + 1) = firstT k q ++ [(treeAt k q).str] := by simp [firstT, List.range_succ]
theorem firstT_all (k : Nat) (h : k ≤ 8) : firstT k (listsN 1 k) = trTexts k := by
  unfold firstT trTexts
  rw [treesN_eq k h, List.map_map]; rfl

end Go.Proofs.Ytjmbkieocmhmiaa

/-! WCountReduced -/
namespace Go.Proofs.Ytjmbkieocmhmiaa
open Go.RowKit

/-- How many reduced pairs there are. -/
def crV : Nat → Int
  | 0 => 1
  | 1 => 0
  | 2 => 2
  | 3 => 14
  | 4 => 108
  | _ => 0
/-- The program's count on its way. -/
def crP (n : Nat) : Nat → Int
  | 0 => (listsN 1 n : Int) * listsN 1 n
  | k + 1 => crP n k - crV k * listsN (k + 1) (n - k)
theorem crP_end : ∀ n, n ≤ 4 → crP n n = crV n := by decide +kernel
theorem crP_bd : ∀ n, n ≤ 4 → ∀ k, k ≤ n → -1000 ≤ crP n k ∧ crP n k ≤ 1000 := by decide +kernel
theorem crV_bd : ∀ n, n ≤ 4 → 0 ≤ crV n ∧ crV n ≤ 200 := by decide +kernel
theorem lists_bd4 : ∀ n, n ≤ 4 → listsN 1 n ≤ 14 := by decide +kernel
theorem lists_bdk : ∀ n, n ≤ 4 → ∀ k, k ≤ n → listsN (k + 1) (n - k) ≤ 50 := by decide +kernel
theorem mulN_bd {a : Int} {b : Nat} (h1 : 0 ≤ a) (h2 : a ≤ 200) (h3 : b ≤ 50) : 0 ≤ a * (b : Int) ∧ a * (b : Int) ≤ 10000 := by
  obtain ⟨n, rfl⟩ : ∃ n : Nat, a = n := ⟨a.toNat, by omega⟩
  rw [← Int.natCast_mul]
  have := Nat.mul_le_mul (show n ≤ 200 by omega) h3
  omega

set_option maxRecDepth 100000 in
set_option maxHeartbeats 2000000 in
theorem countReduced_any (n : Nat) : n ≤ 4 → ∀ w : World, Calls Try.prog 29 #[.int .i64 n] w fun e w' => e = .returned (.int .i64 (crV n)) ∧ w = w' := by
  induction n using Nat.strongRecOn with
  | _ n IH =>
    intro hn w
    have hC := fun w => countLists_any 1 n w (by omega) (by omega) (by omega)
    have hLb := lists_bd4 n hn
    have h0 : crP n 0 = (listsN 1 n : Int) * listsN 1 n := rfl
    have hend := crP_end n hn
    have hmb := mulN_bd (a := (listsN 1 n : Int)) (b := listsN 1 n) (by omega) (by omega) (by omega)
    have hIH : ∀ k, k < n → ∀ w, Calls Try.prog 29 #[.int .i64 k] w fun e w' => e = .returned (.int .i64 (crV k)) ∧ w = w' := fun k hk => IH k hk (by omega)
    have HI := Lib.hid hIH
    have H0 := Lib.hid h0
    have HE := Lib.hid hend
    generalize listsN 1 n = A at *
    clear IH hIH h0 hend
    go_enter Try.func29, Try.ntmps29
    go_wp2_with fail
    refine (hC _).mono ?_; rintro e w1 ⟨rfl, rfl⟩
    clear hC
    go_wp2_with fail
    go_loop [4, 12] (fun v i => ∃ k : Nat, i = .int .i64 k ∧ k ≤ n ∧ v = .int .i64 (crP n k)) (fun _ i => n - (intOf i).toNat)
    case atStart => exact ⟨0, rfl, Nat.zero_le _, by rw [H0.out]⟩
    case round =>
      obtain ⟨k, rfl, hk, rfl⟩ := hrel
      by_cases hlt : k < n
      · have hlt' : (k : Int) < (n : Int) := by omega
        have hP := crP_bd n hn k hk
        have hV := crV_bd k (by omega)
        have hB := lists_bdk n hn k hk
        have hM := mulN_bd hV.1 hV.2 hB
        have hS : crP n (k + 1) = crP n k - crV k * listsN (k + 1) (n - k) := rfl
        have hR := HI.out k hlt
        have hL := fun w => countLists_any (k + 1) (n - k) w (by omega) (by omega) (by omega)
        have e2 : ((n - k : Nat) : Int) = (n : Int) - (k : Int) := by omega
        simp only [e2] at hL
        have hL' : ∀ w, Calls Try.prog 32 #[.int .i64 ((k : Int) + 1), .int .i64 ((n : Int) - (k : Int))] w fun e w' => e = .returned (.int .i64 (listsN (k + 1) (n - k))) ∧ w = w' := hL
        have HS := Lib.hid hS
        generalize crP n k = P at *
        generalize crV k = V at *
        generalize listsN (k + 1) (n - k) = B at *
        clear hL e2 hS
        go_wp2_with fail
        refine (hR _).mono ?_; rintro e w2 ⟨rfl, rfl⟩
        go_wp2_with fail
        refine (hL' _).mono ?_; rintro e w2 ⟨rfl, rfl⟩
        go_wp2_with fail
        go_round
        case rel => exact ⟨k + 1, by go_num, by omega, by rw [HS.out]⟩
        case measure => simp [intOf]; omega
      · obtain rfl : k = n := by omega
        rw [HE.out]
        go_wp2_with fail
        go_ret
        exact ⟨rfl, rfl⟩

def CountReduced_o (n : Int) : Option Nat := if 0 ≤ n ∧ n ≤ 4 then some (crV n.toNat).toNat else none
theorem implCountReduced_any (n : Int) (w : World) (_lo : -9223372036854775808 ≤ n) (_hi : n ≤ 9223372036854775807) :
    Calls Try.prog 12 #[.int .i64 n] w (Gives (ansN (CountReduced_o n)) w) := by
  unfold CountReduced_o
  by_cases h0 : n < 0
  · rw [if_neg (by omega)]
    have hd1 : decide (n < 0) = true := by simpa using h0
    clear h0
    go_enter Try.func12, Try.ntmps12
    go_wp2_with fail
    go_ret2
    exact ⟨rfl, Below.refl _ _⟩
  · have hd1 : decide (n < 0) = false := by simpa using h0
    by_cases h5 : 4 < n
    · rw [if_neg (by omega)]
      clear h0
      go_enter Try.func12, Try.ntmps12
      go_wp2_with fail
      go_ret2
      exact ⟨rfl, Below.refl _ _⟩
    · rw [if_pos (by omega)]
      obtain ⟨k, rfl⟩ : ∃ k : Nat, n = k := ⟨n.toNat, by omega⟩
      rw [Int.toNat_natCast]
      have hR := countReduced_any k (by omega)
      have hV := crV_bd k (by omega)
      obtain ⟨V, hVV⟩ : ∃ V : Nat, crV k = V := ⟨(crV k).toNat, by omega⟩
      rw [hVV] at hR hV ⊢
      rw [Int.toNat_natCast]
      clear hVV h0
      go_enter Try.func12, Try.ntmps12
      go_wp2_with fail
      refine (hR _).mono ?_; rintro e w2 ⟨rfl, rfl⟩
      go_wp2_with fail
      go_ret2
      exact ⟨rfl, Below.refl _ _⟩

/-- The model's count. -/
def rowC (t : Tr) (us : List Tr) : Nat := us.countP fun u => (both (t, u)).isEmpty
def totC (ts us : List Tr) : Nat := (ts.map fun t => rowC t us).sum
theorem tot_all : ∀ n, n ≤ 4 → totC (treesN n) (treesN n) = (crV n).toNat := by decide +kernel
theorem trees_bd : ∀ n, n ≤ 4 → (treesN n).length ≤ 14 := by decide +kernel
theorem rowC_take {t : Tr} {us : List Tr} {k : Nat} {u : Tr} (h : us[k]? = some u) : rowC t (us.take (k + 1)) = rowC t (us.take k) + if (both (t, u)).length = 0 then 1 else 0 := by
  obtain ⟨hk, rfl⟩ := List.getElem?_eq_some_iff.1 h
  unfold rowC
  rw [List.take_succ_eq_append_getElem hk, List.countP_append]
  simp [List.countP_cons]
theorem totC_take {ts us : List Tr} {k : Nat} {t : Tr} (h : ts[k]? = some t) : totC (ts.take (k + 1)) us = totC (ts.take k) us + rowC t us := by
  obtain ⟨hk, rfl⟩ := List.getElem?_eq_some_iff.1 h
  unfold totC
  rw [List.take_succ_eq_append_getElem hk, List.map_append, List.sum_append]
  simp
theorem rowC_le (t : Tr) (us : List Tr) : rowC t us ≤ us.length := List.countP_le_length

set_option maxRecDepth 100000 in
set_option maxHeartbeats 4000000 in
theorem specCountReduced_any (n : Int) (w : World) (_lo : -9223372036854775808 ≤ n) (_hi : n ≤ 9223372036854775807) :
    Calls Try.prog 13 #[.int .i64 n] w (Gives (ansN (CountReduced_o n)) w) := by
  unfold CountReduced_o
  by_cases h : 0 ≤ n ∧ n ≤ 4
  · rw [if_pos h]
    obtain ⟨k, rfl⟩ : ∃ k : Nat, n = k := ⟨n.toNat, by omega⟩
    rw [Int.toNat_natCast]
    have h1 : (0 : Int) ≤ k := by omega
    have h2 : (k : Int) ≤ 4 := by omega
    rw [← tot_all k (by omega)]
    have hT := fun w => trList_any k (by omega) w
    have hM := trees_bd k (by omega)
    have hB : ∀ (t u : Tr) (w : World), t ∈ treesN k → u ∈ treesN k → Calls Try.prog 31 #[.agg #[.string t.str, .string u.str]] w (GivesInts (both (t, u)) w) := by
      intro t u w ht hu
      have ct := (mem_treesN k t).1 ht
      have cu := (mem_treesN k u).1 hu
      have := prBoth_any t.str u.str w (by have := t.str_size; omega) (by have := u.str_size; omega)
      rwa [bothL_str (t, u)] at this
    have hX : trTexts k = (treesN k).map Tr.str := rfl
    rw [hX] at hT
    generalize treesN k = L at *
    have HB := Lib.hid hB
    clear h hB hX
    go_enter Try.func13, Try.ntmps13
    go_wp2_with fail
    refine (l1In_yes k 0 4 _ h1 h2).mono ?_; rintro e w1 ⟨rfl, rfl⟩
    go_wp2_with fail
    refine (hT _).mono ?_; rintro e w1 ⟨g, cap, own, hb1, rfl⟩
    have hlm : (L.map Tr.str).length = L.length := List.length_map _
    rw [hlm] at own ⊢
    have HO := Lib.hid own
    clear own hlm
    go_wp2_with fail
    go_loopw [4, 15] (fun v i wr => ∃ (a s : Nat), i = .int .i64 a ∧ v = .int .i64 s ∧ a ≤ L.length ∧ s ≤ 14 * a ∧ Below w1.heap.size w1 wr ∧ Hid (s = totC (L.take a) L)) (fun _ i _ => L.length - (intOf i).toNat)
    case atStart => exact ⟨0, 0, rfl, rfl, Nat.zero_le _, by omega, Below.refl _ _, rfl⟩
    case round =>
      obtain ⟨a, s, rfl, rfl, ha, hs, hbw, he⟩ := hrel
      by_cases hlt : a < L.length
      · have hlt' : (a : Int) < (L.length : Int) := by omega
        obtain ⟨t, ht⟩ : ∃ t, L[a]? = some t := ⟨_, List.getElem?_eq_getElem hlt⟩
        have hcell := CellsS.at (HO.out.keep hbw).cells (i := a) (t := t.str) (by rw [List.getElem?_map, ht]; rfl)
        have htm : t ∈ L := List.mem_of_getElem? ht
        have hstep := totC_take (us := L) ht
        rw [← he.out] at hstep
        have HS := Lib.hid hstep
        clear hstep he ht
        go_wp2_with fail
        refine (hT _).mono ?_; rintro e w2 ⟨g2, cap2, own2, hb2, rfl⟩
        have hlm : (L.map Tr.str).length = L.length := List.length_map _
        rw [hlm] at own2 ⊢
        have HO2 := Lib.hid own2
        have hbw2 := nx hbw hb2
        clear own2 hlm hcell hbw
        go_wp2_with fail
        go_loopw [4, 22] (fun v i wr => ∃ (c q : Nat), i = .int .i64 c ∧ v = .int .i64 ((s + q : Nat) : Int) ∧ c ≤ L.length ∧ q ≤ c ∧ Below w2.heap.size w2 wr ∧ Hid (q = rowC t (L.take c))) (fun _ i _ => L.length - (intOf i).toNat)
        case atStart => exact ⟨0, 0, rfl, rfl, Nat.zero_le _, by omega, Below.refl _ _, rfl⟩
        case round =>
          obtain ⟨c, q, rfl, rfl, hc, hq, hbv, hf⟩ := hrel
          by_cases hlu : c < L.length
          · have hlu' : (c : Int) < (L.length : Int) := by omega
            obtain ⟨u, hu⟩ : ∃ u, L[c]? = some u := ⟨_, List.getElem?_eq_getElem hlu⟩
            have hcell := CellsS.at (HO2.out.keep hbv).cells (i := c) (t := u.str) (by rw [List.getElem?_map, hu]; rfl)
            have hum : u ∈ L := List.mem_of_getElem? hu
            have hstep := rowC_take (t := t) hu
            rw [← hf.out] at hstep
            have hP := fun w => HB.out t u w htm hum
            generalize both (t, u) = bs at *
            have HS2 := Lib.hid hstep
            clear hstep hf hu
            go_wp2_with fail
            refine (hP _).mono ?_; rintro e w4 ⟨v4, own4, hb4, rfl⟩
            obtain ⟨o4, c4, rfl, _, hm4, _⟩ := own4.cells.form
            have hbx := nx hbv hb4
            unfold maxLen at hm4
            clear own4 hb4 hbv hcell
            by_cases hz : bs.length = 0
            · have hz' : ((bs.length : Int) == 0) = true := by rw [beq_iff_eq]; omega
              have h9 := HS2.out
              rw [if_pos hz] at h9
              have HS3 := Lib.hid h9
              clear hz h9
              go_wp2_with fail
              go_roundw
              case rel => exact ⟨c + 1, q + 1, by go_num, by go_num, by omega, by omega, hbx, HS3.out.symm⟩
              case measure => simp [intOf]; omega
            · have hz' : ((bs.length : Int) == 0) = false := by rw [beq_eq_false_iff_ne]; omega
              have h9 := HS2.out
              rw [if_neg hz] at h9
              have HS3 := Lib.hid h9
              clear hz h9
              go_wp2_with fail
              go_roundw
              case rel => exact ⟨c + 1, q, by go_num, rfl, by omega, by omega, hbx, HS3.out.symm⟩
              case measure => simp [intOf]; omega
          · obtain rfl : c = L.length := by omega
            have hf' := hf.out
            rw [List.take_length] at hf'
            have hbz := hbw2.trans (hbv.mono hbw2.size)
            have HX : Hid (s + q = totC (L.take (a + 1)) L) := by show _ = _; rw [HS.out, hf']
            clear hf hf' hbv
            go_wp2_with fail
            go_roundw
            case rel => exact ⟨a + 1, s + q, by go_num, rfl, by omega, by omega, hbz, HX⟩
            case measure => simp [intOf]; omega
      · obtain rfl : a = L.length := by omega
        have he' := he.out
        rw [List.take_length] at he'
        have HX := Lib.hid he'
        have hbz := nx hb1 hbw
        clear he he'
        go_wp2_with fail
        go_ret2
        exact ⟨by rw [← HX.out]; rfl, hbz⟩
  · rw [if_neg h]
    have HN : Hid (n < 0 ∨ 4 < n) := show _ ∨ _ by omega
    clear h
    go_enter Try.func13, Try.ntmps13
    go_wp2_with fail
    refine (l1In_no n 0 4 _ HN.out).mono ?_; rintro e w1 ⟨rfl, rfl⟩
    go_wp2_with fail
    go_ret2
    exact ⟨rfl, Below.refl _ _⟩

end Go.Proofs.Ytjmbkieocmhmiaa

/-! ForP -/
namespace Go.Proofs.Ytjmbkieocmhmiaa

/-- The sum of the first k terms. -/
def sumN (f : Nat → Nat) : Nat → Nat
  | 0 => 0
  | k + 1 => sumN f k + f k

/-- How many lists of so many trees have so many carets, tree by tree. -/
def forN : Nat → Nat → Nat
  | 0, c => if c = 0 then 1 else 0
  | t + 1, c => sumN (fun k => catN k * forN t (c - k)) (c + 1)

/-- A table of them: row t. -/
def rowN : Nat → List Nat
  | 0 => [1, 0, 0, 0, 0, 0, 0, 0, 0]
  | t + 1 => (List.range 9).map fun c => sumN (fun k => catN k * (rowN t).getD (c - k) 0) (c + 1)

theorem sumN_congr {f g : Nat → Nat} : ∀ {k : Nat}, (∀ i, i < k → f i = g i) → sumN f k = sumN g k := by
  intro k
  induction k with
  | zero => intro _; rfl
  | succ k ih => intro h; rw [sumN, sumN, ih (fun i hi => h i (by omega)), h k (by omega)]

theorem forN_row (t : Nat) : ∀ c, c ≤ 8 → forN t c = (rowN t).getD c 0 := by
  induction t with
  | zero =>
    intro c hc
    rw [forN]
    match c, hc with
    | 0, _ => rfl
    | 1, _ => rfl
    | 2, _ => rfl
    | 3, _ => rfl
    | 4, _ => rfl
    | 5, _ => rfl
    | 6, _ => rfl
    | 7, _ => rfl
    | 8, _ => rfl
  | succ t ih =>
    intro c hc
    rw [forN, rowN]
    have h : c < ((List.range 9).map fun c => sumN (fun k => catN k * (rowN t).getD (c - k) 0) (c + 1)).length := by simp; omega
    rw [List.getD_eq_getElem?_getD, List.getElem?_eq_getElem h, List.getElem_map, List.getElem_range]
    exact sumN_congr fun i hi => by rw [ih (c - i) (by omega)]

theorem row_lists : ∀ t, t ≤ 9 → 1 ≤ t → ∀ c, c ≤ 8 → (rowN t).getD c 0 = listsN t c := by decide +kernel
theorem forN_eq (t c : Nat) (h1 : 1 ≤ t) (h2 : t ≤ 9) (hc : c ≤ 8) : forN t c = listsN t c := by
  rw [forN_row t c hc, row_lists t h2 h1 c hc]
theorem forN_zero (t : Nat) : ∀ c, c ≤ 8 → t ≤ 9 → forN t c ≤ 1000000 := by
  intro c hc ht
  rw [forN_row t c hc]
  have : ∀ t, t ≤ 9 → ∀ c, c ≤ 8 → (rowN t).getD c 0 ≤ 1000000 := by decide +kernel
  exact this t ht c hc
end Go.Proofs.Ytjmbkieocmhmiaa

/-! WCountForests -/
namespace Go.Proofs.Ytjmbkieocmhmiaa
open Go.RowKit

theorem sumN_le {f : Nat → Nat} : ∀ {k m : Nat}, k ≤ m → sumN f k ≤ sumN f m := by
  intro k m h
  induction m with
  | zero => have : k = 0 := by omega
            subst this; exact Nat.le_refl _
  | succ m ih =>
    by_cases e : k = m + 1
    · rw [e]; exact Nat.le_refl _
    · rw [sumN]; exact Nat.le_trans (ih (by omega)) (Nat.le_add_right _ _)

set_option maxRecDepth 100000 in
set_option maxHeartbeats 1000000 in
theorem prForests_any (t : Nat) : ∀ (c : Nat) (w : World), t ≤ 9 → c ≤ 8 →
    Calls Try.prog 33 #[.int .i64 t, .int .i64 c] w fun e w' => e = .returned (.int .i64 (forN t c)) ∧ w = w' := by
  induction t with
  | zero =>
    intro c w ht hc
    by_cases h : c = 0
    · subst h
      go_enter Try.func33, Try.ntmps33
      go_wp2_with fail
      go_ret
      exact ⟨rfl, rfl⟩
    · have hc0 : ((c : Int) == 0) = false := by rw [beq_eq_false_iff_ne]; omega
      have hf : Hid (forN 0 c = 0) := by show _ = _; rw [forN, if_neg h]
      clear h
      go_enter Try.func33, Try.ntmps33
      go_wp2_with fail
      go_ret
      exact ⟨ret_int (by rw [hf.out]; rfl), rfl⟩
  | succ t ih =>
    intro c w ht hc
    have hb := forN_zero (t + 1) c hc ht
    have hf : Hid (forN (t + 1) c = sumN (fun k => catN k * forN t (c - k)) (c + 1)) := rfl
    have ht0 : (((t + 1 : Nat) : Int) == 0) = false := by rw [beq_eq_false_iff_ne]; omega
    have e1 : ((t + 1 : Nat) : Int) = (t : Int) + 1 := by omega
    rw [e1] at ht0 ⊢
    have ih' := fun c w h => ih c w (by omega) h
    clear ih e1
    go_enter Try.func33, Try.ntmps33
    go_wp2_with fail
    go_loop [5, 6] (fun s k => ∃ i : Nat, i ≤ c + 1 ∧ k = .int .i64 i ∧ s = .int .i64 (sumN (fun k => catN k * forN t (c - k)) i)) (fun _ k => c + 1 - (intOf k).toNat)
    case atStart => exact ⟨0, Nat.zero_le _, rfl, rfl⟩
    case round =>
      obtain ⟨i, hi, rfl, rfl⟩ := hrel
      by_cases hlt : (i : Int) ≤ c
      · have hs1 : sumN (fun k => catN k * forN t (c - k)) (i + 1) ≤ 1000000 := by
          have := sumN_le (f := fun k => catN k * forN t (c - k)) (show i + 1 ≤ c + 1 by omega)
          have h2 := hf.out
          omega
        have hs2 : sumN (fun k => catN k * forN t (c - k)) (i + 1) = sumN (fun k => catN k * forN t (c - k)) i + catN i * forN t (c - i) := rfl
        have C := fun w => trCount_any i w (by omega)
        have R := fun w => ih' (c - i) w (by omega)
        have e2 : ((c - i : Nat) : Int) = (c : Int) - i := by omega
        rw [e2] at R
        have hc9 := catN_bd i (by omega)
        have hr9 := forN_zero t (c - i) (by omega) (by omega)
        generalize sumN (fun k => catN k * forN t (c - k)) i = S0 at *
        generalize hS1 : sumN (fun k => catN k * forN t (c - k)) (i + 1) = S1 at *
        have HS1 := Lib.hid hS1
        generalize hCA : catN i = a at *
        generalize hFO : forN t (c - i) = b at *
        have hab : a * b ≤ 1430 * 1000000 := Nat.mul_le_mul hc9 hr9
        have hab' : (a : Int) * (b : Int) = ((a * b : Nat) : Int) := (Int.natCast_mul a b).symm
        have hab1 : (0 : Int) ≤ (a : Int) * (b : Int) ∧ (a : Int) * (b : Int) ≤ 1430000000 := by rw [hab']; omega
        have hS0 : S0 ≤ 1000000 := by omega
        have HM : Hid ((S0 : Int) + (a : Int) * (b : Int) = (S1 : Int)) := by show _ = _; rw [hab', hs2]; omega
        clear e2 hS1 hCA hFO hs2 hab hab'
        obtain ⟨m1, m2⟩ := hab1
        go_wp2_with fail
        first
          | (refine (C _).mono ?_; rintro e wc ⟨rfl, rfl⟩
             go_wp2_with fail
             refine (R _).mono ?_; rintro e wc ⟨rfl, rfl⟩)
          | (refine (R _).mono ?_; rintro e wc ⟨rfl, rfl⟩
             go_wp2_with fail
             refine (C _).mono ?_; rintro e wc ⟨rfl, rfl⟩)
        go_wp2_with fail
        go_round
        case rel => exact ⟨i + 1, by omega, by go_num, by rw [HS1.out, ← HM.out]⟩
        case measure => simp [intOf]; omega
      · obtain rfl : i = c + 1 := by omega
        go_wp2_with fail
        go_ret
        exact ⟨ret_int (by rw [hf.out]), rfl⟩

def forestsO (r c : Int) : Option Nat := if 1 ≤ r ∧ r ≤ 9 ∧ 0 ≤ c ∧ c ≤ 8 then some (listsN r.toNat c.toNat) else none
theorem specCountForests_any (r c : Int) (w : World) :
    Calls Try.prog 17 #[.int .i64 r, .int .i64 c] w (Gives (ansN (forestsO r c)) w) := by
  unfold forestsO
  by_cases h1 : 1 ≤ r ∧ r ≤ 9
  · have I1 := fun w => l1In_yes r 1 9 w h1.1 h1.2
    by_cases h2 : 0 ≤ c ∧ c ≤ 8
    · have I2 := fun w => l1In_yes c 0 8 w h2.1 h2.2
      rw [if_pos (by omega)]
      obtain ⟨t, rfl⟩ : ∃ t : Nat, r = t := ⟨r.toNat, by omega⟩
      obtain ⟨k, rfl⟩ : ∃ k : Nat, c = k := ⟨c.toNat, by omega⟩
      have ft := forN_eq t k (by omega) (by omega) (by omega)
      have P := fun w => prForests_any t k w (by omega) (by omega)
      rw [ft] at P
      have e1 : ((t : Int)).toNat = t := by omega
      have e2 : ((k : Int)).toNat = k := by omega
      rw [e1, e2]
      clear h1 h2 e1 e2 ft
      go_enter Try.func17, Try.ntmps17
      go_wp2_with fail
      refine (I1 _).mono ?_; rintro e w1 ⟨rfl, rfl⟩
      go_wp2_with fail
      refine (I2 _).mono ?_; rintro e w1 ⟨rfl, rfl⟩
      go_wp2_with fail
      refine (P _).mono ?_; rintro e w1 ⟨rfl, rfl⟩
      go_wp2_with fail
      go_ret2
      exact ⟨rfl, Below.refl _ _⟩
    · have I2 := fun w => l1In_no c 0 8 w (by omega)
      rw [if_neg (by omega)]
      clear h1 h2
      go_enter Try.func17, Try.ntmps17
      go_wp2_with fail
      refine (I1 _).mono ?_; rintro e w1 ⟨rfl, rfl⟩
      go_wp2_with fail
      refine (I2 _).mono ?_; rintro e w1 ⟨rfl, rfl⟩
      go_wp2_with fail
      go_ret2
      exact ⟨rfl, Below.refl _ _⟩
  · have I1 := fun w => l1In_no r 1 9 w (by omega)
    rw [if_neg (by omega)]
    clear h1
    go_enter Try.func17, Try.ntmps17
    go_wp2_with fail
    refine (I1 _).mono ?_; rintro e w1 ⟨rfl, rfl⟩
    go_wp2_with fail
    go_ret2
    exact ⟨rfl, Below.refl _ _⟩

theorem implCountForests_any (r c : Int) (w : World) (lo1 : -9223372036854775808 ≤ r) (hi1 : r ≤ 9223372036854775807) (lo2 : -9223372036854775808 ≤ c) (hi2 : c ≤ 9223372036854775807) :
    Calls Try.prog 15 #[.int .i64 r, .int .i64 c] w (Gives (ansN (forestsO r c)) w) := by
  unfold forestsO
  by_cases h1 : r < 1
  · rw [if_neg (by omega)]
    go_enter Try.func15, Try.ntmps15
    go_wp2_with fail
    go_ret2
    exact ⟨rfl, Below.refl _ _⟩
  by_cases h2 : 9 < r
  · rw [if_neg (by omega)]
    go_enter Try.func15, Try.ntmps15
    go_wp2_with fail
    go_ret2
    exact ⟨rfl, Below.refl _ _⟩
  by_cases h3 : c < 0
  · rw [if_neg (by omega)]
    go_enter Try.func15, Try.ntmps15
    go_wp2_with fail
    go_ret2
    exact ⟨rfl, Below.refl _ _⟩
  by_cases h4 : 8 < c
  · rw [if_neg (by omega)]
    go_enter Try.func15, Try.ntmps15
    go_wp2_with fail
    go_ret2
    exact ⟨rfl, Below.refl _ _⟩
  rw [if_pos (by omega)]
  obtain ⟨t, rfl⟩ : ∃ t : Nat, r = t := ⟨r.toNat, by omega⟩
  obtain ⟨k, rfl⟩ : ∃ k : Nat, c = k := ⟨c.toNat, by omega⟩
  have P := fun w => countLists_any t k w (by omega) (by omega) (by omega)
  have e1 : ((t : Int)).toNat = t := by omega
  have e2 : ((k : Int)).toNat = k := by omega
  rw [e1, e2]
  clear e1 e2
  go_enter Try.func15, Try.ntmps15
  go_wp2_with fail
  refine (P _).mono ?_; rintro e w1 ⟨rfl, rfl⟩
  go_wp2_with fail
  go_ret2
  exact ⟨rfl, Below.refl _ _⟩

end Go.Proofs.Ytjmbkieocmhmiaa
