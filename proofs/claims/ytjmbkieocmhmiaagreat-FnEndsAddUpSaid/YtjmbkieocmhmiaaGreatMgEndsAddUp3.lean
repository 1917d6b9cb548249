/- Texts that the claim needs, part 4. -/
import Derived.Test.YtjmbkieocmhmiaaGreatMgEndsAddUp2
import Derived.RegionTactic
import Derived.Shelf.Strings.Builder1
import Derived.Deep.RegionHeld3
import Derived.Deep.AppendLies
/-! Build -/
namespace Go.Proofs.YtjmbkieocmhmiaaGreat
open Go.RowKit

theorem info_byte : (Tryz.prog.info? 5).map (fun i => (i.zero, i.size, i.bytes)) = some (some (.int .u8 0), 1, 1) := by kernel_rfl
theorem info_bld : (Tryz.prog.info? 124).map (fun i => i.size) = some 2 := by kernel_rfl
theorem lies_bld : liesAt Tryz.prog Tryz.prog.depth 124 (2 / Tryz.prog.cellsOf 124) 0 124 1 = true := by kernel_rfl
theorem cells_byte : Tryz.prog.cellsOf 5 = 1 := by kernel_rfl

set_option maxRecDepth 100000 in
theorem copyCheck_fresh (b : Nat) (w : World) (h0 : w.cell? ⟨b, 0, none⟩ = some (.pointer none)) (hsh : w.shape? b = some (124, 2)) (hfz : w.frozen? ⟨b, 0, none⟩ = false) :
    Calls Tryz.prog 129 #[.pointer (some ⟨b, 0, none⟩)] w fun e w' => e = .returned (.tuple #[]) ∧ w' = w.setCell ⟨b, 0, none⟩ (.pointer (some ⟨b, 0, none⟩)) := by
  obtain ⟨j, hj, hjs⟩ := Option.map_eq_some_iff.1 info_bld
  go_enter Tryz.func129, Tryz.ntmps129
  go_wp2
  rw [Lib.run_to_unsafe w ⟨b, 0, none⟩ Tryz.underlying122 Tryz.underlying146 hj (by rw [hjs]; decide) hsh (Nat.zero_lt_succ 1)]
  simp only [Result.andThen]
  rw [Oper.upon_value]
  go_wp2
  rw [run_callFunc_extern Tryz.func136 (by kernel_rfl) (by kernel_rfl) (by kernel_rfl) (e := Extern.AbiNoEscape.same) (by kernel_rfl)]
  rw [Lib.run_noEscape]
  simp only [Result.andThen]
  rw [Oper.upon_value]
  go_wp2
  rw [Lib.run_from_unsafe w ⟨b, 0, none⟩ Tryz.underlying146 Tryz.underlying122 hj hsh lies_bld]
  simp only [Result.andThen]
  rw [Oper.upon_value]
  go_wp2
  go_end0
  exact ⟨rfl, rfl⟩

set_option maxRecDepth 100000 in
theorem copyCheck_used (b : Nat) (w : World) (h0 : w.cell? ⟨b, 0, none⟩ = some (.pointer (some ⟨b, 0, none⟩))) :
    Calls Tryz.prog 129 #[.pointer (some ⟨b, 0, none⟩)] w fun e w' => e = .returned (.tuple #[]) ∧ w' = w := by
  obtain ⟨j, hj, _⟩ := Option.map_eq_some_iff.1 info_bld
  go_enter Tryz.func129, Tryz.ntmps129
  go_wp2
  rw [Lib.run_neq_ptr_same w _ Tryz.underlying122 hj]
  go_wp2
  go_end0
  exact ⟨rfl, rfl⟩

/-- A builder in the block b that holds the bytes bs; its row is of blocks from B on. -/
abbrev IsBld (B b : Nat) (bs : List Value) (w : World) : Prop := Lib.IsBuilder 124 5 B b bs w

theorem copyCheck_any (B b : Nat) (bs : List Value) (w : World) (h : IsBld B b bs w) :
    Calls Tryz.prog 129 #[.pointer (some ⟨b, 0, none⟩)] w fun e w' => e = .returned (.tuple #[]) ∧ (Lib.BuilderAt 124 5 B b (.pointer (some ⟨b, 0, none⟩)) bs w' ∧ Below B w w') := by
  rcases h with h | h
  · refine (copyCheck_fresh b w h.cell0 h.shape h.frozen0).mono ?_
    rintro e w' ⟨rfl, rfl⟩
    exact ⟨rfl, h.used _, (Below.refl B w).setCell (p := ⟨b, 0, none⟩) h.1 _⟩
  · refine (copyCheck_used b w h.cell0).mono ?_
    rintro e w' ⟨rfl, rfl⟩
    exact ⟨rfl, h, Below.refl B _⟩

set_option maxHeartbeats 2000000 in
set_option maxRecDepth 100000 in
theorem writeByte_any (B b : Nat) (bs : List Value) (c : Int) (w : World) (h : IsBld B b bs w) (hlen : bs.length + 1 ≤ 140737488355328) (hBw : B ≤ w.heap.size) :
    Calls Tryz.prog 108 #[.pointer (some ⟨b, 0, none⟩), .int .u8 c] w fun e w' => e = .returned .nilIface ∧ IsBld B b (bs ++ [.int .u8 c]) w' ∧ Below B w w' := by
  obtain ⟨i0, hi, hz0, hz1, hz2⟩ := info_parts info_byte
  go_enter Tryz.func108, Tryz.ntmps108
  go_wp2_with fail
  refine (copyCheck_any B b bs _ h).mono ?_
  rintro e w1 ⟨rfl, h1, hb1⟩
  obtain ⟨hB, v, hbk, hown, hne⟩ := h1
  have c0 : w1.cell? ⟨b, 0, none⟩ = some (.pointer (some ⟨b, 0, none⟩)) := by rw [Lib.cell_of_heap hbk]; rfl
  have c1 : w1.cell? ⟨b, 1, none⟩ = some v := by rw [Lib.cell_of_heap hbk]; rfl
  go_wp2_with (at_builtin; refine wpList_append_own _ rfl _ _ 22 rfl B 5 i0 (.int .u8 0) 1 1 Tryz.underlying22 hi hz0 hz1 hz2 rfl (by decide) _ _ _ rfl (hown.alloc _) ⟨w1.heap.size, 0, none⟩ 1 1 [.int .u8 c] rfl rfl ?c1 ?c2 ?c3 ?c4 ?c5 ?_)
  case c1 =>
    intro j u hj
    match j, hj with
    | 0, hj => simp at hj; subst hj; simp [Addr.add]
  case c2 => intro u hu; simp at hu; subst hu; rfl
  case c3 => unfold maxLen; omega
  case c4 => omega
  case c5 => have := hb1.size; simp; omega
  intro v' w2 hown' hgrow _
  have hlt : b < w1.heap.size := lt_of_block hbk
  have hb2 : w2.heap[b]? = some (.cells #[.pointer (some ⟨b, 0, none⟩), v] 124 (0, 0)) := by
    rw [hgrow.block b (by simp; omega) (fun e => hne e.symm), Lib.alloc_old w1 _ b hlt]
    exact hbk
  have d0 : w2.cell? ⟨b, 0, none⟩ = some (.pointer (some ⟨b, 0, none⟩)) := by rw [Lib.cell_of_heap hb2]; rfl
  have d1 : w2.cell? ⟨b, 1, none⟩ = some v := by rw [Lib.cell_of_heap hb2]; rfl
  have f1 : w2.frozen? ⟨b, 1, none⟩ = false := Lib.frozen_of_heap hb2 1
  obtain ⟨g, cap, rfl⟩ : ∃ g cap, v' = .slice (some ⟨g, 0, none⟩) (bs.length + 1) cap := by
    rcases hown'.2 with ⟨_, h0⟩ | ⟨g, cap, cur, hv, _⟩
    · omega
    · exact ⟨g, cap, hv⟩
  go_wp2
  go_ret
  refine ⟨rfl, ?_, ?_⟩
  · exact .inr (Lib.BuilderAt.put (T := 124) (e := 5) hB hb2 (bs' := bs ++ [.int .u8 c]) (by simpa using hown') (by decide))
  · exact ((hb1.alloc (by have := hb1.size; omega) _).grown hgrow (by have := hb1.size; simp; omega) (fun k hk => (hown.lt k hk).1)).setCell (p := ⟨b, 1, none⟩) hB _

set_option maxHeartbeats 2000000 in
set_option maxRecDepth 100000 in
theorem writeString_any (B b : Nat) (bs : List Value) (s : ByteArray) (w : World) (h : IsBld B b bs w) (hlen : bs.length + s.size ≤ 140737488355328) (hBw : B ≤ w.heap.size) :
    Calls Tryz.prog 109 #[.pointer (some ⟨b, 0, none⟩), .string s] w fun e w' => e = .returned (.tuple #[.int .i64 s.size, .nilIface]) ∧ IsBld B b (bs ++ Lib.strCells s) w' ∧ Below B w w' := by
  obtain ⟨i0, hi, hz0, hz1, hz2⟩ := info_parts info_byte
  go_enter Tryz.func109, Tryz.ntmps109
  go_wp2_with fail
  refine (copyCheck_any B b bs _ h).mono ?_
  rintro e w1 ⟨rfl, h1, hb1⟩
  obtain ⟨hB, v, hbk, hown, hne⟩ := h1
  have c0 : w1.cell? ⟨b, 0, none⟩ = some (.pointer (some ⟨b, 0, none⟩)) := by rw [Lib.cell_of_heap hbk]; rfl
  have c1 : w1.cell? ⟨b, 1, none⟩ = some v := by rw [Lib.cell_of_heap hbk]; rfl
  go_wp2_with (at_builtin; refine Lib.wpList_append_own_string _ rfl _ _ 22 9 rfl B 5 i0 Tryz.underlying22 Tryz.underlying9 hi hz0 hz1 hz2 _ _ _ rfl hown s rfl ?c3 ?c4 ?c5 ?_)
  case c3 => unfold maxLen; omega
  case c4 => omega
  case c5 => have := hb1.size; omega
  intro v' w2 hown' hgrow _
  have hlt : b < w1.heap.size := lt_of_block hbk
  have hb2 : w2.heap[b]? = some (.cells #[.pointer (some ⟨b, 0, none⟩), v] 124 (0, 0)) := by
    rw [hgrow.block b hlt (fun e => hne e.symm)]
    exact hbk
  have d0 : w2.cell? ⟨b, 0, none⟩ = some (.pointer (some ⟨b, 0, none⟩)) := by rw [Lib.cell_of_heap hb2]; rfl
  have d1 : w2.cell? ⟨b, 1, none⟩ = some v := by rw [Lib.cell_of_heap hb2]; rfl
  have f1 : w2.frozen? ⟨b, 1, none⟩ = false := Lib.frozen_of_heap hb2 1
  obtain ⟨ao, n', cap, rfl⟩ : ∃ ao n' cap, v' = .slice ao n' cap := by
    rcases hown'.2 with ⟨hv, _⟩ | ⟨g, cap, cur, hv, _⟩
    · exact ⟨_, _, _, hv⟩
    · exact ⟨_, _, _, hv⟩
  go_wp2
  go_ret2
  refine ⟨rfl, ?_, ?_⟩
  · exact .inr (Lib.BuilderAt.put (T := 124) (e := 5) hB hb2 (bs' := bs ++ Lib.strCells s) (by simpa [Lib.strCells_length] using hown') (by decide))
  · exact (hb1.grown hgrow (by have := hb1.size; omega) (fun k hk => (hown.lt k hk).1)).setCell (p := ⟨b, 1, none⟩) hB _

set_option maxHeartbeats 2000000 in
set_option maxRecDepth 100000 in
theorem builderString_any (B b : Nat) (l : List UInt8) (w : World) (h : IsBld B b (Lib.byteCells l) w) (h0 : l ≠ []) :
    Calls Tryz.prog 110 #[.pointer (some ⟨b, 0, none⟩)] w fun e w' => e = .returned (.string ⟨l.toArray⟩) ∧ Below B w w' := by
  obtain ⟨p, hB, v, hbk, hown, hne⟩ : ∃ p, Lib.BuilderAt 124 5 B b p (Lib.byteCells l) w := by
    rcases h with h | h
    · exact ⟨_, h⟩
    · exact ⟨_, h⟩
  have hl0 : l.length ≠ 0 := by simpa using h0
  rw [Lib.byteCells_length] at hown
  obtain ⟨g, cap, cur, rfl, hbg, hg, hnc, hcm, hcs, htake⟩ : ∃ g cap cur, v = .slice (some ⟨g, 0, none⟩) l.length cap ∧ B ≤ g ∧ w.heap[g]? = some (.cells cur 5 (0, 0)) ∧ l.length ≤ cap ∧ cap ≤ maxLen ∧ cur.size = cap * 1 ∧ cur.toList.take (l.length * 1) = Lib.byteCells l := by
    rcases hown.2 with ⟨_, hz⟩ | ⟨g, cap, cur, hv, r⟩
    · exact absurd hz hl0
    · exact ⟨g, cap, cur, hv, r⟩
  have c1 : w.drew.cell? ⟨b, 1, none⟩ = some (.slice (some ⟨g, 0, none⟩) l.length cap) := by
    have : w.drew.heap[b]? = some (.cells #[p, .slice (some ⟨g, 0, none⟩) l.length cap] 124 (0, 0)) := hbk
    rw [Lib.cell_of_heap this]; rfl
  have hSD : (Builtin.unsafeSliceData_ #[22] 144 #[.slice (some ⟨g, 0, none⟩) l.length cap]).run Tryz.prog w.drew = .ok (.pointer (some ⟨g, 0, none⟩)) w.drew :=
    Lib.run_unsafeSliceData_row _ _ _ _ _ _ (by omega)
  have hUS : (Builtin.unsafeString_ #[144, 3] 9 #[.pointer (some ⟨g, 0, none⟩), .int .i64 l.length]).run Tryz.prog w.drew = .ok (.string ⟨l.toArray⟩) (w.drew.freeze ⟨g, 0, none⟩ l.length) := by
    refine Lib.run_unsafeString_row w.drew 144 3 9 5 Tryz.underlying144 cells_byte g cur.size (by have hg' : w.drew.heap[g]? = some (.cells cur 5 (0, 0)) := hg; simp [World.shape?, hg']) l h0 (by omega) (by unfold maxLen at hcm; omega) ?_
    intro j x hx
    have := hown.cells (g := g) rfl j (.int .u8 x.toNat) (by simp [Lib.byteCells, hx])
    exact this
  clear hown hg htake hbk
  go_enter Tryz.func110, Tryz.ntmps110
  go_wp2
  go_region
  all_goals (go_wp2; go_ret; exact ⟨rfl, Lib.below_freeze (Below.drew (Below.refl B w)) (p := ⟨g, 0, none⟩) hbg _⟩)
end Go.Proofs.YtjmbkieocmhmiaaGreat

/-! Fill -/
namespace Go.Proofs.YtjmbkieocmhmiaaGreat
open Go.RowKit

/-- The texts of what a greater tree has at the leaves of a part of it. -/
def subsS (a g : Tr) : List ByteArray := (a.subs g).map Tr.str
theorem subsS_length (a g : Tr) (h : a.part g = true) : (subsS a g).length = a.leaves := by
  unfold subsS; rw [List.length_map]; exact (below_carets a g h).2

set_option maxRecDepth 100000 in
set_option maxHeartbeats 2000000 in
theorem prParts_any (t : Tr) : ∀ (u : Tr) (w : World), t.part u = true → u.carets ≤ 60 →
    Calls Tryz.prog 85 #[.string t.str, .string u.str] w (GivesTexts (subsS t u) w) := by
  obtain ⟨i0, hi, hz0, hz1, hz2⟩ := info_parts info_str
  induction t with
  | lf =>
    intro u w hp hu
    go_enter Tryz.func85, Tryz.ntmps85
    go_wp2_with fail
    refine (trLeaf_any .lf _).mono ?_; rintro e w1 ⟨rfl, rfl⟩
    simp only [Tr.isLf]
    go_wp2_with fail
    go_ret
    exact ⟨_, 1, OwnS.one _ _, nxAlloc (Below.refl _ _) _, rfl⟩
  | nd l r ihl ihr =>
    intro u w hp hu
    cases u with
    | lf => simp [Tr.part] at hp
    | nd p q =>
      simp only [Tr.part, Bool.and_eq_true] at hp
      obtain ⟨hp1, hp2⟩ := hp
      have hu' : p.carets + q.carets + 1 ≤ 60 := hu
      have ht1 := (below_carets l p hp1).1
      have ht2 := (below_carets r q hp2).1
      have ll := subsS_length l p hp1
      have lr := subsS_length r q hp2
      obtain ⟨A, hA⟩ : ∃ A, A = subsS l p := ⟨_, rfl⟩
      obtain ⟨B, hB⟩ : ∃ B, B = subsS r q := ⟨_, rfl⟩
      have hC : subsS (.nd l r) (.nd p q) = A ++ B := by rw [hA, hB]; simp [subsS, Tr.subs]
      have jl := fun w => ihl p w hp1 (by omega)
      have jr := fun w => ihr q w hp2 (by omega)
      rw [← hA] at ll jl
      rw [← hB] at lr jr
      rw [hC]
      have hAn : A.length ≤ 61 := by rw [ll]; unfold Tr.leaves; omega
      have hBn : B.length ≤ 61 := by rw [lr]; unfold Tr.leaves; omega
      have hBp : 0 < B.length := by rw [lr]; exact leaves_pos r
      have hAp : 0 < A.length := by rw [ll]; exact leaves_pos l
      clear ihl ihr hA hB hC ll lr hp1 hp2
      go_enter Tryz.func85, Tryz.ntmps85
      go_wp2_with fail
      refine (trLeaf_any (.nd l r) _).mono ?_; rintro e w1 ⟨rfl, rfl⟩
      simp only [Tr.isLf]
      go_wp2_with fail
      refine (trSides_any l r _ (by omega)).mono ?_; rintro e w1 ⟨rfl, hb1⟩
      go_wp2_with fail
      refine (trSides_any p q _ (by omega)).mono ?_; rintro e w1' ⟨rfl, hb1'⟩
      replace hb1 := nx hb1 hb1'
      clear hb1'
      go_wp2_with fail
      refine (jl _).mono ?_; rintro e w2 ⟨g1, cap1, own1, hb2, rfl⟩
      go_wp2_with fail
      refine (jr _).mono ?_; rintro e w3 ⟨g2, cap2, own2, hb3, rfl⟩
      have hown := (own1.keep hb3).mono hb1.size
      have hbw : Below w.heap.size w w3 := nx (nx hb1 hb2) hb3
      go_wp2_with (at_builtin; refine wpList_append_own _ rfl _ _ 97 rfl w.heap.size 9 i0 (.string ⟨#[]⟩) 1 16 Tryz.underlying97 hi hz0 hz1 hz2 rfl (by decide) _ _ _ rfl hown ⟨g2, 0, none⟩ B.length cap2 (B.map Value.string) rfl (by simp) (own2.news rfl) (oneS _) (by unfold maxLen; omega) (by omega) hbw.size ?_; intro v' w4 hown' hgrow hnn)
      have hbw' := below_app0 hbw hown (Nat.le_refl _) hgrow
      have hown1 := OwnS.app hown'
      obtain ⟨g, cap, hv⟩ := hown1.shape (by simp; omega)
      have HV := Lib.hid hv
      clear hown hown' hgrow hv hnn
      go_wp2_with fail
      go_ret
      exact ⟨g, cap, by rw [← HV.out]; exact hown1, hbw', by rw [← HV.out]; rfl⟩

set_option maxRecDepth 100000 in
set_option maxHeartbeats 4000000 in
theorem below_any (t : Tr) : ∀ (u : Tr) (b c : Nat) (w : World), NodeAt w t b → NodeAt w u c → t.part u = true → u.carets ≤ 60 →
    Calls Tryz.prog 79 #[.pointer (some ⟨b, 0, none⟩), .pointer (some ⟨c, 0, none⟩)] w (GivesTexts (subsS t u) w) := by
  obtain ⟨i0, hi, hz0, hz1, hz2⟩ := info_parts info_str
  induction t with
  | lf =>
    intro u b c w h k hp hu
    have H := Lib.hid h
    have K := Lib.hid k
    clear h k
    go_enter Tryz.func79, Tryz.ntmps79
    go_wp2_with fail
    refine (isLeaf_any .lf b _ H.out).mono ?_; rintro e w1 ⟨rfl, rfl⟩
    simp only [Tr.isLf]
    go_wp2_with fail
    refine (text_any u c _ K.out (by omega)).mono ?_; rintro e w1 ⟨rfl, d, hw1⟩
    have hb1 : Below w.heap.size w w1 := by rw [hw1]; exact drewB (Below.refl _ _) _
    clear hw1
    go_wp2_with fail
    go_ret
    exact ⟨_, 1, (OwnS.one _ _).mono hb1.size, nxAlloc hb1 _, rfl⟩
  | nd l r ihl ihr =>
    intro u b c w h k hp hu
    cases u with
    | lf => simp [Tr.part] at hp
    | nd p q =>
      simp only [Tr.part, Bool.and_eq_true] at hp
      obtain ⟨hp1, hp2⟩ := hp
      have hu' : p.carets + q.carets + 1 ≤ 60 := hu
      have ht1 := (below_carets l p hp1).1
      have ht2 := (below_carets r q hp2).1
      have ll := subsS_length l p hp1
      have lr := subsS_length r q hp2
      obtain ⟨A, hA⟩ : ∃ A, A = subsS l p := ⟨_, rfl⟩
      obtain ⟨B, hB⟩ : ∃ B, B = subsS r q := ⟨_, rfl⟩
      have hC : subsS (.nd l r) (.nd p q) = A ++ B := by rw [hA, hB]; simp [subsS, Tr.subs]
      have jl := fun b c w h k => ihl p b c w h k hp1 (by omega)
      have jr := fun b c w h k => ihr q b c w h k hp2 (by omega)
      rw [← hA] at ll jl
      rw [← hB] at lr jr
      rw [hC]
      have hAn : A.length ≤ 61 := by rw [ll]; unfold Tr.leaves; omega
      have hBn : B.length ≤ 61 := by rw [lr]; unfold Tr.leaves; omega
      have hBp : 0 < B.length := by rw [lr]; exact leaves_pos r
      have hAp : 0 < A.length := by rw [ll]; exact leaves_pos l
      have H := Lib.hid h
      obtain ⟨bl, br, h, hl, hr⟩ := h
      obtain ⟨cl, cr, k, kl, kr⟩ := k
      have h1 := two_left h
      have h2 := two_right h
      have k1 := two_left k
      have k2 := two_right k
      have hb0 := Below.refl w.heap.size w
      clear h k ihl ihr hA hB hC ll lr hp1 hp2
      go_enter Tryz.func79, Tryz.ntmps79
      go_wp2_with fail
      refine (isLeaf_any (.nd l r) b _ H.out).mono ?_; rintro e w1 ⟨rfl, rfl⟩
      simp only [Tr.isLf]
      go_wp2_with fail
      go_region_held3 (fun w' => w'.cell? ⟨b, 0, none⟩ = some (.pointer (some ⟨bl, 0, none⟩)) ∧ w'.cell? ⟨b, 1, none⟩ = some (.pointer (some ⟨br, 0, none⟩)) ∧ w'.cell? ⟨c, 0, none⟩ = some (.pointer (some ⟨cl, 0, none⟩)) ∧ w'.cell? ⟨c, 1, none⟩ = some (.pointer (some ⟨cr, 0, none⟩)))
        (first
          | exact ⟨h1, h2, k1, k2⟩
          | exact ⟨q1, q2, q3, q4⟩
          | exact ⟨s1, s2, s3, s4⟩
          | exact ⟨r1, r2, r3, r4⟩)
        (first
          | (go_at_call_of 79 (some (⟨bl, 0, none⟩ : Addr)); refine (jl bl cl _ ?_ ?_).mono ?_; exact hl.keep hb0.drew; exact kl.keep hb0.drew; rintro e w1 ⟨g1, cap1, own1, hb1, rfl⟩; have hb1' := nx hb0.drew hb1; obtain ⟨q1, q2⟩ := below_two hb1' h1 h2; obtain ⟨q3, q4⟩ := below_two hb1' k1 k2)
          | (go_at_call_of 79 (some (⟨br, 0, none⟩ : Addr)); refine (jr br cr _ ?_ ?_).mono ?_; exact hr.keep hb1'; exact kr.keep hb1'; rintro e w2 ⟨g2, cap2, own2, hb2, rfl⟩; have hb2' := nx hb1' hb2; obtain ⟨s1, s2⟩ := below_two hb2' h1 h2; obtain ⟨s3, s4⟩ := below_two hb2' k1 k2; have hown := (own1.keep hb2).mono hb0.drew.size)
          | (refine step_append_lies _ (by rfl) _ _ _ (by rfl) w.heap.size 9 i0 _ 1 16 Tryz.underlying97 hi hz0 hz1 hz2 rfl (by omega) (.slice (some ⟨g1, 0, none⟩) A.length cap1) A.length (A.map Value.string) (by rfl) hown ⟨g2, 0, none⟩ B.length cap2 (B.map Value.string) (by rfl) (by simp) (own2.news rfl) (oneS _) hBp (by unfold maxLen; omega) (by omega) hb2'.size w2.heap.size (by rfl) ?_; intro gg cap w3 hown1 hgrow hat hlt; have hb3 := below_app0 hb2' hown (Nat.le_refl _) hgrow; obtain ⟨r1, r2⟩ := below_two hb3 h1 h2; obtain ⟨r3, r4⟩ := below_two hb3 k1 k2))
      go_wp2_with fail
      go_ret
      exact ⟨gg, cap, by rw [List.length_append]; exact OwnS.app hown1, hb3, by rw [List.length_append]; rfl⟩

/-! Texts in place of leaves. -/
theorem CellsS.form {b1 : Nat} {w : World} {v : Value} {xs : List ByteArray} (h : CellsS b1 w v xs) :
    ∃ oa cap, v = .slice oa xs.length cap ∧ xs.length ≤ cap ∧ cap ≤ maxLen ∧ ∀ i, i < xs.length → ∃ g, oa = some ⟨g, 0, none⟩ ∧ b1 ≤ g ∧ g < w.heap.size ∧ w.cell? ⟨g, i, none⟩ = some (.string (xs.getD i ⟨#[]⟩)) := by
  rcases h with ⟨rfl, rfl⟩ | ⟨g, cap, rfl, h1, h2, h3, h4, h5, _⟩
  · exact ⟨none, 0, rfl, Nat.le_refl _, Nat.zero_le _, fun i hi => by simp at hi⟩
  · exact ⟨some ⟨g, 0, none⟩, cap, rfl, h3, h4, fun i hi => ⟨g, rfl, h1, h2, h5 i hi⟩⟩

theorem fillL_length : ∀ (l : List UInt8) (us : List ByteArray), (fillL l us).length ≤ l.length + (us.map ByteArray.size).sum := by
  intro l
  induction l with
  | nil => intro us; simp [fillL]
  | cons c r ih =>
    intro us
    rw [fillL]
    split
    · cases us with
      | nil => have := ih []; simp at *; omega
      | cons u us =>
        have := ih us
        have hu : u.data.toList.length = u.size := (Lib.size_eq u).symm
        simp at *; omega
    · have := ih us; simp at *; omega
theorem fillL_ne {l : List UInt8} {us : List ByteArray} (h : ∃ c r, l = c :: r ∧ c ≠ 46) : fillL l us ≠ [] := by
  obtain ⟨c, r, rfl, hc⟩ := h
  rw [fillL, if_neg hc]; simp
end Go.Proofs.YtjmbkieocmhmiaaGreat

/-! Fill2 -/
namespace Go.Proofs.YtjmbkieocmhmiaaGreat
open Go.RowKit

def fillB (s : ByteArray) (us : List ByteArray) : ByteArray := ⟨(fillL s.data.toList us).toArray⟩

theorem byteCells_app (x y : List UInt8) : Lib.byteCells x ++ Lib.byteCells y = Lib.byteCells (x ++ y) := by simp [Lib.byteCells]
theorem IsBld.drewN {B b : Nat} {bs : List Value} {w : World} (h : IsBld B b bs w) (n : Nat) : IsBld B b bs (w.drewN n) := h

theorem fillB_tr (t : Tr) (us : List Tr) (h : us.length = t.leaves) : fillB t.str (us.map Tr.str) = (t.fill us).str := by
  unfold fillB
  rw [Tr.str_list, fill_text t us h]
  rfl

/-- One byte of a text, and what is filled in. -/
theorem fill_dot {s : ByteArray} {us : List ByteArray} {i k : Nat} (hi : i < s.size) (hk : k < us.length) (h : byteAt s i = 46) :
    fillL (s.data.toList.drop i) (us.drop k) = (us.getD k ⟨#[]⟩).data.toList ++ fillL (s.data.toList.drop (i + 1)) (us.drop (k + 1)) := by
  obtain ⟨c, r, hd, hc, hr⟩ := drop_of_byteAt hi
  have : c = 46 := u8_eq (n := 46) (by omega) (by rw [← hc, h]; rfl)
  subst this
  rw [hd, fillL, if_pos rfl, hr, List.drop_eq_getElem_cons hk]
  simp [hk]
theorem fill_other {s : ByteArray} {us : List ByteArray} {i k : Nat} (hi : i < s.size) (h : ¬ byteAt s i = 46) :
    fillL (s.data.toList.drop i) (us.drop k) = (s.extract i (i + 1)).data.toList ++ fillL (s.data.toList.drop (i + 1)) (us.drop k) ∧ ∃ c : UInt8, (s[i]'hi) = c ∧ fillL (s.data.toList.drop i) (us.drop k) = c :: fillL (s.data.toList.drop (i + 1)) (us.drop k) := by
  obtain ⟨c, r, hd, hc, hr⟩ := drop_of_byteAt hi
  have hne : ¬ c = 46 := fun e => h (by rw [hc, e]; rfl)
  have hx : s[i]'hi = c := by
    have h1 := byteAt_eq s i (by simpa using hi)
    rw [hc] at h1
    have : (s[i]'hi).toNat = c.toNat := by
      have h2 : ((c.toNat : Nat) : Int) = ((s[i]'hi).toNat : Int) := h1
      omega
    exact UInt8.toNat_inj.1 this
  have hf : fillL (s.data.toList.drop i) (us.drop k) = c :: fillL (s.data.toList.drop (i + 1)) (us.drop k) := by
    rw [hd, fillL, if_neg hne, hr]
  refine ⟨?_, c, hx, hf⟩
  rw [hf, Lib.extract_data, hd]
  have : i + 1 - i = 1 := by omega
  rw [this]
  simp

/-- The leaves that are left. -/
theorem dots_drop {s : ByteArray} {i : Nat} (hi : i < s.size) : (s.data.toList.drop i).count 46 = (if byteAt s i = 46 then 1 else 0) + (s.data.toList.drop (i + 1)).count 46 := by
  obtain ⟨c, r, hd, hc, hr⟩ := drop_of_byteAt hi
  rw [hd, List.count_cons, hr, hc]
  by_cases h : c = 46
  · subst h; simp; omega
  · have : ¬ ((c.toNat : Int) = 46) := fun e => h (u8_eq (n := 46) (by omega) e)
    rw [if_neg this]
    simp [h]

set_option maxRecDepth 100000 in
set_option maxHeartbeats 2000000 in
theorem prFill_any (b1 : Nat) (s : ByteArray) (v : Value) (us : List ByteArray) (w : World) (hs : s.size ≤ 1000) (hv : CellsS b1 w v us) (hd : s.data.toList.count 46 ≤ us.length) (_hu : us.length ≤ 1000) (hl : (fillL s.data.toList us).length ≤ 1000000) :
    Calls Tryz.prog 84 #[.string s, v] w (Gives (.string (fillB s us)) w) := by
  obtain ⟨oa, cap, rfl, h1, h2, hc⟩ := hv.form
  unfold maxLen at h2
  clear hv
  obtain ⟨F, hF⟩ : ∃ F, F = fillL s.data.toList us := ⟨_, rfl⟩
  have hB : fillB s us = ⟨F.toArray⟩ := by rw [hF]; rfl
  rw [← hF] at hl
  rw [hB]
  have HF := Lib.hid hF
  clear hF hB
  go_enter Tryz.func84, Tryz.ntmps84
  go_wp2_with fail
  go_loopw [5, 6, 7] (fun o k i wr => ∃ (x : ByteArray) (a j : Nat), o = .string x ∧ k = .int .i64 a ∧ i = .int .i64 j ∧ j ≤ s.size ∧ a ≤ us.length ∧ Below w.heap.size w wr ∧ x.size ≤ 1000000 ∧ (s.data.toList.drop j).count 46 + a ≤ us.length ∧ Hid (F = x.data.toList ++ fillL (s.data.toList.drop j) (us.drop a))) (fun _ _ i _ => s.size - (intOf i).toNat)
  case atStart => exact ⟨⟨#[]⟩, 0, 0, rfl, rfl, rfl, Nat.zero_le _, Nat.zero_le _, Below.refl _ _, Nat.zero_le _, by simpa using hd, by show _ = _; rw [HF.out]; simp⟩
  case round =>
    obtain ⟨x, a, j, rfl, rfl, rfl, hj, ha, hbw, hx, hcnt, he⟩ := hrel
    by_cases hlt : j < s.size
    · have hcc := dots_drop hlt
      have hbj := byteAt_eq s j (by simpa using hlt)
      have hlt' : (j : Int) < (s.size : Int) := by omega
      by_cases h46 : byteAt s j = 46
      · rw [if_pos h46] at hcc
        have hka : a < us.length := by omega
        have hfd := fill_dot hlt hka h46
        have h46' : (((s[j]'hlt).toNat : Int) == 46) = true := by
          rw [beq_iff_eq, ← h46, hbj]; rfl
        obtain ⟨g, rfl, _, hg, c1⟩ := hc a hka
        have c1' := (hbw.cell (p := ⟨g, a, none⟩) hg).trans c1
        have he' : F = (x ++ us.getD a ⟨#[]⟩).data.toList ++ fillL (s.data.toList.drop (j + 1)) (us.drop (a + 1)) := by
          rw [he.out, hfd]; simp
        have hz : (x ++ us.getD a ⟨#[]⟩).size ≤ 1000000 := by
          rw [Lib.size_eq]
          have := congrArg List.length he'
          rw [List.length_append] at this
          omega
        rw [ByteArray.size_append] at hz
        generalize us.getD a ⟨#[]⟩ = u at *
        have HE := Lib.hid he'
        clear hfd he' he c1 hbj h46
        go_wp2_with fail
        go_roundw
        case rel => exact ⟨x ++ u, a + 1, j + 1, rfl, by go_num, by go_num, by omega, by omega, hbw, by rw [ByteArray.size_append]; exact hz, by omega, HE⟩
        case measure => simp [intOf]; omega
      · rw [if_neg h46] at hcc
        have hfd := (fill_other (us := us) (k := a) hlt h46).1
        have h46' : (((s[j]'hlt).toNat : Int) == 46) = false := by
          rw [beq_eq_false_iff_ne]; intro e; apply h46; rw [hbj]; exact e
        have he' : F = (x ++ s.extract j (j + 1)).data.toList ++ fillL (s.data.toList.drop (j + 1)) (us.drop a) := by
          rw [he.out, hfd]; simp
        have hz : (x ++ s.extract j (j + 1)).size ≤ 1000000 := by
          rw [Lib.size_eq]
          have := congrArg List.length he'
          rw [List.length_append] at this
          omega
        have hz' : x.size + (s.extract j (j + 1)).size ≤ 1000000 := by rw [ByteArray.size_append] at hz; exact hz
        have HE := Lib.hid he'
        clear hfd he' he hbj h46
        go_wp2_with fail
        go_roundw
        case rel => exact ⟨x ++ s.extract j (j + 1), a, j + 1, rfl, rfl, by go_num, by omega, by omega, hbw, hz, by omega, HE⟩
        case measure => simp [intOf]; omega
    · obtain rfl : j = s.size := by omega
      have hend : F = x.data.toList := by
        rw [he.out, List.drop_of_length_le (by rw [Lib.size_eq]; exact Nat.le_refl _)]
        simp [fillL]
      have HE := Lib.hid hend
      clear hend he
      go_wp2_with fail
      go_ret
      exact ⟨ret_str (by rw [HE.out]), hbw⟩

set_option maxRecDepth 100000 in
set_option maxHeartbeats 2000000 in
theorem withLeaves_any (b1 : Nat) (s : ByteArray) (v : Value) (us : List ByteArray) (w : World) (hs : s.size ≤ 1000) (hv : CellsS b1 w v us) (hd : s.data.toList.count 46 ≤ us.length) (_hu : us.length ≤ 1000) (hl : (fillL s.data.toList us).length ≤ 1000000) (hne : fillL s.data.toList us ≠ []) :
    Calls Tryz.prog 78 #[.string s, v] w (Gives (.string (fillB s us)) w) := by
  obtain ⟨oa, cap, rfl, h1, h2, hc⟩ := hv.form
  unfold maxLen at h2
  clear hv
  obtain ⟨F, hF⟩ : ∃ F, F = fillL s.data.toList us := ⟨_, rfl⟩
  have hB : fillB s us = ⟨F.toArray⟩ := by rw [hF]; rfl
  rw [← hF] at hl hne
  rw [hB]
  have HF := Lib.hid hF
  clear hF hB
  go_enter Tryz.func78, Tryz.ntmps78
  go_wp2_with fail
  go_loopw [6, 10] (fun k i wr => ∃ (x : List UInt8) (a j : Nat), k = .int .i64 a ∧ i = .int .i64 j ∧ j ≤ s.size ∧ a ≤ us.length ∧ Below w.heap.size w wr ∧ w.heap.size < wr.heap.size ∧ x.length ≤ 1000000 ∧ IsBld w.heap.size w.heap.size (Lib.byteCells x) wr ∧ (s.data.toList.drop j).count 46 + a ≤ us.length ∧ Hid (F = x ++ fillL (s.data.toList.drop j) (us.drop a))) (fun _ i _ => s.size - (intOf i).toNat)
  case atStart => exact ⟨[], 0, 0, rfl, rfl, Nat.zero_le _, Nat.zero_le _, nxAlloc (Below.refl _ _) _, by simp, Nat.zero_le _, Lib.fresh_isBuilder _ _ _, by simpa using hd, by show _ = _; rw [HF.out]; simp⟩
  case round =>
    obtain ⟨x, a, j, rfl, rfl, hj, ha, hbw, hlw, hx, hbld, hcnt, he⟩ := hrel
    by_cases hlt : j < s.size
    · have hcc := dots_drop hlt
      have hbj := byteAt_eq s j (by simpa using hlt)
      have hlt' : (j : Int) < (s.size : Int) := by omega
      by_cases h46 : byteAt s j = 46
      · rw [if_pos h46] at hcc
        have hka : a < us.length := by omega
        have hfd := fill_dot hlt hka h46
        have h46' : (((s[j]'hlt).toNat : Int) != 46) = false := by
          rw [bne_eq_false_iff_eq, ← h46, hbj]; rfl
        obtain ⟨g, rfl, _, hg, c1⟩ := hc a hka
        have c1' := (hbw.cell (p := ⟨g, a, none⟩) hg).trans c1
        have he' : F = (x ++ (us.getD a ⟨#[]⟩).data.toList) ++ fillL (s.data.toList.drop (j + 1)) (us.drop (a + 1)) := by
          rw [he.out, hfd]; simp
        have hz : (x ++ (us.getD a ⟨#[]⟩).data.toList).length ≤ 1000000 := by
          have := congrArg List.length he'
          rw [List.length_append] at this
          omega
        have hz2 : x.length + (us.getD a ⟨#[]⟩).size ≤ 1000000 := by rw [List.length_append, ← Lib.size_eq] at hz; exact hz
        generalize us.getD a ⟨#[]⟩ = u at *
        have HE := Lib.hid he'
        clear hfd he' he c1 hbj h46
        have gz : ((⟨#[46]⟩ : ByteArray)[0]'(by decide)).toNat = 46 := rfl
        go_wp2_with fail
        go_quiet (fail)
        clear gz h46'
        have hbw2 : Below w.heap.size w (wr.drewN nq) := drewB hbw nq
        have hlw2 : w.heap.size < (wr.drewN nq).heap.size := hlw
        have hbld2 := hbld.drewN nq
        have c2 : (wr.drewN nq).cell? ⟨g, a, none⟩ = some (.string u) := c1'
        generalize wr.drewN nq = w2 at *
        clear hbw hlw hbld c1'
        go_wp2_with fail
        refine (writeString_any w.heap.size w.heap.size _ u _ hbld2 (by rw [Lib.byteCells_length]; omega) (Nat.le_of_lt hlw2)).mono ?_; rintro e w3 ⟨rfl, hbld3, hb3⟩
        rw [Lib.strCells_eq, byteCells_app] at hbld3
        have hbw3 := hbw2.trans hb3
        have hlw3 : w.heap.size < w3.heap.size := Nat.lt_of_lt_of_le hlw2 hb3.size
        clear c2 hbld2 hb3 hbw2 hlw2
        go_wp2_with fail
        go_roundw
        case rel => exact ⟨x ++ u.data.toList, a + 1, j + 1, by go_num, by go_num, by omega, by omega, hbw3, hlw3, hz, hbld3, by omega, HE⟩
        case measure => simp [intOf]; omega
      · rw [if_neg h46] at hcc
        obtain ⟨c, hsc, hfd⟩ := (fill_other (us := us) (k := a) hlt h46).2
        have h46' : (((s[j]'hlt).toNat : Int) != 46) = true := by
          rw [bne_iff_ne]; intro e; apply h46; rw [hbj]; exact e
        have he' : F = (x ++ [c]) ++ fillL (s.data.toList.drop (j + 1)) (us.drop a) := by
          rw [he.out, hfd]; simp
        have hz : (x ++ [c]).length ≤ 1000000 := by
          have := congrArg List.length he'
          rw [List.length_append] at this
          omega
        have hz2 : x.length + 1 ≤ 1000000 := by rw [List.length_append] at hz; exact hz
        have HE := Lib.hid he'
        have hsc' : Hid (((s[j]'hlt).toNat : Int) = (c.toNat : Int)) := by show _ = _; rw [hsc]
        clear hfd he' he hbj h46 hsc
        have gz : ((⟨#[46]⟩ : ByteArray)[0]'(by decide)).toNat = 46 := rfl
        go_wp2_with fail
        go_quiet (fail)
        clear gz h46'
        have hbw2 : Below w.heap.size w (wr.drewN nq) := drewB hbw nq
        have hlw2 : w.heap.size < (wr.drewN nq).heap.size := hlw
        have hbld2 := hbld.drewN nq
        generalize wr.drewN nq = w2 at *
        clear hbw hlw hbld
        go_wp2_with fail
        refine (writeByte_any w.heap.size w.heap.size _ _ _ hbld2 (by rw [Lib.byteCells_length]; omega) (Nat.le_of_lt hlw2)).mono ?_; rintro e w3 ⟨rfl, hbld3, hb3⟩
        rw [hsc'.out, show Lib.byteCells x ++ [Value.int .u8 (c.toNat : Int)] = Lib.byteCells (x ++ [c]) by rw [← byteCells_app]; rfl] at hbld3
        have hbw3 := hbw2.trans hb3
        have hlw3 : w.heap.size < w3.heap.size := Nat.lt_of_lt_of_le hlw2 hb3.size
        clear hbld2 hb3 hbw2 hlw2
        go_wp2_with fail
        go_roundw
        case rel => exact ⟨x ++ [c], a, j + 1, rfl, by go_num, by omega, by omega, hbw3, hlw3, hz, hbld3, by omega, HE⟩
        case measure => simp [intOf]; omega
    · obtain rfl : j = s.size := by omega
      have hend : F = x := by
        rw [he.out, List.drop_of_length_le (by rw [Lib.size_eq]; exact Nat.le_refl _)]
        simp [fillL]
      have HE := Lib.hid hend
      clear hend he
      go_wp2_with fail
      refine (builderString_any _ _ x _ hbld (by rw [← HE.out]; exact hne)).mono ?_; rintro e w1 ⟨rfl, hb1⟩
      go_wp2_with fail
      go_ret
      exact ⟨ret_str (by rw [HE.out]), hbw.trans hb1⟩
end Go.Proofs.YtjmbkieocmhmiaaGreat

/-! TreeO -/
namespace Go.Proofs.YtjmbkieocmhmiaaGreat
open Go.RowKit

theorem keep_cell {w w' : World} {b o : Nat} {v : Value} (hb : Below w.heap.size w w') (h : w.cell? ⟨b, o, none⟩ = some v) : w'.cell? ⟨b, o, none⟩ = some v :=
  (hb.cell (p := ⟨b, o, none⟩) (World.block_lt_of_cell? _ _ h)).trans h

theorem treeOf_any (t : Tr) (w : World) (h : t.carets ≤ 1000) : Calls Tryz.prog 75 #[.string t.str] w (GivesNode t w) := by
  have hz := t.str_size
  have hp := place_any (t.str.size + 1) t.str
  rw [parse_str t _ (by have := t.text_len; omega)] at hp
  have hp' : ∀ w, Calls Tryz.prog 104 #[.string t.str] w (PlaceOk t [] t.str w) := fun w => hp w (by omega) (by omega)
  clear hz hp
  go_enter Tryz.func75, Tryz.ntmps75
  go_wp2_with fail
  refine (hp' _).mono ?_; rintro e w1 ⟨b1, s1, hs1, hz1, hn1, hb1, rfl⟩
  clear hs1 hz1
  go_wp2_with fail
  go_ret
  exact ⟨b1, hn1, hb1, rfl⟩

end Go.Proofs.YtjmbkieocmhmiaaGreat

/-! Times -/
namespace Go.Proofs.YtjmbkieocmhmiaaGreat
open Go.RowKit

/-- What is asked of the factors of a product, and what its parts are. -/
theorem raw_len {p q : Pr} (hp : okP p) (hq : okP q) : (subsS p.2 (p.2.join q.1)).length = p.1.leaves ∧ (subsS q.1 (p.2.join q.1)).length = q.2.leaves := by
  have h1 := subsS_length p.2 _ (part_join p.2 q.1)
  have h2 := subsS_length q.1 _ (part_join' p.2 q.1)
  unfold okP Tr.leaves at *
  omega
theorem raw_fill1 {p q : Pr} (hp : okP p) (hq : okP q) : fillB p.1.str (subsS p.2 (p.2.join q.1)) = (rawP p q).1.str :=
  fillB_tr p.1 _ (by have := (raw_len hp hq).1; unfold subsS at this; simpa using this)
theorem raw_fill2 {p q : Pr} (hp : okP p) (hq : okP q) : fillB q.2.str (subsS q.1 (p.2.join q.1)) = (rawP p q).2.str :=
  fillB_tr q.2 _ (by have := (raw_len hp hq).2; unfold subsS at this; simpa using this)
theorem fillL_of {s : ByteArray} {us : List ByteArray} {t : Tr} (h : fillB s us = t.str) : fillL s.data.toList us = t.text := by
  have := congrArg (fun b : ByteArray => b.data.toList) h
  simpa [fillB, Tr.str] using this
theorem text_ne (t : Tr) : t.text ≠ [] := by cases t <;> simp [Tr.text]

theorem prFill_raw1 {p q : Pr} (hp : okP p) (hq : okP q) (h1 : p.1.carets ≤ 30) (h2 : q.1.carets ≤ 30) (b1 : Nat) (v : Value) (w : World) (hv : CellsS b1 w v (subsS p.2 (p.2.join q.1))) :
    Calls Tryz.prog 84 #[.string p.1.str, v] w (Gives (.string (rawP p q).1.str) w) := by
  have hl := raw_len hp hq
  have hr := rawP_carets hp hq
  have hj := join_carets p.2 q.1
  have ht := (rawP p q).1.text_len
  unfold okP at hp hq
  have hz := p.1.str_size
  unfold Tr.leaves at hl
  have := prFill_any b1 p.1.str v _ w (by omega) hv (by rw [Tr.str_list, text_dots]; omega) (by omega) (by rw [fillL_of (raw_fill1 hp hq)]; omega)
  rwa [raw_fill1 hp hq] at this

theorem prFill_raw2 {p q : Pr} (hp : okP p) (hq : okP q) (h1 : p.1.carets ≤ 30) (h2 : q.1.carets ≤ 30) (b1 : Nat) (v : Value) (w : World) (hv : CellsS b1 w v (subsS q.1 (p.2.join q.1))) :
    Calls Tryz.prog 84 #[.string q.2.str, v] w (Gives (.string (rawP p q).2.str) w) := by
  have hl := raw_len hp hq
  have hr := rawP_carets hp hq
  have hj := join_carets p.2 q.1
  have ht := (rawP p q).2.text_len
  unfold okP at hp hq
  have hz := q.2.str_size
  unfold Tr.leaves at hl
  have := prFill_any b1 q.2.str v _ w (by omega) hv (by rw [Tr.str_list, text_dots]; omega) (by omega) (by rw [fillL_of (raw_fill2 hp hq)]; omega)
  rwa [raw_fill2 hp hq] at this

theorem withLeaves_raw1 {p q : Pr} (hp : okP p) (hq : okP q) (h1 : p.1.carets ≤ 30) (h2 : q.1.carets ≤ 30) (b1 : Nat) (v : Value) (w : World) (hv : CellsS b1 w v (subsS p.2 (p.2.join q.1))) :
    Calls Tryz.prog 78 #[.string p.1.str, v] w (Gives (.string (rawP p q).1.str) w) := by
  have hl := raw_len hp hq
  have hr := rawP_carets hp hq
  have hj := join_carets p.2 q.1
  have ht := (rawP p q).1.text_len
  unfold okP at hp hq
  have hz := p.1.str_size
  unfold Tr.leaves at hl
  have := withLeaves_any b1 p.1.str v _ w (by omega) hv (by rw [Tr.str_list, text_dots]; omega) (by omega) (by rw [fillL_of (raw_fill1 hp hq)]; omega) (by rw [fillL_of (raw_fill1 hp hq)]; exact text_ne _)
  rwa [raw_fill1 hp hq] at this

theorem withLeaves_raw2 {p q : Pr} (hp : okP p) (hq : okP q) (h1 : p.1.carets ≤ 30) (h2 : q.1.carets ≤ 30) (b1 : Nat) (v : Value) (w : World) (hv : CellsS b1 w v (subsS q.1 (p.2.join q.1))) :
    Calls Tryz.prog 78 #[.string q.2.str, v] w (Gives (.string (rawP p q).2.str) w) := by
  have hl := raw_len hp hq
  have hr := rawP_carets hp hq
  have hj := join_carets p.2 q.1
  have ht := (rawP p q).2.text_len
  unfold okP at hp hq
  have hz := q.2.str_size
  unfold Tr.leaves at hl
  have := withLeaves_any b1 q.2.str v _ w (by omega) hv (by rw [Tr.str_list, text_dots]; omega) (by omega) (by rw [fillL_of (raw_fill2 hp hq)]; omega) (by rw [fillL_of (raw_fill2 hp hq)]; exact text_ne _)
  rwa [raw_fill2 hp hq] at this

set_option maxRecDepth 100000 in
set_option maxHeartbeats 4000000 in
theorem product_any (p q : Pr) (w : World) (hp : okP p) (hq : okP q) (h1 : p.1.carets ≤ 30) (h2 : q.1.carets ≤ 30) :
    Calls Tryz.prog 37 #[.agg #[.string p.1.str, .string p.2.str], .agg #[.string q.1.str, .string q.2.str]] w (Gives (.agg #[.string (mulP p q).1.str, .string (mulP p q).2.str]) w) := by
  have hr := rawP_carets hp hq
  have hj := join_carets p.2 q.1
  have hp' : p.1.carets = p.2.carets := hp
  have hq' : q.1.carets = q.2.carets := hq
  have T1 := fun w => treeOf_any p.2 w (by omega)
  have T2 := fun w => treeOf_any q.1 w (by omega)
  have W1 := fun b v w h => withLeaves_raw1 hp hq h1 h2 b v w h
  have W2 := fun b v w h => withLeaves_raw2 hp hq h1 h2 b v w h
  have RR : ∀ w, Calls Tryz.prog 77 #[.agg #[.string (rawP p q).1.str, .string (rawP p q).2.str], .func (Fn.func 80) #[] #[]] w (Gives (.agg #[.string (mulP p q).1.str, .string (mulP p q).2.str]) w) := fun w => reducedBy_first (rawP p q) w (by omega) (by omega)
  have PJ1 := part_join p.2 q.1
  have PJ2 := part_join' p.2 q.1
  have hjc : (p.2.join q.1).carets ≤ 60 := by omega
  clear hr hj
  go_enter Tryz.func37, Tryz.ntmps37
  go_wp2_with fail
  have hb0 : Below w.heap.size w (((w.alloc (.cells #[.string p.1.str, .string p.2.str] 25 (0, 0))).alloc (.cells #[.string q.1.str, .string q.2.str] 25 (0, 0))).alloc (.cells #[.string ⟨#[]⟩, .string ⟨#[]⟩] 25 (0, 0))) := nxAlloc (nxAlloc (nxAlloc (Below.refl _ _) _) _) _
  have hx0 := heap_keep (nxAlloc (Below.refl _ _) (.cells #[.string ⟨#[]⟩, .string ⟨#[]⟩] 25 (0, 0))) (heap_keep (nxAlloc (Below.refl _ _) (.cells #[.string q.1.str, .string q.2.str] 25 (0, 0))) (heap_alloc_at w (.cells #[.string p.1.str, .string p.2.str] 25 (0, 0))))
  have hx1 := heap_keep (nxAlloc (Below.refl _ _) (.cells #[.string ⟨#[]⟩, .string ⟨#[]⟩] 25 (0, 0))) (heap_alloc_at (w.alloc (.cells #[.string p.1.str, .string p.2.str] 25 (0, 0))) (.cells #[.string q.1.str, .string q.2.str] 25 (0, 0)))
  have hx2 := heap_alloc_at ((w.alloc (.cells #[.string p.1.str, .string p.2.str] 25 (0, 0))).alloc (.cells #[.string q.1.str, .string q.2.str] 25 (0, 0))) (.cells #[.string ⟨#[]⟩, .string ⟨#[]⟩] 25 (0, 0))
  generalize (((w.alloc (.cells #[.string p.1.str, .string p.2.str] 25 (0, 0))).alloc (.cells #[.string q.1.str, .string q.2.str] 25 (0, 0))).alloc (.cells #[.string ⟨#[]⟩, .string ⟨#[]⟩] 25 (0, 0))) = w0 at *
  have e1 : (w.alloc (.cells #[.string p.1.str, .string p.2.str] 25 (0, 0))).heap.size = w.heap.size + 1 := by simp
  rw [e1] at hx1
  clear e1
  have e2 : ((w.alloc (.cells #[.string p.1.str, .string p.2.str] 25 (0, 0))).alloc (.cells #[.string q.1.str, .string q.2.str] 25 (0, 0))).heap.size = w.heap.size + 1 + 1 := by simp
  rw [e2] at hx2
  clear e2
  obtain ⟨hx0a, hx0b, hx0c⟩ := two_facts hx0
  obtain ⟨hx0f, hx0g⟩ := two_frozen hx0
  obtain ⟨hx1a, hx1b, hx1c⟩ := two_facts hx1
  obtain ⟨hx1f, hx1g⟩ := two_frozen hx1
  obtain ⟨hx2a, hx2b, hx2c⟩ := two_facts hx2
  obtain ⟨hx2f, hx2g⟩ := two_frozen hx2
  have hz0 := Below.refl w0.heap.size w0
  go_region_held3 (fun w' => w'.cell? ⟨w.heap.size, 1, none⟩ = some (.string p.2.str) ∧ w'.cell? ⟨w.heap.size + 1, 0, none⟩ = some (.string q.1.str))
    (first
      | exact ⟨hx0b, hx1a⟩
      | exact ⟨A1, A2⟩
      | exact ⟨B1, B2⟩)
    (first
      | (go_at_call 75; (with_reducible refine (T1 _).mono ?_); rintro e w1 ⟨b1, hn1, hb1, rfl⟩; have hb1' := nx hz0.drew hb1; have A1 := keep_cell hb1' hx0b; have A2 := keep_cell hb1' hx1a)
      | (go_at_call 75; (with_reducible refine (T2 _).mono ?_); rintro e w2 ⟨b2, hn2, hb2, rfl⟩; have hb2' := nx hb1' hb2; have B1 := keep_cell hb2' hx0b; have B2 := keep_cell hb2' hx1a))
  go_wp2_with fail
  have hn1' := hn1.keep hb2
  refine (join_any p.2 q.1 b1 b2 _ hn1' hn2).mono ?_; rintro e w3 ⟨b3, hn3, hb3, rfl⟩
  have hbw3 := nx hb0 (nx hb2' hb3)
  have m1 := hn1'.keep hb3
  have m2 := hn2.keep hb3
  have hy0 := heap_keep (nx hb2' hb3) hx0
  have hy1 := heap_keep (nx hb2' hb3) hx1
  have hy2 := heap_keep (nx hb2' hb3) hx2
  have hb00 := Below.refl w3.heap.size w3
  clear hx0 hx1 hx2 hx0a hx0b hx0c hx0f hx0g hx1a hx1b hx1c hx1f hx1g hx2a hx2b hx2c hx2f hx2g A1 A2 B1 B2 hn1 hn2 hn1' hb1 hb2 hb1' hb2' hb3 hz0 hb0 T1 T2
  obtain ⟨k1, _⟩ := two_cells hy0
  obtain ⟨_, k2⟩ := two_cells hy1
  generalize hJ : p.2.join q.1 = J at *
  clear hJ
  go_wp2_with fail
  go_region_held3 (fun w' => w'.cell? ⟨w.heap.size, 0, none⟩ = some (.string p.1.str) ∧ w'.cell? ⟨w.heap.size + 1, 1, none⟩ = some (.string q.2.str))
    (first
      | exact ⟨k1, k2⟩
      | exact ⟨A1, A2⟩
      | exact ⟨B1, B2⟩
      | exact ⟨C1, C2⟩
      | exact ⟨D1, D2⟩
      | exact ⟨E1, E2⟩
      | exact ⟨G1, G2⟩)
    (first
      | (go_at_call_of 79 (some (⟨b1, 0, none⟩ : Addr)); refine (below_any p.2 J b1 b3 _ ?_ ?_ PJ1 hjc).mono ?_; exact m1.keep hb00.drew; exact hn3.keep hb00.drew; rintro e w4 ⟨g1, cap1, own1, hb4, rfl⟩; have hb4' := nx hb00.drew hb4; have A1 := keep_cell hb4' k1; have A2 := keep_cell hb4' k2)
      | (go_at_call_of 78 (some (⟨g1, 0, none⟩ : Addr)); refine (W1 _ _ _ own1.cells).mono ?_; rintro e w5 ⟨rfl, hb5⟩; have hb5' := nx hb4' hb5; have B1 := keep_cell hb5' k1; have B2 := keep_cell hb5' k2)
      | (go_at_call_of 79 (some (⟨b2, 0, none⟩ : Addr)); refine (below_any q.1 J b2 b3 _ ?_ ?_ PJ2 hjc).mono ?_; exact m2.keep hb5'; exact hn3.keep hb5'; rintro e w6 ⟨g2, cap2, own2, hb6, rfl⟩; have hb6' := nx hb5' hb6; have C1 := keep_cell hb6' k1; have C2 := keep_cell hb6' k2)
      | (go_at_call_of 78 (some (⟨g2, 0, none⟩ : Addr)); refine (W2 _ _ _ own2.cells).mono ?_; rintro e w7 ⟨rfl, hb7⟩; have hb7' := nx hb6' hb7; have D1 := keep_cell hb7' k1; have D2 := keep_cell hb7' k2)
      | (go_at_call 77; refine (RR _).mono ?_; rintro e w8 ⟨rfl, hb8⟩; have hb8' := nx hb7' hb8; have E1 := keep_cell hb8' k1; have E2 := keep_cell hb8' k2; have hz2 := heap_keep hb8' hy2; have hz0 := heap_keep hb8' hy0; have hz1 := heap_keep hb8' hy1; obtain ⟨n1, n2⟩ := two_cells hz2; obtain ⟨f1, f2⟩ := two_frozen hz2; have hq0 := (Below.heap_setCell (w8.setCell ⟨w.heap.size + 1 + 1, 0, none⟩ (.string (mulP p q).1.str)) ⟨w.heap.size + 1 + 1, 1, none⟩ (.string (mulP p q).2.str) w.heap.size (by show ¬ w.heap.size = w.heap.size + 1 + 1; omega)).trans ((Below.heap_setCell w8 ⟨w.heap.size + 1 + 1, 0, none⟩ (.string (mulP p q).1.str) w.heap.size (by show ¬ w.heap.size = w.heap.size + 1 + 1; omega)).trans hz0); have hq1 := (Below.heap_setCell (w8.setCell ⟨w.heap.size + 1 + 1, 0, none⟩ (.string (mulP p q).1.str)) ⟨w.heap.size + 1 + 1, 1, none⟩ (.string (mulP p q).2.str) (w.heap.size + 1) (by show ¬ w.heap.size + 1 = w.heap.size + 1 + 1; omega)).trans ((Below.heap_setCell w8 ⟨w.heap.size + 1 + 1, 0, none⟩ (.string (mulP p q).1.str) (w.heap.size + 1) (by show ¬ w.heap.size + 1 = w.heap.size + 1 + 1; omega)).trans hz1); have G1 := (two_cells hq0).1; have G2 := (two_cells hq1).2))
  go_wp2_with fail
  obtain ⟨q1, q2⟩ := two_cells (set_two (.string (mulP p q).1.str) (.string (mulP p q).2.str) hz2)
  refine bodyPost_ret (v := .agg #[.string (mulP p q).1.str, .string (mulP p q).2.str]) (by simp [q1, q2, results, Tryz.results37, go_sem]) rfl ⟨rfl, ?_⟩
  exact ((nx hbw3 hb8').setCell (by show w.heap.size ≤ w.heap.size + 1 + 1; omega) _).setCell (by show w.heap.size ≤ w.heap.size + 1 + 1; omega) _

set_option maxRecDepth 100000 in
set_option maxHeartbeats 4000000 in
theorem prTimes_any (p q : Pr) (w : World) (hp : okP p) (hq : okP q) (h1 : p.1.carets ≤ 30) (h2 : q.1.carets ≤ 30) :
    Calls Tryz.prog 40 #[.agg #[.string p.1.str, .string p.2.str], .agg #[.string q.1.str, .string q.2.str]] w (Gives (.agg #[.string (mulP p q).1.str, .string (mulP p q).2.str]) w) := by
  have hr := rawP_carets hp hq
  have hj := join_carets p.2 q.1
  have hp' : p.1.carets = p.2.carets := hp
  have hq' : q.1.carets = q.2.carets := hq
  have W1 := fun b v w h => prFill_raw1 hp hq h1 h2 b v w h
  have W2 := fun b v w h => prFill_raw2 hp hq h1 h2 b v w h
  have RR : ∀ w, Calls Tryz.prog 83 #[.agg #[.string (rawP p q).1.str, .string (rawP p q).2.str], .slice none 0 0] w (Gives (.agg #[.string (mulP p q).1.str, .string (mulP p q).2.str]) w) := fun w => prReduce_nil (rawP p q) w (by omega) (by omega)
  have P1 := fun w => prParts_any p.2 (p.2.join q.1) w (part_join p.2 q.1) (by omega)
  have P2 := fun w => prParts_any q.1 (p.2.join q.1) w (part_join' p.2 q.1) (by omega)
  have J := fun w => trJoin_any p.2 q.1 w (by omega) (by omega)
  clear hr hj
  go_enter Tryz.func40, Tryz.ntmps40
  go_wp2_with fail
  have hb0 : Below w.heap.size w (((w.alloc (.cells #[.string p.1.str, .string p.2.str] 25 (0, 0))).alloc (.cells #[.string q.1.str, .string q.2.str] 25 (0, 0))).alloc (.cells #[.string ⟨#[]⟩, .string ⟨#[]⟩] 25 (0, 0))) := nxAlloc (nxAlloc (nxAlloc (Below.refl _ _) _) _) _
  have hx0 := heap_keep (nxAlloc (Below.refl _ _) (.cells #[.string ⟨#[]⟩, .string ⟨#[]⟩] 25 (0, 0))) (heap_keep (nxAlloc (Below.refl _ _) (.cells #[.string q.1.str, .string q.2.str] 25 (0, 0))) (heap_alloc_at w (.cells #[.string p.1.str, .string p.2.str] 25 (0, 0))))
  have hx1 := heap_keep (nxAlloc (Below.refl _ _) (.cells #[.string ⟨#[]⟩, .string ⟨#[]⟩] 25 (0, 0))) (heap_alloc_at (w.alloc (.cells #[.string p.1.str, .string p.2.str] 25 (0, 0))) (.cells #[.string q.1.str, .string q.2.str] 25 (0, 0)))
  have hx2 := heap_alloc_at ((w.alloc (.cells #[.string p.1.str, .string p.2.str] 25 (0, 0))).alloc (.cells #[.string q.1.str, .string q.2.str] 25 (0, 0))) (.cells #[.string ⟨#[]⟩, .string ⟨#[]⟩] 25 (0, 0))
  generalize (((w.alloc (.cells #[.string p.1.str, .string p.2.str] 25 (0, 0))).alloc (.cells #[.string q.1.str, .string q.2.str] 25 (0, 0))).alloc (.cells #[.string ⟨#[]⟩, .string ⟨#[]⟩] 25 (0, 0))) = w0 at *
  have e1 : (w.alloc (.cells #[.string p.1.str, .string p.2.str] 25 (0, 0))).heap.size = w.heap.size + 1 := by simp
  rw [e1] at hx1
  clear e1
  have e2 : ((w.alloc (.cells #[.string p.1.str, .string p.2.str] 25 (0, 0))).alloc (.cells #[.string q.1.str, .string q.2.str] 25 (0, 0))).heap.size = w.heap.size + 1 + 1 := by simp
  rw [e2] at hx2
  clear e2
  obtain ⟨hx0a, hx0b, hx0c⟩ := two_facts hx0
  obtain ⟨hx0f, hx0g⟩ := two_frozen hx0
  obtain ⟨hx1a, hx1b, hx1c⟩ := two_facts hx1
  obtain ⟨hx1f, hx1g⟩ := two_frozen hx1
  obtain ⟨hx2a, hx2b, hx2c⟩ := two_facts hx2
  obtain ⟨hx2f, hx2g⟩ := two_frozen hx2
  refine (J _).mono ?_; rintro e w1 ⟨rfl, hb1⟩
  have hbw1 := nx hb0 hb1
  replace hx0 := heap_keep hb1 hx0
  replace hx1 := heap_keep hb1 hx1
  replace hx2 := heap_keep hb1 hx2
  clear hx0a hx0b hx0c hx0f hx0g
  obtain ⟨hx0a, hx0b, hx0c⟩ := two_facts hx0
  obtain ⟨hx0f, hx0g⟩ := two_frozen hx0
  clear hx1a hx1b hx1c hx1f hx1g
  obtain ⟨hx1a, hx1b, hx1c⟩ := two_facts hx1
  obtain ⟨hx1f, hx1g⟩ := two_frozen hx1
  clear hx2a hx2b hx2c hx2f hx2g
  obtain ⟨hx2a, hx2b, hx2c⟩ := two_facts hx2
  obtain ⟨hx2f, hx2g⟩ := two_frozen hx2
  clear hb1 hb0
  have hb00 := Below.refl w1.heap.size w1
  generalize p.2.join q.1 = G at *
  go_wp2_with fail
  go_region_held3 (fun w' => w'.cell? ⟨w.heap.size, 0, none⟩ = some (.string p.1.str) ∧ w'.cell? ⟨w.heap.size, 1, none⟩ = some (.string p.2.str) ∧ w'.cell? ⟨w.heap.size + 1, 0, none⟩ = some (.string q.1.str) ∧ w'.cell? ⟨w.heap.size + 1, 1, none⟩ = some (.string q.2.str))
    (first
      | exact ⟨hx0a, hx0b, hx1a, hx1b⟩
      | exact ⟨A1.1, A1.2, A2.1, A2.2⟩
      | exact ⟨B1.1, B1.2, B2.1, B2.2⟩
      | exact ⟨C1.1, C1.2, C2.1, C2.2⟩
      | exact ⟨D1.1, D1.2, D2.1, D2.2⟩
      | exact ⟨E1.1, E1.2, E2.1, E2.2⟩
      | exact ⟨G1.1, G1.2, G2.1, G2.2⟩)
    (first
      | (go_at_call 85; (with_reducible refine (P1 _).mono ?_); rintro e w4 ⟨g1, cap1, own1, hb4, rfl⟩; have hb4' := nx hb00.drew hb4; have A1 := two_cells (heap_keep hb4' hx0); have A2 := two_cells (heap_keep hb4' hx1))
      | (go_at_call_of 84 (some (⟨g1, 0, none⟩ : Addr)); refine (W1 _ _ _ own1.cells).mono ?_; rintro e w5 ⟨rfl, hb5⟩; have hb5' := nx hb4' hb5; have B1 := two_cells (heap_keep hb5' hx0); have B2 := two_cells (heap_keep hb5' hx1))
      | (go_at_call 85; (with_reducible refine (P2 _).mono ?_); rintro e w6 ⟨g2, cap2, own2, hb6, rfl⟩; have hb6' := nx hb5' hb6; have C1 := two_cells (heap_keep hb6' hx0); have C2 := two_cells (heap_keep hb6' hx1))
      | (go_at_call_of 84 (some (⟨g2, 0, none⟩ : Addr)); refine (W2 _ _ _ own2.cells).mono ?_; rintro e w7 ⟨rfl, hb7⟩; have hb7' := nx hb6' hb7; have D1 := two_cells (heap_keep hb7' hx0); have D2 := two_cells (heap_keep hb7' hx1))
      | (go_at_call 83; refine (RR _).mono ?_; rintro e w8 ⟨rfl, hb8⟩; have hb8' := nx hb7' hb8; have hz0 := heap_keep hb8' hx0; have hz1 := heap_keep hb8' hx1; have hz2 := heap_keep hb8' hx2; have E1 := two_cells hz0; have E2 := two_cells hz1; obtain ⟨n1, n2⟩ := two_cells hz2; obtain ⟨f1, f2⟩ := two_frozen hz2; have hq0 := (Below.heap_setCell (w8.setCell ⟨w.heap.size + 1 + 1, 0, none⟩ (.string (mulP p q).1.str)) ⟨w.heap.size + 1 + 1, 1, none⟩ (.string (mulP p q).2.str) w.heap.size (by show ¬ w.heap.size = w.heap.size + 1 + 1; omega)).trans ((Below.heap_setCell w8 ⟨w.heap.size + 1 + 1, 0, none⟩ (.string (mulP p q).1.str) w.heap.size (by show ¬ w.heap.size = w.heap.size + 1 + 1; omega)).trans hz0); have hq1 := (Below.heap_setCell (w8.setCell ⟨w.heap.size + 1 + 1, 0, none⟩ (.string (mulP p q).1.str)) ⟨w.heap.size + 1 + 1, 1, none⟩ (.string (mulP p q).2.str) (w.heap.size + 1) (by show ¬ (w.heap.size + 1) = w.heap.size + 1 + 1; omega)).trans ((Below.heap_setCell w8 ⟨w.heap.size + 1 + 1, 0, none⟩ (.string (mulP p q).1.str) (w.heap.size + 1) (by show ¬ (w.heap.size + 1) = w.heap.size + 1 + 1; omega)).trans hz1); have G1 := two_cells hq0; have G2 := two_cells hq1))
  go_wp2_with fail
  obtain ⟨q1, q2⟩ := two_cells (set_two (.string (mulP p q).1.str) (.string (mulP p q).2.str) hz2)
  refine bodyPost_ret (v := .agg #[.string (mulP p q).1.str, .string (mulP p q).2.str]) (by simp [q1, q2, results, Tryz.results40, go_sem]) rfl ⟨rfl, ?_⟩
  exact ((nx hbw1 hb8').setCell (by show w.heap.size ≤ w.heap.size + 1 + 1; omega) _).setCell (by show w.heap.size ≤ w.heap.size + 1 + 1; omega) _
end Go.Proofs.YtjmbkieocmhmiaaGreat

/-! LimP -/
namespace Go.Proofs.YtjmbkieocmhmiaaGreat
open Go.RowKit

/-- A pair, if its trees have no more carets than allowed. -/
def limP (p : Pr) : Option Pr := if p.1.carets ≤ 8 then some p else none
theorem treeOf_big {t : Tr} (h : 8 < t.carets) : treeOf t.str = none := by
  unfold treeOf
  rw [parse_str t _ (by have := t.str_size; have := t.text_len; omega)]
  show (if t.carets ≤ 8 then some t else none) = none
  rw [if_neg (by omega)]
theorem pairOf_lim {p : Pr} (h : okP p) : pairOf p.1.str p.2.str = limP p := by
  unfold limP
  by_cases hc : p.1.carets ≤ 8
  · rw [if_pos hc, pairOf_str h hc]
  · rw [if_neg hc]
    unfold pairOf
    rw [treeOf_big (by omega)]

set_option maxHeartbeats 1000000 in
theorem prIf_any (p : Pr) (w : World) (hok : okP p) (hz : p.1.carets ≤ 1000) :
    Calls Tryz.prog 39 #[.agg #[.string p.1.str, .string p.2.str]] w (Gives (ansPr (limP p)) w) := by
  have hz2 : p.2.carets ≤ 1000 := by unfold okP at hok; omega
  have s1 := p.1.str_size
  have s2 := p.2.str_size
  have hg := fun w => prGood_any p.1.str p.2.str w (by omega) (by omega)
  rw [pairOf_lim hok] at hg
  clear s1 s2
  cases h : limP p with
  | none =>
    rw [h] at hg
    clear h
    go_enter Tryz.func39, Tryz.ntmps39
    go_wp2_with fail
    have hb0 : Below w.heap.size w ((w.alloc (.cells #[.string p.1.str, .string p.2.str] 25 (0, 0))).alloc (.cells #[.string ⟨#[]⟩, .string ⟨#[]⟩] 25 (0, 0))) := nxAlloc (nxAlloc (Below.refl _ _) _) _
    have hx0 := heap_keep (nxAlloc (Below.refl _ _) (.cells #[.string ⟨#[]⟩, .string ⟨#[]⟩] 25 (0, 0))) (heap_alloc_at w (.cells #[.string p.1.str, .string p.2.str] 25 (0, 0)))
    have hx1 := heap_alloc_at (w.alloc (.cells #[.string p.1.str, .string p.2.str] 25 (0, 0))) (.cells #[.string ⟨#[]⟩, .string ⟨#[]⟩] 25 (0, 0))
    generalize ((w.alloc (.cells #[.string p.1.str, .string p.2.str] 25 (0, 0))).alloc (.cells #[.string ⟨#[]⟩, .string ⟨#[]⟩] 25 (0, 0))) = w0 at *
    have e1 : (w.alloc (.cells #[.string p.1.str, .string p.2.str] 25 (0, 0))).heap.size = w.heap.size + 1 := by simp
    rw [e1] at hx1
    clear e1
    obtain ⟨hx0a, hx0b, hx0c⟩ := two_facts hx0
    obtain ⟨hx0f, hx0g⟩ := two_frozen hx0
    obtain ⟨hx1a, hx1b, hx1c⟩ := two_facts hx1
    obtain ⟨hx1f, hx1g⟩ := two_frozen hx1
    refine (hg _).mono ?_; rintro e w1 ⟨rfl, hb1⟩
    have hbw1 := nx hb0 hb1
    replace hx0 := heap_keep hb1 hx0
    replace hx1 := heap_keep hb1 hx1
    clear hx0a hx0b hx0c hx0f hx0g
    obtain ⟨hx0a, hx0b, hx0c⟩ := two_facts hx0
    obtain ⟨hx0f, hx0g⟩ := two_frozen hx0
    clear hx1a hx1b hx1c hx1f hx1g
    obtain ⟨hx1a, hx1b, hx1c⟩ := two_facts hx1
    obtain ⟨hx1f, hx1g⟩ := two_frozen hx1
    clear hb1 hb0
    go_wp2_with fail
    obtain ⟨q1, q2⟩ := two_cells (set_two (.string ⟨#[]⟩) (.string ⟨#[]⟩) hx1)
    refine bodyPost_ret (v := .tuple #[.agg #[.string ⟨#[]⟩, .string ⟨#[]⟩], .bool false]) (by simp [q1, q2, results, Tryz.results39, go_sem]) rfl ⟨rfl, ?_⟩
    exact (hbw1.setCell (by show w.heap.size ≤ w.heap.size + 1; omega) _).setCell (by show w.heap.size ≤ w.heap.size + 1; omega) _
  | some q =>
    have e : q = p := by
      unfold limP at h
      split at h
      · injection h with h; exact h.symm
      · simp at h
    subst e
    rw [h] at hg
    clear h
    go_enter Tryz.func39, Tryz.ntmps39
    go_wp2_with fail
    have hb0 : Below w.heap.size w ((w.alloc (.cells #[.string q.1.str, .string q.2.str] 25 (0, 0))).alloc (.cells #[.string ⟨#[]⟩, .string ⟨#[]⟩] 25 (0, 0))) := nxAlloc (nxAlloc (Below.refl _ _) _) _
    have hx0 := heap_keep (nxAlloc (Below.refl _ _) (.cells #[.string ⟨#[]⟩, .string ⟨#[]⟩] 25 (0, 0))) (heap_alloc_at w (.cells #[.string q.1.str, .string q.2.str] 25 (0, 0)))
    have hx1 := heap_alloc_at (w.alloc (.cells #[.string q.1.str, .string q.2.str] 25 (0, 0))) (.cells #[.string ⟨#[]⟩, .string ⟨#[]⟩] 25 (0, 0))
    generalize ((w.alloc (.cells #[.string q.1.str, .string q.2.str] 25 (0, 0))).alloc (.cells #[.string ⟨#[]⟩, .string ⟨#[]⟩] 25 (0, 0))) = w0 at *
    have e1 : (w.alloc (.cells #[.string q.1.str, .string q.2.str] 25 (0, 0))).heap.size = w.heap.size + 1 := by simp
    rw [e1] at hx1
    clear e1
    obtain ⟨hx0a, hx0b, hx0c⟩ := two_facts hx0
    obtain ⟨hx0f, hx0g⟩ := two_frozen hx0
    obtain ⟨hx1a, hx1b, hx1c⟩ := two_facts hx1
    obtain ⟨hx1f, hx1g⟩ := two_frozen hx1
    refine (hg _).mono ?_; rintro e w1 ⟨rfl, hb1⟩
    have hbw1 := nx hb0 hb1
    replace hx0 := heap_keep hb1 hx0
    replace hx1 := heap_keep hb1 hx1
    clear hx0a hx0b hx0c hx0f hx0g
    obtain ⟨hx0a, hx0b, hx0c⟩ := two_facts hx0
    obtain ⟨hx0f, hx0g⟩ := two_frozen hx0
    clear hx1a hx1b hx1c hx1f hx1g
    obtain ⟨hx1a, hx1b, hx1c⟩ := two_facts hx1
    obtain ⟨hx1f, hx1g⟩ := two_frozen hx1
    clear hb1 hb0
    go_wp2_with fail
    obtain ⟨q1, q2⟩ := two_cells (set_two (.string q.1.str) (.string q.2.str) hx1)
    refine bodyPost_ret (v := .tuple #[.agg #[.string q.1.str, .string q.2.str], .bool true]) (by simp [q1, q2, results, Tryz.results39, go_sem]) rfl ⟨rfl, ?_⟩
    exact (hbw1.setCell (by show w.heap.size ≤ w.heap.size + 1; omega) _).setCell (by show w.heap.size ≤ w.heap.size + 1; omega) _

set_option maxHeartbeats 1000000 in
theorem pairLimit_any (p : Pr) (w : World) :
    Calls Tryz.prog 36 #[.agg #[.string p.1.str, .string p.2.str]] w (Gives (ansPr (limP p)) w) := by
  have hg : ∀ w, Calls Tryz.prog 74 #[.string p.1.str] w (Gives (ansV (lim p.1)) w) := fun w => (limit_any p.1 w).mono fun _ _ ⟨h1, h2⟩ => ⟨h1, by rw [← h2]; exact Below.refl _ _⟩
  unfold lim at hg
  unfold limP
  by_cases h : p.1.carets ≤ 8
  · rw [if_pos h] at hg ⊢
    have hg' : ∀ w, Calls Tryz.prog 74 #[.string p.1.str] w (Gives (.tuple #[.string p.1.str, .bool true]) w) := hg
    clear hg h
    go_enter Tryz.func36, Tryz.ntmps36
    go_wp2_with fail
    have hb0 : Below w.heap.size w ((w.alloc (.cells #[.string p.1.str, .string p.2.str] 25 (0, 0))).alloc (.cells #[.string ⟨#[]⟩, .string ⟨#[]⟩] 25 (0, 0))) := nxAlloc (nxAlloc (Below.refl _ _) _) _
    have hx0 := heap_keep (nxAlloc (Below.refl _ _) (.cells #[.string ⟨#[]⟩, .string ⟨#[]⟩] 25 (0, 0))) (heap_alloc_at w (.cells #[.string p.1.str, .string p.2.str] 25 (0, 0)))
    have hx1 := heap_alloc_at (w.alloc (.cells #[.string p.1.str, .string p.2.str] 25 (0, 0))) (.cells #[.string ⟨#[]⟩, .string ⟨#[]⟩] 25 (0, 0))
    generalize ((w.alloc (.cells #[.string p.1.str, .string p.2.str] 25 (0, 0))).alloc (.cells #[.string ⟨#[]⟩, .string ⟨#[]⟩] 25 (0, 0))) = w0 at *
    have e1 : (w.alloc (.cells #[.string p.1.str, .string p.2.str] 25 (0, 0))).heap.size = w.heap.size + 1 := by simp
    rw [e1] at hx1
    clear e1
    obtain ⟨hx0a, hx0b, hx0c⟩ := two_facts hx0
    obtain ⟨hx0f, hx0g⟩ := two_frozen hx0
    obtain ⟨hx1a, hx1b, hx1c⟩ := two_facts hx1
    obtain ⟨hx1f, hx1g⟩ := two_frozen hx1
    refine (hg' _).mono ?_; rintro e w1 ⟨rfl, hb1⟩
    have hbw1 := nx hb0 hb1
    replace hx0 := heap_keep hb1 hx0
    replace hx1 := heap_keep hb1 hx1
    clear hx0a hx0b hx0c hx0f hx0g
    obtain ⟨hx0a, hx0b, hx0c⟩ := two_facts hx0
    obtain ⟨hx0f, hx0g⟩ := two_frozen hx0
    clear hx1a hx1b hx1c hx1f hx1g
    obtain ⟨hx1a, hx1b, hx1c⟩ := two_facts hx1
    obtain ⟨hx1f, hx1g⟩ := two_frozen hx1
    clear hb1 hb0
    go_wp2_with fail
    obtain ⟨q1, q2⟩ := two_cells (set_two (.string p.1.str) (.string p.2.str) hx1)
    refine bodyPost_ret (v := .tuple #[.agg #[.string p.1.str, .string p.2.str], .bool true]) (by simp [q1, q2, results, Tryz.results36, go_sem]) rfl ⟨rfl, ?_⟩
    exact (hbw1.setCell (by show w.heap.size ≤ w.heap.size + 1; omega) _).setCell (by show w.heap.size ≤ w.heap.size + 1; omega) _
  · rw [if_neg h] at hg ⊢
    have hg' : ∀ w, Calls Tryz.prog 74 #[.string p.1.str] w (Gives (.tuple #[.string ⟨#[]⟩, .bool false]) w) := hg
    clear hg h
    go_enter Tryz.func36, Tryz.ntmps36
    go_wp2_with fail
    have hb0 : Below w.heap.size w ((w.alloc (.cells #[.string p.1.str, .string p.2.str] 25 (0, 0))).alloc (.cells #[.string ⟨#[]⟩, .string ⟨#[]⟩] 25 (0, 0))) := nxAlloc (nxAlloc (Below.refl _ _) _) _
    have hx0 := heap_keep (nxAlloc (Below.refl _ _) (.cells #[.string ⟨#[]⟩, .string ⟨#[]⟩] 25 (0, 0))) (heap_alloc_at w (.cells #[.string p.1.str, .string p.2.str] 25 (0, 0)))
    have hx1 := heap_alloc_at (w.alloc (.cells #[.string p.1.str, .string p.2.str] 25 (0, 0))) (.cells #[.string ⟨#[]⟩, .string ⟨#[]⟩] 25 (0, 0))
    generalize ((w.alloc (.cells #[.string p.1.str, .string p.2.str] 25 (0, 0))).alloc (.cells #[.string ⟨#[]⟩, .string ⟨#[]⟩] 25 (0, 0))) = w0 at *
    have e1 : (w.alloc (.cells #[.string p.1.str, .string p.2.str] 25 (0, 0))).heap.size = w.heap.size + 1 := by simp
    rw [e1] at hx1
    clear e1
    obtain ⟨hx0a, hx0b, hx0c⟩ := two_facts hx0
    obtain ⟨hx0f, hx0g⟩ := two_frozen hx0
    obtain ⟨hx1a, hx1b, hx1c⟩ := two_facts hx1
    obtain ⟨hx1f, hx1g⟩ := two_frozen hx1
    refine (hg' _).mono ?_; rintro e w1 ⟨rfl, hb1⟩
    have hbw1 := nx hb0 hb1
    replace hx0 := heap_keep hb1 hx0
    replace hx1 := heap_keep hb1 hx1
    clear hx0a hx0b hx0c hx0f hx0g
    obtain ⟨hx0a, hx0b, hx0c⟩ := two_facts hx0
    obtain ⟨hx0f, hx0g⟩ := two_frozen hx0
    clear hx1a hx1b hx1c hx1f hx1g
    obtain ⟨hx1a, hx1b, hx1c⟩ := two_facts hx1
    obtain ⟨hx1f, hx1g⟩ := two_frozen hx1
    clear hb1 hb0
    go_wp2_with fail
    obtain ⟨q1, q2⟩ := two_cells (set_two (.string ⟨#[]⟩) (.string ⟨#[]⟩) hx1)
    refine bodyPost_ret (v := .tuple #[.agg #[.string ⟨#[]⟩, .string ⟨#[]⟩], .bool false]) (by simp [q1, q2, results, Tryz.results36, go_sem]) rfl ⟨rfl, ?_⟩
    exact (hbw1.setCell (by show w.heap.size ≤ w.heap.size + 1; omega) _).setCell (by show w.heap.size ≤ w.heap.size + 1; omega) _
end Go.Proofs.YtjmbkieocmhmiaaGreat

/-! Unit -/
namespace Go.Proofs.YtjmbkieocmhmiaaGreat
open Go.RowKit

/-- The pair of two leaves. -/
def unitP : Pr := (.lf, .lf)
/-- The product of so many, if none on the way is too great. -/
def pwN (b : Pr) : Nat → Option Pr
  | 0 => some unitP
  | k + 1 => (pwN b k).bind fun o => limP (mulP o b)
def powP (p : Pr) (k : Int) : Option Pr := if -10 ≤ k ∧ k ≤ 10 then (if k < 0 then pwN (invP p) (-k).toNat else pwN p k.toNat) else none

theorem limP_some {p q : Pr} (h : limP p = some q) : q = p ∧ p.1.carets ≤ 8 := by
  unfold limP at h
  split at h
  · next hc => injection h with h; exact ⟨h.symm, hc⟩
  · simp at h
theorem pwN_ok {b : Pr} (hb : okP b) : ∀ {k : Nat} {o : Pr}, pwN b k = some o → okP o ∧ o.1.carets ≤ 8 := by
  intro k
  induction k with
  | zero => intro o h; injection h with h; subst h; exact ⟨rfl, by decide⟩
  | succ k ih =>
    intro o h
    rw [pwN] at h
    cases h1 : pwN b k with
    | none => rw [h1] at h; simp at h
    | some q =>
      rw [h1] at h
      obtain ⟨e, hc⟩ := limP_some (show limP (mulP q b) = some o from h)
      rw [e]
      exact ⟨mulP_ok (ih h1).1 hb, hc⟩
theorem pwN_none {b : Pr} {k : Nat} (h : pwN b k = none) : ∀ j, k ≤ j → pwN b j = none := by
  intro j hj
  induction j with
  | zero => have : k = 0 := by omega
            subst this; exact h
  | succ j ih =>
    by_cases e : k = j + 1
    · rw [← e]; exact h
    · rw [pwN, ih (by omega)]; rfl

theorem prUnit_any (w : World) : Calls Tryz.prog 50 #[] w (Gives (.agg #[.string Tr.lf.str, .string Tr.lf.str]) w) := by
  go_enter Tryz.func50, Tryz.ntmps50
  go_wp2
  refine bodyPost_ret (v := .agg #[.string Tr.lf.str, .string Tr.lf.str]) (by simp [results, Tryz.results50, go_sem]; rfl) rfl ⟨rfl, ?_⟩
  exact nxAlloc (Below.refl _ _) _

theorem identity_any (w : World) : Calls Tryz.prog 16 #[] w (Gives (.agg #[.string Tr.lf.str, .string Tr.lf.str]) w) := by
  go_enter Tryz.func16, Tryz.ntmps16
  go_wp2
  refine bodyPost_ret (v := .agg #[.string Tr.lf.str, .string Tr.lf.str]) (by simp [results, Tryz.results16, go_sem]; rfl) rfl ⟨rfl, ?_⟩
  exact nxAlloc (Below.refl _ _) _
end Go.Proofs.YtjmbkieocmhmiaaGreat

/-! ProdC -/
namespace Go.Proofs.YtjmbkieocmhmiaaGreat
open Go.RowKit

set_option maxRecDepth 100000 in
set_option maxHeartbeats 2000000 in
theorem specProductPair_any (a b c d : ByteArray) (w : World) (ha : a.size ≤ 9223372036854775806) (hb : b.size ≤ 9223372036854775806) (hc : c.size ≤ 9223372036854775806) (hd : d.size ≤ 9223372036854775806) :
    Calls Tryz.prog 8 #[.agg #[.string a, .string b], .agg #[.string c, .string d]] w (Gives (ansPr ((pairOf a b).bind fun p => (pairOf c d).bind fun q => limP (mulP p q))) w) := by
  have hg := fun w => prGood_any a b w ha hb
  have hk := fun w => prGood_any c d w hc hd
  cases h : pairOf a b with
  | none =>
    rw [h] at hg
    clear h hk
    go_enter Tryz.func8, Tryz.ntmps8
    go_wp2_with fail
    have hb0 : Below w.heap.size w (((w.alloc (.cells #[.string a, .string b] 25 (0, 0))).alloc (.cells #[.string c, .string d] 25 (0, 0))).alloc (.cells #[.string ⟨#[]⟩, .string ⟨#[]⟩] 25 (0, 0))) := nxAlloc (nxAlloc (nxAlloc (Below.refl _ _) _) _) _
    have hx0 := heap_keep (nxAlloc (Below.refl _ _) (.cells #[.string ⟨#[]⟩, .string ⟨#[]⟩] 25 (0, 0))) (heap_keep (nxAlloc (Below.refl _ _) (.cells #[.string c, .string d] 25 (0, 0))) (heap_alloc_at w (.cells #[.string a, .string b] 25 (0, 0))))
    have hx1 := heap_keep (nxAlloc (Below.refl _ _) (.cells #[.string ⟨#[]⟩, .string ⟨#[]⟩] 25 (0, 0))) (heap_alloc_at (w.alloc (.cells #[.string a, .string b] 25 (0, 0))) (.cells #[.string c, .string d] 25 (0, 0)))
    have hx2 := heap_alloc_at ((w.alloc (.cells #[.string a, .string b] 25 (0, 0))).alloc (.cells #[.string c, .string d] 25 (0, 0))) (.cells #[.string ⟨#[]⟩, .string ⟨#[]⟩] 25 (0, 0))
    generalize (((w.alloc (.cells #[.string a, .string b] 25 (0, 0))).alloc (.cells #[.string c, .string d] 25 (0, 0))).alloc (.cells #[.string ⟨#[]⟩, .string ⟨#[]⟩] 25 (0, 0))) = w0 at *
    have e1 : (w.alloc (.cells #[.string a, .string b] 25 (0, 0))).heap.size = w.heap.size + 1 := by simp
    rw [e1] at hx1
    clear e1
    have e2 : ((w.alloc (.cells #[.string a, .string b] 25 (0, 0))).alloc (.cells #[.string c, .string d] 25 (0, 0))).heap.size = w.heap.size + 1 + 1 := by simp
    rw [e2] at hx2
    clear e2
    obtain ⟨hx0a, hx0b, hx0c⟩ := two_facts hx0
    obtain ⟨hx0f, hx0g⟩ := two_frozen hx0
    obtain ⟨hx1a, hx1b, hx1c⟩ := two_facts hx1
    obtain ⟨hx1f, hx1g⟩ := two_frozen hx1
    obtain ⟨hx2a, hx2b, hx2c⟩ := two_facts hx2
    obtain ⟨hx2f, hx2g⟩ := two_frozen hx2
    refine (hg _).mono ?_; rintro e w1 ⟨rfl, hb1⟩
    have hbw1 := nx hb0 hb1
    replace hx0 := heap_keep hb1 hx0
    replace hx1 := heap_keep hb1 hx1
    replace hx2 := heap_keep hb1 hx2
    clear hx0a hx0b hx0c hx0f hx0g
    obtain ⟨hx0a, hx0b, hx0c⟩ := two_facts hx0
    obtain ⟨hx0f, hx0g⟩ := two_frozen hx0
    clear hx1a hx1b hx1c hx1f hx1g
    obtain ⟨hx1a, hx1b, hx1c⟩ := two_facts hx1
    obtain ⟨hx1f, hx1g⟩ := two_frozen hx1
    clear hx2a hx2b hx2c hx2f hx2g
    obtain ⟨hx2a, hx2b, hx2c⟩ := two_facts hx2
    obtain ⟨hx2f, hx2g⟩ := two_frozen hx2
    clear hb1 hb0
    go_wp2_with fail
    obtain ⟨q1, q2⟩ := two_cells (set_two (.string ⟨#[]⟩) (.string ⟨#[]⟩) hx2)
    refine bodyPost_ret (v := .tuple #[.agg #[.string ⟨#[]⟩, .string ⟨#[]⟩], .bool false]) (by simp [q1, q2, results, Tryz.results8, go_sem]) rfl ⟨rfl, ?_⟩
    exact (hbw1.setCell (by show w.heap.size ≤ w.heap.size + 1 + 1; omega) _).setCell (by show w.heap.size ≤ w.heap.size + 1 + 1; omega) _
  | some p =>
    rw [h] at hg
    obtain ⟨rfl, rfl, hok1, hp1, hp2⟩ := pairOf_some h
    clear h
    cases k : pairOf c d with
    | none =>
      rw [k] at hk
      clear k
      go_enter Tryz.func8, Tryz.ntmps8
      go_wp2_with fail
      have hb0 : Below w.heap.size w (((w.alloc (.cells #[.string p.1.str, .string p.2.str] 25 (0, 0))).alloc (.cells #[.string c, .string d] 25 (0, 0))).alloc (.cells #[.string ⟨#[]⟩, .string ⟨#[]⟩] 25 (0, 0))) := nxAlloc (nxAlloc (nxAlloc (Below.refl _ _) _) _) _
      have hx0 := heap_keep (nxAlloc (Below.refl _ _) (.cells #[.string ⟨#[]⟩, .string ⟨#[]⟩] 25 (0, 0))) (heap_keep (nxAlloc (Below.refl _ _) (.cells #[.string c, .string d] 25 (0, 0))) (heap_alloc_at w (.cells #[.string p.1.str, .string p.2.str] 25 (0, 0))))
      have hx1 := heap_keep (nxAlloc (Below.refl _ _) (.cells #[.string ⟨#[]⟩, .string ⟨#[]⟩] 25 (0, 0))) (heap_alloc_at (w.alloc (.cells #[.string p.1.str, .string p.2.str] 25 (0, 0))) (.cells #[.string c, .string d] 25 (0, 0)))
      have hx2 := heap_alloc_at ((w.alloc (.cells #[.string p.1.str, .string p.2.str] 25 (0, 0))).alloc (.cells #[.string c, .string d] 25 (0, 0))) (.cells #[.string ⟨#[]⟩, .string ⟨#[]⟩] 25 (0, 0))
      generalize (((w.alloc (.cells #[.string p.1.str, .string p.2.str] 25 (0, 0))).alloc (.cells #[.string c, .string d] 25 (0, 0))).alloc (.cells #[.string ⟨#[]⟩, .string ⟨#[]⟩] 25 (0, 0))) = w0 at *
      have e1 : (w.alloc (.cells #[.string p.1.str, .string p.2.str] 25 (0, 0))).heap.size = w.heap.size + 1 := by simp
      rw [e1] at hx1
      clear e1
      have e2 : ((w.alloc (.cells #[.string p.1.str, .string p.2.str] 25 (0, 0))).alloc (.cells #[.string c, .string d] 25 (0, 0))).heap.size = w.heap.size + 1 + 1 := by simp
      rw [e2] at hx2
      clear e2
      obtain ⟨hx0a, hx0b, hx0c⟩ := two_facts hx0
      obtain ⟨hx0f, hx0g⟩ := two_frozen hx0
      obtain ⟨hx1a, hx1b, hx1c⟩ := two_facts hx1
      obtain ⟨hx1f, hx1g⟩ := two_frozen hx1
      obtain ⟨hx2a, hx2b, hx2c⟩ := two_facts hx2
      obtain ⟨hx2f, hx2g⟩ := two_frozen hx2
      refine (hg _).mono ?_; rintro e w1 ⟨rfl, hb1⟩
      have hbw1 := nx hb0 hb1
      replace hx0 := heap_keep hb1 hx0
      replace hx1 := heap_keep hb1 hx1
      replace hx2 := heap_keep hb1 hx2
      clear hx0a hx0b hx0c hx0f hx0g
      obtain ⟨hx0a, hx0b, hx0c⟩ := two_facts hx0
      obtain ⟨hx0f, hx0g⟩ := two_frozen hx0
      clear hx1a hx1b hx1c hx1f hx1g
      obtain ⟨hx1a, hx1b, hx1c⟩ := two_facts hx1
      obtain ⟨hx1f, hx1g⟩ := two_frozen hx1
      clear hx2a hx2b hx2c hx2f hx2g
      obtain ⟨hx2a, hx2b, hx2c⟩ := two_facts hx2
      obtain ⟨hx2f, hx2g⟩ := two_frozen hx2
      clear hb1 hb0
      go_wp2_with fail
      refine (hk _).mono ?_; rintro e w2 ⟨rfl, hb2⟩
      have hbw2 := nx hbw1 hb2
      replace hx0 := heap_keep hb2 hx0
      replace hx1 := heap_keep hb2 hx1
      replace hx2 := heap_keep hb2 hx2
      clear hx0a hx0b hx0c hx0f hx0g
      obtain ⟨hx0a, hx0b, hx0c⟩ := two_facts hx0
      obtain ⟨hx0f, hx0g⟩ := two_frozen hx0
      clear hx1a hx1b hx1c hx1f hx1g
      obtain ⟨hx1a, hx1b, hx1c⟩ := two_facts hx1
      obtain ⟨hx1f, hx1g⟩ := two_frozen hx1
      clear hx2a hx2b hx2c hx2f hx2g
      obtain ⟨hx2a, hx2b, hx2c⟩ := two_facts hx2
      obtain ⟨hx2f, hx2g⟩ := two_frozen hx2
      clear hb2 hbw1
      go_wp2_with fail
      obtain ⟨q1, q2⟩ := two_cells (set_two (.string ⟨#[]⟩) (.string ⟨#[]⟩) hx2)
      refine bodyPost_ret (v := .tuple #[.agg #[.string ⟨#[]⟩, .string ⟨#[]⟩], .bool false]) (by simp [q1, q2, results, Tryz.results8, go_sem]) rfl ⟨rfl, ?_⟩
      exact (hbw2.setCell (by show w.heap.size ≤ w.heap.size + 1 + 1; omega) _).setCell (by show w.heap.size ≤ w.heap.size + 1 + 1; omega) _
    | some q =>
      rw [k] at hk
      obtain ⟨rfl, rfl, hok2, hq1, hq2⟩ := pairOf_some k
      clear k
      show Calls _ _ _ _ (Gives (ansPr (limP (mulP p q))) w)
      have hm := mulP_ok hok1 hok2
      have hmc := mulP_carets hok1 hok2
      have hL := fun w => prIf_any (mulP p q) w hm (by omega)
      generalize limP (mulP p q) = o at *
      unfold ansPr at *
      generalize pS1 o = X at *
      generalize pS2 o = Y at *
      generalize o.isSome = ok at *
      go_enter Tryz.func8, Tryz.ntmps8
      go_wp2_with fail
      have hb0 : Below w.heap.size w (((w.alloc (.cells #[.string p.1.str, .string p.2.str] 25 (0, 0))).alloc (.cells #[.string q.1.str, .string q.2.str] 25 (0, 0))).alloc (.cells #[.string ⟨#[]⟩, .string ⟨#[]⟩] 25 (0, 0))) := nxAlloc (nxAlloc (nxAlloc (Below.refl _ _) _) _) _
      have hx0 := heap_keep (nxAlloc (Below.refl _ _) (.cells #[.string ⟨#[]⟩, .string ⟨#[]⟩] 25 (0, 0))) (heap_keep (nxAlloc (Below.refl _ _) (.cells #[.string q.1.str, .string q.2.str] 25 (0, 0))) (heap_alloc_at w (.cells #[.string p.1.str, .string p.2.str] 25 (0, 0))))
      have hx1 := heap_keep (nxAlloc (Below.refl _ _) (.cells #[.string ⟨#[]⟩, .string ⟨#[]⟩] 25 (0, 0))) (heap_alloc_at (w.alloc (.cells #[.string p.1.str, .string p.2.str] 25 (0, 0))) (.cells #[.string q.1.str, .string q.2.str] 25 (0, 0)))
      have hx2 := heap_alloc_at ((w.alloc (.cells #[.string p.1.str, .string p.2.str] 25 (0, 0))).alloc (.cells #[.string q.1.str, .string q.2.str] 25 (0, 0))) (.cells #[.string ⟨#[]⟩, .string ⟨#[]⟩] 25 (0, 0))
      generalize (((w.alloc (.cells #[.string p.1.str, .string p.2.str] 25 (0, 0))).alloc (.cells #[.string q.1.str, .string q.2.str] 25 (0, 0))).alloc (.cells #[.string ⟨#[]⟩, .string ⟨#[]⟩] 25 (0, 0))) = w0 at *
      have e1 : (w.alloc (.cells #[.string p.1.str, .string p.2.str] 25 (0, 0))).heap.size = w.heap.size + 1 := by simp
      rw [e1] at hx1
      clear e1
      have e2 : ((w.alloc (.cells #[.string p.1.str, .string p.2.str] 25 (0, 0))).alloc (.cells #[.string q.1.str, .string q.2.str] 25 (0, 0))).heap.size = w.heap.size + 1 + 1 := by simp
      rw [e2] at hx2
      clear e2
      obtain ⟨hx0a, hx0b, hx0c⟩ := two_facts hx0
      obtain ⟨hx0f, hx0g⟩ := two_frozen hx0
      obtain ⟨hx1a, hx1b, hx1c⟩ := two_facts hx1
      obtain ⟨hx1f, hx1g⟩ := two_frozen hx1
      obtain ⟨hx2a, hx2b, hx2c⟩ := two_facts hx2
      obtain ⟨hx2f, hx2g⟩ := two_frozen hx2
      refine (hg _).mono ?_; rintro e w1 ⟨rfl, hb1⟩
      have hbw1 := nx hb0 hb1
      replace hx0 := heap_keep hb1 hx0
      replace hx1 := heap_keep hb1 hx1
      replace hx2 := heap_keep hb1 hx2
      clear hx0a hx0b hx0c hx0f hx0g
      obtain ⟨hx0a, hx0b, hx0c⟩ := two_facts hx0
      obtain ⟨hx0f, hx0g⟩ := two_frozen hx0
      clear hx1a hx1b hx1c hx1f hx1g
      obtain ⟨hx1a, hx1b, hx1c⟩ := two_facts hx1
      obtain ⟨hx1f, hx1g⟩ := two_frozen hx1
      clear hx2a hx2b hx2c hx2f hx2g
      obtain ⟨hx2a, hx2b, hx2c⟩ := two_facts hx2
      obtain ⟨hx2f, hx2g⟩ := two_frozen hx2
      clear hb1 hb0
      go_wp2_with fail
      refine (hk _).mono ?_; rintro e w2 ⟨rfl, hb2⟩
      have hbw2 := nx hbw1 hb2
      replace hx0 := heap_keep hb2 hx0
      replace hx1 := heap_keep hb2 hx1
      replace hx2 := heap_keep hb2 hx2
      clear hx0a hx0b hx0c hx0f hx0g
      obtain ⟨hx0a, hx0b, hx0c⟩ := two_facts hx0
      obtain ⟨hx0f, hx0g⟩ := two_frozen hx0
      clear hx1a hx1b hx1c hx1f hx1g
      obtain ⟨hx1a, hx1b, hx1c⟩ := two_facts hx1
      obtain ⟨hx1f, hx1g⟩ := two_frozen hx1
      clear hx2a hx2b hx2c hx2f hx2g
      obtain ⟨hx2a, hx2b, hx2c⟩ := two_facts hx2
      obtain ⟨hx2f, hx2g⟩ := two_frozen hx2
      clear hb2 hbw1
      go_wp2_with fail
      refine (prTimes_any p q _ hok1 hok2 (by omega) (by omega)).mono ?_; rintro e w3 ⟨rfl, hb3⟩
      have hbw3 := nx hbw2 hb3
      replace hx0 := heap_keep hb3 hx0
      replace hx1 := heap_keep hb3 hx1
      replace hx2 := heap_keep hb3 hx2
      clear hx0a hx0b hx0c hx0f hx0g
      obtain ⟨hx0a, hx0b, hx0c⟩ := two_facts hx0
      obtain ⟨hx0f, hx0g⟩ := two_frozen hx0
      clear hx1a hx1b hx1c hx1f hx1g
      obtain ⟨hx1a, hx1b, hx1c⟩ := two_facts hx1
      obtain ⟨hx1f, hx1g⟩ := two_frozen hx1
      clear hx2a hx2b hx2c hx2f hx2g
      obtain ⟨hx2a, hx2b, hx2c⟩ := two_facts hx2
      obtain ⟨hx2f, hx2g⟩ := two_frozen hx2
      clear hb3 hbw2
      go_wp2_with fail
      refine (hL _).mono ?_; rintro e w4 ⟨rfl, hb4⟩
      have hbw4 := nx hbw3 hb4
      replace hx0 := heap_keep hb4 hx0
      replace hx1 := heap_keep hb4 hx1
      replace hx2 := heap_keep hb4 hx2
      clear hx0a hx0b hx0c hx0f hx0g
      obtain ⟨hx0a, hx0b, hx0c⟩ := two_facts hx0
      obtain ⟨hx0f, hx0g⟩ := two_frozen hx0
      clear hx1a hx1b hx1c hx1f hx1g
      obtain ⟨hx1a, hx1b, hx1c⟩ := two_facts hx1
      obtain ⟨hx1f, hx1g⟩ := two_frozen hx1
      clear hx2a hx2b hx2c hx2f hx2g
      obtain ⟨hx2a, hx2b, hx2c⟩ := two_facts hx2
      obtain ⟨hx2f, hx2g⟩ := two_frozen hx2
      clear hb4 hbw3
      go_wp2_with fail
      obtain ⟨q1, q2⟩ := two_cells (set_two (.string X) (.string Y) hx2)
      refine bodyPost_ret (v := .tuple #[.agg #[.string X, .string Y], .bool ok]) (by simp [q1, q2, results, Tryz.results8, go_sem]) rfl ⟨rfl, ?_⟩
      exact (hbw4.setCell (by show w.heap.size ≤ w.heap.size + 1 + 1; omega) _).setCell (by show w.heap.size ≤ w.heap.size + 1 + 1; omega) _

set_option maxRecDepth 100000 in
set_option maxHeartbeats 2000000 in
theorem implProductPair_any (a b c d : ByteArray) (w : World) (ha : a.size ≤ 9223372036854775806) (hb : b.size ≤ 9223372036854775806) (hc : c.size ≤ 9223372036854775806) (hd : d.size ≤ 9223372036854775806) :
    Calls Tryz.prog 7 #[.agg #[.string a, .string b], .agg #[.string c, .string d]] w (Gives (ansPr ((pairOf a b).bind fun p => (pairOf c d).bind fun q => limP (mulP p q))) w) := by
  have hg := fun w => isPair_any a b w ha hb
  have hk := fun w => isPair_any c d w hc hd
  cases h : pairOf a b with
  | none =>
    rw [h] at hg
    clear h hk
    go_enter Tryz.func7, Tryz.ntmps7
    go_wp2_with fail
    have hb0 : Below w.heap.size w (((w.alloc (.cells #[.string a, .string b] 25 (0, 0))).alloc (.cells #[.string c, .string d] 25 (0, 0))).alloc (.cells #[.string ⟨#[]⟩, .string ⟨#[]⟩] 25 (0, 0))) := nxAlloc (nxAlloc (nxAlloc (Below.refl _ _) _) _) _
    have hx0 := heap_keep (nxAlloc (Below.refl _ _) (.cells #[.string ⟨#[]⟩, .string ⟨#[]⟩] 25 (0, 0))) (heap_keep (nxAlloc (Below.refl _ _) (.cells #[.string c, .string d] 25 (0, 0))) (heap_alloc_at w (.cells #[.string a, .string b] 25 (0, 0))))
    have hx1 := heap_keep (nxAlloc (Below.refl _ _) (.cells #[.string ⟨#[]⟩, .string ⟨#[]⟩] 25 (0, 0))) (heap_alloc_at (w.alloc (.cells #[.string a, .string b] 25 (0, 0))) (.cells #[.string c, .string d] 25 (0, 0)))
    have hx2 := heap_alloc_at ((w.alloc (.cells #[.string a, .string b] 25 (0, 0))).alloc (.cells #[.string c, .string d] 25 (0, 0))) (.cells #[.string ⟨#[]⟩, .string ⟨#[]⟩] 25 (0, 0))
    generalize (((w.alloc (.cells #[.string a, .string b] 25 (0, 0))).alloc (.cells #[.string c, .string d] 25 (0, 0))).alloc (.cells #[.string ⟨#[]⟩, .string ⟨#[]⟩] 25 (0, 0))) = w0 at *
    have e1 : (w.alloc (.cells #[.string a, .string b] 25 (0, 0))).heap.size = w.heap.size + 1 := by simp
    rw [e1] at hx1
    clear e1
    have e2 : ((w.alloc (.cells #[.string a, .string b] 25 (0, 0))).alloc (.cells #[.string c, .string d] 25 (0, 0))).heap.size = w.heap.size + 1 + 1 := by simp
    rw [e2] at hx2
    clear e2
    obtain ⟨hx0a, hx0b, hx0c⟩ := two_facts hx0
    obtain ⟨hx0f, hx0g⟩ := two_frozen hx0
    obtain ⟨hx1a, hx1b, hx1c⟩ := two_facts hx1
    obtain ⟨hx1f, hx1g⟩ := two_frozen hx1
    obtain ⟨hx2a, hx2b, hx2c⟩ := two_facts hx2
    obtain ⟨hx2f, hx2g⟩ := two_frozen hx2
    refine (hg _).mono ?_; rintro e w1 ⟨rfl, hb1⟩
    have hbw1 := nx hb0 hb1
    replace hx0 := heap_keep hb1 hx0
    replace hx1 := heap_keep hb1 hx1
    replace hx2 := heap_keep hb1 hx2
    clear hx0a hx0b hx0c hx0f hx0g
    obtain ⟨hx0a, hx0b, hx0c⟩ := two_facts hx0
    obtain ⟨hx0f, hx0g⟩ := two_frozen hx0
    clear hx1a hx1b hx1c hx1f hx1g
    obtain ⟨hx1a, hx1b, hx1c⟩ := two_facts hx1
    obtain ⟨hx1f, hx1g⟩ := two_frozen hx1
    clear hx2a hx2b hx2c hx2f hx2g
    obtain ⟨hx2a, hx2b, hx2c⟩ := two_facts hx2
    obtain ⟨hx2f, hx2g⟩ := two_frozen hx2
    clear hb1 hb0
    go_wp2_with fail
    obtain ⟨q1, q2⟩ := two_cells (set_two (.string ⟨#[]⟩) (.string ⟨#[]⟩) hx2)
    refine bodyPost_ret (v := .tuple #[.agg #[.string ⟨#[]⟩, .string ⟨#[]⟩], .bool false]) (by simp [q1, q2, results, Tryz.results7, go_sem]) rfl ⟨rfl, ?_⟩
    exact (hbw1.setCell (by show w.heap.size ≤ w.heap.size + 1 + 1; omega) _).setCell (by show w.heap.size ≤ w.heap.size + 1 + 1; omega) _
  | some p =>
    rw [h] at hg
    obtain ⟨rfl, rfl, hok1, hp1, hp2⟩ := pairOf_some h
    clear h
    cases k : pairOf c d with
    | none =>
      rw [k] at hk
      clear k
      go_enter Tryz.func7, Tryz.ntmps7
      go_wp2_with fail
      have hb0 : Below w.heap.size w (((w.alloc (.cells #[.string p.1.str, .string p.2.str] 25 (0, 0))).alloc (.cells #[.string c, .string d] 25 (0, 0))).alloc (.cells #[.string ⟨#[]⟩, .string ⟨#[]⟩] 25 (0, 0))) := nxAlloc (nxAlloc (nxAlloc (Below.refl _ _) _) _) _
      have hx0 := heap_keep (nxAlloc (Below.refl _ _) (.cells #[.string ⟨#[]⟩, .string ⟨#[]⟩] 25 (0, 0))) (heap_keep (nxAlloc (Below.refl _ _) (.cells #[.string c, .string d] 25 (0, 0))) (heap_alloc_at w (.cells #[.string p.1.str, .string p.2.str] 25 (0, 0))))
      have hx1 := heap_keep (nxAlloc (Below.refl _ _) (.cells #[.string ⟨#[]⟩, .string ⟨#[]⟩] 25 (0, 0))) (heap_alloc_at (w.alloc (.cells #[.string p.1.str, .string p.2.str] 25 (0, 0))) (.cells #[.string c, .string d] 25 (0, 0)))
      have hx2 := heap_alloc_at ((w.alloc (.cells #[.string p.1.str, .string p.2.str] 25 (0, 0))).alloc (.cells #[.string c, .string d] 25 (0, 0))) (.cells #[.string ⟨#[]⟩, .string ⟨#[]⟩] 25 (0, 0))
      generalize (((w.alloc (.cells #[.string p.1.str, .string p.2.str] 25 (0, 0))).alloc (.cells #[.string c, .string d] 25 (0, 0))).alloc (.cells #[.string ⟨#[]⟩, .string ⟨#[]⟩] 25 (0, 0))) = w0 at *
      have e1 : (w.alloc (.cells #[.string p.1.str, .string p.2.str] 25 (0, 0))).heap.size = w.heap.size + 1 := by simp
      rw [e1] at hx1
      clear e1
      have e2 : ((w.alloc (.cells #[.string p.1.str, .string p.2.str] 25 (0, 0))).alloc (.cells #[.string c, .string d] 25 (0, 0))).heap.size = w.heap.size + 1 + 1 := by simp
      rw [e2] at hx2
      clear e2
      obtain ⟨hx0a, hx0b, hx0c⟩ := two_facts hx0
      obtain ⟨hx0f, hx0g⟩ := two_frozen hx0
      obtain ⟨hx1a, hx1b, hx1c⟩ := two_facts hx1
      obtain ⟨hx1f, hx1g⟩ := two_frozen hx1
      obtain ⟨hx2a, hx2b, hx2c⟩ := two_facts hx2
      obtain ⟨hx2f, hx2g⟩ := two_frozen hx2
      refine (hg _).mono ?_; rintro e w1 ⟨rfl, hb1⟩
      have hbw1 := nx hb0 hb1
      replace hx0 := heap_keep hb1 hx0
      replace hx1 := heap_keep hb1 hx1
      replace hx2 := heap_keep hb1 hx2
      clear hx0a hx0b hx0c hx0f hx0g
      obtain ⟨hx0a, hx0b, hx0c⟩ := two_facts hx0
      obtain ⟨hx0f, hx0g⟩ := two_frozen hx0
      clear hx1a hx1b hx1c hx1f hx1g
      obtain ⟨hx1a, hx1b, hx1c⟩ := two_facts hx1
      obtain ⟨hx1f, hx1g⟩ := two_frozen hx1
      clear hx2a hx2b hx2c hx2f hx2g
      obtain ⟨hx2a, hx2b, hx2c⟩ := two_facts hx2
      obtain ⟨hx2f, hx2g⟩ := two_frozen hx2
      clear hb1 hb0
      go_wp2_with fail
      refine (hk _).mono ?_; rintro e w2 ⟨rfl, hb2⟩
      have hbw2 := nx hbw1 hb2
      replace hx0 := heap_keep hb2 hx0
      replace hx1 := heap_keep hb2 hx1
      replace hx2 := heap_keep hb2 hx2
      clear hx0a hx0b hx0c hx0f hx0g
      obtain ⟨hx0a, hx0b, hx0c⟩ := two_facts hx0
      obtain ⟨hx0f, hx0g⟩ := two_frozen hx0
      clear hx1a hx1b hx1c hx1f hx1g
      obtain ⟨hx1a, hx1b, hx1c⟩ := two_facts hx1
      obtain ⟨hx1f, hx1g⟩ := two_frozen hx1
      clear hx2a hx2b hx2c hx2f hx2g
      obtain ⟨hx2a, hx2b, hx2c⟩ := two_facts hx2
      obtain ⟨hx2f, hx2g⟩ := two_frozen hx2
      clear hb2 hbw1
      go_wp2_with fail
      obtain ⟨q1, q2⟩ := two_cells (set_two (.string ⟨#[]⟩) (.string ⟨#[]⟩) hx2)
      refine bodyPost_ret (v := .tuple #[.agg #[.string ⟨#[]⟩, .string ⟨#[]⟩], .bool false]) (by simp [q1, q2, results, Tryz.results7, go_sem]) rfl ⟨rfl, ?_⟩
      exact (hbw2.setCell (by show w.heap.size ≤ w.heap.size + 1 + 1; omega) _).setCell (by show w.heap.size ≤ w.heap.size + 1 + 1; omega) _
    | some q =>
      rw [k] at hk
      obtain ⟨rfl, rfl, hok2, hq1, hq2⟩ := pairOf_some k
      clear k
      show Calls _ _ _ _ (Gives (ansPr (limP (mulP p q))) w)
      have hm := mulP_ok hok1 hok2
      have hmc := mulP_carets hok1 hok2
      have hL := fun w => pairLimit_any (mulP p q) w
      generalize limP (mulP p q) = o at *
      unfold ansPr at *
      generalize pS1 o = X at *
      generalize pS2 o = Y at *
      generalize o.isSome = ok at *
      go_enter Tryz.func7, Tryz.ntmps7
      go_wp2_with fail
      have hb0 : Below w.heap.size w (((w.alloc (.cells #[.string p.1.str, .string p.2.str] 25 (0, 0))).alloc (.cells #[.string q.1.str, .string q.2.str] 25 (0, 0))).alloc (.cells #[.string ⟨#[]⟩, .string ⟨#[]⟩] 25 (0, 0))) := nxAlloc (nxAlloc (nxAlloc (Below.refl _ _) _) _) _
      have hx0 := heap_keep (nxAlloc (Below.refl _ _) (.cells #[.string ⟨#[]⟩, .string ⟨#[]⟩] 25 (0, 0))) (heap_keep (nxAlloc (Below.refl _ _) (.cells #[.string q.1.str, .string q.2.str] 25 (0, 0))) (heap_alloc_at w (.cells #[.string p.1.str, .string p.2.str] 25 (0, 0))))
      have hx1 := heap_keep (nxAlloc (Below.refl _ _) (.cells #[.string ⟨#[]⟩, .string ⟨#[]⟩] 25 (0, 0))) (heap_alloc_at (w.alloc (.cells #[.string p.1.str, .string p.2.str] 25 (0, 0))) (.cells #[.string q.1.str, .string q.2.str] 25 (0, 0)))
      have hx2 := heap_alloc_at ((w.alloc (.cells #[.string p.1.str, .string p.2.str] 25 (0, 0))).alloc (.cells #[.string q.1.str, .string q.2.str] 25 (0, 0))) (.cells #[.string ⟨#[]⟩, .string ⟨#[]⟩] 25 (0, 0))
      generalize (((w.alloc (.cells #[.string p.1.str, .string p.2.str] 25 (0, 0))).alloc (.cells #[.string q.1.str, .string q.2.str] 25 (0, 0))).alloc (.cells #[.string ⟨#[]⟩, .string ⟨#[]⟩] 25 (0, 0))) = w0 at *
      have e1 : (w.alloc (.cells #[.string p.1.str, .string p.2.str] 25 (0, 0))).heap.size = w.heap.size + 1 := by simp
      rw [e1] at hx1
      clear e1
      have e2 : ((w.alloc (.cells #[.string p.1.str, .string p.2.str] 25 (0, 0))).alloc (.cells #[.string q.1.str, .string q.2.str] 25 (0, 0))).heap.size = w.heap.size + 1 + 1 := by simp
      rw [e2] at hx2
      clear e2
      obtain ⟨hx0a, hx0b, hx0c⟩ := two_facts hx0
      obtain ⟨hx0f, hx0g⟩ := two_frozen hx0
      obtain ⟨hx1a, hx1b, hx1c⟩ := two_facts hx1
      obtain ⟨hx1f, hx1g⟩ := two_frozen hx1
      obtain ⟨hx2a, hx2b, hx2c⟩ := two_facts hx2
      obtain ⟨hx2f, hx2g⟩ := two_frozen hx2
      refine (hg _).mono ?_; rintro e w1 ⟨rfl, hb1⟩
      have hbw1 := nx hb0 hb1
      replace hx0 := heap_keep hb1 hx0
      replace hx1 := heap_keep hb1 hx1
      replace hx2 := heap_keep hb1 hx2
      clear hx0a hx0b hx0c hx0f hx0g
      obtain ⟨hx0a, hx0b, hx0c⟩ := two_facts hx0
      obtain ⟨hx0f, hx0g⟩ := two_frozen hx0
      clear hx1a hx1b hx1c hx1f hx1g
      obtain ⟨hx1a, hx1b, hx1c⟩ := two_facts hx1
      obtain ⟨hx1f, hx1g⟩ := two_frozen hx1
      clear hx2a hx2b hx2c hx2f hx2g
      obtain ⟨hx2a, hx2b, hx2c⟩ := two_facts hx2
      obtain ⟨hx2f, hx2g⟩ := two_frozen hx2
      clear hb1 hb0
      go_wp2_with fail
      refine (hk _).mono ?_; rintro e w2 ⟨rfl, hb2⟩
      have hbw2 := nx hbw1 hb2
      replace hx0 := heap_keep hb2 hx0
      replace hx1 := heap_keep hb2 hx1
      replace hx2 := heap_keep hb2 hx2
      clear hx0a hx0b hx0c hx0f hx0g
      obtain ⟨hx0a, hx0b, hx0c⟩ := two_facts hx0
      obtain ⟨hx0f, hx0g⟩ := two_frozen hx0
      clear hx1a hx1b hx1c hx1f hx1g
      obtain ⟨hx1a, hx1b, hx1c⟩ := two_facts hx1
      obtain ⟨hx1f, hx1g⟩ := two_frozen hx1
      clear hx2a hx2b hx2c hx2f hx2g
      obtain ⟨hx2a, hx2b, hx2c⟩ := two_facts hx2
      obtain ⟨hx2f, hx2g⟩ := two_frozen hx2
      clear hb2 hbw1
      go_wp2_with fail
      refine (product_any p q _ hok1 hok2 (by omega) (by omega)).mono ?_; rintro e w3 ⟨rfl, hb3⟩
      have hbw3 := nx hbw2 hb3
      replace hx0 := heap_keep hb3 hx0
      replace hx1 := heap_keep hb3 hx1
      replace hx2 := heap_keep hb3 hx2
      clear hx0a hx0b hx0c hx0f hx0g
      obtain ⟨hx0a, hx0b, hx0c⟩ := two_facts hx0
      obtain ⟨hx0f, hx0g⟩ := two_frozen hx0
      clear hx1a hx1b hx1c hx1f hx1g
      obtain ⟨hx1a, hx1b, hx1c⟩ := two_facts hx1
      obtain ⟨hx1f, hx1g⟩ := two_frozen hx1
      clear hx2a hx2b hx2c hx2f hx2g
      obtain ⟨hx2a, hx2b, hx2c⟩ := two_facts hx2
      obtain ⟨hx2f, hx2g⟩ := two_frozen hx2
      clear hb3 hbw2
      go_wp2_with fail
      refine (hL _).mono ?_; rintro e w4 ⟨rfl, hb4⟩
      have hbw4 := nx hbw3 hb4
      replace hx0 := heap_keep hb4 hx0
      replace hx1 := heap_keep hb4 hx1
      replace hx2 := heap_keep hb4 hx2
      clear hx0a hx0b hx0c hx0f hx0g
      obtain ⟨hx0a, hx0b, hx0c⟩ := two_facts hx0
      obtain ⟨hx0f, hx0g⟩ := two_frozen hx0
      clear hx1a hx1b hx1c hx1f hx1g
      obtain ⟨hx1a, hx1b, hx1c⟩ := two_facts hx1
      obtain ⟨hx1f, hx1g⟩ := two_frozen hx1
      clear hx2a hx2b hx2c hx2f hx2g
      obtain ⟨hx2a, hx2b, hx2c⟩ := two_facts hx2
      obtain ⟨hx2f, hx2g⟩ := two_frozen hx2
      clear hb4 hbw3
      go_wp2_with fail
      obtain ⟨q1, q2⟩ := two_cells (set_two (.string X) (.string Y) hx2)
      refine bodyPost_ret (v := .tuple #[.agg #[.string X, .string Y], .bool ok]) (by simp [q1, q2, results, Tryz.results7, go_sem]) rfl ⟨rfl, ?_⟩
      exact (hbw4.setCell (by show w.heap.size ≤ w.heap.size + 1 + 1; omega) _).setCell (by show w.heap.size ≤ w.heap.size + 1 + 1; omega) _
end Go.Proofs.YtjmbkieocmhmiaaGreat

/-! WPowerPair -/
namespace Go.Proofs.YtjmbkieocmhmiaaGreat
open Go.RowKit

/-! Powers. -/

set_option maxRecDepth 100000 in
set_option maxHeartbeats 4000000 in
theorem specPowerPair_any (a b : ByteArray) (n : Int) (w : World) (ha : a.size ≤ 9223372036854775806) (hb : b.size ≤ 9223372036854775806) (lo : -9223372036854775808 ≤ n) (hi : n ≤ 9223372036854775807) :
    Calls Tryz.prog 15 #[.agg #[.string a, .string b], .int .i64 n] w (Gives (ansPr ((pairOf a b).bind fun p => powP p n)) w) := by
  have hg := fun w => prGood_any a b w ha hb
  cases h : pairOf a b with
  | none =>
    rw [h] at hg
    clear h
    go_enter Tryz.func15, Tryz.ntmps15
    go_wp2_with fail
    have hb0 : Below w.heap.size w ((w.alloc (.cells #[.string a, .string b] 25 (0, 0))).alloc (.cells #[.string ⟨#[]⟩, .string ⟨#[]⟩] 25 (0, 0))) := nxAlloc (nxAlloc (Below.refl _ _) _) _
    have hx0 := heap_keep (nxAlloc (Below.refl _ _) (.cells #[.string ⟨#[]⟩, .string ⟨#[]⟩] 25 (0, 0))) (heap_alloc_at w (.cells #[.string a, .string b] 25 (0, 0)))
    have hx1 := heap_alloc_at (w.alloc (.cells #[.string a, .string b] 25 (0, 0))) (.cells #[.string ⟨#[]⟩, .string ⟨#[]⟩] 25 (0, 0))
    generalize ((w.alloc (.cells #[.string a, .string b] 25 (0, 0))).alloc (.cells #[.string ⟨#[]⟩, .string ⟨#[]⟩] 25 (0, 0))) = w0 at *
    have e1 : (w.alloc (.cells #[.string a, .string b] 25 (0, 0))).heap.size = w.heap.size + 1 := by simp
    rw [e1] at hx1
    clear e1
    obtain ⟨hx0a, hx0b, hx0c⟩ := two_facts hx0
    obtain ⟨hx0f, hx0g⟩ := two_frozen hx0
    obtain ⟨hx1a, hx1b, hx1c⟩ := two_facts hx1
    obtain ⟨hx1f, hx1g⟩ := two_frozen hx1
    refine (hg _).mono ?_; rintro e w1 ⟨rfl, hb1⟩
    have hbw1 := nx hb0 hb1
    replace hx0 := heap_keep hb1 hx0
    replace hx1 := heap_keep hb1 hx1
    clear hx0a hx0b hx0c hx0f hx0g
    obtain ⟨hx0a, hx0b, hx0c⟩ := two_facts hx0
    obtain ⟨hx0f, hx0g⟩ := two_frozen hx0
    clear hx1a hx1b hx1c hx1f hx1g
    obtain ⟨hx1a, hx1b, hx1c⟩ := two_facts hx1
    obtain ⟨hx1f, hx1g⟩ := two_frozen hx1
    clear hb1 hb0
    go_wp2_with fail
    obtain ⟨q1, q2⟩ := two_cells (set_two (.string ⟨#[]⟩) (.string ⟨#[]⟩) hx1)
    refine bodyPost_ret (v := .tuple #[.agg #[.string ⟨#[]⟩, .string ⟨#[]⟩], .bool false]) (by simp [q1, q2, results, Tryz.results15, go_sem]) rfl ⟨rfl, ?_⟩
    exact (hbw1.setCell (by show w.heap.size ≤ w.heap.size + 1; omega) _).setCell (by show w.heap.size ≤ w.heap.size + 1; omega) _
  | some p =>
    rw [h] at hg
    obtain ⟨rfl, rfl, hok, hc1, hc2⟩ := pairOf_some h
    clear h
    show Calls _ _ _ _ (Gives (ansPr (powP p n)) w)
    unfold powP
    by_cases hn : -10 ≤ n ∧ n ≤ 10
    rotate_left
    · rw [if_neg hn]
      have I := fun w => l1In_no n (-10) 10 w (by omega)
      clear hn
      go_enter Tryz.func15, Tryz.ntmps15
      go_wp2_with fail
      have hb0 : Below w.heap.size w ((w.alloc (.cells #[.string p.1.str, .string p.2.str] 25 (0, 0))).alloc (.cells #[.string ⟨#[]⟩, .string ⟨#[]⟩] 25 (0, 0))) := nxAlloc (nxAlloc (Below.refl _ _) _) _
      have hx0 := heap_keep (nxAlloc (Below.refl _ _) (.cells #[.string ⟨#[]⟩, .string ⟨#[]⟩] 25 (0, 0))) (heap_alloc_at w (.cells #[.string p.1.str, .string p.2.str] 25 (0, 0)))
      have hx1 := heap_alloc_at (w.alloc (.cells #[.string p.1.str, .string p.2.str] 25 (0, 0))) (.cells #[.string ⟨#[]⟩, .string ⟨#[]⟩] 25 (0, 0))
      generalize ((w.alloc (.cells #[.string p.1.str, .string p.2.str] 25 (0, 0))).alloc (.cells #[.string ⟨#[]⟩, .string ⟨#[]⟩] 25 (0, 0))) = w0 at *
      have e1 : (w.alloc (.cells #[.string p.1.str, .string p.2.str] 25 (0, 0))).heap.size = w.heap.size + 1 := by simp
      rw [e1] at hx1
      clear e1
      obtain ⟨hx0a, hx0b, hx0c⟩ := two_facts hx0
      obtain ⟨hx0f, hx0g⟩ := two_frozen hx0
      obtain ⟨hx1a, hx1b, hx1c⟩ := two_facts hx1
      obtain ⟨hx1f, hx1g⟩ := two_frozen hx1
      refine (hg _).mono ?_; rintro e w1 ⟨rfl, hb1⟩
      have hbw1 := nx hb0 hb1
      replace hx0 := heap_keep hb1 hx0
      replace hx1 := heap_keep hb1 hx1
      clear hx0a hx0b hx0c hx0f hx0g
      obtain ⟨hx0a, hx0b, hx0c⟩ := two_facts hx0
      obtain ⟨hx0f, hx0g⟩ := two_frozen hx0
      clear hx1a hx1b hx1c hx1f hx1g
      obtain ⟨hx1a, hx1b, hx1c⟩ := two_facts hx1
      obtain ⟨hx1f, hx1g⟩ := two_frozen hx1
      clear hb1 hb0
      go_wp2_with fail
      refine (I _).mono ?_; rintro e wc ⟨rfl, rfl⟩
      go_wp2_with fail
      obtain ⟨q1, q2⟩ := two_cells (set_two (.string ⟨#[]⟩) (.string ⟨#[]⟩) hx1)
      refine bodyPost_ret (v := .tuple #[.agg #[.string ⟨#[]⟩, .string ⟨#[]⟩], .bool false]) (by simp [q1, q2, results, Tryz.results15, go_sem]) rfl ⟨rfl, ?_⟩
      exact (hbw1.setCell (by show w.heap.size ≤ w.heap.size + 1; omega) _).setCell (by show w.heap.size ≤ w.heap.size + 1; omega) _
    rw [if_pos hn]
    obtain ⟨hn1, hn2⟩ := hn
    have hok' : p.1.carets = p.2.carets := hok
    have I := fun w => l1In_yes n (-10) 10 w hn1 hn2
    by_cases hneg : n < 0
    · rw [if_pos hneg]
      obtain ⟨K, rfl⟩ : ∃ K : Nat, n = -(K : Int) := ⟨(-n).toNat, by omega⟩
      have eK : (-(-(K : Int))).toNat = K := by omega
      rw [eK]
      have hbok : okP (invP p) := hok.symm
      have hbc : (invP p).1.carets ≤ 8 := hc2
      clear eK
      go_enter Tryz.func15, Tryz.ntmps15
      go_wp2_with fail
      have hb0 : Below w.heap.size w ((w.alloc (.cells #[.string p.1.str, .string p.2.str] 25 (0, 0))).alloc (.cells #[.string ⟨#[]⟩, .string ⟨#[]⟩] 25 (0, 0))) := nxAlloc (nxAlloc (Below.refl _ _) _) _
      have hx0 := heap_keep (nxAlloc (Below.refl _ _) (.cells #[.string ⟨#[]⟩, .string ⟨#[]⟩] 25 (0, 0))) (heap_alloc_at w (.cells #[.string p.1.str, .string p.2.str] 25 (0, 0)))
      have hx1 := heap_alloc_at (w.alloc (.cells #[.string p.1.str, .string p.2.str] 25 (0, 0))) (.cells #[.string ⟨#[]⟩, .string ⟨#[]⟩] 25 (0, 0))
      generalize ((w.alloc (.cells #[.string p.1.str, .string p.2.str] 25 (0, 0))).alloc (.cells #[.string ⟨#[]⟩, .string ⟨#[]⟩] 25 (0, 0))) = w0 at *
      have e1 : (w.alloc (.cells #[.string p.1.str, .string p.2.str] 25 (0, 0))).heap.size = w.heap.size + 1 := by simp
      rw [e1] at hx1
      clear e1
      obtain ⟨hx0a, hx0b, hx0c⟩ := two_facts hx0
      obtain ⟨hx0f, hx0g⟩ := two_frozen hx0
      obtain ⟨hx1a, hx1b, hx1c⟩ := two_facts hx1
      obtain ⟨hx1f, hx1g⟩ := two_frozen hx1
      refine (hg _).mono ?_; rintro e w1 ⟨rfl, hb1⟩
      have hbw1 := nx hb0 hb1
      replace hx0 := heap_keep hb1 hx0
      replace hx1 := heap_keep hb1 hx1
      clear hx0a hx0b hx0c hx0f hx0g
      obtain ⟨hx0a, hx0b, hx0c⟩ := two_facts hx0
      obtain ⟨hx0f, hx0g⟩ := two_frozen hx0
      clear hx1a hx1b hx1c hx1f hx1g
      obtain ⟨hx1a, hx1b, hx1c⟩ := two_facts hx1
      obtain ⟨hx1f, hx1g⟩ := two_frozen hx1
      clear hb1 hb0
      go_wp2_with fail
      refine (I _).mono ?_; rintro e wc ⟨rfl, rfl⟩
      go_wp2_with fail
      refine (prInverse_any _ _ _).mono ?_; rintro e w2 ⟨rfl, hb2⟩
      have hbw2 := nx hbw1 hb2
      replace hx0 := heap_keep hb2 hx0
      replace hx1 := heap_keep hb2 hx1
      clear hx0a hx0b hx0c hx0f hx0g
      obtain ⟨hx0a, hx0b, hx0c⟩ := two_facts hx0
      obtain ⟨hx0f, hx0g⟩ := two_frozen hx0
      clear hx1a hx1b hx1c hx1f hx1g
      obtain ⟨hx1a, hx1b, hx1c⟩ := two_facts hx1
      obtain ⟨hx1f, hx1g⟩ := two_frozen hx1
      clear hb2 hbw1
      go_wp2_with fail
      have hs0 := set_two (.string p.2.str) (.string p.1.str) hx0
      have hs1 := (Below.heap_setCell (w2.setCell ⟨w.heap.size, 0, none⟩ (.string p.2.str)) ⟨w.heap.size, 1, none⟩ (.string p.1.str) (w.heap.size + 1) (by show ¬ w.heap.size + 1 = w.heap.size; omega)).trans ((Below.heap_setCell w2 ⟨w.heap.size, 0, none⟩ (.string p.2.str) (w.heap.size + 1) (by show ¬ w.heap.size + 1 = w.heap.size; omega)).trans hx1)
      have hbs := (hbw2.setCell (p := ⟨w.heap.size, 0, none⟩) (Nat.le_refl _) (.string p.2.str)).setCell (p := ⟨w.heap.size, 1, none⟩) (Nat.le_refl _) (.string p.1.str)
      generalize (w2.setCell ⟨w.heap.size, 0, none⟩ (.string p.2.str)).setCell ⟨w.heap.size, 1, none⟩ (.string p.1.str) = ws at *
      clear hx0a hx0b hx0c hx0f hx0g hx1a hx1b hx1c hx1f hx1g hx0 hx1 hbw2
      have hx0 := hs0
      have hx1 := hs1
      clear hs0 hs1
      obtain ⟨hx0a, hx0b, hx0c⟩ := two_facts hx0
      obtain ⟨hx0f, hx0g⟩ := two_frozen hx0
      obtain ⟨hx1a, hx1b, hx1c⟩ := two_facts hx1
      obtain ⟨hx1f, hx1g⟩ := two_frozen hx1
      replace hx0 : ws.heap[w.heap.size]? = some (.cells #[.string (invP p).1.str, .string (invP p).2.str] 25 (0, 0)) := hx0
      generalize invP p = b at *
      refine (prUnit_any _).mono ?_; rintro e wu ⟨rfl, hbu⟩
      have hbwu := nx hbs hbu
      replace hx0 := heap_keep hbu hx0
      replace hx1 := heap_keep hbu hx1
      clear hx0a hx0b hx0c hx0f hx0g
      obtain ⟨hx0a, hx0b, hx0c⟩ := two_facts hx0
      obtain ⟨hx0f, hx0g⟩ := two_frozen hx0
      clear hx1a hx1b hx1c hx1f hx1g
      obtain ⟨hx1a, hx1b, hx1c⟩ := two_facts hx1
      obtain ⟨hx1f, hx1g⟩ := two_frozen hx1
      clear hbu hbs
      go_wp2_with fail
      have hlow : w.heap.size + 1 < wu.heap.size := hx1c
      have hbwv := nxAlloc hbwu (.cells #[.string Tr.lf.str, .string Tr.lf.str] 25 (0, 0))
      replace hx0 := heap_keep (nxAlloc (Below.refl _ _) (.cells #[.string Tr.lf.str, .string Tr.lf.str] 25 (0, 0))) hx0
      replace hx1 := heap_keep (nxAlloc (Below.refl _ _) (.cells #[.string Tr.lf.str, .string Tr.lf.str] 25 (0, 0))) hx1
      have hyv := heap_alloc_at wu (.cells #[.string Tr.lf.str, .string Tr.lf.str] 25 (0, 0))
      generalize wu.alloc (.cells #[.string Tr.lf.str, .string Tr.lf.str] 25 (0, 0)) = wv at *
      clear hbwu
      clear hx0a hx0b hx0c hx0f hx0g
      obtain ⟨hx0a, hx0b, hx0c⟩ := two_facts hx0
      obtain ⟨hx0f, hx0g⟩ := two_frozen hx0
      clear hx1a hx1b hx1c hx1f hx1g
      obtain ⟨hx1a, hx1b, hx1c⟩ := two_facts hx1
      obtain ⟨hx1f, hx1g⟩ := two_frozen hx1
      obtain ⟨hyva, hyvb, hyvc⟩ := two_facts hyv
      obtain ⟨hyvf, hyvg⟩ := two_frozen hyv
      generalize hG : wu.heap.size = G at *
      clear hG
      have hgO : w.heap.size + 1 < G := hlow
      go_loopw [1] (fun v wr => ∃ (o : Pr) (m : Nat), m ≤ K ∧ v = .int .i64 ((K - m : Nat) : Int) ∧ wr.heap[w.heap.size]? = some (.cells #[.string b.1.str, .string b.2.str] 25 (0, 0)) ∧ wr.heap[w.heap.size + 1]? = some (.cells #[.string ⟨#[]⟩, .string ⟨#[]⟩] 25 (0, 0)) ∧ wr.heap[G]? = some (.cells #[.string o.1.str, .string o.2.str] 25 (0, 0)) ∧ Below w.heap.size w wr ∧ G < wr.heap.size ∧ pwN b m = some o) (fun v _ => (intOf v).toNat)
      case atStart => exact ⟨unitP, 0, Nat.zero_le _, by simp, hx0, hx1, hyv, hbwv, hyvc, rfl⟩
      case round =>
        clear hx0a hx0b hx0c hx0f hx0g hx1a hx1b hx1c hx1f hx1g hyva hyvb hyvc hyvf hyvg hx0 hx1 hyv hbwv
        obtain ⟨o, m, hm, rfl, hx0, hx1, hx2, hbw, hgl, hpo⟩ := hrel
        obtain ⟨hoo, hoc⟩ := pwN_ok hbok hpo
        obtain ⟨hx0a, hx0b, hx0c⟩ := two_facts hx0
        obtain ⟨hx0f, hx0g⟩ := two_frozen hx0
        obtain ⟨hx1a, hx1b, hx1c⟩ := two_facts hx1
        obtain ⟨hx1f, hx1g⟩ := two_frozen hx1
        obtain ⟨hx2a, hx2b, hx2c⟩ := two_facts hx2
        obtain ⟨hx2f, hx2g⟩ := two_frozen hx2
        by_cases hlt : m < K
        · have hbc2 := hbc
          have hmo := mulP_ok hoo hbok
          have hlt' : (0 : Int) < ((K - m : Nat) : Int) := by omega
          have hmc := mulP_carets hoo hbok
          have hpn : pwN b (m + 1) = limP (mulP o b) := by rw [pwN, hpo]; rfl
          have T := fun w => prTimes_any o b w hoo hbok (by omega) (by unfold okP at hbok; omega)
          have C := fun w => carets_str (mulP o b).1 w (by unfold okP at *; omega)
          generalize mulP o b = M at *
          have HPO := Lib.hid hpo
          clear hpo
          go_wp2_with fail
          refine (T _).mono ?_; rintro e w101 ⟨rfl, hb101⟩
          have hbw101 := nx hbw hb101
          replace hx0 := heap_keep hb101 hx0
          replace hx1 := heap_keep hb101 hx1
          replace hx2 := heap_keep hb101 hx2
          clear hx0a hx0b hx0c hx0f hx0g
          obtain ⟨hx0a, hx0b, hx0c⟩ := two_facts hx0
          obtain ⟨hx0f, hx0g⟩ := two_frozen hx0
          clear hx1a hx1b hx1c hx1f hx1g
          obtain ⟨hx1a, hx1b, hx1c⟩ := two_facts hx1
          obtain ⟨hx1f, hx1g⟩ := two_frozen hx1
          clear hx2a hx2b hx2c hx2f hx2g
          obtain ⟨hx2a, hx2b, hx2c⟩ := two_facts hx2
          obtain ⟨hx2f, hx2g⟩ := two_frozen hx2
          clear hb101 hbw
          have hgl2 := hx2c
          go_wp2_with fail
          have hs2 := set_two (.string M.1.str) (.string M.2.str) hx2
          have hs0 := (Below.heap_setCell (w101.setCell ⟨G, 0, none⟩ (.string M.1.str)) ⟨G, 1, none⟩ (.string M.2.str) w.heap.size (by show ¬ w.heap.size = G; omega)).trans ((Below.heap_setCell w101 ⟨G, 0, none⟩ (.string M.1.str) w.heap.size (by show ¬ w.heap.size = G; omega)).trans hx0)
          have hs1 := (Below.heap_setCell (w101.setCell ⟨G, 0, none⟩ (.string M.1.str)) ⟨G, 1, none⟩ (.string M.2.str) (w.heap.size + 1) (by show ¬ w.heap.size + 1 = G; omega)).trans ((Below.heap_setCell w101 ⟨G, 0, none⟩ (.string M.1.str) (w.heap.size + 1) (by show ¬ w.heap.size + 1 = G; omega)).trans hx1)
          have hbs := (hbw101.setCell (p := ⟨G, 0, none⟩) (by show w.heap.size ≤ G; omega) (.string M.1.str)).setCell (p := ⟨G, 1, none⟩) (by show w.heap.size ≤ G; omega) (.string M.2.str)
          generalize (w101.setCell ⟨G, 0, none⟩ (.string M.1.str)).setCell ⟨G, 1, none⟩ (.string M.2.str) = ws at *
          clear hx0a hx0b hx0c hx0f hx0g hx1a hx1b hx1c hx1f hx1g hx2a hx2b hx2c hx2f hx2g hx0 hx1 hx2 hbw101
          obtain ⟨hs0a, hs0b, hs0c⟩ := two_facts hs0
          obtain ⟨hs0f, hs0g⟩ := two_frozen hs0
          obtain ⟨hs1a, hs1b, hs1c⟩ := two_facts hs1
          obtain ⟨hs1f, hs1g⟩ := two_frozen hs1
          obtain ⟨hs2a, hs2b, hs2c⟩ := two_facts hs2
          obtain ⟨hs2f, hs2g⟩ := two_frozen hs2
          refine (C _).mono ?_; rintro e wc ⟨rfl, rfl⟩
          by_cases h8 : M.1.carets ≤ 8
          · have h8' : ¬ (8 : Int) < (M.1.carets : Int) := by omega
            have hpm : pwN b (m + 1) = some M := by rw [hpn]; unfold limP; rw [if_pos h8]
            have HPM := Lib.hid hpm
            clear hpm hpn h8
            go_wp2_with fail
            go_roundw
            case rel => exact ⟨M, m + 1, by omega, by go_num, hs0, hs1, hs2, hbs, hs2c, HPM.out⟩
            case measure => simp [intOf]; omega
          · have h8' : (8 : Int) < (M.1.carets : Int) := by omega
            have hpm : pwN b (m + 1) = none := by rw [hpn]; unfold limP; rw [if_neg h8]
            have hN := pwN_none hpm K (by omega)
            have HN := Lib.hid hN
            clear hpm hpn hN h8
            go_wp2_with fail
            obtain ⟨q1, q2⟩ := two_cells (set_two (.string ⟨#[]⟩) (.string ⟨#[]⟩) hs1)
            refine bodyPost_ret (v := .tuple #[.agg #[.string ⟨#[]⟩, .string ⟨#[]⟩], .bool false]) (by simp [q1, q2, results, Tryz.results15, go_sem]) rfl ⟨by rw [HN.out]; rfl, ?_⟩
            exact (hbs.setCell (by show w.heap.size ≤ w.heap.size + 1; omega) _).setCell (by show w.heap.size ≤ w.heap.size + 1; omega) _
        · obtain rfl : m = K := by omega
          have hlt' : ¬ (0 : Int) < ((m - m : Nat) : Int) := by omega
          have HPO := Lib.hid hpo
          clear hpo hlt
          go_wp2_with fail
          obtain ⟨q1, q2⟩ := two_cells (set_two (.string o.1.str) (.string o.2.str) hx1)
          refine bodyPost_ret (v := .tuple #[.agg #[.string o.1.str, .string o.2.str], .bool true]) (by simp [q1, q2, results, Tryz.results15, go_sem]) rfl ⟨by rw [HPO.out]; rfl, ?_⟩
          exact (hbw.setCell (by show w.heap.size ≤ w.heap.size + 1; omega) _).setCell (by show w.heap.size ≤ w.heap.size + 1; omega) _
    · rw [if_neg hneg]
      obtain ⟨K, rfl⟩ : ∃ K : Nat, n = (K : Int) := ⟨n.toNat, by omega⟩
      have eK : ((K : Int)).toNat = K := by omega
      rw [eK]
      have hbok : okP p := hok
      have hbc : p.1.carets ≤ 8 := hc1
      clear eK
      go_enter Tryz.func15, Tryz.ntmps15
      go_wp2_with fail
      have hb0 : Below w.heap.size w ((w.alloc (.cells #[.string p.1.str, .string p.2.str] 25 (0, 0))).alloc (.cells #[.string ⟨#[]⟩, .string ⟨#[]⟩] 25 (0, 0))) := nxAlloc (nxAlloc (Below.refl _ _) _) _
      have hx0 := heap_keep (nxAlloc (Below.refl _ _) (.cells #[.string ⟨#[]⟩, .string ⟨#[]⟩] 25 (0, 0))) (heap_alloc_at w (.cells #[.string p.1.str, .string p.2.str] 25 (0, 0)))
      have hx1 := heap_alloc_at (w.alloc (.cells #[.string p.1.str, .string p.2.str] 25 (0, 0))) (.cells #[.string ⟨#[]⟩, .string ⟨#[]⟩] 25 (0, 0))
      generalize ((w.alloc (.cells #[.string p.1.str, .string p.2.str] 25 (0, 0))).alloc (.cells #[.string ⟨#[]⟩, .string ⟨#[]⟩] 25 (0, 0))) = w0 at *
      have e1 : (w.alloc (.cells #[.string p.1.str, .string p.2.str] 25 (0, 0))).heap.size = w.heap.size + 1 := by simp
      rw [e1] at hx1
      clear e1
      obtain ⟨hx0a, hx0b, hx0c⟩ := two_facts hx0
      obtain ⟨hx0f, hx0g⟩ := two_frozen hx0
      obtain ⟨hx1a, hx1b, hx1c⟩ := two_facts hx1
      obtain ⟨hx1f, hx1g⟩ := two_frozen hx1
      refine (hg _).mono ?_; rintro e w1 ⟨rfl, hb1⟩
      have hbw1 := nx hb0 hb1
      replace hx0 := heap_keep hb1 hx0
      replace hx1 := heap_keep hb1 hx1
      clear hx0a hx0b hx0c hx0f hx0g
      obtain ⟨hx0a, hx0b, hx0c⟩ := two_facts hx0
      obtain ⟨hx0f, hx0g⟩ := two_frozen hx0
      clear hx1a hx1b hx1c hx1f hx1g
      obtain ⟨hx1a, hx1b, hx1c⟩ := two_facts hx1
      obtain ⟨hx1f, hx1g⟩ := two_frozen hx1
      clear hb1 hb0
      go_wp2_with fail
      refine (I _).mono ?_; rintro e wc ⟨rfl, rfl⟩
      go_wp2_with fail
      generalize p = b at *
      refine (prUnit_any _).mono ?_; rintro e wu ⟨rfl, hbu⟩
      have hbwu := nx hbw1 hbu
      replace hx0 := heap_keep hbu hx0
      replace hx1 := heap_keep hbu hx1
      clear hx0a hx0b hx0c hx0f hx0g
      obtain ⟨hx0a, hx0b, hx0c⟩ := two_facts hx0
      obtain ⟨hx0f, hx0g⟩ := two_frozen hx0
      clear hx1a hx1b hx1c hx1f hx1g
      obtain ⟨hx1a, hx1b, hx1c⟩ := two_facts hx1
      obtain ⟨hx1f, hx1g⟩ := two_frozen hx1
      clear hbu hbw1
      go_wp2_with fail
      have hlow : w.heap.size + 1 < wu.heap.size := hx1c
      have hbwv := nxAlloc hbwu (.cells #[.string Tr.lf.str, .string Tr.lf.str] 25 (0, 0))
      replace hx0 := heap_keep (nxAlloc (Below.refl _ _) (.cells #[.string Tr.lf.str, .string Tr.lf.str] 25 (0, 0))) hx0
      replace hx1 := heap_keep (nxAlloc (Below.refl _ _) (.cells #[.string Tr.lf.str, .string Tr.lf.str] 25 (0, 0))) hx1
      have hyv := heap_alloc_at wu (.cells #[.string Tr.lf.str, .string Tr.lf.str] 25 (0, 0))
      generalize wu.alloc (.cells #[.string Tr.lf.str, .string Tr.lf.str] 25 (0, 0)) = wv at *
      clear hbwu
      clear hx0a hx0b hx0c hx0f hx0g
      obtain ⟨hx0a, hx0b, hx0c⟩ := two_facts hx0
      obtain ⟨hx0f, hx0g⟩ := two_frozen hx0
      clear hx1a hx1b hx1c hx1f hx1g
      obtain ⟨hx1a, hx1b, hx1c⟩ := two_facts hx1
      obtain ⟨hx1f, hx1g⟩ := two_frozen hx1
      obtain ⟨hyva, hyvb, hyvc⟩ := two_facts hyv
      obtain ⟨hyvf, hyvg⟩ := two_frozen hyv
      generalize hG : wu.heap.size = G at *
      clear hG
      have hgO : w.heap.size + 1 < G := hlow
      go_loopw [1] (fun v wr => ∃ (o : Pr) (m : Nat), m ≤ K ∧ v = .int .i64 ((K - m : Nat) : Int) ∧ wr.heap[w.heap.size]? = some (.cells #[.string b.1.str, .string b.2.str] 25 (0, 0)) ∧ wr.heap[w.heap.size + 1]? = some (.cells #[.string ⟨#[]⟩, .string ⟨#[]⟩] 25 (0, 0)) ∧ wr.heap[G]? = some (.cells #[.string o.1.str, .string o.2.str] 25 (0, 0)) ∧ Below w.heap.size w wr ∧ G < wr.heap.size ∧ pwN b m = some o) (fun v _ => (intOf v).toNat)
      case atStart => exact ⟨unitP, 0, Nat.zero_le _, by simp, hx0, hx1, hyv, hbwv, hyvc, rfl⟩
      case round =>
        clear hx0a hx0b hx0c hx0f hx0g hx1a hx1b hx1c hx1f hx1g hyva hyvb hyvc hyvf hyvg hx0 hx1 hyv hbwv
        obtain ⟨o, m, hm, rfl, hx0, hx1, hx2, hbw, hgl, hpo⟩ := hrel
        obtain ⟨hoo, hoc⟩ := pwN_ok hbok hpo
        obtain ⟨hx0a, hx0b, hx0c⟩ := two_facts hx0
        obtain ⟨hx0f, hx0g⟩ := two_frozen hx0
        obtain ⟨hx1a, hx1b, hx1c⟩ := two_facts hx1
        obtain ⟨hx1f, hx1g⟩ := two_frozen hx1
        obtain ⟨hx2a, hx2b, hx2c⟩ := two_facts hx2
        obtain ⟨hx2f, hx2g⟩ := two_frozen hx2
        by_cases hlt : m < K
        · have hbc2 := hbc
          have hmo := mulP_ok hoo hbok
          have hlt' : (0 : Int) < ((K - m : Nat) : Int) := by omega
          have hmc := mulP_carets hoo hbok
          have hpn : pwN b (m + 1) = limP (mulP o b) := by rw [pwN, hpo]; rfl
          have T := fun w => prTimes_any o b w hoo hbok (by omega) (by unfold okP at hbok; omega)
          have C := fun w => carets_str (mulP o b).1 w (by unfold okP at *; omega)
          generalize mulP o b = M at *
          have HPO := Lib.hid hpo
          clear hpo
          go_wp2_with fail
          refine (T _).mono ?_; rintro e w101 ⟨rfl, hb101⟩
          have hbw101 := nx hbw hb101
          replace hx0 := heap_keep hb101 hx0
          replace hx1 := heap_keep hb101 hx1
          replace hx2 := heap_keep hb101 hx2
          clear hx0a hx0b hx0c hx0f hx0g
          obtain ⟨hx0a, hx0b, hx0c⟩ := two_facts hx0
          obtain ⟨hx0f, hx0g⟩ := two_frozen hx0
          clear hx1a hx1b hx1c hx1f hx1g
          obtain ⟨hx1a, hx1b, hx1c⟩ := two_facts hx1
          obtain ⟨hx1f, hx1g⟩ := two_frozen hx1
          clear hx2a hx2b hx2c hx2f hx2g
          obtain ⟨hx2a, hx2b, hx2c⟩ := two_facts hx2
          obtain ⟨hx2f, hx2g⟩ := two_frozen hx2
          clear hb101 hbw
          have hgl2 := hx2c
          go_wp2_with fail
          have hs2 := set_two (.string M.1.str) (.string M.2.str) hx2
          have hs0 := (Below.heap_setCell (w101.setCell ⟨G, 0, none⟩ (.string M.1.str)) ⟨G, 1, none⟩ (.string M.2.str) w.heap.size (by show ¬ w.heap.size = G; omega)).trans ((Below.heap_setCell w101 ⟨G, 0, none⟩ (.string M.1.str) w.heap.size (by show ¬ w.heap.size = G; omega)).trans hx0)
          have hs1 := (Below.heap_setCell (w101.setCell ⟨G, 0, none⟩ (.string M.1.str)) ⟨G, 1, none⟩ (.string M.2.str) (w.heap.size + 1) (by show ¬ w.heap.size + 1 = G; omega)).trans ((Below.heap_setCell w101 ⟨G, 0, none⟩ (.string M.1.str) (w.heap.size + 1) (by show ¬ w.heap.size + 1 = G; omega)).trans hx1)
          have hbs := (hbw101.setCell (p := ⟨G, 0, none⟩) (by show w.heap.size ≤ G; omega) (.string M.1.str)).setCell (p := ⟨G, 1, none⟩) (by show w.heap.size ≤ G; omega) (.string M.2.str)
          generalize (w101.setCell ⟨G, 0, none⟩ (.string M.1.str)).setCell ⟨G, 1, none⟩ (.string M.2.str) = ws at *
          clear hx0a hx0b hx0c hx0f hx0g hx1a hx1b hx1c hx1f hx1g hx2a hx2b hx2c hx2f hx2g hx0 hx1 hx2 hbw101
          obtain ⟨hs0a, hs0b, hs0c⟩ := two_facts hs0
          obtain ⟨hs0f, hs0g⟩ := two_frozen hs0
          obtain ⟨hs1a, hs1b, hs1c⟩ := two_facts hs1
          obtain ⟨hs1f, hs1g⟩ := two_frozen hs1
          obtain ⟨hs2a, hs2b, hs2c⟩ := two_facts hs2
          obtain ⟨hs2f, hs2g⟩ := two_frozen hs2
          refine (C _).mono ?_; rintro e wc ⟨rfl, rfl⟩
          by_cases h8 : M.1.carets ≤ 8
          · have h8' : ¬ (8 : Int) < (M.1.carets : Int) := by omega
            have hpm : pwN b (m + 1) = some M := by rw [hpn]; unfold limP; rw [if_pos h8]
            have HPM := Lib.hid hpm
            clear hpm hpn h8
            go_wp2_with fail
            go_roundw
            case rel => exact ⟨M, m + 1, by omega, by go_num, hs0, hs1, hs2, hbs, hs2c, HPM.out⟩
            case measure => simp [intOf]; omega
          · have h8' : (8 : Int) < (M.1.carets : Int) := by omega
            have hpm : pwN b (m + 1) = none := by rw [hpn]; unfold limP; rw [if_neg h8]
            have hN := pwN_none hpm K (by omega)
            have HN := Lib.hid hN
            clear hpm hpn hN h8
            go_wp2_with fail
            obtain ⟨q1, q2⟩ := two_cells (set_two (.string ⟨#[]⟩) (.string ⟨#[]⟩) hs1)
            refine bodyPost_ret (v := .tuple #[.agg #[.string ⟨#[]⟩, .string ⟨#[]⟩], .bool false]) (by simp [q1, q2, results, Tryz.results15, go_sem]) rfl ⟨by rw [HN.out]; rfl, ?_⟩
            exact (hbs.setCell (by show w.heap.size ≤ w.heap.size + 1; omega) _).setCell (by show w.heap.size ≤ w.heap.size + 1; omega) _
        · obtain rfl : m = K := by omega
          have hlt' : ¬ (0 : Int) < ((m - m : Nat) : Int) := by omega
          have HPO := Lib.hid hpo
          clear hpo hlt
          go_wp2_with fail
          obtain ⟨q1, q2⟩ := two_cells (set_two (.string o.1.str) (.string o.2.str) hx1)
          refine bodyPost_ret (v := .tuple #[.agg #[.string o.1.str, .string o.2.str], .bool true]) (by simp [q1, q2, results, Tryz.results15, go_sem]) rfl ⟨by rw [HPO.out]; rfl, ?_⟩
          exact (hbw.setCell (by show w.heap.size ≤ w.heap.size + 1; omega) _).setCell (by show w.heap.size ≤ w.heap.size + 1; omega) _

set_option maxRecDepth 100000 in
set_option maxHeartbeats 4000000 in
theorem implPowerPair_any (a b : ByteArray) (n : Int) (w : World) (ha : a.size ≤ 9223372036854775806) (hb : b.size ≤ 9223372036854775806) (lo : -9223372036854775808 ≤ n) (hi : n ≤ 9223372036854775807) :
    Calls Tryz.prog 14 #[.agg #[.string a, .string b], .int .i64 n] w (Gives (ansPr ((pairOf a b).bind fun p => powP p n)) w) := by
  have hg := fun w => isPair_any a b w ha hb
  cases h : pairOf a b with
  | none =>
    rw [h] at hg
    clear h
    go_enter Tryz.func14, Tryz.ntmps14
    go_wp2_with fail
    have hb0 : Below w.heap.size w ((w.alloc (.cells #[.string a, .string b] 25 (0, 0))).alloc (.cells #[.string ⟨#[]⟩, .string ⟨#[]⟩] 25 (0, 0))) := nxAlloc (nxAlloc (Below.refl _ _) _) _
    have hx0 := heap_keep (nxAlloc (Below.refl _ _) (.cells #[.string ⟨#[]⟩, .string ⟨#[]⟩] 25 (0, 0))) (heap_alloc_at w (.cells #[.string a, .string b] 25 (0, 0)))
    have hx1 := heap_alloc_at (w.alloc (.cells #[.string a, .string b] 25 (0, 0))) (.cells #[.string ⟨#[]⟩, .string ⟨#[]⟩] 25 (0, 0))
    generalize ((w.alloc (.cells #[.string a, .string b] 25 (0, 0))).alloc (.cells #[.string ⟨#[]⟩, .string ⟨#[]⟩] 25 (0, 0))) = w0 at *
    have e1 : (w.alloc (.cells #[.string a, .string b] 25 (0, 0))).heap.size = w.heap.size + 1 := by simp
    rw [e1] at hx1
    clear e1
    obtain ⟨hx0a, hx0b, hx0c⟩ := two_facts hx0
    obtain ⟨hx0f, hx0g⟩ := two_frozen hx0
    obtain ⟨hx1a, hx1b, hx1c⟩ := two_facts hx1
    obtain ⟨hx1f, hx1g⟩ := two_frozen hx1
    refine (hg _).mono ?_; rintro e w1 ⟨rfl, hb1⟩
    have hbw1 := nx hb0 hb1
    replace hx0 := heap_keep hb1 hx0
    replace hx1 := heap_keep hb1 hx1
    clear hx0a hx0b hx0c hx0f hx0g
    obtain ⟨hx0a, hx0b, hx0c⟩ := two_facts hx0
    obtain ⟨hx0f, hx0g⟩ := two_frozen hx0
    clear hx1a hx1b hx1c hx1f hx1g
    obtain ⟨hx1a, hx1b, hx1c⟩ := two_facts hx1
    obtain ⟨hx1f, hx1g⟩ := two_frozen hx1
    clear hb1 hb0
    go_wp2_with fail
    obtain ⟨q1, q2⟩ := two_cells (set_two (.string ⟨#[]⟩) (.string ⟨#[]⟩) hx1)
    refine bodyPost_ret (v := .tuple #[.agg #[.string ⟨#[]⟩, .string ⟨#[]⟩], .bool false]) (by simp [q1, q2, results, Tryz.results14, go_sem]) rfl ⟨rfl, ?_⟩
    exact (hbw1.setCell (by show w.heap.size ≤ w.heap.size + 1; omega) _).setCell (by show w.heap.size ≤ w.heap.size + 1; omega) _
  | some p =>
    rw [h] at hg
    obtain ⟨rfl, rfl, hok, hc1, hc2⟩ := pairOf_some h
    clear h
    show Calls _ _ _ _ (Gives (ansPr (powP p n)) w)
    unfold powP
    by_cases hn : -10 ≤ n ∧ n ≤ 10
    rotate_left
    · rw [if_neg hn]
      by_cases h1 : n < -10
      · clear hn
        go_enter Tryz.func14, Tryz.ntmps14
        go_wp2_with fail
        have hb0 : Below w.heap.size w ((w.alloc (.cells #[.string p.1.str, .string p.2.str] 25 (0, 0))).alloc (.cells #[.string ⟨#[]⟩, .string ⟨#[]⟩] 25 (0, 0))) := nxAlloc (nxAlloc (Below.refl _ _) _) _
        have hx0 := heap_keep (nxAlloc (Below.refl _ _) (.cells #[.string ⟨#[]⟩, .string ⟨#[]⟩] 25 (0, 0))) (heap_alloc_at w (.cells #[.string p.1.str, .string p.2.str] 25 (0, 0)))
        have hx1 := heap_alloc_at (w.alloc (.cells #[.string p.1.str, .string p.2.str] 25 (0, 0))) (.cells #[.string ⟨#[]⟩, .string ⟨#[]⟩] 25 (0, 0))
        generalize ((w.alloc (.cells #[.string p.1.str, .string p.2.str] 25 (0, 0))).alloc (.cells #[.string ⟨#[]⟩, .string ⟨#[]⟩] 25 (0, 0))) = w0 at *
        have e1 : (w.alloc (.cells #[.string p.1.str, .string p.2.str] 25 (0, 0))).heap.size = w.heap.size + 1 := by simp
        rw [e1] at hx1
        clear e1
        obtain ⟨hx0a, hx0b, hx0c⟩ := two_facts hx0
        obtain ⟨hx0f, hx0g⟩ := two_frozen hx0
        obtain ⟨hx1a, hx1b, hx1c⟩ := two_facts hx1
        obtain ⟨hx1f, hx1g⟩ := two_frozen hx1
        refine (hg _).mono ?_; rintro e w1 ⟨rfl, hb1⟩
        have hbw1 := nx hb0 hb1
        replace hx0 := heap_keep hb1 hx0
        replace hx1 := heap_keep hb1 hx1
        clear hx0a hx0b hx0c hx0f hx0g
        obtain ⟨hx0a, hx0b, hx0c⟩ := two_facts hx0
        obtain ⟨hx0f, hx0g⟩ := two_frozen hx0
        clear hx1a hx1b hx1c hx1f hx1g
        obtain ⟨hx1a, hx1b, hx1c⟩ := two_facts hx1
        obtain ⟨hx1f, hx1g⟩ := two_frozen hx1
        clear hb1 hb0
        go_wp2_with fail
        obtain ⟨q1, q2⟩ := two_cells (set_two (.string ⟨#[]⟩) (.string ⟨#[]⟩) hx1)
        refine bodyPost_ret (v := .tuple #[.agg #[.string ⟨#[]⟩, .string ⟨#[]⟩], .bool false]) (by simp [q1, q2, results, Tryz.results14, go_sem]) rfl ⟨rfl, ?_⟩
        exact (hbw1.setCell (by show w.heap.size ≤ w.heap.size + 1; omega) _).setCell (by show w.heap.size ≤ w.heap.size + 1; omega) _
      · have h2 : 10 < n := by omega
        clear hn
        go_enter Tryz.func14, Tryz.ntmps14
        go_wp2_with fail
        have hb0 : Below w.heap.size w ((w.alloc (.cells #[.string p.1.str, .string p.2.str] 25 (0, 0))).alloc (.cells #[.string ⟨#[]⟩, .string ⟨#[]⟩] 25 (0, 0))) := nxAlloc (nxAlloc (Below.refl _ _) _) _
        have hx0 := heap_keep (nxAlloc (Below.refl _ _) (.cells #[.string ⟨#[]⟩, .string ⟨#[]⟩] 25 (0, 0))) (heap_alloc_at w (.cells #[.string p.1.str, .string p.2.str] 25 (0, 0)))
        have hx1 := heap_alloc_at (w.alloc (.cells #[.string p.1.str, .string p.2.str] 25 (0, 0))) (.cells #[.string ⟨#[]⟩, .string ⟨#[]⟩] 25 (0, 0))
        generalize ((w.alloc (.cells #[.string p.1.str, .string p.2.str] 25 (0, 0))).alloc (.cells #[.string ⟨#[]⟩, .string ⟨#[]⟩] 25 (0, 0))) = w0 at *
        have e1 : (w.alloc (.cells #[.string p.1.str, .string p.2.str] 25 (0, 0))).heap.size = w.heap.size + 1 := by simp
        rw [e1] at hx1
        clear e1
        obtain ⟨hx0a, hx0b, hx0c⟩ := two_facts hx0
        obtain ⟨hx0f, hx0g⟩ := two_frozen hx0
        obtain ⟨hx1a, hx1b, hx1c⟩ := two_facts hx1
        obtain ⟨hx1f, hx1g⟩ := two_frozen hx1
        refine (hg _).mono ?_; rintro e w1 ⟨rfl, hb1⟩
        have hbw1 := nx hb0 hb1
        replace hx0 := heap_keep hb1 hx0
        replace hx1 := heap_keep hb1 hx1
        clear hx0a hx0b hx0c hx0f hx0g
        obtain ⟨hx0a, hx0b, hx0c⟩ := two_facts hx0
        obtain ⟨hx0f, hx0g⟩ := two_frozen hx0
        clear hx1a hx1b hx1c hx1f hx1g
        obtain ⟨hx1a, hx1b, hx1c⟩ := two_facts hx1
        obtain ⟨hx1f, hx1g⟩ := two_frozen hx1
        clear hb1 hb0
        go_wp2_with fail
        obtain ⟨q1, q2⟩ := two_cells (set_two (.string ⟨#[]⟩) (.string ⟨#[]⟩) hx1)
        refine bodyPost_ret (v := .tuple #[.agg #[.string ⟨#[]⟩, .string ⟨#[]⟩], .bool false]) (by simp [q1, q2, results, Tryz.results14, go_sem]) rfl ⟨rfl, ?_⟩
        exact (hbw1.setCell (by show w.heap.size ≤ w.heap.size + 1; omega) _).setCell (by show w.heap.size ≤ w.heap.size + 1; omega) _
    rw [if_pos hn]
    obtain ⟨hn1, hn2⟩ := hn
    have hok' : p.1.carets = p.2.carets := hok
    by_cases hneg : n < 0
    · rw [if_pos hneg]
      obtain ⟨K, rfl⟩ : ∃ K : Nat, n = -(K : Int) := ⟨(-n).toNat, by omega⟩
      have eK : (-(-(K : Int))).toNat = K := by omega
      rw [eK]
      have hbok : okP (invP p) := hok.symm
      have hbc : (invP p).1.carets ≤ 8 := hc2
      clear eK
      go_enter Tryz.func14, Tryz.ntmps14
      go_wp2_with fail
      have hb0 : Below w.heap.size w ((w.alloc (.cells #[.string p.1.str, .string p.2.str] 25 (0, 0))).alloc (.cells #[.string ⟨#[]⟩, .string ⟨#[]⟩] 25 (0, 0))) := nxAlloc (nxAlloc (Below.refl _ _) _) _
      have hx0 := heap_keep (nxAlloc (Below.refl _ _) (.cells #[.string ⟨#[]⟩, .string ⟨#[]⟩] 25 (0, 0))) (heap_alloc_at w (.cells #[.string p.1.str, .string p.2.str] 25 (0, 0)))
      have hx1 := heap_alloc_at (w.alloc (.cells #[.string p.1.str, .string p.2.str] 25 (0, 0))) (.cells #[.string ⟨#[]⟩, .string ⟨#[]⟩] 25 (0, 0))
      generalize ((w.alloc (.cells #[.string p.1.str, .string p.2.str] 25 (0, 0))).alloc (.cells #[.string ⟨#[]⟩, .string ⟨#[]⟩] 25 (0, 0))) = w0 at *
      have e1 : (w.alloc (.cells #[.string p.1.str, .string p.2.str] 25 (0, 0))).heap.size = w.heap.size + 1 := by simp
      rw [e1] at hx1
      clear e1
      obtain ⟨hx0a, hx0b, hx0c⟩ := two_facts hx0
      obtain ⟨hx0f, hx0g⟩ := two_frozen hx0
      obtain ⟨hx1a, hx1b, hx1c⟩ := two_facts hx1
      obtain ⟨hx1f, hx1g⟩ := two_frozen hx1
      refine (hg _).mono ?_; rintro e w1 ⟨rfl, hb1⟩
      have hbw1 := nx hb0 hb1
      replace hx0 := heap_keep hb1 hx0
      replace hx1 := heap_keep hb1 hx1
      clear hx0a hx0b hx0c hx0f hx0g
      obtain ⟨hx0a, hx0b, hx0c⟩ := two_facts hx0
      obtain ⟨hx0f, hx0g⟩ := two_frozen hx0
      clear hx1a hx1b hx1c hx1f hx1g
      obtain ⟨hx1a, hx1b, hx1c⟩ := two_facts hx1
      obtain ⟨hx1f, hx1g⟩ := two_frozen hx1
      clear hb1 hb0
      go_wp2_with fail
      refine (inverse_any _ _ _).mono ?_; rintro e w2 ⟨rfl, hb2⟩
      have hbw2 := nx hbw1 hb2
      replace hx0 := heap_keep hb2 hx0
      replace hx1 := heap_keep hb2 hx1
      clear hx0a hx0b hx0c hx0f hx0g
      obtain ⟨hx0a, hx0b, hx0c⟩ := two_facts hx0
      obtain ⟨hx0f, hx0g⟩ := two_frozen hx0
      clear hx1a hx1b hx1c hx1f hx1g
      obtain ⟨hx1a, hx1b, hx1c⟩ := two_facts hx1
      obtain ⟨hx1f, hx1g⟩ := two_frozen hx1
      clear hb2 hbw1
      go_wp2_with fail
      have hs0 := set_two (.string p.2.str) (.string p.1.str) hx0
      have hs1 := (Below.heap_setCell (w2.setCell ⟨w.heap.size, 0, none⟩ (.string p.2.str)) ⟨w.heap.size, 1, none⟩ (.string p.1.str) (w.heap.size + 1) (by show ¬ w.heap.size + 1 = w.heap.size; omega)).trans ((Below.heap_setCell w2 ⟨w.heap.size, 0, none⟩ (.string p.2.str) (w.heap.size + 1) (by show ¬ w.heap.size + 1 = w.heap.size; omega)).trans hx1)
      have hbs := (hbw2.setCell (p := ⟨w.heap.size, 0, none⟩) (Nat.le_refl _) (.string p.2.str)).setCell (p := ⟨w.heap.size, 1, none⟩) (Nat.le_refl _) (.string p.1.str)
      generalize (w2.setCell ⟨w.heap.size, 0, none⟩ (.string p.2.str)).setCell ⟨w.heap.size, 1, none⟩ (.string p.1.str) = ws at *
      clear hx0a hx0b hx0c hx0f hx0g hx1a hx1b hx1c hx1f hx1g hx0 hx1 hbw2
      have hx0 := hs0
      have hx1 := hs1
      clear hs0 hs1
      obtain ⟨hx0a, hx0b, hx0c⟩ := two_facts hx0
      obtain ⟨hx0f, hx0g⟩ := two_frozen hx0
      obtain ⟨hx1a, hx1b, hx1c⟩ := two_facts hx1
      obtain ⟨hx1f, hx1g⟩ := two_frozen hx1
      replace hx0 : ws.heap[w.heap.size]? = some (.cells #[.string (invP p).1.str, .string (invP p).2.str] 25 (0, 0)) := hx0
      generalize invP p = b at *
      refine (identity_any _).mono ?_; rintro e wu ⟨rfl, hbu⟩
      have hbwu := nx hbs hbu
      replace hx0 := heap_keep hbu hx0
      replace hx1 := heap_keep hbu hx1
      clear hx0a hx0b hx0c hx0f hx0g
      obtain ⟨hx0a, hx0b, hx0c⟩ := two_facts hx0
      obtain ⟨hx0f, hx0g⟩ := two_frozen hx0
      clear hx1a hx1b hx1c hx1f hx1g
      obtain ⟨hx1a, hx1b, hx1c⟩ := two_facts hx1
      obtain ⟨hx1f, hx1g⟩ := two_frozen hx1
      clear hbu hbs
      go_wp2_with fail
      have hlow : w.heap.size + 1 < wu.heap.size := hx1c
      have hbwv := nxAlloc hbwu (.cells #[.string Tr.lf.str, .string Tr.lf.str] 25 (0, 0))
      replace hx0 := heap_keep (nxAlloc (Below.refl _ _) (.cells #[.string Tr.lf.str, .string Tr.lf.str] 25 (0, 0))) hx0
      replace hx1 := heap_keep (nxAlloc (Below.refl _ _) (.cells #[.string Tr.lf.str, .string Tr.lf.str] 25 (0, 0))) hx1
      have hyv := heap_alloc_at wu (.cells #[.string Tr.lf.str, .string Tr.lf.str] 25 (0, 0))
      generalize wu.alloc (.cells #[.string Tr.lf.str, .string Tr.lf.str] 25 (0, 0)) = wv at *
      clear hbwu
      clear hx0a hx0b hx0c hx0f hx0g
      obtain ⟨hx0a, hx0b, hx0c⟩ := two_facts hx0
      obtain ⟨hx0f, hx0g⟩ := two_frozen hx0
      clear hx1a hx1b hx1c hx1f hx1g
      obtain ⟨hx1a, hx1b, hx1c⟩ := two_facts hx1
      obtain ⟨hx1f, hx1g⟩ := two_frozen hx1
      obtain ⟨hyva, hyvb, hyvc⟩ := two_facts hyv
      obtain ⟨hyvf, hyvg⟩ := two_frozen hyv
      generalize hG : wu.heap.size = G at *
      clear hG
      have hgO : w.heap.size + 1 < G := hlow
      go_loopw [29] (fun v wr => ∃ (o : Pr) (m : Nat), m ≤ K ∧ v = .int .i64 (m : Int) ∧ wr.heap[w.heap.size]? = some (.cells #[.string b.1.str, .string b.2.str] 25 (0, 0)) ∧ wr.heap[w.heap.size + 1]? = some (.cells #[.string ⟨#[]⟩, .string ⟨#[]⟩] 25 (0, 0)) ∧ wr.heap[G]? = some (.cells #[.string o.1.str, .string o.2.str] 25 (0, 0)) ∧ Below w.heap.size w wr ∧ G < wr.heap.size ∧ pwN b m = some o) (fun v _ => K - (intOf v).toNat)
      case atStart => exact ⟨unitP, 0, Nat.zero_le _, by simp, hx0, hx1, hyv, hbwv, hyvc, rfl⟩
      case round =>
        clear hx0a hx0b hx0c hx0f hx0g hx1a hx1b hx1c hx1f hx1g hyva hyvb hyvc hyvf hyvg hx0 hx1 hyv hbwv
        obtain ⟨o, m, hm, rfl, hx0, hx1, hx2, hbw, hgl, hpo⟩ := hrel
        obtain ⟨hoo, hoc⟩ := pwN_ok hbok hpo
        obtain ⟨hx0a, hx0b, hx0c⟩ := two_facts hx0
        obtain ⟨hx0f, hx0g⟩ := two_frozen hx0
        obtain ⟨hx1a, hx1b, hx1c⟩ := two_facts hx1
        obtain ⟨hx1f, hx1g⟩ := two_frozen hx1
        obtain ⟨hx2a, hx2b, hx2c⟩ := two_facts hx2
        obtain ⟨hx2f, hx2g⟩ := two_frozen hx2
        by_cases hlt : m < K
        · have hbc2 := hbc
          have hmo := mulP_ok hoo hbok
          have hlt' : (m : Int) < (K : Int) := by omega
          have hpn : pwN b (m + 1) = limP (mulP o b) := by rw [pwN, hpo]; rfl
          have s1 := o.1.str_size
          have s2 := o.2.str_size
          have s3 := b.1.str_size
          have s4 := b.2.str_size
          have T := fun w => implProductPair_any o.1.str o.2.str b.1.str b.2.str w (by unfold okP at *; omega) (by unfold okP at *; omega) (by unfold okP at *; omega) (by unfold okP at *; omega)
          rw [pairOf_str hoo hoc, pairOf_str hbok hbc] at T
          have HPO := Lib.hid hpo
          clear hpo s1 s2 s3 s4
          by_cases h8 : (mulP o b).1.carets ≤ 8
          · have hpm : pwN b (m + 1) = some (mulP o b) := by rw [hpn]; unfold limP; rw [if_pos h8]
            have T' : ∀ w, Calls Tryz.prog 7 #[.agg #[.string o.1.str, .string o.2.str], .agg #[.string b.1.str, .string b.2.str]] w (Gives (.tuple #[.agg #[.string (mulP o b).1.str, .string (mulP o b).2.str], .bool true]) w) := by
              intro w; have := T w; simp only [Option.bind_some, limP, if_pos h8] at this; exact this
            have HPM := Lib.hid hpm
            clear hpm hpn T h8
            generalize mulP o b = M at *
            go_wp2_with fail
            refine (T' _).mono ?_; rintro e w101 ⟨rfl, hb101⟩
            have hbw101 := nx hbw hb101
            replace hx0 := heap_keep hb101 hx0
            replace hx1 := heap_keep hb101 hx1
            replace hx2 := heap_keep hb101 hx2
            clear hx0a hx0b hx0c hx0f hx0g
            obtain ⟨hx0a, hx0b, hx0c⟩ := two_facts hx0
            obtain ⟨hx0f, hx0g⟩ := two_frozen hx0
            clear hx1a hx1b hx1c hx1f hx1g
            obtain ⟨hx1a, hx1b, hx1c⟩ := two_facts hx1
            obtain ⟨hx1f, hx1g⟩ := two_frozen hx1
            clear hx2a hx2b hx2c hx2f hx2g
            obtain ⟨hx2a, hx2b, hx2c⟩ := two_facts hx2
            obtain ⟨hx2f, hx2g⟩ := two_frozen hx2
            clear hb101 hbw
            go_wp2_with fail
            have hs2 := set_two (.string M.1.str) (.string M.2.str) hx2
            have hs0 := (Below.heap_setCell (w101.setCell ⟨G, 0, none⟩ (.string M.1.str)) ⟨G, 1, none⟩ (.string M.2.str) w.heap.size (by show ¬ w.heap.size = G; omega)).trans ((Below.heap_setCell w101 ⟨G, 0, none⟩ (.string M.1.str) w.heap.size (by show ¬ w.heap.size = G; omega)).trans hx0)
            have hs1 := (Below.heap_setCell (w101.setCell ⟨G, 0, none⟩ (.string M.1.str)) ⟨G, 1, none⟩ (.string M.2.str) (w.heap.size + 1) (by show ¬ w.heap.size + 1 = G; omega)).trans ((Below.heap_setCell w101 ⟨G, 0, none⟩ (.string M.1.str) (w.heap.size + 1) (by show ¬ w.heap.size + 1 = G; omega)).trans hx1)
            have hbs := (hbw101.setCell (p := ⟨G, 0, none⟩) (by show w.heap.size ≤ G; omega) (.string M.1.str)).setCell (p := ⟨G, 1, none⟩) (by show w.heap.size ≤ G; omega) (.string M.2.str)
            replace hs0 := heap_keep (nxAlloc (Below.refl _ _) (.cells #[.string M.1.str, .string M.2.str] 25 (0, 0))) hs0
            replace hs1 := heap_keep (nxAlloc (Below.refl _ _) (.cells #[.string M.1.str, .string M.2.str] 25 (0, 0))) hs1
            replace hs2 := heap_keep (nxAlloc (Below.refl _ _) (.cells #[.string M.1.str, .string M.2.str] 25 (0, 0))) hs2
            replace hbs := nxAlloc hbs (.cells #[.string M.1.str, .string M.2.str] 25 (0, 0))
            go_roundw
            case rel => exact ⟨M, m + 1, by omega, by go_num, hs0, hs1, hs2, hbs, lt_of_block hs2, HPM.out⟩
            case measure => simp [intOf]; omega
          · have hpm : pwN b (m + 1) = none := by rw [hpn]; unfold limP; rw [if_neg h8]
            have T' : ∀ w, Calls Tryz.prog 7 #[.agg #[.string o.1.str, .string o.2.str], .agg #[.string b.1.str, .string b.2.str]] w (Gives (.tuple #[.agg #[.string ⟨#[]⟩, .string ⟨#[]⟩], .bool false]) w) := by
              intro w; have := T w; simp only [Option.bind_some, limP, if_neg h8] at this; exact this
            have hN := pwN_none hpm K (by omega)
            have HN := Lib.hid hN
            clear hpm hpn T h8 hN
            go_wp2_with fail
            refine (T' _).mono ?_; rintro e w101 ⟨rfl, hb101⟩
            have hbw101 := nx hbw hb101
            replace hx0 := heap_keep hb101 hx0
            replace hx1 := heap_keep hb101 hx1
            replace hx2 := heap_keep hb101 hx2
            clear hx0a hx0b hx0c hx0f hx0g
            obtain ⟨hx0a, hx0b, hx0c⟩ := two_facts hx0
            obtain ⟨hx0f, hx0g⟩ := two_frozen hx0
            clear hx1a hx1b hx1c hx1f hx1g
            obtain ⟨hx1a, hx1b, hx1c⟩ := two_facts hx1
            obtain ⟨hx1f, hx1g⟩ := two_frozen hx1
            clear hx2a hx2b hx2c hx2f hx2g
            obtain ⟨hx2a, hx2b, hx2c⟩ := two_facts hx2
            obtain ⟨hx2f, hx2g⟩ := two_frozen hx2
            clear hb101 hbw
            go_wp2_with fail
            obtain ⟨q1, q2⟩ := two_cells (heap_keep (nxAlloc (Below.refl _ _) (.cells #[.string ⟨#[]⟩, .string ⟨#[]⟩] 25 (0, 0))) (set_two (.string ⟨#[]⟩) (.string ⟨#[]⟩) hx1))
            refine bodyPost_ret (v := .tuple #[.agg #[.string ⟨#[]⟩, .string ⟨#[]⟩], .bool false]) (by simp [q1, q2, results, Tryz.results14, go_sem]) rfl ⟨by rw [HN.out]; rfl, ?_⟩
            exact nxAlloc ((hbw101.setCell (by show w.heap.size ≤ w.heap.size + 1; omega) _).setCell (by show w.heap.size ≤ w.heap.size + 1; omega) _) _
        · obtain rfl : m = K := by omega
          have hlt' : ¬ (m : Int) < (m : Int) := by omega
          have HPO := Lib.hid hpo
          clear hpo hlt
          go_wp2_with fail
          obtain ⟨q1, q2⟩ := two_cells (set_two (.string o.1.str) (.string o.2.str) hx1)
          refine bodyPost_ret (v := .tuple #[.agg #[.string o.1.str, .string o.2.str], .bool true]) (by simp [q1, q2, results, Tryz.results14, go_sem]) rfl ⟨by rw [HPO.out]; rfl, ?_⟩
          exact (hbw.setCell (by show w.heap.size ≤ w.heap.size + 1; omega) _).setCell (by show w.heap.size ≤ w.heap.size + 1; omega) _
    · rw [if_neg hneg]
      obtain ⟨K, rfl⟩ : ∃ K : Nat, n = (K : Int) := ⟨n.toNat, by omega⟩
      have eK : ((K : Int)).toNat = K := by omega
      rw [eK]
      have hbok : okP p := hok
      have hbc : p.1.carets ≤ 8 := hc1
      clear eK
      go_enter Tryz.func14, Tryz.ntmps14
      go_wp2_with fail
      have hb0 : Below w.heap.size w ((w.alloc (.cells #[.string p.1.str, .string p.2.str] 25 (0, 0))).alloc (.cells #[.string ⟨#[]⟩, .string ⟨#[]⟩] 25 (0, 0))) := nxAlloc (nxAlloc (Below.refl _ _) _) _
      have hx0 := heap_keep (nxAlloc (Below.refl _ _) (.cells #[.string ⟨#[]⟩, .string ⟨#[]⟩] 25 (0, 0))) (heap_alloc_at w (.cells #[.string p.1.str, .string p.2.str] 25 (0, 0)))
      have hx1 := heap_alloc_at (w.alloc (.cells #[.string p.1.str, .string p.2.str] 25 (0, 0))) (.cells #[.string ⟨#[]⟩, .string ⟨#[]⟩] 25 (0, 0))
      generalize ((w.alloc (.cells #[.string p.1.str, .string p.2.str] 25 (0, 0))).alloc (.cells #[.string ⟨#[]⟩, .string ⟨#[]⟩] 25 (0, 0))) = w0 at *
      have e1 : (w.alloc (.cells #[.string p.1.str, .string p.2.str] 25 (0, 0))).heap.size = w.heap.size + 1 := by simp
      rw [e1] at hx1
      clear e1
      obtain ⟨hx0a, hx0b, hx0c⟩ := two_facts hx0
      obtain ⟨hx0f, hx0g⟩ := two_frozen hx0
      obtain ⟨hx1a, hx1b, hx1c⟩ := two_facts hx1
      obtain ⟨hx1f, hx1g⟩ := two_frozen hx1
      refine (hg _).mono ?_; rintro e w1 ⟨rfl, hb1⟩
      have hbw1 := nx hb0 hb1
      replace hx0 := heap_keep hb1 hx0
      replace hx1 := heap_keep hb1 hx1
      clear hx0a hx0b hx0c hx0f hx0g
      obtain ⟨hx0a, hx0b, hx0c⟩ := two_facts hx0
      obtain ⟨hx0f, hx0g⟩ := two_frozen hx0
      clear hx1a hx1b hx1c hx1f hx1g
      obtain ⟨hx1a, hx1b, hx1c⟩ := two_facts hx1
      obtain ⟨hx1f, hx1g⟩ := two_frozen hx1
      clear hb1 hb0
      go_wp2_with fail
      generalize p = b at *
      refine (identity_any _).mono ?_; rintro e wu ⟨rfl, hbu⟩
      have hbwu := nx hbw1 hbu
      replace hx0 := heap_keep hbu hx0
      replace hx1 := heap_keep hbu hx1
      clear hx0a hx0b hx0c hx0f hx0g
      obtain ⟨hx0a, hx0b, hx0c⟩ := two_facts hx0
      obtain ⟨hx0f, hx0g⟩ := two_frozen hx0
      clear hx1a hx1b hx1c hx1f hx1g
      obtain ⟨hx1a, hx1b, hx1c⟩ := two_facts hx1
      obtain ⟨hx1f, hx1g⟩ := two_frozen hx1
      clear hbu hbw1
      go_wp2_with fail
      have hlow : w.heap.size + 1 < wu.heap.size := hx1c
      have hbwv := nxAlloc hbwu (.cells #[.string Tr.lf.str, .string Tr.lf.str] 25 (0, 0))
      replace hx0 := heap_keep (nxAlloc (Below.refl _ _) (.cells #[.string Tr.lf.str, .string Tr.lf.str] 25 (0, 0))) hx0
      replace hx1 := heap_keep (nxAlloc (Below.refl _ _) (.cells #[.string Tr.lf.str, .string Tr.lf.str] 25 (0, 0))) hx1
      have hyv := heap_alloc_at wu (.cells #[.string Tr.lf.str, .string Tr.lf.str] 25 (0, 0))
      generalize wu.alloc (.cells #[.string Tr.lf.str, .string Tr.lf.str] 25 (0, 0)) = wv at *
      clear hbwu
      clear hx0a hx0b hx0c hx0f hx0g
      obtain ⟨hx0a, hx0b, hx0c⟩ := two_facts hx0
      obtain ⟨hx0f, hx0g⟩ := two_frozen hx0
      clear hx1a hx1b hx1c hx1f hx1g
      obtain ⟨hx1a, hx1b, hx1c⟩ := two_facts hx1
      obtain ⟨hx1f, hx1g⟩ := two_frozen hx1
      obtain ⟨hyva, hyvb, hyvc⟩ := two_facts hyv
      obtain ⟨hyvf, hyvg⟩ := two_frozen hyv
      generalize hG : wu.heap.size = G at *
      clear hG
      have hgO : w.heap.size + 1 < G := hlow
      go_loopw [29] (fun v wr => ∃ (o : Pr) (m : Nat), m ≤ K ∧ v = .int .i64 (m : Int) ∧ wr.heap[w.heap.size]? = some (.cells #[.string b.1.str, .string b.2.str] 25 (0, 0)) ∧ wr.heap[w.heap.size + 1]? = some (.cells #[.string ⟨#[]⟩, .string ⟨#[]⟩] 25 (0, 0)) ∧ wr.heap[G]? = some (.cells #[.string o.1.str, .string o.2.str] 25 (0, 0)) ∧ Below w.heap.size w wr ∧ G < wr.heap.size ∧ pwN b m = some o) (fun v _ => K - (intOf v).toNat)
      case atStart => exact ⟨unitP, 0, Nat.zero_le _, by simp, hx0, hx1, hyv, hbwv, hyvc, rfl⟩
      case round =>
        clear hx0a hx0b hx0c hx0f hx0g hx1a hx1b hx1c hx1f hx1g hyva hyvb hyvc hyvf hyvg hx0 hx1 hyv hbwv
        obtain ⟨o, m, hm, rfl, hx0, hx1, hx2, hbw, hgl, hpo⟩ := hrel
        obtain ⟨hoo, hoc⟩ := pwN_ok hbok hpo
        obtain ⟨hx0a, hx0b, hx0c⟩ := two_facts hx0
        obtain ⟨hx0f, hx0g⟩ := two_frozen hx0
        obtain ⟨hx1a, hx1b, hx1c⟩ := two_facts hx1
        obtain ⟨hx1f, hx1g⟩ := two_frozen hx1
        obtain ⟨hx2a, hx2b, hx2c⟩ := two_facts hx2
        obtain ⟨hx2f, hx2g⟩ := two_frozen hx2
        by_cases hlt : m < K
        · have hbc2 := hbc
          have hmo := mulP_ok hoo hbok
          have hlt' : (m : Int) < (K : Int) := by omega
          have hpn : pwN b (m + 1) = limP (mulP o b) := by rw [pwN, hpo]; rfl
          have s1 := o.1.str_size
          have s2 := o.2.str_size
          have s3 := b.1.str_size
          have s4 := b.2.str_size
          have T := fun w => implProductPair_any o.1.str o.2.str b.1.str b.2.str w (by unfold okP at *; omega) (by unfold okP at *; omega) (by unfold okP at *; omega) (by unfold okP at *; omega)
          rw [pairOf_str hoo hoc, pairOf_str hbok hbc] at T
          have HPO := Lib.hid hpo
          clear hpo s1 s2 s3 s4
          by_cases h8 : (mulP o b).1.carets ≤ 8
          · have hpm : pwN b (m + 1) = some (mulP o b) := by rw [hpn]; unfold limP; rw [if_pos h8]
            have T' : ∀ w, Calls Tryz.prog 7 #[.agg #[.string o.1.str, .string o.2.str], .agg #[.string b.1.str, .string b.2.str]] w (Gives (.tuple #[.agg #[.string (mulP o b).1.str, .string (mulP o b).2.str], .bool true]) w) := by
              intro w; have := T w; simp only [Option.bind_some, limP, if_pos h8] at this; exact this
            have HPM := Lib.hid hpm
            clear hpm hpn T h8
            generalize mulP o b = M at *
            go_wp2_with fail
            refine (T' _).mono ?_; rintro e w101 ⟨rfl, hb101⟩
            have hbw101 := nx hbw hb101
            replace hx0 := heap_keep hb101 hx0
            replace hx1 := heap_keep hb101 hx1
            replace hx2 := heap_keep hb101 hx2
            clear hx0a hx0b hx0c hx0f hx0g
            obtain ⟨hx0a, hx0b, hx0c⟩ := two_facts hx0
            obtain ⟨hx0f, hx0g⟩ := two_frozen hx0
            clear hx1a hx1b hx1c hx1f hx1g
            obtain ⟨hx1a, hx1b, hx1c⟩ := two_facts hx1
            obtain ⟨hx1f, hx1g⟩ := two_frozen hx1
            clear hx2a hx2b hx2c hx2f hx2g
            obtain ⟨hx2a, hx2b, hx2c⟩ := two_facts hx2
            obtain ⟨hx2f, hx2g⟩ := two_frozen hx2
            clear hb101 hbw
            go_wp2_with fail
            have hs2 := set_two (.string M.1.str) (.string M.2.str) hx2
            have hs0 := (Below.heap_setCell (w101.setCell ⟨G, 0, none⟩ (.string M.1.str)) ⟨G, 1, none⟩ (.string M.2.str) w.heap.size (by show ¬ w.heap.size = G; omega)).trans ((Below.heap_setCell w101 ⟨G, 0, none⟩ (.string M.1.str) w.heap.size (by show ¬ w.heap.size = G; omega)).trans hx0)
            have hs1 := (Below.heap_setCell (w101.setCell ⟨G, 0, none⟩ (.string M.1.str)) ⟨G, 1, none⟩ (.string M.2.str) (w.heap.size + 1) (by show ¬ w.heap.size + 1 = G; omega)).trans ((Below.heap_setCell w101 ⟨G, 0, none⟩ (.string M.1.str) (w.heap.size + 1) (by show ¬ w.heap.size + 1 = G; omega)).trans hx1)
            have hbs := (hbw101.setCell (p := ⟨G, 0, none⟩) (by show w.heap.size ≤ G; omega) (.string M.1.str)).setCell (p := ⟨G, 1, none⟩) (by show w.heap.size ≤ G; omega) (.string M.2.str)
            replace hs0 := heap_keep (nxAlloc (Below.refl _ _) (.cells #[.string M.1.str, .string M.2.str] 25 (0, 0))) hs0
            replace hs1 := heap_keep (nxAlloc (Below.refl _ _) (.cells #[.string M.1.str, .string M.2.str] 25 (0, 0))) hs1
            replace hs2 := heap_keep (nxAlloc (Below.refl _ _) (.cells #[.string M.1.str, .string M.2.str] 25 (0, 0))) hs2
            replace hbs := nxAlloc hbs (.cells #[.string M.1.str, .string M.2.str] 25 (0, 0))
            go_roundw
            case rel => exact ⟨M, m + 1, by omega, by go_num, hs0, hs1, hs2, hbs, lt_of_block hs2, HPM.out⟩
            case measure => simp [intOf]; omega
          · have hpm : pwN b (m + 1) = none := by rw [hpn]; unfold limP; rw [if_neg h8]
            have T' : ∀ w, Calls Tryz.prog 7 #[.agg #[.string o.1.str, .string o.2.str], .agg #[.string b.1.str, .string b.2.str]] w (Gives (.tuple #[.agg #[.string ⟨#[]⟩, .string ⟨#[]⟩], .bool false]) w) := by
              intro w; have := T w; simp only [Option.bind_some, limP, if_neg h8] at this; exact this
            have hN := pwN_none hpm K (by omega)
            have HN := Lib.hid hN
            clear hpm hpn T h8 hN
            go_wp2_with fail
            refine (T' _).mono ?_; rintro e w101 ⟨rfl, hb101⟩
            have hbw101 := nx hbw hb101
            replace hx0 := heap_keep hb101 hx0
            replace hx1 := heap_keep hb101 hx1
            replace hx2 := heap_keep hb101 hx2
            clear hx0a hx0b hx0c hx0f hx0g
            obtain ⟨hx0a, hx0b, hx0c⟩ := two_facts hx0
            obtain ⟨hx0f, hx0g⟩ := two_frozen hx0
            clear hx1a hx1b hx1c hx1f hx1g
            obtain ⟨hx1a, hx1b, hx1c⟩ := two_facts hx1
            obtain ⟨hx1f, hx1g⟩ := two_frozen hx1
            clear hx2a hx2b hx2c hx2f hx2g
            obtain ⟨hx2a, hx2b, hx2c⟩ := two_facts hx2
            obtain ⟨hx2f, hx2g⟩ := two_frozen hx2
            clear hb101 hbw
            go_wp2_with fail
            obtain ⟨q1, q2⟩ := two_cells (heap_keep (nxAlloc (Below.refl _ _) (.cells #[.string ⟨#[]⟩, .string ⟨#[]⟩] 25 (0, 0))) (set_two (.string ⟨#[]⟩) (.string ⟨#[]⟩) hx1))
            refine bodyPost_ret (v := .tuple #[.agg #[.string ⟨#[]⟩, .string ⟨#[]⟩], .bool false]) (by simp [q1, q2, results, Tryz.results14, go_sem]) rfl ⟨by rw [HN.out]; rfl, ?_⟩
            exact nxAlloc ((hbw101.setCell (by show w.heap.size ≤ w.heap.size + 1; omega) _).setCell (by show w.heap.size ≤ w.heap.size + 1; omega) _) _
        · obtain rfl : m = K := by omega
          have hlt' : ¬ (m : Int) < (m : Int) := by omega
          have HPO := Lib.hid hpo
          clear hpo hlt
          go_wp2_with fail
          obtain ⟨q1, q2⟩ := two_cells (set_two (.string o.1.str) (.string o.2.str) hx1)
          refine bodyPost_ret (v := .tuple #[.agg #[.string o.1.str, .string o.2.str], .bool true]) (by simp [q1, q2, results, Tryz.results14, go_sem]) rfl ⟨by rw [HPO.out]; rfl, ?_⟩
          exact (hbw.setCell (by show w.heap.size ≤ w.heap.size + 1; omega) _).setCell (by show w.heap.size ≤ w.heap.size + 1; omega) _

end Go.Proofs.YtjmbkieocmhmiaaGreat
