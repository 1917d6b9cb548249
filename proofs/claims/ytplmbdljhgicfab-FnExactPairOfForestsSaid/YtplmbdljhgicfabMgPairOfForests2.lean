/- Texts that the claim needs, part 3. -/
import Derived.Test.YtplmbdljhgicfabMgPairOfForests1
import Derived.Deep.RegionHeld3
import Derived.RegionTactic
import Derived.Shelf.Strings.Builder1
import Derived.Deep.AppendLies
import Derived.Lib.SmallJoins
import Derived.Shelf.Strings.OnBuilder
import Derived.Shelf.Strings.Builder2
import Derived.Shelf.Strings.Repeat
import Derived.Test.YtplmbdljhgicfabProg
/-! Join -/
namespace Go.Proofs.Ytplmbdljhgicfab
open Go.RowKit

set_option maxRecDepth 100000 in
set_option maxHeartbeats 2000000 in
theorem join_any (t : Tr) : ∀ (u : Tr) (b c : Nat) (w : World), NodeAt w t b → NodeAt w u c →
    Calls Try.prog 111 #[.pointer (some ⟨b, 0, none⟩), .pointer (some ⟨c, 0, none⟩)] w (GivesNode (t.join u) w) := by
  induction t with
  | lf =>
    intro u b c w h k
    have H := Lib.hid h
    have K := Lib.hid k
    clear h k
    go_enter Try.func111, Try.ntmps111
    go_wp2_with fail
    refine (isLeaf_any .lf b _ H.out).mono ?_; rintro e w1 ⟨rfl, rfl⟩
    simp only [Tr.isLf]
    go_wp2_with fail
    go_ret
    exact ⟨c, K.out, Below.refl _ _, rfl⟩
  | nd l r ihl ihr =>
    intro u b c w h k
    cases u with
    | lf =>
      have H := Lib.hid h
      have K := Lib.hid k
      clear h k ihl ihr
      go_enter Try.func111, Try.ntmps111
      go_wp2_with fail
      refine (isLeaf_any (.nd l r) b _ H.out).mono ?_; rintro e w1 ⟨rfl, rfl⟩
      simp only [Tr.isLf]
      go_wp2_with fail
      refine (isLeaf_any .lf c _ K.out).mono ?_; rintro e w1 ⟨rfl, rfl⟩
      simp only [Tr.isLf]
      go_wp2_with fail
      go_ret
      exact ⟨b, H.out, Below.refl _ _, rfl⟩
    | nd p q =>
      have H := Lib.hid h
      have K := Lib.hid k
      obtain ⟨bl, br, h, hl, hr⟩ := h
      obtain ⟨cl, cr, k, kl, kr⟩ := k
      have h1 := two_left h
      have h2 := two_right h
      have k1 := two_left k
      have k2 := two_right k
      clear h k
      go_enter Try.func111, Try.ntmps111
      go_wp2_with fail
      refine (isLeaf_any (.nd l r) b _ H.out).mono ?_; rintro e w1 ⟨rfl, rfl⟩
      simp only [Tr.isLf]
      go_wp2_with fail
      refine (isLeaf_any (.nd p q) c _ K.out).mono ?_; rintro e w1 ⟨rfl, rfl⟩
      simp only [Tr.isLf]
      go_wp2_with fail
      have hb0 := Below.refl w.heap.size w
      go_region_held3 (fun w' => w'.cell? ⟨b, 0, none⟩ = some (.pointer (some ⟨bl, 0, none⟩)) ∧ w'.cell? ⟨b, 1, none⟩ = some (.pointer (some ⟨br, 0, none⟩)) ∧ w'.cell? ⟨c, 0, none⟩ = some (.pointer (some ⟨cl, 0, none⟩)) ∧ w'.cell? ⟨c, 1, none⟩ = some (.pointer (some ⟨cr, 0, none⟩)))
          (first
            | exact ⟨h1, h2, k1, k2⟩
            | exact ⟨q1, q2, q3, q4⟩
            | exact ⟨s1, s2, s3, s4⟩
            | exact ⟨(a1 _).1, (a1 _).2, (a2 _).1, (a2 _).2⟩)
          (first
          | (go_at_call_of 111 (some (⟨bl, 0, none⟩ : Addr)); refine (ihl p bl cl _ ?_ ?_).mono ?_; exact hl.keep hb0.drew; exact kl.keep hb0.drew; rintro e w1 ⟨b1, hn1, hb1, rfl⟩; have hb1' := nx hb0.drew hb1; obtain ⟨q1, q2⟩ := below_two hb1' h1 h2; obtain ⟨q3, q4⟩ := below_two hb1' k1 k2)
          | (go_at_call_of 111 (some (⟨br, 0, none⟩ : Addr)); refine (ihr q br cr _ ?_ ?_).mono ?_; exact hr.keep hb1'; exact kr.keep hb1'; rintro e w2 ⟨b2, hn2, hb2, rfl⟩; have hb2' := nx hb1' hb2; obtain ⟨s1, s2⟩ := below_two hb2' h1 h2; obtain ⟨s3, s4⟩ := below_two hb2' k1 k2; have a1 := fun o => below_two (nxAlloc hb2' o) h1 h2; have a2 := fun o => below_two (nxAlloc hb2' o) k1 k2))
      all_goals (try go_wp2_with fail)
      all_goals go_ret
      all_goals exact ⟨_, node_new hn1 hb2 hn2, nxAlloc hb2' _, rfl⟩
set_option maxHeartbeats 1000000 in
theorem isPart_any (t : Tr) : ∀ (u : Tr) (b c : Nat) (w : World), NodeAt w t b → NodeAt w u c →
    Calls Try.prog 45 #[.pointer (some ⟨b, 0, none⟩), .pointer (some ⟨c, 0, none⟩)] w (Quietly (.bool (t.part u)) w) := by
  induction t with
  | lf =>
    intro u b c w h k
    have H := Lib.hid h
    have K := Lib.hid k
    clear h k
    go_enter Try.func45, Try.ntmps45
    go_wp2_with fail
    refine (isLeaf_any .lf b _ H.out).mono ?_; rintro e w1 ⟨rfl, rfl⟩
    simp only [Tr.isLf]
    go_wp2_with fail
    go_ret
    exact ⟨rfl, 0, rfl⟩
  | nd l r ihl ihr =>
    intro u b c w h k
    cases u with
    | lf =>
      have H := Lib.hid h
      have K := Lib.hid k
      clear h k ihl ihr
      go_enter Try.func45, Try.ntmps45
      go_wp2_with fail
      refine (isLeaf_any (.nd l r) b _ H.out).mono ?_; rintro e w1 ⟨rfl, rfl⟩
      simp only [Tr.isLf]
      go_wp2_with fail
      have L : ∀ n, Calls Try.prog 94 #[.pointer (some ⟨c, 0, none⟩)] (w.drewN n) (Quietly (.bool true) (w.drewN n)) := fun n => (isLeaf_any .lf c _ (K.out.drewN n)).mono fun e w' ⟨h1, h2⟩ => ⟨h1, 0, h2.symm⟩
      go_quiet ((go_at_call 94; exact Calls.quiet_of (L _)))
      go_wp2_with fail
      go_ret
      exact ⟨rfl, _, rfl⟩
    | nd p q =>
      have H := Lib.hid h
      have K := Lib.hid k
      obtain ⟨bl, br, h, hl, hr⟩ := h
      obtain ⟨cl, cr, k, kl, kr⟩ := k
      have h1 := two_left h
      have h2 := two_right h
      have k1 := two_left k
      have k2 := two_right k
      clear h k
      have L : ∀ n, Calls Try.prog 94 #[.pointer (some ⟨c, 0, none⟩)] (w.drewN n) (Quietly (.bool false) (w.drewN n)) := fun n => (isLeaf_any (.nd p q) c _ (K.out.drewN n)).mono fun e w' ⟨h1, h2⟩ => ⟨h1, 0, h2.symm⟩
      have HL : ∀ n, Calls Try.prog 45 #[.pointer (some ⟨bl, 0, none⟩), .pointer (some ⟨cl, 0, none⟩)] (w.drewN n) (Quietly (.bool (l.part p)) (w.drewN n)) := fun n => ihl p bl cl _ (hl.drewN n) (kl.drewN n)
      have HR : ∀ n, Calls Try.prog 45 #[.pointer (some ⟨br, 0, none⟩), .pointer (some ⟨cr, 0, none⟩)] (w.drewN n) (Quietly (.bool (r.part q)) (w.drewN n)) := fun n => ihr q br cr _ (hr.drewN n) (kr.drewN n)
      have HP : Hid ((Tr.nd l r).part (.nd p q) = (l.part p && r.part q)) := rfl
      cases hlp : l.part p with
      | false =>
        rw [hlp] at HP HL
        clear hlp
        go_enter Try.func45, Try.ntmps45
        go_wp2_with fail
        refine (isLeaf_any (.nd l r) b _ H.out).mono ?_; rintro e w1 ⟨rfl, rfl⟩
        simp only [Tr.isLf]
        go_wp2_with fail
        go_quiet ((first | (go_at_call 94; exact Calls.quiet_of (L _)) | (go_at_call_of 45 (some (⟨bl, 0, none⟩ : Addr)); exact Calls.quiet_of (HL _)) | (go_at_call_of 45 (some (⟨br, 0, none⟩ : Addr)); exact Calls.quiet_of (HR _))))
        go_wp2_with fail
        go_ret
        exact ⟨by rw [HP.out]; rfl, _, rfl⟩
      | true =>
        rw [hlp] at HP HL
        clear hlp
        go_enter Try.func45, Try.ntmps45
        go_wp2_with fail
        refine (isLeaf_any (.nd l r) b _ H.out).mono ?_; rintro e w1 ⟨rfl, rfl⟩
        simp only [Tr.isLf]
        go_wp2_with fail
        go_quiet ((first | (go_at_call 94; exact Calls.quiet_of (L _)) | (go_at_call_of 45 (some (⟨bl, 0, none⟩ : Addr)); exact Calls.quiet_of (HL _)) | (go_at_call_of 45 (some (⟨br, 0, none⟩ : Addr)); exact Calls.quiet_of (HR _))))
        go_wp2_with fail
        go_ret
        exact ⟨by rw [HP.out]; rfl, _, rfl⟩
end Go.Proofs.Ytplmbdljhgicfab

/-! Build -/
namespace Go.Proofs.Ytplmbdljhgicfab
open Go.RowKit

theorem info_byte : (Try.prog.info? 5).map (fun i => (i.zero, i.size, i.bytes)) = some (some (.int .u8 0), 1, 1) := by kernel_rfl
theorem info_bld : (Try.prog.info? 152).map (fun i => i.size) = some 2 := by kernel_rfl
theorem lies_bld : liesAt Try.prog Try.prog.depth 152 (2 / Try.prog.cellsOf 152) 0 152 1 = true := by kernel_rfl
theorem cells_byte : Try.prog.cellsOf 5 = 1 := by kernel_rfl

set_option maxRecDepth 100000 in
theorem copyCheck_fresh (b : Nat) (w : World) (h0 : w.cell? ⟨b, 0, none⟩ = some (.pointer none)) (hsh : w.shape? b = some (152, 2)) (hfz : w.frozen? ⟨b, 0, none⟩ = false) :
    Calls Try.prog 164 #[.pointer (some ⟨b, 0, none⟩)] w fun e w' => e = .returned (.tuple #[]) ∧ w' = w.setCell ⟨b, 0, none⟩ (.pointer (some ⟨b, 0, none⟩)) := by
  obtain ⟨j, hj, hjs⟩ := Option.map_eq_some_iff.1 info_bld
  go_enter Try.func164, Try.ntmps164
  go_wp2
  rw [Lib.run_to_unsafe w ⟨b, 0, none⟩ Try.underlying150 Try.underlying179 hj (by rw [hjs]; decide) hsh (Nat.zero_lt_succ 1)]
  simp only [Result.andThen]
  rw [Oper.upon_value]
  go_wp2
  rw [run_callFunc_extern Try.func175 (by kernel_rfl) (by kernel_rfl) (by kernel_rfl) (e := Extern.AbiNoEscape.same) (by kernel_rfl)]
  rw [Lib.run_noEscape]
  simp only [Result.andThen]
  rw [Oper.upon_value]
  go_wp2
  rw [Lib.run_from_unsafe w ⟨b, 0, none⟩ Try.underlying179 Try.underlying150 hj hsh lies_bld]
  simp only [Result.andThen]
  rw [Oper.upon_value]
  go_wp2
  go_end0
  exact ⟨rfl, rfl⟩

set_option maxRecDepth 100000 in
theorem copyCheck_used (b : Nat) (w : World) (h0 : w.cell? ⟨b, 0, none⟩ = some (.pointer (some ⟨b, 0, none⟩))) :
    Calls Try.prog 164 #[.pointer (some ⟨b, 0, none⟩)] w fun e w' => e = .returned (.tuple #[]) ∧ w' = w := by
  obtain ⟨j, hj, _⟩ := Option.map_eq_some_iff.1 info_bld
  go_enter Try.func164, Try.ntmps164
  go_wp2
  rw [Lib.run_neq_ptr_same w _ Try.underlying150 hj]
  go_wp2
  go_end0
  exact ⟨rfl, rfl⟩

/-- A builder in the block b that holds the bytes bs; its row is of blocks from B on. -/
abbrev IsBld (B b : Nat) (bs : List Value) (w : World) : Prop := Lib.IsBuilder 152 5 B b bs w

theorem copyCheck_any (B b : Nat) (bs : List Value) (w : World) (h : IsBld B b bs w) :
    Calls Try.prog 164 #[.pointer (some ⟨b, 0, none⟩)] w fun e w' => e = .returned (.tuple #[]) ∧ (Lib.BuilderAt 152 5 B b (.pointer (some ⟨b, 0, none⟩)) bs w' ∧ Below B w w') := by
  rcases h with h | h
  · refine (copyCheck_fresh b w h.cell0 h.shape h.frozen0).mono ?_
    rintro e w' ⟨rfl, rfl⟩
    exact ⟨rfl, h.used _, (Below.refl B w).setCell (p := ⟨b, 0, none⟩) h.1 _⟩
  · refine (copyCheck_used b w h.cell0).mono ?_
    rintro e w' ⟨rfl, rfl⟩
    exact ⟨rfl, h, Below.refl B _⟩

set_option maxHeartbeats 2000000 in
set_option maxRecDepth 100000 in
theorem writeByte_any (B b : Nat) (bs : List Value) (c : Int) (w : World) (h : IsBld B b bs w) (hlen : bs.length + 1 ≤ 140737488355328) (hBw : B ≤ w.heap.size) :
    Calls Try.prog 143 #[.pointer (some ⟨b, 0, none⟩), .int .u8 c] w fun e w' => e = .returned .nilIface ∧ IsBld B b (bs ++ [.int .u8 c]) w' ∧ Below B w w' := by
  obtain ⟨i0, hi, hz0, hz1, hz2⟩ := info_parts info_byte
  go_enter Try.func143, Try.ntmps143
  go_wp2_with fail
  refine (copyCheck_any B b bs _ h).mono ?_
  rintro e w1 ⟨rfl, h1, hb1⟩
  obtain ⟨hB, v, hbk, hown, hne⟩ := h1
  have c0 : w1.cell? ⟨b, 0, none⟩ = some (.pointer (some ⟨b, 0, none⟩)) := by rw [Lib.cell_of_heap hbk]; rfl
  have c1 : w1.cell? ⟨b, 1, none⟩ = some v := by rw [Lib.cell_of_heap hbk]; rfl
  go_wp2_with (at_builtin; refine wpList_append_own _ rfl _ _ 117 rfl B 5 i0 (.int .u8 0) 1 1 Try.underlying117 hi hz0 hz1 hz2 rfl (by decide) _ _ _ rfl (hown.alloc _) ⟨w1.heap.size, 0, none⟩ 1 1 [.int .u8 c] rfl rfl ?c1 ?c2 ?c3 ?c4 ?c5 ?_)
  case c1 =>
    intro j u hj
    match j, hj with
    | 0, hj => simp at hj; subst hj; simp [Addr.add]
  case c2 => intro u hu; simp at hu; subst hu; rfl
  case c3 => unfold maxLen; omega
  case c4 => omega
  case c5 => have := hb1.size; simp; omega
  intro v' w2 hown' hgrow _
  have hlt : b < w1.heap.size := lt_of_block hbk
  have hb2 : w2.heap[b]? = some (.cells #[.pointer (some ⟨b, 0, none⟩), v] 152 (0, 0)) := by
    rw [hgrow.block b (by simp; omega) (fun e => hne e.symm), Lib.alloc_old w1 _ b hlt]
    exact hbk
  have d0 : w2.cell? ⟨b, 0, none⟩ = some (.pointer (some ⟨b, 0, none⟩)) := by rw [Lib.cell_of_heap hb2]; rfl
  have d1 : w2.cell? ⟨b, 1, none⟩ = some v := by rw [Lib.cell_of_heap hb2]; rfl
  have f1 : w2.frozen? ⟨b, 1, none⟩ = false := Lib.frozen_of_heap hb2 1
  obtain ⟨g, cap, rfl⟩ : ∃ g cap, v' = .slice (some ⟨g, 0, none⟩) (bs.length + 1) cap := by
    rcases hown'.2 with ⟨_, h0⟩ | ⟨g, cap, cur, hv, _⟩
    · omega
    · exact ⟨g, cap, hv⟩
  go_wp2
  go_ret
  refine ⟨rfl, ?_, ?_⟩
  · exact .inr (Lib.BuilderAt.put (T := 152) (e := 5) hB hb2 (bs' := bs ++ [.int .u8 c]) (by simpa using hown') (by decide))
  · exact ((hb1.alloc (by have := hb1.size; omega) _).grown hgrow (by have := hb1.size; simp; omega) (fun k hk => (hown.lt k hk).1)).setCell (p := ⟨b, 1, none⟩) hB _

set_option maxHeartbeats 2000000 in
set_option maxRecDepth 100000 in
theorem writeString_any (B b : Nat) (bs : List Value) (s : ByteArray) (w : World) (h : IsBld B b bs w) (hlen : bs.length + s.size ≤ 140737488355328) (hBw : B ≤ w.heap.size) :
    Calls Try.prog 144 #[.pointer (some ⟨b, 0, none⟩), .string s] w fun e w' => e = .returned (.tuple #[.int .i64 s.size, .nilIface]) ∧ IsBld B b (bs ++ Lib.strCells s) w' ∧ Below B w w' := by
  obtain ⟨i0, hi, hz0, hz1, hz2⟩ := info_parts info_byte
  go_enter Try.func144, Try.ntmps144
  go_wp2_with fail
  refine (copyCheck_any B b bs _ h).mono ?_
  rintro e w1 ⟨rfl, h1, hb1⟩
  obtain ⟨hB, v, hbk, hown, hne⟩ := h1
  have c0 : w1.cell? ⟨b, 0, none⟩ = some (.pointer (some ⟨b, 0, none⟩)) := by rw [Lib.cell_of_heap hbk]; rfl
  have c1 : w1.cell? ⟨b, 1, none⟩ = some v := by rw [Lib.cell_of_heap hbk]; rfl
  go_wp2_with (at_builtin; refine Lib.wpList_append_own_string _ rfl _ _ 117 9 rfl B 5 i0 Try.underlying117 Try.underlying9 hi hz0 hz1 hz2 _ _ _ rfl hown s rfl ?c3 ?c4 ?c5 ?_)
  case c3 => unfold maxLen; omega
  case c4 => omega
  case c5 => have := hb1.size; omega
  intro v' w2 hown' hgrow _
  have hlt : b < w1.heap.size := lt_of_block hbk
  have hb2 : w2.heap[b]? = some (.cells #[.pointer (some ⟨b, 0, none⟩), v] 152 (0, 0)) := by
    rw [hgrow.block b hlt (fun e => hne e.symm)]
    exact hbk
  have d0 : w2.cell? ⟨b, 0, none⟩ = some (.pointer (some ⟨b, 0, none⟩)) := by rw [Lib.cell_of_heap hb2]; rfl
  have d1 : w2.cell? ⟨b, 1, none⟩ = some v := by rw [Lib.cell_of_heap hb2]; rfl
  have f1 : w2.frozen? ⟨b, 1, none⟩ = false := Lib.frozen_of_heap hb2 1
  obtain ⟨ao, n', cap, rfl⟩ : ∃ ao n' cap, v' = .slice ao n' cap := by
    rcases hown'.2 with ⟨hv, _⟩ | ⟨g, cap, cur, hv, _⟩
    · exact ⟨_, _, _, hv⟩
    · exact ⟨_, _, _, hv⟩
  go_wp2
  go_ret2
  refine ⟨rfl, ?_, ?_⟩
  · exact .inr (Lib.BuilderAt.put (T := 152) (e := 5) hB hb2 (bs' := bs ++ Lib.strCells s) (by simpa [Lib.strCells_length] using hown') (by decide))
  · exact (hb1.grown hgrow (by have := hb1.size; omega) (fun k hk => (hown.lt k hk).1)).setCell (p := ⟨b, 1, none⟩) hB _

set_option maxHeartbeats 2000000 in
set_option maxRecDepth 100000 in
theorem builderString_any (B b : Nat) (l : List UInt8) (w : World) (h : IsBld B b (Lib.byteCells l) w) (h0 : l ≠ []) :
    Calls Try.prog 145 #[.pointer (some ⟨b, 0, none⟩)] w fun e w' => e = .returned (.string ⟨l.toArray⟩) ∧ Below B w w' := by
  obtain ⟨p, hB, v, hbk, hown, hne⟩ : ∃ p, Lib.BuilderAt 152 5 B b p (Lib.byteCells l) w := by
    rcases h with h | h
    · exact ⟨_, h⟩
    · exact ⟨_, h⟩
  have hl0 : l.length ≠ 0 := by simpa using h0
  rw [Lib.byteCells_length] at hown
  obtain ⟨g, cap, cur, rfl, hbg, hg, hnc, hcm, hcs, htake⟩ : ∃ g cap cur, v = .slice (some ⟨g, 0, none⟩) l.length cap ∧ B ≤ g ∧ w.heap[g]? = some (.cells cur 5 (0, 0)) ∧ l.length ≤ cap ∧ cap ≤ maxLen ∧ cur.size = cap * 1 ∧ cur.toList.take (l.length * 1) = Lib.byteCells l := by
    rcases hown.2 with ⟨_, hz⟩ | ⟨g, cap, cur, hv, r⟩
    · exact absurd hz hl0
    · exact ⟨g, cap, cur, hv, r⟩
  have c1 : w.drew.cell? ⟨b, 1, none⟩ = some (.slice (some ⟨g, 0, none⟩) l.length cap) := by
    have : w.drew.heap[b]? = some (.cells #[p, .slice (some ⟨g, 0, none⟩) l.length cap] 152 (0, 0)) := hbk
    rw [Lib.cell_of_heap this]; rfl
  have hSD : (Builtin.unsafeSliceData_ #[117] 170 #[.slice (some ⟨g, 0, none⟩) l.length cap]).run Try.prog w.drew = .ok (.pointer (some ⟨g, 0, none⟩)) w.drew :=
    Lib.run_unsafeSliceData_row _ _ _ _ _ _ (by omega)
  have hUS : (Builtin.unsafeString_ #[170, 3] 9 #[.pointer (some ⟨g, 0, none⟩), .int .i64 l.length]).run Try.prog w.drew = .ok (.string ⟨l.toArray⟩) (w.drew.freeze ⟨g, 0, none⟩ l.length) := by
    refine Lib.run_unsafeString_row w.drew 170 3 9 5 Try.underlying170 cells_byte g cur.size (by have hg' : w.drew.heap[g]? = some (.cells cur 5 (0, 0)) := hg; simp [World.shape?, hg']) l h0 (by omega) (by unfold maxLen at hcm; omega) ?_
    intro j x hx
    have := hown.cells (g := g) rfl j (.int .u8 x.toNat) (by simp [Lib.byteCells, hx])
    exact this
  clear hown hg htake hbk
  go_enter Try.func145, Try.ntmps145
  go_wp2
  go_region
  all_goals (go_wp2; go_ret; exact ⟨rfl, Lib.below_freeze (Below.drew (Below.refl B w)) (p := ⟨g, 0, none⟩) hbg _⟩)
end Go.Proofs.Ytplmbdljhgicfab

/-! Fill -/
namespace Go.Proofs.Ytplmbdljhgicfab
open Go.RowKit

/-- The texts of what a greater tree has at the leaves of a part of it. -/
def subsS (a g : Tr) : List ByteArray := (a.subs g).map Tr.str
theorem subsS_length (a g : Tr) (h : a.part g = true) : (subsS a g).length = a.leaves := by
  unfold subsS; rw [List.length_map]; exact (below_carets a g h).2

set_option maxRecDepth 100000 in
set_option maxHeartbeats 2000000 in
theorem prParts_any (t : Tr) : ∀ (u : Tr) (w : World), t.part u = true → u.carets ≤ 60 →
    Calls Try.prog 41 #[.string t.str, .string u.str] w (GivesTexts (subsS t u) w) := by
  obtain ⟨i0, hi, hz0, hz1, hz2⟩ := info_parts info_str
  induction t with
  | lf =>
    intro u w hp hu
    go_enter Try.func41, Try.ntmps41
    go_wp2_with fail
    refine (trLeaf_any .lf _).mono ?_; rintro e w1 ⟨rfl, rfl⟩
    simp only [Tr.isLf]
    go_wp2_with fail
    go_ret
    exact ⟨_, 1, OwnS.one _ _, nxAlloc (Below.refl _ _) _, rfl⟩
  | nd l r ihl ihr =>
    intro u w hp hu
    cases u with
    | lf => simp [Tr.part] at hp
    | nd p q =>
      simp only [Tr.part, Bool.and_eq_true] at hp
      obtain ⟨hp1, hp2⟩ := hp
      have hu' : p.carets + q.carets + 1 ≤ 60 := hu
      have ht1 := (below_carets l p hp1).1
      have ht2 := (below_carets r q hp2).1
      have ll := subsS_length l p hp1
      have lr := subsS_length r q hp2
      obtain ⟨A, hA⟩ : ∃ A, A = subsS l p := ⟨_, rfl⟩
      obtain ⟨B, hB⟩ : ∃ B, B = subsS r q := ⟨_, rfl⟩
      have hC : subsS (.nd l r) (.nd p q) = A ++ B := by rw [hA, hB]; simp [subsS, Tr.subs]
      have jl := fun w => ihl p w hp1 (by omega)
      have jr := fun w => ihr q w hp2 (by omega)
      rw [← hA] at ll jl
      rw [← hB] at lr jr
      rw [hC]
      have hAn : A.length ≤ 61 := by rw [ll]; unfold Tr.leaves; omega
      have hBn : B.length ≤ 61 := by rw [lr]; unfold Tr.leaves; omega
      have hBp : 0 < B.length := by rw [lr]; exact leaves_pos r
      have hAp : 0 < A.length := by rw [ll]; exact leaves_pos l
      clear ihl ihr hA hB hC ll lr hp1 hp2
      go_enter Try.func41, Try.ntmps41
      go_wp2_with fail
      refine (trLeaf_any (.nd l r) _).mono ?_; rintro e w1 ⟨rfl, rfl⟩
      simp only [Tr.isLf]
      go_wp2_with fail
      refine (trSides_any l r _ (by omega)).mono ?_; rintro e w1 ⟨rfl, hb1⟩
      go_wp2_with fail
      refine (trSides_any p q _ (by omega)).mono ?_; rintro e w1' ⟨rfl, hb1'⟩
      replace hb1 := nx hb1 hb1'
      clear hb1'
      go_wp2_with fail
      refine (jl _).mono ?_; rintro e w2 ⟨g1, cap1, own1, hb2, rfl⟩
      go_wp2_with fail
      refine (jr _).mono ?_; rintro e w3 ⟨g2, cap2, own2, hb3, rfl⟩
      have hown := (own1.keep hb3).mono hb1.size
      have hbw : Below w.heap.size w w3 := nx (nx hb1 hb2) hb3
      go_wp2_with (at_builtin; refine wpList_append_own _ rfl _ _ 22 rfl w.heap.size 9 i0 (.string ⟨#[]⟩) 1 16 Try.underlying22 hi hz0 hz1 hz2 rfl (by decide) _ _ _ rfl hown ⟨g2, 0, none⟩ B.length cap2 (B.map Value.string) rfl (by simp) (own2.news rfl) (oneS _) (by unfold maxLen; omega) (by omega) hbw.size ?_; intro v' w4 hown' hgrow hnn)
      have hbw' := below_app0 hbw hown (Nat.le_refl _) hgrow
      have hown1 := OwnS.app hown'
      obtain ⟨g, cap, hv⟩ := hown1.shape (by simp; omega)
      have HV := Lib.hid hv
      clear hown hown' hgrow hv hnn
      go_wp2_with fail
      go_ret
      exact ⟨g, cap, by rw [← HV.out]; exact hown1, hbw', by rw [← HV.out]; rfl⟩

set_option maxRecDepth 100000 in
set_option maxHeartbeats 4000000 in
theorem below_any (t : Tr) : ∀ (u : Tr) (b c : Nat) (w : World), NodeAt w t b → NodeAt w u c → t.part u = true → u.carets ≤ 60 →
    Calls Try.prog 46 #[.pointer (some ⟨b, 0, none⟩), .pointer (some ⟨c, 0, none⟩)] w (GivesTexts (subsS t u) w) := by
  obtain ⟨i0, hi, hz0, hz1, hz2⟩ := info_parts info_str
  induction t with
  | lf =>
    intro u b c w h k hp hu
    have H := Lib.hid h
    have K := Lib.hid k
    clear h k
    go_enter Try.func46, Try.ntmps46
    go_wp2_with fail
    refine (isLeaf_any .lf b _ H.out).mono ?_; rintro e w1 ⟨rfl, rfl⟩
    simp only [Tr.isLf]
    go_wp2_with fail
    refine (text_any u c _ K.out (by omega)).mono ?_; rintro e w1 ⟨rfl, d, hw1⟩
    have hb1 : Below w.heap.size w w1 := by rw [hw1]; exact drewB (Below.refl _ _) _
    clear hw1
    go_wp2_with fail
    go_ret
    exact ⟨_, 1, (OwnS.one _ _).mono hb1.size, nxAlloc hb1 _, rfl⟩
  | nd l r ihl ihr =>
    intro u b c w h k hp hu
    cases u with
    | lf => simp [Tr.part] at hp
    | nd p q =>
      simp only [Tr.part, Bool.and_eq_true] at hp
      obtain ⟨hp1, hp2⟩ := hp
      have hu' : p.carets + q.carets + 1 ≤ 60 := hu
      have ht1 := (below_carets l p hp1).1
      have ht2 := (below_carets r q hp2).1
      have ll := subsS_length l p hp1
      have lr := subsS_length r q hp2
      obtain ⟨A, hA⟩ : ∃ A, A = subsS l p := ⟨_, rfl⟩
      obtain ⟨B, hB⟩ : ∃ B, B = subsS r q := ⟨_, rfl⟩
      have hC : subsS (.nd l r) (.nd p q) = A ++ B := by rw [hA, hB]; simp [subsS, Tr.subs]
      have jl := fun b c w h k => ihl p b c w h k hp1 (by omega)
      have jr := fun b c w h k => ihr q b c w h k hp2 (by omega)
      rw [← hA] at ll jl
      rw [← hB] at lr jr
      rw [hC]
      have hAn : A.length ≤ 61 := by rw [ll]; unfold Tr.leaves; omega
      have hBn : B.length ≤ 61 := by rw [lr]; unfold Tr.leaves; omega
      have hBp : 0 < B.length := by rw [lr]; exact leaves_pos r
      have hAp : 0 < A.length := by rw [ll]; exact leaves_pos l
      have H := Lib.hid h
      obtain ⟨bl, br, h, hl, hr⟩ := h
      obtain ⟨cl, cr, k, kl, kr⟩ := k
      have h1 := two_left h
      have h2 := two_right h
      have k1 := two_left k
      have k2 := two_right k
      have hb0 := Below.refl w.heap.size w
      clear h k ihl ihr hA hB hC ll lr hp1 hp2
      go_enter Try.func46, Try.ntmps46
      go_wp2_with fail
      refine (isLeaf_any (.nd l r) b _ H.out).mono ?_; rintro e w1 ⟨rfl, rfl⟩
      simp only [Tr.isLf]
      go_wp2_with fail
      go_region_held3 (fun w' => w'.cell? ⟨b, 0, none⟩ = some (.pointer (some ⟨bl, 0, none⟩)) ∧ w'.cell? ⟨b, 1, none⟩ = some (.pointer (some ⟨br, 0, none⟩)) ∧ w'.cell? ⟨c, 0, none⟩ = some (.pointer (some ⟨cl, 0, none⟩)) ∧ w'.cell? ⟨c, 1, none⟩ = some (.pointer (some ⟨cr, 0, none⟩)))
        (first
          | exact ⟨h1, h2, k1, k2⟩
          | exact ⟨q1, q2, q3, q4⟩
          | exact ⟨s1, s2, s3, s4⟩
          | exact ⟨r1, r2, r3, r4⟩)
        (first
          | (go_at_call_of 46 (some (⟨bl, 0, none⟩ : Addr)); refine (jl bl cl _ ?_ ?_).mono ?_; exact hl.keep hb0.drew; exact kl.keep hb0.drew; rintro e w1 ⟨g1, cap1, own1, hb1, rfl⟩; have hb1' := nx hb0.drew hb1; obtain ⟨q1, q2⟩ := below_two hb1' h1 h2; obtain ⟨q3, q4⟩ := below_two hb1' k1 k2)
          | (go_at_call_of 46 (some (⟨br, 0, none⟩ : Addr)); refine (jr br cr _ ?_ ?_).mono ?_; exact hr.keep hb1'; exact kr.keep hb1'; rintro e w2 ⟨g2, cap2, own2, hb2, rfl⟩; have hb2' := nx hb1' hb2; obtain ⟨s1, s2⟩ := below_two hb2' h1 h2; obtain ⟨s3, s4⟩ := below_two hb2' k1 k2; have hown := (own1.keep hb2).mono hb0.drew.size)
          | (refine step_append_lies _ (by rfl) _ _ _ (by rfl) w.heap.size 9 i0 _ 1 16 Try.underlying22 hi hz0 hz1 hz2 rfl (by omega) (.slice (some ⟨g1, 0, none⟩) A.length cap1) A.length (A.map Value.string) (by rfl) hown ⟨g2, 0, none⟩ B.length cap2 (B.map Value.string) (by rfl) (by simp) (own2.news rfl) (oneS _) hBp (by unfold maxLen; omega) (by omega) hb2'.size w2.heap.size (by rfl) ?_; intro gg cap w3 hown1 hgrow hat hlt; have hb3 := below_app0 hb2' hown (Nat.le_refl _) hgrow; obtain ⟨r1, r2⟩ := below_two hb3 h1 h2; obtain ⟨r3, r4⟩ := below_two hb3 k1 k2))
      go_wp2_with fail
      go_ret
      exact ⟨gg, cap, by rw [List.length_append]; exact OwnS.app hown1, hb3, by rw [List.length_append]; rfl⟩

/-! Texts in place of leaves. -/
theorem CellsS.form {b1 : Nat} {w : World} {v : Value} {xs : List ByteArray} (h : CellsS b1 w v xs) :
    ∃ oa cap, v = .slice oa xs.length cap ∧ xs.length ≤ cap ∧ cap ≤ maxLen ∧ ∀ i, i < xs.length → ∃ g, oa = some ⟨g, 0, none⟩ ∧ b1 ≤ g ∧ g < w.heap.size ∧ w.cell? ⟨g, i, none⟩ = some (.string (xs.getD i ⟨#[]⟩)) := by
  rcases h with ⟨rfl, rfl⟩ | ⟨g, cap, rfl, h1, h2, h3, h4, h5, _⟩
  · exact ⟨none, 0, rfl, Nat.le_refl _, Nat.zero_le _, fun i hi => by simp at hi⟩
  · exact ⟨some ⟨g, 0, none⟩, cap, rfl, h3, h4, fun i hi => ⟨g, rfl, h1, h2, h5 i hi⟩⟩

theorem fillL_length : ∀ (l : List UInt8) (us : List ByteArray), (fillL l us).length ≤ l.length + (us.map ByteArray.size).sum := by
  intro l
  induction l with
  | nil => intro us; simp [fillL]
  | cons c r ih =>
    intro us
    rw [fillL]
    split
    · cases us with
      | nil => have := ih []; simp at *; omega
      | cons u us =>
        have := ih us
        have hu : u.data.toList.length = u.size := (Lib.size_eq u).symm
        simp at *; omega
    · have := ih us; simp at *; omega
theorem fillL_ne {l : List UInt8} {us : List ByteArray} (h : ∃ c r, l = c :: r ∧ c ≠ 46) : fillL l us ≠ [] := by
  obtain ⟨c, r, rfl, hc⟩ := h
  rw [fillL, if_neg hc]; simp
end Go.Proofs.Ytplmbdljhgicfab

/-! Leaf -/
namespace Go.Proofs.Ytplmbdljhgicfab
open Go.RowKit

theorem posFrom_dot {s : ByteArray} {k : Nat} {off : Nat} {n : Int} (h : k < s.size) (hb : (((s[k]'h).toNat : Int) == 46) = true) :
    posFrom (s.data.toList.drop k) off n = if n = 0 then (off : Int) else posFrom (s.data.toList.drop (k + 1)) (off + 1) (n - 1) := by
  obtain ⟨c, r, hd, hc, hr⟩ := drop_of_byteAt h
  have h1 : byteAt s k = (s[k]'h).toNat := byteAt_eq s k h
  have : c = 46 := u8_eq (n := 46) (by omega) (by rw [← hc, h1]; simpa using hb)
  rw [hd, posFrom, if_pos this, hr]
theorem posFrom_other {s : ByteArray} {k : Nat} {off : Nat} {n : Int} (h : k < s.size) (hb : (((s[k]'h).toNat : Int) == 46) = false) :
    posFrom (s.data.toList.drop k) off n = posFrom (s.data.toList.drop (k + 1)) (off + 1) n := by
  obtain ⟨c, r, hd, hc, hr⟩ := drop_of_byteAt h
  have h1 : byteAt s k = (s[k]'h).toNat := byteAt_eq s k h
  have : ¬ c = 46 := fun e => by
    have : (((s[k]'h).toNat : Int)) = 46 := by rw [← h1, hc, e]; rfl
    simp [this] at hb
  rw [hd, posFrom, if_neg this, hr]
theorem posFrom_end {s : ByteArray} {off : Nat} {n : Int} : posFrom (s.data.toList.drop s.size) off n = -1 := by
  rw [List.drop_of_length_le (by rw [Lib.size_eq]; exact Nat.le_refl _)]; rfl

set_option maxRecDepth 100000 in
set_option maxHeartbeats 1000000 in
theorem leafPlace_any (s : ByteArray) (n : Int) (w : World) (hs : s.size ≤ 9223372036854775806) (hn : 0 ≤ n) (hn' : n ≤ 9223372036854775807) :
    Calls Try.prog 162 #[.string s, .int .i64 n] w (Quietly (.int .i64 (posFrom s.data.toList 0 n)) w) := by
  go_enter Try.func162, Try.ntmps162
  go_wp2_with fail
  go_loopw [1, 8] (fun v i wr => ∃ (k : Nat) (m : Int) (d : Nat), k ≤ s.size ∧ i = .int .i64 k ∧ v = .int .i64 m ∧ 0 ≤ m ∧ m ≤ 9223372036854775807 ∧ wr = w.drewN d ∧ Hid (posFrom s.data.toList 0 n = posFrom (s.data.toList.drop k) k m)) (fun _ i _ => s.size - (intOf i).toNat)
  case atStart => exact ⟨0, n, 0, Nat.zero_le _, rfl, rfl, hn, hn', rfl, rfl⟩
  case round =>
    obtain ⟨k, m, d, hk, rfl, rfl, hm, hm', rfl, he⟩ := hrel
    by_cases hlt : k < s.size
    · cases h46 : (((s[k]'hlt).toNat : Int) == 46) with
      | true =>
        have h46' : Hid ((((s[k]'hlt).toNat : Int) != 46) = false) := by show (_ != _) = false; rw [bne, h46]; rfl
        have hp := posFrom_dot (off := k) (n := m) hlt h46
        have HP := Lib.hid hp
        clear hp h46
        by_cases hm0 : m = 0
        · have g0 : (m == 0) = true := by simp [hm0]
          have HM := Lib.hid hm0
          clear hm0
          go_wp2_with fail
          have g := h46'.out
          have gz : ((⟨#[46]⟩ : ByteArray)[0]'(by decide)).toNat = 46 := rfl
          go_quiet (fail)
          go_wp2_with fail
          go_ret
          exact ⟨ret_int (by rw [he.out, HP.out, if_pos HM.out]), _, rfl⟩
        · have g0 : (m == 0) = false := by simp [hm0]
          have hm1 : 1 ≤ m := by omega
          have HM := Lib.hid hm0
          clear hm0
          go_wp2_with fail
          have g := h46'.out
          have gz : ((⟨#[46]⟩ : ByteArray)[0]'(by decide)).toNat = 46 := rfl
          go_quiet (fail)
          go_wp2_with fail
          clear g gz
          go_roundw
          case rel => exact ⟨k + 1, m - 1, _, by omega, by go_num, rfl, by omega, by omega, rfl, by show _ = _; rw [he.out, HP.out, if_neg HM.out]⟩
          case measure => simp [intOf]; omega
      | false =>
        have h46' : Hid ((((s[k]'hlt).toNat : Int) != 46) = true) := by show (_ != _) = true; rw [bne, h46]; rfl
        have hp := posFrom_other (off := k) (n := m) hlt h46
        have HP := Lib.hid hp
        clear hp h46
        go_wp2_with fail
        have g := h46'.out
        have gz : ((⟨#[46]⟩ : ByteArray)[0]'(by decide)).toNat = 46 := rfl
        go_quiet (fail)
        go_wp2_with fail
        clear g gz
        go_roundw
        case rel => exact ⟨k + 1, m, _, by omega, by go_num, rfl, by omega, by omega, rfl, by show _ = _; rw [he.out, HP.out]⟩
        case measure => simp [intOf]; omega
    · obtain rfl : k = s.size := by omega
      go_wp2_with fail
      go_ret
      exact ⟨ret_int (by rw [he.out, posFrom_end]), _, rfl⟩

end Go.Proofs.Ytplmbdljhgicfab

/-! Fill2 -/
namespace Go.Proofs.Ytplmbdljhgicfab
open Go.RowKit

def fillB (s : ByteArray) (us : List ByteArray) : ByteArray := ⟨(fillL s.data.toList us).toArray⟩

theorem byteCells_app (x y : List UInt8) : Lib.byteCells x ++ Lib.byteCells y = Lib.byteCells (x ++ y) := by simp [Lib.byteCells]
theorem IsBld.drewN {B b : Nat} {bs : List Value} {w : World} (h : IsBld B b bs w) (n : Nat) : IsBld B b bs (w.drewN n) := h

theorem fillB_tr (t : Tr) (us : List Tr) (h : us.length = t.leaves) : fillB t.str (us.map Tr.str) = (t.fill us).str := by
  unfold fillB
  rw [Tr.str_list, fill_text t us h]
  rfl

/-- One byte of a text, and what is filled in. -/
theorem fill_dot {s : ByteArray} {us : List ByteArray} {i k : Nat} (hi : i < s.size) (hk : k < us.length) (h : byteAt s i = 46) :
    fillL (s.data.toList.drop i) (us.drop k) = (us.getD k ⟨#[]⟩).data.toList ++ fillL (s.data.toList.drop (i + 1)) (us.drop (k + 1)) := by
  obtain ⟨c, r, hd, hc, hr⟩ := drop_of_byteAt hi
  have : c = 46 := u8_eq (n := 46) (by omega) (by rw [← hc, h]; rfl)
  subst this
  rw [hd, fillL, if_pos rfl, hr, List.drop_eq_getElem_cons hk]
  simp [hk]
theorem fill_other {s : ByteArray} {us : List ByteArray} {i k : Nat} (hi : i < s.size) (h : ¬ byteAt s i = 46) :
    fillL (s.data.toList.drop i) (us.drop k) = (s.extract i (i + 1)).data.toList ++ fillL (s.data.toList.drop (i + 1)) (us.drop k) ∧ ∃ c : UInt8, (s[i]'hi) = c ∧ fillL (s.data.toList.drop i) (us.drop k) = c :: fillL (s.data.toList.drop (i + 1)) (us.drop k) := by
  obtain ⟨c, r, hd, hc, hr⟩ := drop_of_byteAt hi
  have hne : ¬ c = 46 := fun e => h (by rw [hc, e]; rfl)
  have hx : s[i]'hi = c := by
    have h1 := byteAt_eq s i (by simpa using hi)
    rw [hc] at h1
    have : (s[i]'hi).toNat = c.toNat := by
      have h2 : ((c.toNat : Nat) : Int) = ((s[i]'hi).toNat : Int) := h1
      omega
    exact UInt8.toNat_inj.1 this
  have hf : fillL (s.data.toList.drop i) (us.drop k) = c :: fillL (s.data.toList.drop (i + 1)) (us.drop k) := by
    rw [hd, fillL, if_neg hne, hr]
  refine ⟨?_, c, hx, hf⟩
  rw [hf, Lib.extract_data, hd]
  have : i + 1 - i = 1 := by omega
  rw [this]
  simp

/-- The leaves that are left. -/
theorem dots_drop {s : ByteArray} {i : Nat} (hi : i < s.size) : (s.data.toList.drop i).count 46 = (if byteAt s i = 46 then 1 else 0) + (s.data.toList.drop (i + 1)).count 46 := by
  obtain ⟨c, r, hd, hc, hr⟩ := drop_of_byteAt hi
  rw [hd, List.count_cons, hr, hc]
  by_cases h : c = 46
  · subst h; simp; omega
  · have : ¬ ((c.toNat : Int) = 46) := fun e => h (u8_eq (n := 46) (by omega) e)
    rw [if_neg this]
    simp [h]

set_option maxRecDepth 100000 in
set_option maxHeartbeats 2000000 in
theorem prFill_any (b1 : Nat) (s : ByteArray) (v : Value) (us : List ByteArray) (w : World) (hs : s.size ≤ 1000) (hv : CellsS b1 w v us) (hd : s.data.toList.count 46 ≤ us.length) (_hu : us.length ≤ 1000) (hl : (fillL s.data.toList us).length ≤ 1000000) :
    Calls Try.prog 103 #[.string s, v] w (Gives (.string (fillB s us)) w) := by
  obtain ⟨oa, cap, rfl, h1, h2, hc⟩ := hv.form
  unfold maxLen at h2
  clear hv
  obtain ⟨F, hF⟩ : ∃ F, F = fillL s.data.toList us := ⟨_, rfl⟩
  have hB : fillB s us = ⟨F.toArray⟩ := by rw [hF]; rfl
  rw [← hF] at hl
  rw [hB]
  have HF := Lib.hid hF
  clear hF hB
  go_enter Try.func103, Try.ntmps103
  go_wp2_with fail
  go_loopw [5, 6, 7] (fun o k i wr => ∃ (x : ByteArray) (a j : Nat), o = .string x ∧ k = .int .i64 a ∧ i = .int .i64 j ∧ j ≤ s.size ∧ a ≤ us.length ∧ Below w.heap.size w wr ∧ x.size ≤ 1000000 ∧ (s.data.toList.drop j).count 46 + a ≤ us.length ∧ Hid (F = x.data.toList ++ fillL (s.data.toList.drop j) (us.drop a))) (fun _ _ i _ => s.size - (intOf i).toNat)
  case atStart => exact ⟨⟨#[]⟩, 0, 0, rfl, rfl, rfl, Nat.zero_le _, Nat.zero_le _, Below.refl _ _, Nat.zero_le _, by simpa using hd, by show _ = _; rw [HF.out]; simp⟩
  case round =>
    obtain ⟨x, a, j, rfl, rfl, rfl, hj, ha, hbw, hx, hcnt, he⟩ := hrel
    by_cases hlt : j < s.size
    · have hcc := dots_drop hlt
      have hbj := byteAt_eq s j (by simpa using hlt)
      have hlt' : (j : Int) < (s.size : Int) := by omega
      by_cases h46 : byteAt s j = 46
      · rw [if_pos h46] at hcc
        have hka : a < us.length := by omega
        have hfd := fill_dot hlt hka h46
        have h46' : (((s[j]'hlt).toNat : Int) == 46) = true := by
          rw [beq_iff_eq, ← h46, hbj]; rfl
        obtain ⟨g, rfl, _, hg, c1⟩ := hc a hka
        have c1' := (hbw.cell (p := ⟨g, a, none⟩) hg).trans c1
        have he' : F = (x ++ us.getD a ⟨#[]⟩).data.toList ++ fillL (s.data.toList.drop (j + 1)) (us.drop (a + 1)) := by
          rw [he.out, hfd]; simp
        have hz : (x ++ us.getD a ⟨#[]⟩).size ≤ 1000000 := by
          rw [Lib.size_eq]
          have := congrArg List.length he'
          rw [List.length_append] at this
          omega
        rw [ByteArray.size_append] at hz
        generalize us.getD a ⟨#[]⟩ = u at *
        have HE := Lib.hid he'
        clear hfd he' he c1 hbj h46
        go_wp2_with fail
        go_roundw
        case rel => exact ⟨x ++ u, a + 1, j + 1, rfl, by go_num, by go_num, by omega, by omega, hbw, by rw [ByteArray.size_append]; exact hz, by omega, HE⟩
        case measure => simp [intOf]; omega
      · rw [if_neg h46] at hcc
        have hfd := (fill_other (us := us) (k := a) hlt h46).1
        have h46' : (((s[j]'hlt).toNat : Int) == 46) = false := by
          rw [beq_eq_false_iff_ne]; intro e; apply h46; rw [hbj]; exact e
        have he' : F = (x ++ s.extract j (j + 1)).data.toList ++ fillL (s.data.toList.drop (j + 1)) (us.drop a) := by
          rw [he.out, hfd]; simp
        have hz : (x ++ s.extract j (j + 1)).size ≤ 1000000 := by
          rw [Lib.size_eq]
          have := congrArg List.length he'
          rw [List.length_append] at this
          omega
        have hz' : x.size + (s.extract j (j + 1)).size ≤ 1000000 := by rw [ByteArray.size_append] at hz; exact hz
        have HE := Lib.hid he'
        clear hfd he' he hbj h46
        go_wp2_with fail
        go_roundw
        case rel => exact ⟨x ++ s.extract j (j + 1), a, j + 1, rfl, rfl, by go_num, by omega, by omega, hbw, hz, by omega, HE⟩
        case measure => simp [intOf]; omega
    · obtain rfl : j = s.size := by omega
      have hend : F = x.data.toList := by
        rw [he.out, List.drop_of_length_le (by rw [Lib.size_eq]; exact Nat.le_refl _)]
        simp [fillL]
      have HE := Lib.hid hend
      clear hend he
      go_wp2_with fail
      go_ret
      exact ⟨ret_str (by rw [HE.out]), hbw⟩

set_option maxRecDepth 100000 in
set_option maxHeartbeats 2000000 in
theorem withLeaves_any (b1 : Nat) (s : ByteArray) (v : Value) (us : List ByteArray) (w : World) (hs : s.size ≤ 1000) (hv : CellsS b1 w v us) (hd : s.data.toList.count 46 ≤ us.length) (_hu : us.length ≤ 1000) (hl : (fillL s.data.toList us).length ≤ 1000000) (hne : fillL s.data.toList us ≠ []) :
    Calls Try.prog 113 #[.string s, v] w (Gives (.string (fillB s us)) w) := by
  obtain ⟨oa, cap, rfl, h1, h2, hc⟩ := hv.form
  unfold maxLen at h2
  clear hv
  obtain ⟨F, hF⟩ : ∃ F, F = fillL s.data.toList us := ⟨_, rfl⟩
  have hB : fillB s us = ⟨F.toArray⟩ := by rw [hF]; rfl
  rw [← hF] at hl hne
  rw [hB]
  have HF := Lib.hid hF
  clear hF hB
  go_enter Try.func113, Try.ntmps113
  go_wp2_with fail
  go_loopw [6, 10] (fun k i wr => ∃ (x : List UInt8) (a j : Nat), k = .int .i64 a ∧ i = .int .i64 j ∧ j ≤ s.size ∧ a ≤ us.length ∧ Below w.heap.size w wr ∧ w.heap.size < wr.heap.size ∧ x.length ≤ 1000000 ∧ IsBld w.heap.size w.heap.size (Lib.byteCells x) wr ∧ (s.data.toList.drop j).count 46 + a ≤ us.length ∧ Hid (F = x ++ fillL (s.data.toList.drop j) (us.drop a))) (fun _ i _ => s.size - (intOf i).toNat)
  case atStart => exact ⟨[], 0, 0, rfl, rfl, Nat.zero_le _, Nat.zero_le _, nxAlloc (Below.refl _ _) _, by simp, Nat.zero_le _, Lib.fresh_isBuilder _ _ _, by simpa using hd, by show _ = _; rw [HF.out]; simp⟩
  case round =>
    obtain ⟨x, a, j, rfl, rfl, hj, ha, hbw, hlw, hx, hbld, hcnt, he⟩ := hrel
    by_cases hlt : j < s.size
    · have hcc := dots_drop hlt
      have hbj := byteAt_eq s j (by simpa using hlt)
      have hlt' : (j : Int) < (s.size : Int) := by omega
      by_cases h46 : byteAt s j = 46
      · rw [if_pos h46] at hcc
        have hka : a < us.length := by omega
        have hfd := fill_dot hlt hka h46
        have h46' : (((s[j]'hlt).toNat : Int) != 46) = false := by
          rw [bne_eq_false_iff_eq, ← h46, hbj]; rfl
        obtain ⟨g, rfl, _, hg, c1⟩ := hc a hka
        have c1' := (hbw.cell (p := ⟨g, a, none⟩) hg).trans c1
        have he' : F = (x ++ (us.getD a ⟨#[]⟩).data.toList) ++ fillL (s.data.toList.drop (j + 1)) (us.drop (a + 1)) := by
          rw [he.out, hfd]; simp
        have hz : (x ++ (us.getD a ⟨#[]⟩).data.toList).length ≤ 1000000 := by
          have := congrArg List.length he'
          rw [List.length_append] at this
          omega
        have hz2 : x.length + (us.getD a ⟨#[]⟩).size ≤ 1000000 := by rw [List.length_append, ← Lib.size_eq] at hz; exact hz
        generalize us.getD a ⟨#[]⟩ = u at *
        have HE := Lib.hid he'
        clear hfd he' he c1 hbj h46
        have gz : ((⟨#[46]⟩ : ByteArray)[0]'(by decide)).toNat = 46 := rfl
        go_wp2_with fail
        go_quiet (fail)
        clear gz h46'
        have hbw2 : Below w.heap.size w (wr.drewN nq) := drewB hbw nq
        have hlw2 : w.heap.size < (wr.drewN nq).heap.size := hlw
        have hbld2 := hbld.drewN nq
        have c2 : (wr.drewN nq).cell? ⟨g, a, none⟩ = some (.string u) := c1'
        generalize wr.drewN nq = w2 at *
        clear hbw hlw hbld c1'
        go_wp2_with fail
        refine (writeString_any w.heap.size w.heap.size _ u _ hbld2 (by rw [Lib.byteCells_length]; omega) (Nat.le_of_lt hlw2)).mono ?_; rintro e w3 ⟨rfl, hbld3, hb3⟩
        rw [Lib.strCells_eq, byteCells_app] at hbld3
        have hbw3 := hbw2.trans hb3
        have hlw3 : w.heap.size < w3.heap.size := Nat.lt_of_lt_of_le hlw2 hb3.size
        clear c2 hbld2 hb3 hbw2 hlw2
        go_wp2_with fail
        go_roundw
        case rel => exact ⟨x ++ u.data.toList, a + 1, j + 1, by go_num, by go_num, by omega, by omega, hbw3, hlw3, hz, hbld3, by omega, HE⟩
        case measure => simp [intOf]; omega
      · rw [if_neg h46] at hcc
        obtain ⟨c, hsc, hfd⟩ := (fill_other (us := us) (k := a) hlt h46).2
        have h46' : (((s[j]'hlt).toNat : Int) != 46) = true := by
          rw [bne_iff_ne]; intro e; apply h46; rw [hbj]; exact e
        have he' : F = (x ++ [c]) ++ fillL (s.data.toList.drop (j + 1)) (us.drop a) := by
          rw [he.out, hfd]; simp
        have hz : (x ++ [c]).length ≤ 1000000 := by
          have := congrArg List.length he'
          rw [List.length_append] at this
          omega
        have hz2 : x.length + 1 ≤ 1000000 := by rw [List.length_append] at hz; exact hz
        have HE := Lib.hid he'
        have hsc' : Hid (((s[j]'hlt).toNat : Int) = (c.toNat : Int)) := by show _ = _; rw [hsc]
        clear hfd he' he hbj h46 hsc
        have gz : ((⟨#[46]⟩ : ByteArray)[0]'(by decide)).toNat = 46 := rfl
        go_wp2_with fail
        go_quiet (fail)
        clear gz h46'
        have hbw2 : Below w.heap.size w (wr.drewN nq) := drewB hbw nq
        have hlw2 : w.heap.size < (wr.drewN nq).heap.size := hlw
        have hbld2 := hbld.drewN nq
        generalize wr.drewN nq = w2 at *
        clear hbw hlw hbld
        go_wp2_with fail
        refine (writeByte_any w.heap.size w.heap.size _ _ _ hbld2 (by rw [Lib.byteCells_length]; omega) (Nat.le_of_lt hlw2)).mono ?_; rintro e w3 ⟨rfl, hbld3, hb3⟩
        rw [hsc'.out, show Lib.byteCells x ++ [Value.int .u8 (c.toNat : Int)] = Lib.byteCells (x ++ [c]) by rw [← byteCells_app]; rfl] at hbld3
        have hbw3 := hbw2.trans hb3
        have hlw3 : w.heap.size < w3.heap.size := Nat.lt_of_lt_of_le hlw2 hb3.size
        clear hbld2 hb3 hbw2 hlw2
        go_wp2_with fail
        go_roundw
        case rel => exact ⟨x ++ [c], a, j + 1, rfl, by go_num, by omega, by omega, hbw3, hlw3, hz, hbld3, by omega, HE⟩
        case measure => simp [intOf]; omega
    · obtain rfl : j = s.size := by omega
      have hend : F = x := by
        rw [he.out, List.drop_of_length_le (by rw [Lib.size_eq]; exact Nat.le_refl _)]
        simp [fillL]
      have HE := Lib.hid hend
      clear hend he
      go_wp2_with fail
      refine (builderString_any _ _ x _ hbld (by rw [← HE.out]; exact hne)).mono ?_; rintro e w1 ⟨rfl, hb1⟩
      go_wp2_with fail
      go_ret
      exact ⟨ret_str (by rw [HE.out]), hbw.trans hb1⟩
end Go.Proofs.Ytplmbdljhgicfab

/-! Prefix -/
namespace Go.Proofs.Ytplmbdljhgicfab
open Go.RowKit

theorem take_eq_of_short {l p : List UInt8} (h : l.length < p.length) : (l.take p.length == p) = false := by
  rw [beq_eq_false_iff_ne]
  intro e
  have := congrArg List.length e
  simp at this
  omega

set_option linter.unusedVariables false in
theorem hasPrefixL_any (s p : ByteArray) (w : World) (hs : s.size ≤ 9223372036854775806) (hp : p.size ≤ 9223372036854775806) :
    Calls Try.prog 173 #[.string s, .string p] w fun e w' => e = .returned (.bool (s.data.toList.take p.size == p.data.toList)) ∧ w = w' := by
  by_cases h : (p.size : Int) ≤ s.size
  · go_enter Try.func173, Try.ntmps173
    go_wp2
    go_ret
    refine ⟨ret_bool ?_, rfl⟩
    rw [Lib.extract_toList, Lib.toList_data]; simp
  · have hf : (s.data.toList.take p.size == p.data.toList) = false := by
      rw [Lib.size_eq p]; exact take_eq_of_short (by rw [← Lib.size_eq, ← Lib.size_eq]; omega)
    rw [hf]
    clear hf
    go_enter Try.func173, Try.ntmps173
    go_wp2
    go_ret
    exact ⟨rfl, rfl⟩

theorem hasPrefixS_any (s p : ByteArray) (w : World) (hs : s.size ≤ 9223372036854775806) (hp : p.size ≤ 9223372036854775806) :
    Calls Try.prog 163 #[.string s, .string p] w fun e w' => e = .returned (.bool (s.data.toList.take p.size == p.data.toList)) ∧ w = w' := by
  go_enter Try.func163, Try.ntmps163
  go_wp2_with fail
  refine (hasPrefixL_any s p _ hs hp).mono ?_; rintro e w1 ⟨rfl, rfl⟩
  go_wp2_with fail
  go_ret
  exact ⟨rfl, rfl⟩

end Go.Proofs.Ytplmbdljhgicfab

/-! ImplExp -/
namespace Go.Proofs.Ytplmbdljhgicfab
open Go.RowKit

/-- A call that hands back a slice of integers of its own, and true. -/
def IntsOk (xs : List Int) (w : World) (e : Ending) (w' : World) : Prop :=
  ∃ v, OwnI w.heap.size w' v xs ∧ Below w.heap.size w w' ∧ e = .returned (.tuple #[v, .bool true])

theorem expB_from (s : ByteArray) (k : Nat) : ((s.extract k s.size).data.toList.take (ByteArray.mk #[40, 46, 46, 41]).size == (ByteArray.mk #[40, 46, 46, 41]).data.toList) = expB (s.data.toList.drop k) := by
  unfold expB
  rw [ext_end]
  rfl

set_option maxRecDepth 100000 in
set_option maxHeartbeats 2000000 in
theorem exposedIn_any (s : ByteArray) (w : World) (hs : s.size ≤ 1000) :
    Calls Try.prog 160 #[.string s] w (GivesInts (exL s.data.toList 0) w) := by
  obtain ⟨i0, hi, hz0, hz1, hz2⟩ := info_parts info_int
  go_enter Try.func160, Try.ntmps160
  go_wp2_with fail
  go_loopw [3, 4, 8] (fun v n i wr => ∃ (k : Nat) (m : Int) (xs : List Int), k ≤ s.size ∧ 0 ≤ m ∧ m ≤ k ∧ i = .int .i64 k ∧ n = .int .i64 m ∧ xs.length ≤ k ∧ OwnI w.heap.size wr v xs ∧ Below w.heap.size w wr ∧ Hid (exL s.data.toList 0 = xs ++ exL (s.data.toList.drop k) m)) (fun _ _ i _ => s.size - (intOf i).toNat)
  case atStart => exact ⟨0, 0, [], Nat.zero_le _, by omega, by omega, rfl, rfl, Nat.le_refl _, OwnI.nil _ _, Below.refl _ _, rfl⟩
  case round =>
    obtain ⟨k, m, xs, hk, hm0, hm1, rfl, rfl, hxl, hown, hbw, he⟩ := hrel
    by_cases hlt : k < s.size
    · obtain ⟨c, r, hd, hb, hr⟩ := drop_of_byteAt hlt
      have hx : ((s[k]'hlt).toNat : Int) = (c.toNat : Int) := by rw [← hb]; exact (byteAt_eq s k hlt).symm
      have h46 : (((s[k]'hlt).toNat : Int) == 46) = decide (c = 46) := by
        rw [hx, Bool.eq_iff_iff]
        simp only [beq_iff_eq, decide_eq_true_eq]
        exact ⟨fun e => u8_eq (n := 46) (by omega) e, fun e => by rw [e]; rfl⟩
      have hstep : exL (s.data.toList.drop k) m = (if expB (s.data.toList.drop k) = true then [m] else []) ++ exL (s.data.toList.drop (k + 1)) (if c = 46 then m + 1 else m) := by
        rw [hr, hd, exL]
      have H46 := Lib.hid h46
      have HS := Lib.hid hstep
      have hpc := hasPrefixS_any (s.extract k s.size) (ByteArray.mk #[40, 46, 46, 41])
      rw [expB_from] at hpc
      have hsz : (s.extract k s.size).size ≤ 9223372036854775806 := by simp; omega
      clear hd hb hr hx h46 hstep
      cases hE : expB (s.data.toList.drop k) with
      | true =>
        rw [hE] at hpc
        have HE1 := Lib.hid hE
        clear hE
        by_cases hc : c = 46
        all_goals
          have h4 := H46.out
          simp only [hc, decide_true, decide_false] at h4
          have HC := Lib.hid hc
          have H4 := Lib.hid h4
          clear hc h4
          go_wp2_with fail
          refine (hpc _ hsz (by decide)).mono ?_; rintro e wx ⟨rfl, rfl⟩
          go_wp2_with (at_builtin; refine wpList_append_own _ rfl _ _ 33 rfl w.heap.size 3 i0 (.int .i64 0) 1 8 Try.underlying33 hi hz0 hz1 hz2 rfl (by decide) _ _ _ rfl (hown.alloc _) ⟨wr.heap.size, 0, none⟩ 1 1 [.int .i64 m] rfl rfl (new1 _ _ _) (one1 _) (by unfold maxLen; omega) (by omega) (size_al hbw _) ?_; intro v' w1 hown' hgrow hnn)
          have hbw' := below_app hbw hown (Nat.le_refl _) hgrow
          have hown1 := OwnI.snoc hown'
          have he' : exL s.data.toList 0 = (xs ++ [m]) ++ exL (s.data.toList.drop (k + 1)) (if c = 46 then m + 1 else m) := by
            rw [he.out, HS.out, if_pos HE1.out, List.append_assoc]
          have HE := Lib.hid he'
          have g := H4.out
          have gz : ((⟨#[46]⟩ : ByteArray)[0]'(by decide)).toNat = 46 := rfl
          clear hown hown' hgrow hbw hnn he' he
          go_wp2_with fail
          go_quiet (fail)
          go_wp2_with fail
          clear g gz
          go_roundw
          case rel =>
            have he' := HE.out
            have hc := HC.out
            first | rw [if_pos hc] at he' | rw [if_neg hc] at he'
            exact ⟨k + 1, _, xs ++ [m], by omega, by omega, by omega, by go_num, rfl, by simp; omega, hown1.keep (drewB (Below.refl _ _) _), drewB hbw' _, he'⟩
          case measure => simp [intOf]; omega
      | false =>
        rw [hE] at hpc
        have he' : exL s.data.toList 0 = xs ++ exL (s.data.toList.drop (k + 1)) (if c = 46 then m + 1 else m) := by
          rw [he.out, HS.out, if_neg (by rw [hE]; decide), List.nil_append]
        have HE := Lib.hid he'
        clear hE he' he
        by_cases hc : c = 46
        all_goals
          have h4 := H46.out
          simp only [hc, decide_true, decide_false] at h4
          have HC := Lib.hid hc
          have H4 := Lib.hid h4
          clear hc h4
          go_wp2_with fail
          refine (hpc _ hsz (by decide)).mono ?_; rintro e wx ⟨rfl, rfl⟩
          have g := H4.out
          have gz : ((⟨#[46]⟩ : ByteArray)[0]'(by decide)).toNat = 46 := rfl
          go_wp2_with fail
          go_quiet (fail)
          go_wp2_with fail
          clear g gz
          go_roundw
          case rel =>
            have he' := HE.out
            have hc := HC.out
            first | rw [if_pos hc] at he' | rw [if_neg hc] at he'
            exact ⟨k + 1, _, xs, by omega, by omega, by omega, by go_num, rfl, by omega, hown.keep (drewB (Below.refl _ _) _), drewB hbw _, he'⟩
          case measure => simp [intOf]; omega
    · obtain rfl : k = s.size := by omega
      have hend : exL s.data.toList 0 = xs := by
        have h1 : s.data.toList.drop s.size = [] := List.drop_of_length_le (by rw [Lib.size_eq]; exact Nat.le_refl _)
        have := he.out
        rw [h1] at this
        simpa [exL] using this
      have HE := Lib.hid hend
      clear hend he
      go_wp2_with fail
      go_ret
      exact ⟨_, by rw [HE.out]; exact hown, hbw, rfl⟩

end Go.Proofs.Ytplmbdljhgicfab

/-! SpecExp -/
namespace Go.Proofs.Ytplmbdljhgicfab
open Go.RowKit

set_option maxRecDepth 100000 in
set_option maxHeartbeats 2000000 in
theorem trExposed_any (s : ByteArray) (w : World) (hs : s.size ≤ 1000) :
    Calls Try.prog 158 #[.string s] w (GivesInts (exL s.data.toList 0) w) := by
  obtain ⟨i0, hi, hz0, hz1, hz2⟩ := info_parts info_int
  go_enter Try.func158, Try.ntmps158
  go_wp2_with fail
  go_loopw [3, 4, 5] (fun v n i wr => ∃ (k : Nat) (m : Int) (xs : List Int), k ≤ s.size ∧ 0 ≤ m ∧ m ≤ k ∧ i = .int .i64 k ∧ n = .int .i64 m ∧ xs.length ≤ k ∧ OwnI w.heap.size wr v xs ∧ Below w.heap.size w wr ∧ Hid (exL s.data.toList 0 = xs ++ (pend s.data.toList k m ++ exL (s.data.toList.drop k) m))) (fun _ _ i _ => s.size - (intOf i).toNat)
  case atStart => exact ⟨0, 0, [], Nat.zero_le _, by omega, by omega, rfl, rfl, Nat.le_refl _, OwnI.nil _ _, Below.refl _ _, by show _ = _; rw [pend_zero]; rfl⟩
  case round =>
    obtain ⟨k, m, xs, hk, hm0, hm1, rfl, rfl, hxl, hown, hbw, he⟩ := hrel
    by_cases hlt : k < s.size
    · obtain ⟨c, r, hd, hb, hr⟩ := drop_of_byteAt hlt
      have hstep := exL_step (n := m) hd
      have hx : ((s[k]'hlt).toNat : Int) = (c.toNat : Int) := by rw [← hb]; exact (byteAt_eq s k hlt).symm
      have h46 : (((s[k]'hlt).toNat : Int) == 46) = decide (c = 46) := by
        rw [hx, Bool.eq_iff_iff]
        simp only [beq_iff_eq, decide_eq_true_eq]
        exact ⟨fun e => u8_eq (n := 46) (by omega) e, fun e => by rw [e]; rfl⟩
      have H46 := Lib.hid h46
      have HS := Lib.hid hstep
      clear hd hb hr hx h46 hstep
      by_cases hP : 0 < k ∧ expB (s.data.toList.drop (k - 1)) = true
      · have hpend : Hid (pend s.data.toList k m = [m]) := by show _ = _; unfold pend; rw [if_pos hP]
        obtain ⟨hk0, hE⟩ := hP
        have h1 : (0 : Int) < k := by omega
        have h2 : (k : Int) + 2 < s.size := by have := expB_drop hE; rw [← Lib.size_eq] at this; omega
        have h3 : ((s.extract (k - 1) (k + 3)).toList == [40, 46, 46, 41]) = true := by rw [← expB_extract s k hk0]; exact hE
        clear hE
        by_cases hc : c = 46
        all_goals
          have h4 := H46.out
          simp only [hc, decide_true, decide_false] at h4
          have HC := Lib.hid hc
          clear hc
          go_wp2_with (at_builtin; refine wpList_append_own _ rfl _ _ 33 rfl w.heap.size 3 i0 (.int .i64 0) 1 8 Try.underlying33 hi hz0 hz1 hz2 rfl (by decide) _ _ _ rfl (hown.alloc _) ⟨wr.heap.size, 0, none⟩ 1 1 [.int .i64 m] rfl rfl (new1 _ _ _) (one1 _) (by unfold maxLen; omega) (by omega) (size_al hbw _) ?_; intro v' w1 hown' hgrow hnn)
          have hbw' := below_app hbw hown (Nat.le_refl _) hgrow
          have hown1 := OwnI.snoc hown'
          have he' : exL s.data.toList 0 = (xs ++ [m]) ++ (pend s.data.toList (k + 1) (if c = 46 then m + 1 else m) ++ exL (s.data.toList.drop (k + 1)) (if c = 46 then m + 1 else m)) := by
            rw [he.out, HS.out, hpend.out, List.append_assoc]
          have HE := Lib.hid he'
          clear hown hown' hgrow hbw hnn he' he
          go_wp2_with fail
          go_roundw
          case rel =>
            have he' := HE.out
            have hc := HC.out
            first | rw [if_pos hc] at he' | rw [if_neg hc] at he'
            exact ⟨k + 1, _, xs ++ [m], by omega, by omega, by omega, by go_num, rfl, by simp; omega, hown1, hbw', he'⟩
          case measure => simp [intOf]; omega
      · have hpend : Hid (pend s.data.toList k m = []) := by show _ = _; unfold pend; rw [if_neg hP]
        have he' : exL s.data.toList 0 = xs ++ (pend s.data.toList (k + 1) (if c = 46 then m + 1 else m) ++ exL (s.data.toList.drop (k + 1)) (if c = 46 then m + 1 else m)) := by
          rw [he.out, HS.out, hpend.out, List.nil_append]
        have HE := Lib.hid he'
        clear he' he
        by_cases hc : c = 46
        all_goals
          have h4 := H46.out
          simp only [hc, decide_true, decide_false] at h4
          have HC := Lib.hid hc
          clear hc
          by_cases h1 : (0 : Int) < k
          · by_cases h2 : (k : Int) + 2 < s.size
            · have h3 : ((s.extract (k - 1) (k + 3)).toList == [40, 46, 46, 41]) = false := by
                rw [← expB_extract s k (by omega)]
                exact Bool.eq_false_iff.2 fun e => hP ⟨by omega, e⟩
              clear hP
              go_wp2_with fail
              go_roundw
              case rel =>
                have he' := HE.out
                have hc := HC.out
                first | rw [if_pos hc] at he' | rw [if_neg hc] at he'
                exact ⟨k + 1, _, xs, by omega, by omega, by omega, by go_num, rfl, by omega, hown, hbw, he'⟩
              case measure => simp [intOf]; omega
            · clear hP
              go_wp2_with fail
              go_roundw
              case rel =>
                have he' := HE.out
                have hc := HC.out
                first | rw [if_pos hc] at he' | rw [if_neg hc] at he'
                exact ⟨k + 1, _, xs, by omega, by omega, by omega, by go_num, rfl, by omega, hown, hbw, he'⟩
              case measure => simp [intOf]; omega
          · clear hP
            go_wp2_with fail
            go_roundw
            case rel =>
              have he' := HE.out
              have hc := HC.out
              first | rw [if_pos hc] at he' | rw [if_neg hc] at he'
              exact ⟨k + 1, _, xs, by omega, by omega, by omega, by go_num, rfl, by omega, hown, hbw, he'⟩
            case measure => simp [intOf]; omega
    · obtain rfl : k = s.size := by omega
      have hend : exL s.data.toList 0 = xs := by
        have h1 : s.data.toList.drop s.size = [] := List.drop_of_length_le (by rw [Lib.size_eq]; exact Nat.le_refl _)
        have h2 : pend s.data.toList s.size m = [] := by
          unfold pend
          rw [if_neg]
          rintro ⟨h3, h4⟩
          have := expB_drop h4
          rw [← Lib.size_eq] at this
          omega
        have := he.out
        rw [h1, h2] at this
        simpa [exL] using this
      have HE := Lib.hid hend
      clear hend he
      go_wp2_with fail
      go_ret
      exact ⟨_, by rw [HE.out]; exact hown, hbw, rfl⟩
end Go.Proofs.Ytplmbdljhgicfab

/-! Has -/
namespace Go.Proofs.Ytplmbdljhgicfab
open Go.RowKit

theorem CellsI.weak {b1 b2 : Nat} {w : World} {v : Value} {xs : List Int} (h : CellsI b1 w v xs) (hb : b2 ≤ b1) : CellsI b2 w v xs := by
  rcases h with h | ⟨g, cap, h1, h2, h3⟩
  · exact .inl h
  · exact .inr ⟨g, cap, h1, Nat.le_trans hb h2, h3⟩

set_option maxHeartbeats 1000000 in
theorem l1Has_any (b1 : Nat) (v : Value) (xs : List Int) (n : Int) (w : World) (h : CellsI b1 w v xs) :
    Calls Try.prog 159 #[v, .int .i64 n] w (Quietly (.bool (xs.contains n)) w) := by
  have hl := h.len
  rcases h with ⟨rfl, rfl⟩ | ⟨g, cap, rfl, hb1, hg1, hc1, hm1, hx1, _⟩
  · go_enter Try.func159, Try.ntmps159
    go_wp2_with fail
    go_loopw [9] (fun i wr => i = .int .i64 0 ∧ wr = w) (fun _ _ => 0)
    case atStart => exact ⟨rfl, rfl⟩
    case round =>
      obtain ⟨rfl, rfl⟩ := hrel
      go_wp2_with fail
      go_ret
      exact ⟨rfl, 0, rfl⟩
  · have HX1 := Lib.hid hx1
    clear hx1
    go_enter Try.func159, Try.ntmps159
    go_wp2_with fail
    go_loopw [9] (fun i wr => ∃ k d : Nat, k ≤ xs.length ∧ i = .int .i64 k ∧ wr = w.drewN d ∧ Hid (xs.contains n = (xs.drop k).contains n)) (fun i _ => xs.length - (intOf i).toNat)
    case atStart => exact ⟨0, 0, Nat.zero_le _, rfl, rfl, rfl⟩
    case round =>
      obtain ⟨k, d, hk, rfl, rfl, he⟩ := hrel
      by_cases hlt : k < xs.length
      · have hlt' : (k : Int) < (xs.length : Int) := by omega
        have c1 := HX1.out k hlt
        obtain ⟨x, hx⟩ : ∃ x, x = xs.getD k 0 := ⟨_, rfl⟩
        have hd : xs.drop k = x :: xs.drop (k + 1) := by rw [List.drop_eq_getElem_cons hlt, hx]; simp [hlt]
        rw [← hx] at c1
        have he' := he.out
        rw [hd, List.contains_cons] at he'
        clear hx hd he
        cases hxn : (x == n) with
        | true =>
          have hn : (n == x) = true := by simp at hxn; simp [hxn]
          rw [hn, Bool.true_or] at he'
          have HE := Lib.hid he'
          clear he' hn
          go_wp2_with fail
          go_ret
          exact ⟨by rw [HE.out]; rfl, _, rfl⟩
        | false =>
          have hn : (n == x) = false := by simp at hxn; simp; exact fun e => hxn e.symm
          rw [hn, Bool.false_or] at he'
          have HE := Lib.hid he'
          clear he' hn
          go_wp2_with fail
          go_roundw
          case rel => exact ⟨k + 1, _, by omega, by go_num, rfl, HE⟩
          case measure => simp [intOf]; omega
      · obtain rfl : k = xs.length := by omega
        have he' := he.out
        rw [List.drop_of_length_le (Nat.le_refl _)] at he'
        have HE := Lib.hid he'
        clear he he'
        go_wp2_with fail
        go_ret
        exact ⟨by rw [HE.out]; rfl, _, rfl⟩
end Go.Proofs.Ytplmbdljhgicfab

/-! Both -/
namespace Go.Proofs.Ytplmbdljhgicfab
open Go.RowKit

/-- The left leaves with which the trees of both texts have exposed carets. -/
def bothL (a b : ByteArray) : List Int := (exL a.data.toList 0).filter fun n => (exL b.data.toList 0).contains n
theorem bothL_str (p : Pr) : bothL p.1.str p.2.str = both p := by
  unfold bothL both
  rw [Tr.str_list, Tr.str_list, exps_text, exps_text]

/-- Where a number is in a list, from k on. -/
def idxI : List Int → Nat → Int → Int
  | [], _, _ => -1
  | x :: xs, k, n => if n = x then k else idxI xs (k + 1) n
theorem idxI_has (xs : List Int) : ∀ (k : Nat) (n : Int), decide (0 ≤ idxI xs k n) = xs.contains n := by
  induction xs with
  | nil => intro k n; rfl
  | cons x xs ih =>
    intro k n
    rw [idxI, List.contains_cons]
    by_cases h : n = x
    · subst h; simp
    · have : (n == x) = false := by simpa using h
      rw [if_neg h, ih, this, Bool.false_or]
theorem idxI_le (xs : List Int) : ∀ (k : Nat) (n : Int), -1 ≤ idxI xs k n ∧ idxI xs k n ≤ k + xs.length := by
  induction xs with
  | nil => intro k n; simp [idxI]
  | cons x xs ih =>
    intro k n
    have := ih (k + 1) n
    rw [idxI]
    simp only [List.length_cons]
    split <;> omega

set_option maxHeartbeats 1000000 in
theorem index_any (b1 : Nat) (v : Value) (xs : List Int) (n : Int) (w : World) (h : CellsI b1 w v xs) :
    Calls Try.prog 174 #[v, .int .i64 n] w (Quietly (.int .i64 (idxI xs 0 n)) w) := by
  have hl := h.len
  rcases h with ⟨rfl, rfl⟩ | ⟨g, cap, rfl, hb1, hg1, hc1, hm1, hx1, _⟩
  · go_enter Try.func174, Try.ntmps174
    go_wp2_with fail
    go_loopw [8] (fun i wr => i = .int .i64 0 ∧ wr = w) (fun _ _ => 0)
    case atStart => exact ⟨rfl, rfl⟩
    case round =>
      obtain ⟨rfl, rfl⟩ := hrel
      go_wp2_with fail
      go_ret
      exact ⟨rfl, 0, rfl⟩
  · have HX1 := Lib.hid hx1
    clear hx1
    go_enter Try.func174, Try.ntmps174
    go_wp2_with fail
    go_loopw [8] (fun i wr => ∃ k d : Nat, k ≤ xs.length ∧ i = .int .i64 k ∧ wr = w.drewN d ∧ Hid (idxI xs 0 n = idxI (xs.drop k) k n)) (fun i _ => xs.length - (intOf i).toNat)
    case atStart => exact ⟨0, 0, Nat.zero_le _, rfl, rfl, rfl⟩
    case round =>
      obtain ⟨k, d, hk, rfl, rfl, he⟩ := hrel
      by_cases hlt : k < xs.length
      · have hlt' : (k : Int) < (xs.length : Int) := by omega
        have c1 := HX1.out k hlt
        obtain ⟨x, hx⟩ : ∃ x, x = xs.getD k 0 := ⟨_, rfl⟩
        have hd : xs.drop k = x :: xs.drop (k + 1) := by rw [List.drop_eq_getElem_cons hlt, hx]; simp [hlt]
        rw [← hx] at c1
        have he' := he.out
        rw [hd, idxI] at he'
        clear hx hd he
        by_cases hxn : n = x
        · rw [if_pos hxn] at he'
          have hn : (n == x) = true := by simpa using hxn
          have HE := Lib.hid he'
          clear he' hxn
          go_wp2_with fail
          go_ret
          exact ⟨ret_int (by rw [HE.out]), _, rfl⟩
        · rw [if_neg hxn] at he'
          have hn : (n == x) = false := by simpa using hxn
          have HE := Lib.hid he'
          clear he' hxn
          go_wp2_with fail
          go_roundw
          case rel => exact ⟨k + 1, _, by omega, by go_num, rfl, HE⟩
          case measure => simp [intOf]; omega
      · obtain rfl : k = xs.length := by omega
        have he' := he.out
        rw [List.drop_of_length_le (Nat.le_refl _)] at he'
        have HE := Lib.hid he'
        clear he he'
        go_wp2_with fail
        go_ret
        exact ⟨by rw [HE.out]; rfl, _, rfl⟩

theorem contains_any (b1 : Nat) (v : Value) (xs : List Int) (n : Int) (w : World) (h : CellsI b1 w v xs) :
    Calls Try.prog 161 #[v, .int .i64 n] w (Quietly (.bool (xs.contains n)) w) := by
  have hi := fun w h => index_any b1 v xs n w h
  have HI : Hid (decide (0 ≤ idxI xs 0 n) = xs.contains n) := idxI_has xs 0 n
  have H := Lib.hid h
  clear h
  generalize idxI xs 0 n = z at *
  go_enter Try.func161, Try.ntmps161
  go_wp2_with fail
  refine (hi _ H.out).mono ?_; rintro e w3 ⟨rfl, d, rfl⟩
  go_wp2_with fail
  go_ret
  exact ⟨ret_bool HI.out, _, rfl⟩

set_option maxRecDepth 100000 in
set_option maxHeartbeats 2000000 in
theorem prBoth_any (a b : ByteArray) (w : World) (ha : a.size ≤ 1000) (hb : b.size ≤ 1000) :
    Calls Try.prog 137 #[.agg #[.string a, .string b]] w (GivesInts (bothL a b) w) := by
  obtain ⟨i0, hi, hz0, hz1, hz2⟩ := info_parts info_int
  have hXl : (exL a.data.toList 0).length ≤ 1000 := by have := exL_length a.data.toList 0; rw [← Lib.size_eq] at this; omega
  have hA := fun w => trExposed_any a w ha
  have hB := fun w => trExposed_any b w hb
  obtain ⟨X, hX⟩ : ∃ X, X = exL a.data.toList 0 := ⟨_, rfl⟩
  obtain ⟨Y, hY⟩ : ∃ Y, Y = exL b.data.toList 0 := ⟨_, rfl⟩
  rw [← hX] at hA hXl
  rw [← hY] at hB
  rw [show bothL a b = X.filter fun n => Y.contains n by rw [hX, hY]; rfl]
  clear hX hY
  go_enter Try.func137, Try.ntmps137
  go_wp2_with fail
  have hb0 : Below w.heap.size w (w.alloc (.cells #[.string a, .string b] 29 (0, 0))) := nxAlloc (Below.refl _ _) _
  have hc := two_cells (heap_alloc_at w (.cells #[.string a, .string b] 29 (0, 0)))
  have hs : w.heap.size < (w.alloc (.cells #[.string a, .string b] 29 (0, 0))).heap.size := by simp
  generalize w.alloc (.cells #[.string a, .string b] 29 (0, 0)) = w0 at *
  refine (hB _).mono ?_; rintro e w1 ⟨v1, own1, hb1, rfl⟩
  have hc1 := keep_two hb1 hs hc
  have hs1 : w.heap.size < w1.heap.size := Nat.lt_of_lt_of_le hs hb1.size
  have hb01 := nx hb0 hb1
  obtain ⟨k1, k2⟩ := hc1
  go_wp2_with fail
  refine (hA _).mono ?_; rintro e w2 ⟨v2, own2, hb2, rfl⟩
  have own1' := own1.keep hb2
  have hbase : w.heap.size ≤ w0.heap.size := Nat.le_of_lt hs
  have hbase1 : w.heap.size ≤ w1.heap.size := Nat.le_of_lt hs1
  have hb02 := nx hb01 hb2
  have hcx := own2.cells
  clear hc k1 k2 hs hs1 own1 hb0 hb1 hb01
  have hp1 : Hid (OwnI w1.heap.size w2 v2 X) := own2
  have hp2 : Hid (OwnI w0.heap.size w2 v1 Y) := own1'
  clear own2 own1'
  rcases hcx with ⟨rfl, rfl⟩ | ⟨g, cap, rfl, hg0, hg1, hc1, hm1, hx1, _⟩
  · go_wp2_with fail
    go_loopw [3, 14] (fun v i wr => v = .slice none 0 0 ∧ i = .int .i64 0 ∧ wr = w2) (fun _ _ _ => 0)
    case atStart => exact ⟨rfl, rfl, rfl⟩
    case round =>
      obtain ⟨rfl, rfl, rfl⟩ := hrel
      go_wp2_with fail
      go_ret
      exact ⟨_, OwnI.nil _ _, hb02, rfl⟩
  · have HX1 := Lib.hid hx1
    clear hx1
    go_wp2_with fail
    go_loopw [3, 14] (fun v i wr => ∃ (k : Nat) (zs : List Int), k ≤ X.length ∧ i = .int .i64 k ∧ zs.length ≤ k ∧ OwnI w2.heap.size wr v zs ∧ Below w2.heap.size w2 wr ∧ Hid (X.filter (fun n => Y.contains n) = zs ++ (X.drop k).filter fun n => Y.contains n)) (fun _ i _ => X.length - (intOf i).toNat)
    case atStart => exact ⟨0, [], Nat.zero_le _, rfl, Nat.le_refl _, OwnI.nil _ _, Below.refl _ _, by show _ = _; simp⟩
    case round =>
      obtain ⟨k, zs, hk, rfl, hzl, hown, hbw, he⟩ := hrel
      by_cases hlt : k < X.length
      · have c1 := (hbw.cell (p := ⟨g, k, none⟩) hg1).trans (HX1.out k hlt)
        have hcy := (OwnI.keep hp2.out hbw).cells
        obtain ⟨x, hx⟩ : ∃ x, x = X.getD k 0 := ⟨_, rfl⟩
        have hd : X.drop k = x :: X.drop (k + 1) := by rw [List.drop_eq_getElem_cons hlt, hx]; simp [hlt]
        rw [← hx] at c1
        have he' := he.out
        rw [hd, List.filter_cons] at he'
        have hhas := fun w h => l1Has_any w0.heap.size v1 Y x w h
        clear hx hd he
        have hlt' : (k : Int) < (X.length : Int) := by omega
        cases hxn : Y.contains x with
        | true =>
          rw [hxn] at hhas
          rw [hxn, if_pos rfl] at he'
          have HE := Lib.hid he'
          have HCY := Lib.hid hcy
          clear he' hxn hcy
          go_wp2_with fail
          refine (hhas _ HCY.out).mono ?_; rintro e w3 ⟨rfl, d, hw3⟩
          have hb3 : Below wr.heap.size wr w3 := by rw [hw3]; exact drewB (Below.refl _ _) _
          have hbw3 := nx hbw hb3
          have hown3 := hown.keep hb3
          clear hw3 hbw hown hb3
          go_wp2_with (at_builtin; refine wpList_append_own _ rfl _ _ 33 rfl w2.heap.size 3 i0 (.int .i64 0) 1 8 Try.underlying33 hi hz0 hz1 hz2 rfl (by decide) _ _ _ rfl (hown3.alloc _) ⟨w3.heap.size, 0, none⟩ 1 1 [.int .i64 x] rfl rfl (new1 _ _ _) (one1 _) (by unfold maxLen; omega) (by omega) (size_al hbw3 _) ?_; intro v' w4 hown' hgrow hnn)
          have hbw' := below_app hbw3 hown3 (Nat.le_refl _) hgrow
          have hown1 := OwnI.snoc hown'
          clear hown3 hown' hgrow hbw3 hnn
          go_wp2_with fail
          go_roundw
          case rel =>
            have he' := HE.out
            exact ⟨k + 1, zs ++ [x], by omega, by go_num, by simp; omega, hown1, hbw', by show _ = _; rw [he']; simp⟩
          case measure => simp [intOf]; omega
        | false =>
          rw [hxn] at hhas
          rw [hxn, if_neg (by decide)] at he'
          have HE := Lib.hid he'
          have HCY := Lib.hid hcy
          clear he' hxn hcy
          go_wp2_with fail
          refine (hhas _ HCY.out).mono ?_; rintro e w3 ⟨rfl, d, hw3⟩
          have hb3 : Below wr.heap.size wr w3 := by rw [hw3]; exact drewB (Below.refl _ _) _
          have hbw3 := nx hbw hb3
          have hown3 := hown.keep hb3
          clear hw3 hbw hown hb3
          go_wp2_with fail
          go_roundw
          case rel => exact ⟨k + 1, zs, by omega, by go_num, by omega, hown3, hbw3, HE⟩
          case measure => simp [intOf]; omega
      · obtain rfl : k = X.length := by omega
        have he' := he.out
        rw [List.drop_of_length_le (Nat.le_refl _), List.filter_nil, List.append_nil] at he'
        have HE := Lib.hid he'
        clear he he'
        go_wp2_with fail
        go_ret
        exact ⟨_, by rw [HE.out]; exact hown.mono hb02.size, nx hb02 hbw, rfl⟩

set_option maxRecDepth 100000 in
set_option maxHeartbeats 2000000 in
theorem sharedExposed_any (a b : ByteArray) (w : World) (ha : a.size ≤ 1000) (hb : b.size ≤ 1000) :
    Calls Try.prog 141 #[.agg #[.string a, .string b]] w (GivesInts (bothL a b) w) := by
  obtain ⟨i0, hi, hz0, hz1, hz2⟩ := info_parts info_int
  have hXl : (exL a.data.toList 0).length ≤ 1000 := by have := exL_length a.data.toList 0; rw [← Lib.size_eq] at this; omega
  have hA := fun w => exposedIn_any a w ha
  have hB := fun w => exposedIn_any b w hb
  obtain ⟨X, hX⟩ : ∃ X, X = exL a.data.toList 0 := ⟨_, rfl⟩
  obtain ⟨Y, hY⟩ : ∃ Y, Y = exL b.data.toList 0 := ⟨_, rfl⟩
  rw [← hX] at hA hXl
  rw [← hY] at hB
  rw [show bothL a b = X.filter fun n => Y.contains n by rw [hX, hY]; rfl]
  clear hX hY
  go_enter Try.func141, Try.ntmps141
  go_wp2_with fail
  have hb0 : Below w.heap.size w (w.alloc (.cells #[.string a, .string b] 29 (0, 0))) := nxAlloc (Below.refl _ _) _
  have hc := two_cells (heap_alloc_at w (.cells #[.string a, .string b] 29 (0, 0)))
  have hs : w.heap.size < (w.alloc (.cells #[.string a, .string b] 29 (0, 0))).heap.size := by simp
  generalize w.alloc (.cells #[.string a, .string b] 29 (0, 0)) = w0 at *
  refine (hB _).mono ?_; rintro e w1 ⟨v1, own1, hb1, rfl⟩
  have hc1 := keep_two hb1 hs hc
  have hs1 : w.heap.size < w1.heap.size := Nat.lt_of_lt_of_le hs hb1.size
  have hb01 := nx hb0 hb1
  obtain ⟨k1, k2⟩ := hc1
  go_wp2_with fail
  refine (hA _).mono ?_; rintro e w2 ⟨v2, own2, hb2, rfl⟩
  have own1' := own1.keep hb2
  have hbase : w.heap.size ≤ w0.heap.size := Nat.le_of_lt hs
  have hbase1 : w.heap.size ≤ w1.heap.size := Nat.le_of_lt hs1
  have hb02 := nx hb01 hb2
  have hcx := own2.cells
  clear hc k1 k2 hs hs1 own1 hb0 hb1 hb01
  have hp1 : Hid (OwnI w1.heap.size w2 v2 X) := own2
  have hp2 : Hid (OwnI w0.heap.size w2 v1 Y) := own1'
  clear own2 own1'
  rcases hcx with ⟨rfl, rfl⟩ | ⟨g, cap, rfl, hg0, hg1, hc1, hm1, hx1, _⟩
  · go_wp2_with fail
    go_loopw [3, 14] (fun v i wr => v = .slice none 0 0 ∧ i = .int .i64 0 ∧ wr = w2) (fun _ _ _ => 0)
    case atStart => exact ⟨rfl, rfl, rfl⟩
    case round =>
      obtain ⟨rfl, rfl, rfl⟩ := hrel
      go_wp2_with fail
      go_ret
      exact ⟨_, OwnI.nil _ _, hb02, rfl⟩
  · have HX1 := Lib.hid hx1
    clear hx1
    go_wp2_with fail
    go_loopw [3, 14] (fun v i wr => ∃ (k : Nat) (zs : List Int), k ≤ X.length ∧ i = .int .i64 k ∧ zs.length ≤ k ∧ OwnI w2.heap.size wr v zs ∧ Below w2.heap.size w2 wr ∧ Hid (X.filter (fun n => Y.contains n) = zs ++ (X.drop k).filter fun n => Y.contains n)) (fun _ i _ => X.length - (intOf i).toNat)
    case atStart => exact ⟨0, [], Nat.zero_le _, rfl, Nat.le_refl _, OwnI.nil _ _, Below.refl _ _, by show _ = _; simp⟩
    case round =>
      obtain ⟨k, zs, hk, rfl, hzl, hown, hbw, he⟩ := hrel
      by_cases hlt : k < X.length
      · have c1 := (hbw.cell (p := ⟨g, k, none⟩) hg1).trans (HX1.out k hlt)
        have hcy := (OwnI.keep hp2.out hbw).cells
        obtain ⟨x, hx⟩ : ∃ x, x = X.getD k 0 := ⟨_, rfl⟩
        have hd : X.drop k = x :: X.drop (k + 1) := by rw [List.drop_eq_getElem_cons hlt, hx]; simp [hlt]
        rw [← hx] at c1
        have he' := he.out
        rw [hd, List.filter_cons] at he'
        have hhas := fun w h => contains_any w0.heap.size v1 Y x w h
        clear hx hd he
        have hlt' : (k : Int) < (X.length : Int) := by omega
        cases hxn : Y.contains x with
        | true =>
          rw [hxn] at hhas
          rw [hxn, if_pos rfl] at he'
          have HE := Lib.hid he'
          have HCY := Lib.hid hcy
          clear he' hxn hcy
          go_wp2_with fail
          refine (hhas _ HCY.out).mono ?_; rintro e w3 ⟨rfl, d, hw3⟩
          have hb3 : Below wr.heap.size wr w3 := by rw [hw3]; exact drewB (Below.refl _ _) _
          have hbw3 := nx hbw hb3
          have hown3 := hown.keep hb3
          clear hw3 hbw hown hb3
          go_wp2_with (at_builtin; refine wpList_append_own _ rfl _ _ 33 rfl w2.heap.size 3 i0 (.int .i64 0) 1 8 Try.underlying33 hi hz0 hz1 hz2 rfl (by decide) _ _ _ rfl (hown3.alloc _) ⟨w3.heap.size, 0, none⟩ 1 1 [.int .i64 x] rfl rfl (new1 _ _ _) (one1 _) (by unfold maxLen; omega) (by omega) (size_al hbw3 _) ?_; intro v' w4 hown' hgrow hnn)
          have hbw' := below_app hbw3 hown3 (Nat.le_refl _) hgrow
          have hown1 := OwnI.snoc hown'
          clear hown3 hown' hgrow hbw3 hnn
          go_wp2_with fail
          go_roundw
          case rel =>
            have he' := HE.out
            exact ⟨k + 1, zs ++ [x], by omega, by go_num, by simp; omega, hown1, hbw', by show _ = _; rw [he']; simp⟩
          case measure => simp [intOf]; omega
        | false =>
          rw [hxn] at hhas
          rw [hxn, if_neg (by decide)] at he'
          have HE := Lib.hid he'
          have HCY := Lib.hid hcy
          clear he' hxn hcy
          go_wp2_with fail
          refine (hhas _ HCY.out).mono ?_; rintro e w3 ⟨rfl, d, hw3⟩
          have hb3 : Below wr.heap.size wr w3 := by rw [hw3]; exact drewB (Below.refl _ _) _
          have hbw3 := nx hbw hb3
          have hown3 := hown.keep hb3
          clear hw3 hbw hown hb3
          go_wp2_with fail
          go_roundw
          case rel => exact ⟨k + 1, zs, by omega, by go_num, by omega, hown3, hbw3, HE⟩
          case measure => simp [intOf]; omega
      · obtain rfl : k = X.length := by omega
        have he' := he.out
        rw [List.drop_of_length_le (Nat.le_refl _), List.filter_nil, List.append_nil] at he'
        have HE := Lib.hid he'
        clear he he'
        go_wp2_with fail
        go_ret
        exact ⟨_, by rw [HE.out]; exact hown.mono hb02.size, nx hb02 hbw, rfl⟩
end Go.Proofs.Ytplmbdljhgicfab

/-! In -/
namespace Go.Proofs.Ytplmbdljhgicfab
open Go.RowKit

/-- An answer of a text and a bool. -/
def ans2 (o : Option ByteArray) : Value := .tuple #[.string (o.getD ⟨#[]⟩), .bool o.isSome]

end Go.Proofs.Ytplmbdljhgicfab

/-! Graft -/
namespace Go.Proofs.Ytplmbdljhgicfab
open Go.RowKit

theorem limitS_yes (s : ByteArray) (w : World) (h : (s.size : Int) ≤ 25) : Calls Try.prog 110 #[.string s] w fun e w' => e = .returned (.tuple #[.string s, .bool true]) ∧ w = w' := by
  go_enter Try.func110, Try.ntmps110
  go_wp2_with fail
  go_ret2
  exact ⟨rfl, rfl⟩
theorem limitS_no (s : ByteArray) (w : World) (h : 25 < (s.size : Int)) : Calls Try.prog 110 #[.string s] w fun e w' => e = .returned (.tuple #[.string ⟨#[]⟩, .bool false]) ∧ w = w' := by
  go_enter Try.func110, Try.ntmps110
  go_wp2_with fail
  go_ret2
  exact ⟨rfl, rfl⟩

def graftO (a : ByteArray) (n : Int) (b : ByteArray) : Option ByteArray :=
  match treeOf a, treeOf b with
  | some t, some u => if 0 ≤ n ∧ n ≤ t.carets ∧ t.carets + u.carets ≤ 8 then some (graftS a n b) else none
  | _, _ => none

set_option maxRecDepth 100000 in
set_option maxHeartbeats 1000000 in
theorem leafPlace_neg (s : ByteArray) (n : Int) (w : World) (hs : s.size ≤ 1000) (hn : n < 0) (hn' : -9223372036854775808 ≤ n) :
    Calls Try.prog 162 #[.string s, .int .i64 n] w (Quietly (.int .i64 (-1)) w) := by
  go_enter Try.func162, Try.ntmps162
  go_wp2_with fail
  go_loopw [1, 8] (fun v i wr => ∃ (k : Nat) (m : Int) (d : Nat), k ≤ s.size ∧ i = .int .i64 k ∧ v = .int .i64 m ∧ -9223372036854775808 ≤ m ∧ m ≤ 9223372036854775807 ∧ Hid (m < 0 ∨ 9223372036854775807 - (k : Int) ≤ m) ∧ wr = w.drewN d) (fun _ i _ => s.size - (intOf i).toNat)
  case atStart => exact ⟨0, n, 0, Nat.zero_le _, rfl, rfl, by omega, by omega, .inl hn, rfl⟩
  case round =>
    obtain ⟨k, m, d, hk, rfl, rfl, hm, hm', hor, rfl⟩ := hrel
    by_cases hlt : k < s.size
    · cases h46 : (((s[k]'hlt).toNat : Int) == 46) with
      | true =>
        have h46' : Hid ((((s[k]'hlt).toNat : Int) != 46) = false) := by show (_ != _) = false; rw [bne, h46]; rfl
        clear h46
        have g0 : (m == 0) = false := by have := hor.out; simp; omega
        by_cases hmin : m = -9223372036854775808
        · obtain rfl := hmin
          go_wp2_with fail
          have g := h46'.out
          have gz : ((⟨#[46]⟩ : ByteArray)[0]'(by decide)).toNat = 46 := rfl
          go_quiet (fail)
          go_wp2_with fail
          clear g gz g0
          go_roundw
          case rel => exact ⟨k + 1, 9223372036854775807, _, by omega, by go_num, by unfold wrap64; rfl, by omega, by omega, .inr (by omega), rfl⟩
          case measure => simp [intOf]; omega
        · have hm2 : -9223372036854775807 ≤ m := by omega
          clear hmin
          go_wp2_with fail
          have g := h46'.out
          have gz : ((⟨#[46]⟩ : ByteArray)[0]'(by decide)).toNat = 46 := rfl
          go_quiet (fail)
          go_wp2_with fail
          clear g gz g0
          go_roundw
          case rel => exact ⟨k + 1, m - 1, _, by omega, by go_num, rfl, by omega, by omega, by have := hor.out; show _ ∨ _; omega, rfl⟩
          case measure => simp [intOf]; omega
      | false =>
        have h46' : Hid ((((s[k]'hlt).toNat : Int) != 46) = true) := by show (_ != _) = true; rw [bne, h46]; rfl
        clear h46
        go_wp2_with fail
        have g := h46'.out
        have gz : ((⟨#[46]⟩ : ByteArray)[0]'(by decide)).toNat = 46 := rfl
        go_quiet (fail)
        go_wp2_with fail
        clear g gz
        go_roundw
        case rel => exact ⟨k + 1, m, _, by omega, by go_num, rfl, by omega, by omega, by have := hor.out; show _ ∨ _; omega, rfl⟩
        case measure => simp [intOf]; omega
    · obtain rfl : k = s.size := by omega
      go_wp2_with fail
      go_ret
      exact ⟨rfl, _, rfl⟩

end Go.Proofs.Ytplmbdljhgicfab

/-! Drop -/
namespace Go.Proofs.Ytplmbdljhgicfab
open Go.RowKit

set_option maxRecDepth 100000 in
set_option maxHeartbeats 1000000 in
theorem trDrop_any (s : ByteArray) (n : Int) (q : Nat) (w : World) (hs : s.size ≤ 1000) (hn : 0 ≤ n) (hn' : n ≤ 9223372036854775807) (hp : posFrom s.data.toList 0 n = (q : Int) + 1) (hq : q + 4 ≤ s.size) :
    Calls Try.prog 138 #[.string s, .int .i64 n] w (Gives (.string (dropS s q)) w) := by
  have HP0 := Lib.hid hp
  clear hp
  go_enter Try.func138, Try.ntmps138
  go_wp2_with fail
  go_loopw [5, 6] (fun v i wr => ∃ (k : Nat) (c : Int), k ≤ s.size ∧ i = .int .i64 k ∧ v = .int .i64 c ∧ 0 ≤ c ∧ c ≤ n ∧ c ≤ k ∧ wr = w ∧ Hid (posFrom s.data.toList 0 n = posFrom (s.data.toList.drop k) k (n - c))) (fun _ i _ => s.size - (intOf i).toNat)
  case atStart => exact ⟨0, 0, Nat.zero_le _, rfl, rfl, by omega, by omega, by omega, rfl, by show _ = _; simp⟩
  case round =>
    obtain ⟨k, c, hk, rfl, rfl, hc1, hc2, hck, rfl, he⟩ := hrel
    by_cases hlt : k < s.size
    · cases h46 : (((s[k]'hlt).toNat : Int) == 46) with
      | true =>
        have h46n : Hid ((((s[k]'hlt).toNat : Int) != 46) = false) := by show (_ != _) = false; rw [bne, h46]; rfl
        have hp := posFrom_dot (off := k) (n := n - c) hlt h46
        have HP := Lib.hid hp
        clear hp h46
        by_cases hm0 : c = n
        · have g0 : (c == n) = true := by simp [hm0]
          have hkq : k = q + 1 := by
            have h1 := he.out
            rw [HP.out, if_pos (by omega), HP0.out] at h1
            omega
          have HM := Lib.hid hm0
          have HKQ := Lib.hid hkq
          have hk1 : (1 : Int) ≤ k := by omega
          have hk3 : (k : Int) + 3 ≤ s.size := by omega
          clear hm0 hkq
          have g := h46n.out
          go_wp2_with fail
          clear g g0
          go_quiet (fail)
          go_wp2_with fail
          go_ret
          exact ⟨ret_str (by unfold dropS; rw [HKQ.out, Nat.add_sub_cancel]), drewB (Below.refl _ _) _⟩
        · have g0 : (c == n) = false := by simp [hm0]
          have HM := Lib.hid hm0
          have hlt2 : c < n := by omega
          clear hm0
          have g := h46n.out
          go_wp2_with fail
          clear g g0
          go_roundw
          case rel => exact ⟨k + 1, c + 1, by omega, by go_num, rfl, by omega, by omega, by omega, trivial, by show _ = _; rw [he.out, HP.out, if_neg (by omega)]; congr 1; omega⟩
          case measure => simp [intOf]; omega
      | false =>
        have h46n : Hid ((((s[k]'hlt).toNat : Int) != 46) = true) := by show (_ != _) = true; rw [bne, h46]; rfl
        have hp := posFrom_other (off := k) (n := n - c) hlt h46
        have HP := Lib.hid hp
        clear hp h46
        have g := h46n.out
        go_wp2_with fail
        clear g
        go_roundw
        case rel => exact ⟨k + 1, c, by omega, by go_num, rfl, by omega, by omega, by omega, trivial, by show _ = _; rw [he.out, HP.out]⟩
        case measure => simp [intOf]; omega
    · obtain rfl : k = s.size := by omega
      exfalso
      have h1 := he.out
      rw [posFrom_end, HP0.out] at h1
      omega

def dropExpO (a : ByteArray) (n : Int) : Option ByteArray :=
  match treeOf a with
  | some _ => dropO a n
  | none => none

theorem has_exL (l : List UInt8) (n : Int) : (exL l 0).contains n = dropB l n := by
  rw [Bool.eq_iff_iff, List.contains_iff_mem, mem_exL]
  simp

set_option maxHeartbeats 1000000 in
theorem withoutExposed_any (s : ByteArray) (n : Int) (w : World) (hsm : s.size ≤ 1000) (lo : -9223372036854775808 ≤ n) (hi : n ≤ 9223372036854775807) :
    Calls Try.prog 142 #[.string s, .int .i64 n] w (Gives (ans2 (dropO s n)) w) := by
  have hl : ∀ w, Calls Try.prog 162 #[.string s, .int .i64 n] w (Quietly (.int .i64 (posFrom s.data.toList 0 n)) w) := by
    intro w
    by_cases hneg : n < 0
    · rw [posFrom_neg _ _ _ hneg]; exact leafPlace_neg s n w hsm hneg lo
    · exact leafPlace_any s n w (by omega) (by omega) hi
  have hr := posFrom_range s.data.toList 0 n
  have hrl : s.data.toList.length = s.size := (Lib.size_eq _).symm
  by_cases h1 : posFrom s.data.toList 0 n < 1
  · have hnone : dropO s n = none := by
      unfold dropO
      rw [if_neg]
      intro e
      obtain ⟨q, hp, _⟩ := dropB_true e
      omega
    rw [hnone]
    have hr' : -1 ≤ posFrom s.data.toList 0 n := by omega
    obtain ⟨p, hp⟩ : ∃ p, p = posFrom s.data.toList 0 n := ⟨_, rfl⟩
    rw [← hp] at hl h1 hr'
    clear hp hnone hr hrl
    go_enter Try.func142, Try.ntmps142
    go_wp2_with fail
    refine (hl _).mono ?_; rintro e w2 ⟨rfl, d, rfl⟩
    go_wp2_with fail
    go_ret2
    exact ⟨rfl, drewB (Below.refl _ _) _⟩
  · obtain ⟨q, hp⟩ : ∃ q : Nat, posFrom s.data.toList 0 n = (q : Int) + 1 := ⟨(posFrom s.data.toList 0 n).toNat - 1, by omega⟩
    have hql : (q : Int) ≤ s.size := by omega
    have hpc := hasPrefixS_any (s.extract q s.size) (ByteArray.mk #[40, 46, 46, 41])
    rw [expB_from] at hpc
    have hsz : (s.extract q s.size).size ≤ 9223372036854775806 := by simp; omega
    have hdB : dropB s.data.toList n = expB (s.data.toList.drop q) := by
      unfold dropB
      rw [hp]
      have t2 : ((q : Int) + 1).toNat - 1 = q := by omega
      rw [t2, decide_eq_true (by omega : 1 ≤ (q : Int) + 1), Bool.true_and]
    have hv : Hid ((posFrom s.data.toList 0 n).toNat - 1 = q) := by show _ = _; rw [hp]; omega
    rw [hp] at hl
    unfold dropO
    cases hE : expB (s.data.toList.drop q) with
    | false =>
      rw [hE] at hpc
      rw [hdB, hE]
      clear hp hr hrl h1 hdB hE
      go_enter Try.func142, Try.ntmps142
      go_wp2_with fail
      refine (hl _).mono ?_; rintro e w2 ⟨rfl, d, rfl⟩
      go_wp2_with fail
      refine (hpc _ hsz (by decide)).mono ?_; rintro e w3 ⟨rfl, rfl⟩
      go_wp2_with fail
      go_ret2
      exact ⟨rfl, drewB (Below.refl _ _) _⟩
    | true =>
      have hq4 := expB_drop hE
      rw [hrl] at hq4
      have hq4' : (q : Int) + 4 ≤ s.size := by omega
      rw [hE] at hpc
      rw [hdB, hE]
      clear hp hr hrl h1 hdB hE
      go_enter Try.func142, Try.ntmps142
      go_wp2_with fail
      refine (hl _).mono ?_; rintro e w2 ⟨rfl, d, hw2⟩
      have hb2 : Below w.heap.size w w2 := by rw [hw2]; exact drewB (Below.refl _ _) d
      clear hw2
      go_wp2_with fail
      refine (hpc _ hsz (by decide)).mono ?_; rintro e w3 ⟨rfl, rfl⟩
      go_wp2_with fail
      go_quiet (fail)
      go_wp2_with fail
      go_ret2
      exact ⟨by rw [hv.out]; rfl, drewB hb2 _⟩

end Go.Proofs.Ytplmbdljhgicfab

/-! Reduce -/
namespace Go.Proofs.Ytplmbdljhgicfab
open Go.RowKit

theorem trDrop_tr (t : Tr) (n : Int) (w : World) (ht : t.carets ≤ 300) (hn : n ∈ t.exps 0) :
    Calls Try.prog 138 #[.string t.str, .int .i64 n] w (Gives (.string (t.dropAt n).str) w) := by
  obtain ⟨h1, h2⟩ := drop_str t n hn
  obtain ⟨q, hp, hq, _, h0⟩ := dropB_true ((dropB_str t n).2 hn)
  have hr := exps_range t 0 n hn
  have hz := t.str_size
  have := trDrop_any t.str n q w (by omega) h0 (by simp [Tr.leaves] at hr; omega) hp hq
  rw [← h2, hp]
  have e : ((q : Int) + 1).toNat - 1 = q := by omega
  rw [e]
  exact this

theorem withoutExposed_tr (t : Tr) (n : Int) (w : World) (ht : t.carets ≤ 300) (hn : n ∈ t.exps 0) :
    Calls Try.prog 142 #[.string t.str, .int .i64 n] w (Gives (.tuple #[.string (t.dropAt n).str, .bool true]) w) := by
  obtain ⟨h1, h2⟩ := drop_str t n hn
  have hr := exps_range t 0 n hn
  have hz := t.str_size
  simp [Tr.leaves] at hr
  have := withoutExposed_any t.str n w (by omega) (by omega) (by omega)
  unfold dropO at this
  rw [if_pos ((dropB_str t n).2 hn), h2] at this
  exact this

/-- How long the first text of a block is. -/
def sizeAt (w : World) (b : Nat) : Nat := match w.heap[b]? with
  | some (.cells cs _ _) => match cs[0]? with
    | some (Value.string s) => s.size
    | _ => 0
  | _ => 0
theorem sizeAt_of {w : World} {b : Nat} {s u : ByteArray} {t : TypeId} (h : w.heap[b]? = some (.cells #[.string s, .string u] t (0, 0))) : sizeAt w b = s.size := by
  simp [sizeAt, h]

theorem pick_drop (cs : List Int) (j k : Nat) : pickI (cs.drop j) k = if j < cs.length then (cs.getD j 0 % k).toNat else 0 := by
  by_cases h : j < cs.length
  · rw [if_pos h, List.drop_eq_getElem_cons h]
    simp [pickI, h]
  · rw [if_neg h, List.drop_of_length_le (by omega)]
    rfl

theorem both_in (p : Pr) (h : p.1.carets ≤ 200) (i : Nat) (hi : i < (both p).length) : (both p).getD i 0 ∈ p.1.exps 0 ∧ (both p).getD i 0 ∈ p.2.exps 0 ∧ 0 ≤ (both p).getD i 0 ∧ (both p).getD i 0 ≤ 200 := by
  have hm : (both p).getD i 0 ∈ both p := by
    rw [List.getD_eq_getElem?_getD, List.getElem?_eq_getElem hi]
    exact List.getElem_mem _
  have h1 := mem_both.1 hm
  have hr := exps_range p.1 0 _ h1.1
  simp only [Tr.leaves] at hr
  exact ⟨h1.1, h1.2, by omega, by omega⟩

theorem redBy_pick {p : Pr} (cs : List Int) (i : Nat) (hl : 0 < (both p).length) (hi : i = pickI cs (both p).length) : redBy p cs = redBy (dropP p ((both p).getD i 0)) cs.tail := by
  cases h : both p with
  | nil => rw [h] at hl; simp at hl
  | cons n ns =>
    rw [redBy_step h, hi, h]
    rfl

set_option maxRecDepth 100000 in
set_option maxHeartbeats 2000000 in
theorem prReduce_any (p0 : Pr) (v : Value) (cs : List Int) (b1 : Nat) (w : World) (h1 : p0.1.carets ≤ 200) (h2 : p0.2.carets ≤ 200) (hv : CellsI b1 w v cs) (hcs : ∀ c ∈ cs, 0 ≤ c ∧ c ≤ 9223372036854775807) :
    Calls Try.prog 102 #[.agg #[.string p0.1.str, .string p0.2.str], v] w (Gives (.agg #[.string (redBy p0 cs).1.str, .string (redBy p0 cs).2.str]) w) := by
  have hB : ∀ (p : Pr) w, p.1.carets ≤ 200 → p.2.carets ≤ 200 → Calls Try.prog 137 #[.agg #[.string p.1.str, .string p.2.str]] w (GivesInts (both p) w) := by
    intro p w k1 k2
    have := prBoth_any p.1.str p.2.str w (by have := p.1.str_size; omega) (by have := p.2.str_size; omega)
    rwa [bothL_str] at this
  obtain ⟨oa, ccap, rfl, hcl, hcm, hcc⟩ := hv.form
  unfold maxLen at hcm
  clear hv
  go_enter Try.func102, Try.ntmps102
  go_wp2_with fail
  have hb0 : Below w.heap.size w ((w.alloc (.cells #[.string p0.1.str, .string p0.2.str] 29 (0, 0))).alloc (.cells #[.string ⟨#[]⟩, .string ⟨#[]⟩] 29 (0, 0))) := nxAlloc (nxAlloc (Below.refl _ _) _) _
  have hx1 := heap_keep (nxAlloc (Below.refl _ _) (.cells #[.string ⟨#[]⟩, .string ⟨#[]⟩] 29 (0, 0))) (heap_alloc_at w (.cells #[.string p0.1.str, .string p0.2.str] 29 (0, 0)))
  have hx2 := heap_alloc_at (w.alloc (.cells #[.string p0.1.str, .string p0.2.str] 29 (0, 0))) (.cells #[.string ⟨#[]⟩, .string ⟨#[]⟩] 29 (0, 0))
  generalize (w.alloc (.cells #[.string p0.1.str, .string p0.2.str] 29 (0, 0))).alloc (.cells #[.string ⟨#[]⟩, .string ⟨#[]⟩] 29 (0, 0)) = w0 at *
  have e2 : (w.alloc (.cells #[.string p0.1.str, .string p0.2.str] 29 (0, 0))).heap.size = w.heap.size + 1 := by simp
  rw [e2] at hx2
  clear e2
  have hs0 : w.heap.size + 1 < w0.heap.size := lt_of_block hx2
  refine (hB p0 _ h1 h2).mono ?_; rintro e w1 ⟨v6, own, hb1, rfl⟩
  have hb01 := nx hb0 hb1
  have hy1 := heap_keep hb1 hx1
  have hy2 := heap_keep hb1 hx2
  have own' : OwnI (w.heap.size + 2) w1 v6 (both p0) := own.mono hs0
  have hs1 : w.heap.size + 2 ≤ w1.heap.size := Nat.le_trans hs0 hb1.size
  clear own hx1 hx2 hb0 hb1 hs0
  go_wp2_with fail
  go_loopw [5, 6] (fun s b wr => ∃ (p : Pr) (j : Nat), s = .int .i64 j ∧ OwnI (w.heap.size + 2) wr b (both p) ∧ wr.heap[w.heap.size]? = some (.cells #[.string p.1.str, .string p.2.str] 29 (0, 0)) ∧ wr.heap[w.heap.size + 1]? = some (.cells #[.string ⟨#[]⟩, .string ⟨#[]⟩] 29 (0, 0)) ∧ Below w.heap.size w wr ∧ w.heap.size + 2 ≤ wr.heap.size ∧ j + p.1.carets ≤ 200 ∧ p.2.carets ≤ 200 ∧ Hid (redBy p0 cs = redBy p (cs.drop j))) (fun _ _ wr => sizeAt wr w.heap.size)
  case atStart => exact ⟨p0, 0, rfl, own', hy1, hy2, hb01, hs1, by omega, h2, rfl⟩
  case round =>
    obtain ⟨p, j, rfl, hown, hy1, hy2, hbw, hsz, hj, hp2, he⟩ := hrel
    have hf := hown.cells.form
    by_cases hl : (both p).length = 0
    · have hnil : both p = [] := List.length_eq_zero_iff.1 hl
      have he' := he.out
      rw [redBy_end hnil] at he'
      have HE := Lib.hid he'
      obtain ⟨ob, bcap, rfl, _, _, _⟩ := hf
      rw [hl]
      have hl2 := two_cells hy1
      obtain ⟨k1, k2⟩ := hl2
      obtain ⟨n1, n2⟩ := two_cells hy2
      obtain ⟨f1, f2⟩ := two_frozen hy2
      clear hl hnil he he' hown
      go_wp2_with fail
      obtain ⟨r1, r2⟩ := two_cells (set_two (.string p.1.str) (.string p.2.str) hy2)
      refine bodyPost_ret (v := .agg #[.string p.1.str, .string p.2.str]) (by simp [r1, r2, results, Try.results102, go_sem]) rfl ⟨by rw [HE.out], ?_⟩
      exact (hbw.setCell (by simp) _).setCell (by simp) _
    · -- a step
      have hlp : 0 < (both p).length := by omega
      have hlp' : (0 : Int) < ((both p).length : Int) := by omega
      have hpi := pickI_lt (cs.drop j) (both p).length hlp
      obtain ⟨i, hi⟩ : ∃ i, i = pickI (cs.drop j) (both p).length := ⟨_, rfl⟩
      rw [← hi] at hpi
      have hst := redBy_pick (cs.drop j) i hlp hi
      rw [pick_drop] at hi
      obtain ⟨m1, m2, _, _⟩ := both_in p (by omega) i hpi
      obtain ⟨ob, bcap, rfl, hbc, hbm, hbcell⟩ := hf
      unfold maxLen at hbm
      obtain ⟨g, rfl, hg0, hg1, c1⟩ := hbcell i hpi
      obtain ⟨x, hx⟩ : ∃ x, x = (both p).getD i 0 := ⟨_, rfl⟩
      rw [← hx] at hst m1 m2 c1
      have hstep := Lib.hid hst
      have T1 := fun w => trDrop_tr p.1 x w (by omega) m1
      have T2 := fun w => trDrop_tr p.2 x w (by omega) m2
      have hdc := dropP_carets (p := p) (n := x) (mem_both.2 ⟨m1, m2⟩)
      obtain ⟨hd1, hd2⟩ := hdc
      have HS1 := Lib.hid (sizeAt_of hy1)
      obtain ⟨k1, k2⟩ := two_cells hy1
      have hB1 : w.heap.size < wr.heap.size := by omega
      generalize hL : (both p).length = L at *
      have HL := Lib.hid hL
      clear hL hx hst m1 m2 hbcell hl hown
      by_cases hjc : j < cs.length
      · rw [if_pos hjc] at hi
        obtain ⟨g2, rfl, _, hg2, c2⟩ := hcc j hjc
        have c2' := (hbw.cell (p := ⟨g2, j, none⟩) hg2).trans c2
        have hcb := hcs (cs.getD j 0) (by rw [List.getD_eq_getElem?_getD, List.getElem?_eq_getElem hjc]; exact List.getElem_mem _)
        obtain ⟨hc0, hc9⟩ := hcb
        generalize cs.getD j 0 = c at *
        have hrem : c % (L : Int) = (i : Int) := by
          have := Int.emod_nonneg c (show (L : Int) ≠ 0 by omega)
          omega
        have hjc' : (j : Int) < (cs.length : Int) := by omega
        have hpi' : (i : Int) < (L : Int) := by omega
        clear hi hcc c2
        go_wp2_with fail
        refine wp_region_clsT 15 (by kernel_rfl) (by kernel_rfl) ?_
        simp only [List.take_succ_cons, List.take_zero, List.drop_succ_cons, List.drop_zero]
        repeat (
          refine wpQuiet_step (fun K hK => ?_)
          go_simp
          first
            | (refine hK _ ?_; clear hK K)
            | (refine ⟨_, fun _ _ => rfl, hK _ ?_⟩; clear hK K)
            | (apply Exists.intro
               refine ⟨fun w' hw' => ?_, hK _ ?_⟩
               · first
                   | (rw [hw'.cell hB1 k1]; exact ⟨rfl, rfl⟩)
                   | (rw [hw'.cell hB1 k2]; exact ⟨rfl, rfl⟩)
                   | (rw [hw'.cell hg1 c1]; exact ⟨rfl, rfl⟩)
                   | (go_at_call 138; first | (with_reducible exact hw'.call (T1 _)) | (with_reducible exact hw'.call (T2 _)))
               clear hK K))
        refine wpQuiet_nil ?_
        intro w' hw'
        have hbw' := nx hbw hw'
        have hz1 := heap_keep hw' hy1
        have hz2 := heap_keep hw' hy2
        obtain ⟨n1, n2⟩ := two_cells hz1
        obtain ⟨f1, f2⟩ := two_frozen hz1
        have hsz' := Nat.le_trans hsz hw'.size
        clear hbw hw' hy1 hy2 k1 k2 c1
        go_wp2_with fail
        have hr1 := set_two (.string (p.1.dropAt x).str) (.string (p.2.dropAt x).str) hz1
        have hr2 : ((w'.setCell ⟨w.heap.size, 0, none⟩ (.string (p.1.dropAt x).str)).setCell ⟨w.heap.size, 1, none⟩ (.string (p.2.dropAt x).str)).heap[w.heap.size + 1]? = some (.cells #[.string ⟨#[]⟩, .string ⟨#[]⟩] 29 (0, 0)) := by
          rw [Below.heap_setCell _ _ _ _ (by simp), Below.heap_setCell _ _ _ _ (by simp)]; exact hz2
        have hbw2 : Below w.heap.size w ((w'.setCell ⟨w.heap.size, 0, none⟩ (.string (p.1.dropAt x).str)).setCell ⟨w.heap.size, 1, none⟩ (.string (p.2.dropAt x).str)) := (hbw'.setCell (Nat.le_refl _) _).setCell (Nat.le_refl _) _
        have hsz2 : w.heap.size + 2 ≤ ((w'.setCell ⟨w.heap.size, 0, none⟩ (.string (p.1.dropAt x).str)).setCell ⟨w.heap.size, 1, none⟩ (.string (p.2.dropAt x).str)).heap.size := by simpa using hsz'
        generalize (w'.setCell ⟨w.heap.size, 0, none⟩ (.string (p.1.dropAt x).str)).setCell ⟨w.heap.size, 1, none⟩ (.string (p.2.dropAt x).str) = w3 at *
        obtain ⟨n1', n2'⟩ := two_cells hr1
        refine (hB (dropP p x) _ (by omega) (by omega)).mono ?_; rintro e w4 ⟨v7, own7, hb4, rfl⟩
        have hu1 := heap_keep hb4 hr1
        have hu2 := heap_keep hb4 hr2
        have own8 : OwnI (w.heap.size + 2) w4 v7 (both (dropP p x)) := own7.mono hsz2
        have hbw4 := nx hbw2 hb4
        have hsz4 := Nat.le_trans hsz2 hb4.size
        clear own7 hb4 hr1 hr2 hbw2 hsz2 n1' n2'
        go_wp2_with fail
        go_roundw
        case rel => exact ⟨dropP p x, j + 1, by go_num, own8, hu1, hu2, hbw4, hsz4, by omega, by omega, by show _ = _; rw [he.out, hstep.out, List.tail_drop]⟩
        case measure =>
          rw [sizeAt_of hu1, HS1.out, Tr.str_size, Tr.str_size]
          have hd1' : (p.1.dropAt x).carets + 1 = p.1.carets := hd1
          omega
      · rw [if_neg hjc] at hi
        subst hi
        have hjc' : ¬ (j : Int) < (cs.length : Int) := by omega
        clear hcc
        go_wp2_with fail
        refine wp_region_clsT 15 (by kernel_rfl) (by kernel_rfl) ?_
        simp only [List.take_succ_cons, List.take_zero, List.drop_succ_cons, List.drop_zero]
        repeat (
          refine wpQuiet_step (fun K hK => ?_)
          go_simp
          first
            | (refine hK _ ?_; clear hK K)
            | (refine ⟨_, fun _ _ => rfl, hK _ ?_⟩; clear hK K)
            | (apply Exists.intro
               refine ⟨fun w' hw' => ?_, hK _ ?_⟩
               · first
                   | (rw [hw'.cell hB1 k1]; exact ⟨rfl, rfl⟩)
                   | (rw [hw'.cell hB1 k2]; exact ⟨rfl, rfl⟩)
                   | (rw [hw'.cell hg1 c1]; exact ⟨rfl, rfl⟩)
                   | (go_at_call 138; first | (with_reducible exact hw'.call (T1 _)) | (with_reducible exact hw'.call (T2 _)))
               clear hK K))
        refine wpQuiet_nil ?_
        intro w' hw'
        have hbw' := nx hbw hw'
        have hz1 := heap_keep hw' hy1
        have hz2 := heap_keep hw' hy2
        obtain ⟨n1, n2⟩ := two_cells hz1
        obtain ⟨f1, f2⟩ := two_frozen hz1
        have hsz' := Nat.le_trans hsz hw'.size
        clear hbw hw' hy1 hy2 k1 k2 c1
        go_wp2_with fail
        have hr1 := set_two (.string (p.1.dropAt x).str) (.string (p.2.dropAt x).str) hz1
        have hr2 : ((w'.setCell ⟨w.heap.size, 0, none⟩ (.string (p.1.dropAt x).str)).setCell ⟨w.heap.size, 1, none⟩ (.string (p.2.dropAt x).str)).heap[w.heap.size + 1]? = some (.cells #[.string ⟨#[]⟩, .string ⟨#[]⟩] 29 (0, 0)) := by
          rw [Below.heap_setCell _ _ _ _ (by simp), Below.heap_setCell _ _ _ _ (by simp)]; exact hz2
        have hbw2 : Below w.heap.size w ((w'.setCell ⟨w.heap.size, 0, none⟩ (.string (p.1.dropAt x).str)).setCell ⟨w.heap.size, 1, none⟩ (.string (p.2.dropAt x).str)) := (hbw'.setCell (Nat.le_refl _) _).setCell (Nat.le_refl _) _
        have hsz2 : w.heap.size + 2 ≤ ((w'.setCell ⟨w.heap.size, 0, none⟩ (.string (p.1.dropAt x).str)).setCell ⟨w.heap.size, 1, none⟩ (.string (p.2.dropAt x).str)).heap.size := by simpa using hsz'
        generalize (w'.setCell ⟨w.heap.size, 0, none⟩ (.string (p.1.dropAt x).str)).setCell ⟨w.heap.size, 1, none⟩ (.string (p.2.dropAt x).str) = w3 at *
        obtain ⟨n1', n2'⟩ := two_cells hr1
        refine (hB (dropP p x) _ (by omega) (by omega)).mono ?_; rintro e w4 ⟨v7, own7, hb4, rfl⟩
        have hu1 := heap_keep hb4 hr1
        have hu2 := heap_keep hb4 hr2
        have own8 : OwnI (w.heap.size + 2) w4 v7 (both (dropP p x)) := own7.mono hsz2
        have hbw4 := nx hbw2 hb4
        have hsz4 := Nat.le_trans hsz2 hb4.size
        clear own7 hb4 hr1 hr2 hbw2 hsz2 n1' n2'
        go_wp2_with fail
        go_roundw
        case rel => exact ⟨dropP p x, j + 1, by go_num, own8, hu1, hu2, hbw4, hsz4, by omega, by omega, by show _ = _; rw [he.out, hstep.out, List.tail_drop]⟩
        case measure =>
          rw [sizeAt_of hu1, HS1.out, Tr.str_size, Tr.str_size]
          have hd1' : (p.1.dropAt x).carets + 1 = p.1.carets := hd1
          omega
end Go.Proofs.Ytplmbdljhgicfab

/-! RedBy -/
namespace Go.Proofs.Ytplmbdljhgicfab
open Go.RowKit

theorem firstOf_any (n : Int) (w : World) : Calls Try.prog 114 #[.int .i64 n] w fun e w' => e = .returned (.int .i64 0) ∧ w = w' := by
  go_enter Try.func114, Try.ntmps114
  go_wp2
  go_ret
  exact ⟨rfl, rfl⟩

theorem sharedExposed_tr (p : Pr) (w : World) (k1 : p.1.carets ≤ 200) (k2 : p.2.carets ≤ 200) : Calls Try.prog 141 #[.agg #[.string p.1.str, .string p.2.str]] w (GivesInts (both p) w) := by
  have := sharedExposed_any p.1.str p.2.str w (by have := p.1.str_size; omega) (by have := p.2.str_size; omega)
  rwa [bothL_str] at this

theorem redBy_first {p : Pr} (hl : 0 < (both p).length) : red p = red (dropP p ((both p).getD 0 0)) := by
  have := redBy_pick (p := p) [] 0 hl rfl
  exact this

set_option maxRecDepth 100000 in
set_option maxHeartbeats 2000000 in
theorem reducedBy_first (p0 : Pr) (w : World) (h1 : p0.1.carets ≤ 200) (h2 : p0.2.carets ≤ 200) :
    Calls Try.prog 112 #[.agg #[.string p0.1.str, .string p0.2.str], .func (Fn.func 114) #[] #[]] w (Gives (.agg #[.string (red p0).1.str, .string (red p0).2.str]) w) := by
  go_enter Try.func112, Try.ntmps112
  go_wp2_with fail
  have hb0 : Below w.heap.size w ((w.alloc (.cells #[.string p0.1.str, .string p0.2.str] 29 (0, 0))).alloc (.cells #[.string ⟨#[]⟩, .string ⟨#[]⟩] 29 (0, 0))) := nxAlloc (nxAlloc (Below.refl _ _) _) _
  have hx1 := heap_keep (nxAlloc (Below.refl _ _) (.cells #[.string ⟨#[]⟩, .string ⟨#[]⟩] 29 (0, 0))) (heap_alloc_at w (.cells #[.string p0.1.str, .string p0.2.str] 29 (0, 0)))
  have hx2 := heap_alloc_at (w.alloc (.cells #[.string p0.1.str, .string p0.2.str] 29 (0, 0))) (.cells #[.string ⟨#[]⟩, .string ⟨#[]⟩] 29 (0, 0))
  generalize (w.alloc (.cells #[.string p0.1.str, .string p0.2.str] 29 (0, 0))).alloc (.cells #[.string ⟨#[]⟩, .string ⟨#[]⟩] 29 (0, 0)) = w0 at *
  have e2 : (w.alloc (.cells #[.string p0.1.str, .string p0.2.str] 29 (0, 0))).heap.size = w.heap.size + 1 := by simp
  rw [e2] at hx2
  clear e2
  have hs0 : w.heap.size + 1 < w0.heap.size := lt_of_block hx2
  go_loopw [5] (fun _ wr => ∃ (p : Pr), wr.heap[w.heap.size]? = some (.cells #[.string p.1.str, .string p.2.str] 29 (0, 0)) ∧ wr.heap[w.heap.size + 1]? = some (.cells #[.string ⟨#[]⟩, .string ⟨#[]⟩] 29 (0, 0)) ∧ Below w.heap.size w wr ∧ w.heap.size + 2 ≤ wr.heap.size ∧ p.1.carets ≤ 200 ∧ p.2.carets ≤ 200 ∧ Hid (red p0 = red p)) (fun _ wr => sizeAt wr w.heap.size)
  case atStart => exact ⟨p0, hx1, hx2, hb0, hs0, h1, h2, rfl⟩
  case round =>
    obtain ⟨p, hy1, hy2, hbw, hsz, hp1, hp2, he⟩ := hrel
    have HS1 := Lib.hid (sizeAt_of hy1)
    obtain ⟨k1, k2⟩ := two_cells hy1
    go_wp2_with fail
    refine (sharedExposed_tr p _ hp1 hp2).mono ?_; rintro e w1 ⟨v5, own, hb1, rfl⟩
    have hz1 := heap_keep hb1 hy1
    have hz2 := heap_keep hb1 hy2
    have hbw1 := nx hbw hb1
    have hsz1 := Nat.le_trans hsz hb1.size
    have hown : OwnI (w.heap.size + 2) w1 v5 (both p) := own.mono hsz
    have hf := hown.cells.form
    clear own hb1 hbw hsz k1 k2 hy1 hy2 hown
    obtain ⟨k1, k2⟩ := two_cells hz1
    obtain ⟨ob, bcap, rfl, hbc, hbm, hbcell⟩ := hf
    unfold maxLen at hbm
    by_cases hl : (both p).length = 0
    · have hnil : both p = [] := List.length_eq_zero_iff.1 hl
      have he' := he.out
      rw [(red_self p).2 hnil] at he'
      have HE := Lib.hid he'
      rw [hl]
      obtain ⟨n1, n2⟩ := two_cells hz2
      obtain ⟨f1, f2⟩ := two_frozen hz2
      clear hl hnil he he' hbcell
      go_wp2_with fail
      obtain ⟨r1, r2⟩ := two_cells (set_two (.string p.1.str) (.string p.2.str) hz2)
      refine bodyPost_ret (v := .agg #[.string p.1.str, .string p.2.str]) (by simp [r1, r2, results, Try.results112, go_sem]) rfl ⟨by rw [HE.out], ?_⟩
      exact (hbw1.setCell (by simp) _).setCell (by simp) _
    · -- a step
      have hlp : 0 < (both p).length := by omega
      have hlp' : (((both p).length : Int) == 0) = false := by rw [beq_eq_false_iff_ne]; omega
      have hst := redBy_first hlp
      obtain ⟨m1, m2, hx0, hx9⟩ := both_in p hp1 0 hlp
      obtain ⟨g, rfl, hg0, hg1, c1⟩ := hbcell 0 hlp
      obtain ⟨x, hx⟩ : ∃ x, x = (both p).getD 0 0 := ⟨_, rfl⟩
      rw [← hx] at hst m1 m2 c1 hx0 hx9
      have hstep := Lib.hid hst
      have T1 := fun w => withoutExposed_tr p.1 x w (by omega) m1
      have T2 := fun w => withoutExposed_tr p.2 x w (by omega) m2
      obtain ⟨hd1, hd2⟩ := dropP_carets (p := p) (n := x) (mem_both.2 ⟨m1, m2⟩)
      generalize hL : (both p).length = L at *
      have HL := Lib.hid hL
      have hlq : (0 : Int) < (L : Int) := by omega
      obtain ⟨f1, f2⟩ := two_frozen hz1
      clear hL hx hst m1 m2 hbcell hl
      go_wp2_with fail
      refine (firstOf_any _ _).mono ?_; rintro e w2 ⟨rfl, rfl⟩
      go_wp2_with fail
      refine (T1 _).mono ?_; rintro e w2 ⟨rfl, hb2⟩
      have hz1 := heap_keep hb2 hz1
      have hz2 := heap_keep hb2 hz2
      have hbw2 := nx hbw1 hb2
      have hsz2 := Nat.le_trans hsz1 hb2.size
      obtain ⟨n1, n2⟩ := two_cells hz1
      obtain ⟨f1, f2⟩ := two_frozen hz1
      clear c1 k1 k2 hb2 hbw1 hsz1
      go_wp2_with fail
      have hr1 := set_first (u' := .string (p.1.dropAt x).str) hz1
      have hr2 : (w2.setCell ⟨w.heap.size, 0, none⟩ (.string (p.1.dropAt x).str)).heap[w.heap.size + 1]? = some (.cells #[.string ⟨#[]⟩, .string ⟨#[]⟩] 29 (0, 0)) := by
        rw [Below.heap_setCell _ _ _ _ (by simp)]; exact hz2
      have hbw3 : Below w.heap.size w (w2.setCell ⟨w.heap.size, 0, none⟩ (.string (p.1.dropAt x).str)) := hbw2.setCell (Nat.le_refl _) _
      have hsz3 : w.heap.size + 2 ≤ (w2.setCell ⟨w.heap.size, 0, none⟩ (.string (p.1.dropAt x).str)).heap.size := by simpa using hsz2
      generalize w2.setCell ⟨w.heap.size, 0, none⟩ (.string (p.1.dropAt x).str) = w3 at *
      clear hz1 hz2 n1 n2 f1 f2 hbw2 hsz2
      refine (T2 _).mono ?_; rintro e w4 ⟨rfl, hb4⟩
      have hz1 := heap_keep hb4 hr1
      have hz2 := heap_keep hb4 hr2
      have hbw4 := nx hbw3 hb4
      have hsz4 := Nat.le_trans hsz3 hb4.size
      obtain ⟨n1, n2⟩ := two_cells hz1
      obtain ⟨f1, f2⟩ := two_frozen hz1
      clear hr1 hr2 hbw3 hsz3 hb4
      go_wp2_with fail
      have hu1 := set_second (v' := .string (p.2.dropAt x).str) hz1
      have hu2 : (w4.setCell ⟨w.heap.size, 1, none⟩ (.string (p.2.dropAt x).str)).heap[w.heap.size + 1]? = some (.cells #[.string ⟨#[]⟩, .string ⟨#[]⟩] 29 (0, 0)) := by
        rw [Below.heap_setCell _ _ _ _ (by simp)]; exact hz2
      have hbw5 : Below w.heap.size w (w4.setCell ⟨w.heap.size, 1, none⟩ (.string (p.2.dropAt x).str)) := hbw4.setCell (Nat.le_refl _) _
      have hsz5 : w.heap.size + 2 ≤ (w4.setCell ⟨w.heap.size, 1, none⟩ (.string (p.2.dropAt x).str)).heap.size := by simpa using hsz4
      go_roundw
      case rel => exact ⟨dropP p x, hu1, hu2, hbw5, hsz5, by omega, by omega, by show _ = _; rw [he.out, hstep.out]⟩
      case measure =>
        rw [sizeAt_of hu1, HS1.out, Tr.str_size, Tr.str_size]
        have hd1' : (p.1.dropAt x).carets + 1 = p.1.carets := hd1
        omega
end Go.Proofs.Ytplmbdljhgicfab

/-! WReducePair -/
namespace Go.Proofs.Ytplmbdljhgicfab
open Go.RowKit

theorem prReduce_nil (p : Pr) (w : World) (h1 : p.1.carets ≤ 200) (h2 : p.2.carets ≤ 200) :
    Calls Try.prog 102 #[.agg #[.string p.1.str, .string p.2.str], .slice none 0 0] w (Gives (.agg #[.string (red p).1.str, .string (red p).2.str]) w) :=
  prReduce_any p _ [] 0 w h1 h2 (.inl ⟨rfl, rfl⟩) (fun c hc => by simp at hc)

end Go.Proofs.Ytplmbdljhgicfab

/-! Times -/
namespace Go.Proofs.Ytplmbdljhgicfab
open Go.RowKit

theorem keep_cell {w w' : World} {b o : Nat} {v : Value} (hb : Below w.heap.size w w') (h : w.cell? ⟨b, o, none⟩ = some v) : w'.cell? ⟨b, o, none⟩ = some v :=
  (hb.cell (p := ⟨b, o, none⟩) (World.block_lt_of_cell? _ _ h)).trans h

theorem treeOf_any (t : Tr) (w : World) (h : t.carets ≤ 1000) : Calls Try.prog 49 #[.string t.str] w (GivesNode t w) := by
  have hz := t.str_size
  have hp := place_any (t.str.size + 1) t.str
  rw [parse_str t _ (by have := t.text_len; omega)] at hp
  have hp' : ∀ w, Calls Try.prog 100 #[.string t.str] w (PlaceOk t [] t.str w) := fun w => hp w (by omega) (by omega)
  clear hz hp
  go_enter Try.func49, Try.ntmps49
  go_wp2_with fail
  refine (hp' _).mono ?_; rintro e w1 ⟨b1, s1, hs1, hz1, hn1, hb1, rfl⟩
  clear hs1 hz1
  go_wp2_with fail
  go_ret
  exact ⟨b1, hn1, hb1, rfl⟩

/-- What is asked of the factors of a product, and what its parts are. -/
theorem raw_len {p q : Pr} (hp : okP p) (hq : okP q) : (subsS p.2 (p.2.join q.1)).length = p.1.leaves ∧ (subsS q.1 (p.2.join q.1)).length = q.2.leaves := by
  have h1 := subsS_length p.2 _ (part_join p.2 q.1)
  have h2 := subsS_length q.1 _ (part_join' p.2 q.1)
  unfold okP Tr.leaves at *
  omega
theorem raw_fill1 {p q : Pr} (hp : okP p) (hq : okP q) : fillB p.1.str (subsS p.2 (p.2.join q.1)) = (rawP p q).1.str :=
  fillB_tr p.1 _ (by have := (raw_len hp hq).1; unfold subsS at this; simpa using this)
theorem raw_fill2 {p q : Pr} (hp : okP p) (hq : okP q) : fillB q.2.str (subsS q.1 (p.2.join q.1)) = (rawP p q).2.str :=
  fillB_tr q.2 _ (by have := (raw_len hp hq).2; unfold subsS at this; simpa using this)
theorem fillL_of {s : ByteArray} {us : List ByteArray} {t : Tr} (h : fillB s us = t.str) : fillL s.data.toList us = t.text := by
  have := congrArg (fun b : ByteArray => b.data.toList) h
  simpa [fillB, Tr.str] using this
theorem text_ne (t : Tr) : t.text ≠ [] := by cases t <;> simp [Tr.text]

theorem prFill_raw1 {p q : Pr} (hp : okP p) (hq : okP q) (h1 : p.1.carets ≤ 30) (h2 : q.1.carets ≤ 30) (b1 : Nat) (v : Value) (w : World) (hv : CellsS b1 w v (subsS p.2 (p.2.join q.1))) :
    Calls Try.prog 103 #[.string p.1.str, v] w (Gives (.string (rawP p q).1.str) w) := by
  have hl := raw_len hp hq
  have hr := rawP_carets hp hq
  have hj := join_carets p.2 q.1
  have ht := (rawP p q).1.text_len
  unfold okP at hp hq
  have hz := p.1.str_size
  unfold Tr.leaves at hl
  have := prFill_any b1 p.1.str v _ w (by omega) hv (by rw [Tr.str_list, text_dots]; omega) (by omega) (by rw [fillL_of (raw_fill1 hp hq)]; omega)
  rwa [raw_fill1 hp hq] at this

theorem prFill_raw2 {p q : Pr} (hp : okP p) (hq : okP q) (h1 : p.1.carets ≤ 30) (h2 : q.1.carets ≤ 30) (b1 : Nat) (v : Value) (w : World) (hv : CellsS b1 w v (subsS q.1 (p.2.join q.1))) :
    Calls Try.prog 103 #[.string q.2.str, v] w (Gives (.string (rawP p q).2.str) w) := by
  have hl := raw_len hp hq
  have hr := rawP_carets hp hq
  have hj := join_carets p.2 q.1
  have ht := (rawP p q).2.text_len
  unfold okP at hp hq
  have hz := q.2.str_size
  unfold Tr.leaves at hl
  have := prFill_any b1 q.2.str v _ w (by omega) hv (by rw [Tr.str_list, text_dots]; omega) (by omega) (by rw [fillL_of (raw_fill2 hp hq)]; omega)
  rwa [raw_fill2 hp hq] at this

theorem withLeaves_raw1 {p q : Pr} (hp : okP p) (hq : okP q) (h1 : p.1.carets ≤ 30) (h2 : q.1.carets ≤ 30) (b1 : Nat) (v : Value) (w : World) (hv : CellsS b1 w v (subsS p.2 (p.2.join q.1))) :
    Calls Try.prog 113 #[.string p.1.str, v] w (Gives (.string (rawP p q).1.str) w) := by
  have hl := raw_len hp hq
  have hr := rawP_carets hp hq
  have hj := join_carets p.2 q.1
  have ht := (rawP p q).1.text_len
  unfold okP at hp hq
  have hz := p.1.str_size
  unfold Tr.leaves at hl
  have := withLeaves_any b1 p.1.str v _ w (by omega) hv (by rw [Tr.str_list, text_dots]; omega) (by omega) (by rw [fillL_of (raw_fill1 hp hq)]; omega) (by rw [fillL_of (raw_fill1 hp hq)]; exact text_ne _)
  rwa [raw_fill1 hp hq] at this

theorem withLeaves_raw2 {p q : Pr} (hp : okP p) (hq : okP q) (h1 : p.1.carets ≤ 30) (h2 : q.1.carets ≤ 30) (b1 : Nat) (v : Value) (w : World) (hv : CellsS b1 w v (subsS q.1 (p.2.join q.1))) :
    Calls Try.prog 113 #[.string q.2.str, v] w (Gives (.string (rawP p q).2.str) w) := by
  have hl := raw_len hp hq
  have hr := rawP_carets hp hq
  have hj := join_carets p.2 q.1
  have ht := (rawP p q).2.text_len
  unfold okP at hp hq
  have hz := q.2.str_size
  unfold Tr.leaves at hl
  have := withLeaves_any b1 q.2.str v _ w (by omega) hv (by rw [Tr.str_list, text_dots]; omega) (by omega) (by rw [fillL_of (raw_fill2 hp hq)]; omega) (by rw [fillL_of (raw_fill2 hp hq)]; exact text_ne _)
  rwa [raw_fill2 hp hq] at this

set_option maxRecDepth 100000 in
set_option maxHeartbeats 4000000 in
theorem product_any (p q : Pr) (w : World) (hp : okP p) (hq : okP q) (h1 : p.1.carets ≤ 30) (h2 : q.1.carets ≤ 30) :
    Calls Try.prog 58 #[.agg #[.string p.1.str, .string p.2.str], .agg #[.string q.1.str, .string q.2.str]] w (Gives (.agg #[.string (mulP p q).1.str, .string (mulP p q).2.str]) w) := by
  have hr := rawP_carets hp hq
  have hj := join_carets p.2 q.1
  have hp' : p.1.carets = p.2.carets := hp
  have hq' : q.1.carets = q.2.carets := hq
  have T1 := fun w => treeOf_any p.2 w (by omega)
  have T2 := fun w => treeOf_any q.1 w (by omega)
  have W1 := fun b v w h => withLeaves_raw1 hp hq h1 h2 b v w h
  have W2 := fun b v w h => withLeaves_raw2 hp hq h1 h2 b v w h
  have RR : ∀ w, Calls Try.prog 112 #[.agg #[.string (rawP p q).1.str, .string (rawP p q).2.str], .func (Fn.func 114) #[] #[]] w (Gives (.agg #[.string (mulP p q).1.str, .string (mulP p q).2.str]) w) := fun w => reducedBy_first (rawP p q) w (by omega) (by omega)
  have PJ1 := part_join p.2 q.1
  have PJ2 := part_join' p.2 q.1
  have hjc : (p.2.join q.1).carets ≤ 60 := by omega
  clear hr hj
  go_enter Try.func58, Try.ntmps58
  go_wp2_with fail
  have hb0 : Below w.heap.size w (((w.alloc (.cells #[.string p.1.str, .string p.2.str] 29 (0, 0))).alloc (.cells #[.string q.1.str, .string q.2.str] 29 (0, 0))).alloc (.cells #[.string ⟨#[]⟩, .string ⟨#[]⟩] 29 (0, 0))) := nxAlloc (nxAlloc (nxAlloc (Below.refl _ _) _) _) _
  have hx0 := heap_keep (nxAlloc (Below.refl _ _) (.cells #[.string ⟨#[]⟩, .string ⟨#[]⟩] 29 (0, 0))) (heap_keep (nxAlloc (Below.refl _ _) (.cells #[.string q.1.str, .string q.2.str] 29 (0, 0))) (heap_alloc_at w (.cells #[.string p.1.str, .string p.2.str] 29 (0, 0))))
  have hx1 := heap_keep (nxAlloc (Below.refl _ _) (.cells #[.string ⟨#[]⟩, .string ⟨#[]⟩] 29 (0, 0))) (heap_alloc_at (w.alloc (.cells #[.string p.1.str, .string p.2.str] 29 (0, 0))) (.cells #[.string q.1.str, .string q.2.str] 29 (0, 0)))
  have hx2 := heap_alloc_at ((w.alloc (.cells #[.string p.1.str, .string p.2.str] 29 (0, 0))).alloc (.cells #[.string q.1.str, .string q.2.str] 29 (0, 0))) (.cells #[.string ⟨#[]⟩, .string ⟨#[]⟩] 29 (0, 0))
  generalize (((w.alloc (.cells #[.string p.1.str, .string p.2.str] 29 (0, 0))).alloc (.cells #[.string q.1.str, .string q.2.str] 29 (0, 0))).alloc (.cells #[.string ⟨#[]⟩, .string ⟨#[]⟩] 29 (0, 0))) = w0 at *
  have e1 : (w.alloc (.cells #[.string p.1.str, .string p.2.str] 29 (0, 0))).heap.size = w.heap.size + 1 := by simp
  rw [e1] at hx1
  clear e1
  have e2 : ((w.alloc (.cells #[.string p.1.str, .string p.2.str] 29 (0, 0))).alloc (.cells #[.string q.1.str, .string q.2.str] 29 (0, 0))).heap.size = w.heap.size + 1 + 1 := by simp
  rw [e2] at hx2
  clear e2
  obtain ⟨hx0a, hx0b, hx0c⟩ := two_facts hx0
  obtain ⟨hx0f, hx0g⟩ := two_frozen hx0
  obtain ⟨hx1a, hx1b, hx1c⟩ := two_facts hx1
  obtain ⟨hx1f, hx1g⟩ := two_frozen hx1
  obtain ⟨hx2a, hx2b, hx2c⟩ := two_facts hx2
  obtain ⟨hx2f, hx2g⟩ := two_frozen hx2
  have hz0 := Below.refl w0.heap.size w0
  go_region_held3 (fun w' => w'.cell? ⟨w.heap.size, 1, none⟩ = some (.string p.2.str) ∧ w'.cell? ⟨w.heap.size + 1, 0, none⟩ = some (.string q.1.str))
    (first
      | exact ⟨hx0b, hx1a⟩
      | exact ⟨A1, A2⟩
      | exact ⟨B1, B2⟩)
    (first
      | (go_at_call 49; (with_reducible refine (T1 _).mono ?_); rintro e w1 ⟨b1, hn1, hb1, rfl⟩; have hb1' := nx hz0.drew hb1; have A1 := keep_cell hb1' hx0b; have A2 := keep_cell hb1' hx1a)
      | (go_at_call 49; (with_reducible refine (T2 _).mono ?_); rintro e w2 ⟨b2, hn2, hb2, rfl⟩; have hb2' := nx hb1' hb2; have B1 := keep_cell hb2' hx0b; have B2 := keep_cell hb2' hx1a))
  go_wp2_with fail
  have hn1' := hn1.keep hb2
  refine (join_any p.2 q.1 b1 b2 _ hn1' hn2).mono ?_; rintro e w3 ⟨b3, hn3, hb3, rfl⟩
  have hbw3 := nx hb0 (nx hb2' hb3)
  have m1 := hn1'.keep hb3
  have m2 := hn2.keep hb3
  have hy0 := heap_keep (nx hb2' hb3) hx0
  have hy1 := heap_keep (nx hb2' hb3) hx1
  have hy2 := heap_keep (nx hb2' hb3) hx2
  have hb00 := Below.refl w3.heap.size w3
  clear hx0 hx1 hx2 hx0a hx0b hx0c hx0f hx0g hx1a hx1b hx1c hx1f hx1g hx2a hx2b hx2c hx2f hx2g A1 A2 B1 B2 hn1 hn2 hn1' hb1 hb2 hb1' hb2' hb3 hz0 hb0 T1 T2
  obtain ⟨k1, _⟩ := two_cells hy0
  obtain ⟨_, k2⟩ := two_cells hy1
  generalize hJ : p.2.join q.1 = J at *
  clear hJ
  go_wp2_with fail
  go_region_held3 (fun w' => w'.cell? ⟨w.heap.size, 0, none⟩ = some (.string p.1.str) ∧ w'.cell? ⟨w.heap.size + 1, 1, none⟩ = some (.string q.2.str))
    (first
      | exact ⟨k1, k2⟩
      | exact ⟨A1, A2⟩
      | exact ⟨B1, B2⟩
      | exact ⟨C1, C2⟩
      | exact ⟨D1, D2⟩
      | exact ⟨E1, E2⟩
      | exact ⟨G1, G2⟩)
    (first
      | (go_at_call_of 46 (some (⟨b1, 0, none⟩ : Addr)); refine (below_any p.2 J b1 b3 _ ?_ ?_ PJ1 hjc).mono ?_; exact m1.keep hb00.drew; exact hn3.keep hb00.drew; rintro e w4 ⟨g1, cap1, own1, hb4, rfl⟩; have hb4' := nx hb00.drew hb4; have A1 := keep_cell hb4' k1; have A2 := keep_cell hb4' k2)
      | (go_at_call_of 113 (some (⟨g1, 0, none⟩ : Addr)); refine (W1 _ _ _ own1.cells).mono ?_; rintro e w5 ⟨rfl, hb5⟩; have hb5' := nx hb4' hb5; have B1 := keep_cell hb5' k1; have B2 := keep_cell hb5' k2)
      | (go_at_call_of 46 (some (⟨b2, 0, none⟩ : Addr)); refine (below_any q.1 J b2 b3 _ ?_ ?_ PJ2 hjc).mono ?_; exact m2.keep hb5'; exact hn3.keep hb5'; rintro e w6 ⟨g2, cap2, own2, hb6, rfl⟩; have hb6' := nx hb5' hb6; have C1 := keep_cell hb6' k1; have C2 := keep_cell hb6' k2)
      | (go_at_call_of 113 (some (⟨g2, 0, none⟩ : Addr)); refine (W2 _ _ _ own2.cells).mono ?_; rintro e w7 ⟨rfl, hb7⟩; have hb7' := nx hb6' hb7; have D1 := keep_cell hb7' k1; have D2 := keep_cell hb7' k2)
      | (go_at_call 112; refine (RR _).mono ?_; rintro e w8 ⟨rfl, hb8⟩; have hb8' := nx hb7' hb8; have E1 := keep_cell hb8' k1; have E2 := keep_cell hb8' k2; have hz2 := heap_keep hb8' hy2; have hz0 := heap_keep hb8' hy0; have hz1 := heap_keep hb8' hy1; obtain ⟨n1, n2⟩ := two_cells hz2; obtain ⟨f1, f2⟩ := two_frozen hz2; have hq0 := (Below.heap_setCell (w8.setCell ⟨w.heap.size + 1 + 1, 0, none⟩ (.string (mulP p q).1.str)) ⟨w.heap.size + 1 + 1, 1, none⟩ (.string (mulP p q).2.str) w.heap.size (by show ¬ w.heap.size = w.heap.size + 1 + 1; omega)).trans ((Below.heap_setCell w8 ⟨w.heap.size + 1 + 1, 0, none⟩ (.string (mulP p q).1.str) w.heap.size (by show ¬ w.heap.size = w.heap.size + 1 + 1; omega)).trans hz0); have hq1 := (Below.heap_setCell (w8.setCell ⟨w.heap.size + 1 + 1, 0, none⟩ (.string (mulP p q).1.str)) ⟨w.heap.size + 1 + 1, 1, none⟩ (.string (mulP p q).2.str) (w.heap.size + 1) (by show ¬ w.heap.size + 1 = w.heap.size + 1 + 1; omega)).trans ((Below.heap_setCell w8 ⟨w.heap.size + 1 + 1, 0, none⟩ (.string (mulP p q).1.str) (w.heap.size + 1) (by show ¬ w.heap.size + 1 = w.heap.size + 1 + 1; omega)).trans hz1); have G1 := (two_cells hq0).1; have G2 := (two_cells hq1).2))
  go_wp2_with fail
  obtain ⟨q1, q2⟩ := two_cells (set_two (.string (mulP p q).1.str) (.string (mulP p q).2.str) hz2)
  refine bodyPost_ret (v := .agg #[.string (mulP p q).1.str, .string (mulP p q).2.str]) (by simp [q1, q2, results, Try.results58, go_sem]) rfl ⟨rfl, ?_⟩
  exact ((nx hbw3 hb8').setCell (by show w.heap.size ≤ w.heap.size + 1 + 1; omega) _).setCell (by show w.heap.size ≤ w.heap.size + 1 + 1; omega) _

set_option maxRecDepth 100000 in
set_option maxHeartbeats 4000000 in
theorem prTimes_any (p q : Pr) (w : World) (hp : okP p) (hq : okP q) (h1 : p.1.carets ≤ 30) (h2 : q.1.carets ≤ 30) :
    Calls Try.prog 53 #[.agg #[.string p.1.str, .string p.2.str], .agg #[.string q.1.str, .string q.2.str]] w (Gives (.agg #[.string (mulP p q).1.str, .string (mulP p q).2.str]) w) := by
  have hr := rawP_carets hp hq
  have hj := join_carets p.2 q.1
  have hp' : p.1.carets = p.2.carets := hp
  have hq' : q.1.carets = q.2.carets := hq
  have W1 := fun b v w h => prFill_raw1 hp hq h1 h2 b v w h
  have W2 := fun b v w h => prFill_raw2 hp hq h1 h2 b v w h
  have RR : ∀ w, Calls Try.prog 102 #[.agg #[.string (rawP p q).1.str, .string (rawP p q).2.str], .slice none 0 0] w (Gives (.agg #[.string (mulP p q).1.str, .string (mulP p q).2.str]) w) := fun w => prReduce_nil (rawP p q) w (by omega) (by omega)
  have P1 := fun w => prParts_any p.2 (p.2.join q.1) w (part_join p.2 q.1) (by omega)
  have P2 := fun w => prParts_any q.1 (p.2.join q.1) w (part_join' p.2 q.1) (by omega)
  have J := fun w => trJoin_any p.2 q.1 w (by omega) (by omega)
  clear hr hj
  go_enter Try.func53, Try.ntmps53
  go_wp2_with fail
  have hb0 : Below w.heap.size w (((w.alloc (.cells #[.string p.1.str, .string p.2.str] 29 (0, 0))).alloc (.cells #[.string q.1.str, .string q.2.str] 29 (0, 0))).alloc (.cells #[.string ⟨#[]⟩, .string ⟨#[]⟩] 29 (0, 0))) := nxAlloc (nxAlloc (nxAlloc (Below.refl _ _) _) _) _
  have hx0 := heap_keep (nxAlloc (Below.refl _ _) (.cells #[.string ⟨#[]⟩, .string ⟨#[]⟩] 29 (0, 0))) (heap_keep (nxAlloc (Below.refl _ _) (.cells #[.string q.1.str, .string q.2.str] 29 (0, 0))) (heap_alloc_at w (.cells #[.string p.1.str, .string p.2.str] 29 (0, 0))))
  have hx1 := heap_keep (nxAlloc (Below.refl _ _) (.cells #[.string ⟨#[]⟩, .string ⟨#[]⟩] 29 (0, 0))) (heap_alloc_at (w.alloc (.cells #[.string p.1.str, .string p.2.str] 29 (0, 0))) (.cells #[.string q.1.str, .string q.2.str] 29 (0, 0)))
  have hx2 := heap_alloc_at ((w.alloc (.cells #[.string p.1.str, .string p.2.str] 29 (0, 0))).alloc (.cells #[.string q.1.str, .string q.2.str] 29 (0, 0))) (.cells #[.string ⟨#[]⟩, .string ⟨#[]⟩] 29 (0, 0))
  generalize (((w.alloc (.cells #[.string p.1.str, .string p.2.str] 29 (0, 0))).alloc (.cells #[.string q.1.str, .string q.2.str] 29 (0, 0))).alloc (.cells #[.string ⟨#[]⟩, .string ⟨#[]⟩] 29 (0, 0))) = w0 at *
  have e1 : (w.alloc (.cells #[.string p.1.str, .string p.2.str] 29 (0, 0))).heap.size = w.heap.size + 1 := by simp
  rw [e1] at hx1
  clear e1
  have e2 : ((w.alloc (.cells #[.string p.1.str, .string p.2.str] 29 (0, 0))).alloc (.cells #[.string q.1.str, .string q.2.str] 29 (0, 0))).heap.size = w.heap.size + 1 + 1 := by simp
  rw [e2] at hx2
  clear e2
  obtain ⟨hx0a, hx0b, hx0c⟩ := two_facts hx0
  obtain ⟨hx0f, hx0g⟩ := two_frozen hx0
  obtain ⟨hx1a, hx1b, hx1c⟩ := two_facts hx1
  obtain ⟨hx1f, hx1g⟩ := two_frozen hx1
  obtain ⟨hx2a, hx2b, hx2c⟩ := two_facts hx2
  obtain ⟨hx2f, hx2g⟩ := two_frozen hx2
  refine (J _).mono ?_; rintro e w1 ⟨rfl, hb1⟩
  have hbw1 := nx hb0 hb1
  replace hx0 := heap_keep hb1 hx0
  replace hx1 := heap_keep hb1 hx1
  replace hx2 := heap_keep hb1 hx2
  clear hx0a hx0b hx0c hx0f hx0g
  obtain ⟨hx0a, hx0b, hx0c⟩ := two_facts hx0
  obtain ⟨hx0f, hx0g⟩ := two_frozen hx0
  clear hx1a hx1b hx1c hx1f hx1g
  obtain ⟨hx1a, hx1b, hx1c⟩ := two_facts hx1
  obtain ⟨hx1f, hx1g⟩ := two_frozen hx1
  clear hx2a hx2b hx2c hx2f hx2g
  obtain ⟨hx2a, hx2b, hx2c⟩ := two_facts hx2
  obtain ⟨hx2f, hx2g⟩ := two_frozen hx2
  clear hb1 hb0
  have hb00 := Below.refl w1.heap.size w1
  generalize p.2.join q.1 = G at *
  go_wp2_with fail
  go_region_held3 (fun w' => w'.cell? ⟨w.heap.size, 0, none⟩ = some (.string p.1.str) ∧ w'.cell? ⟨w.heap.size, 1, none⟩ = some (.string p.2.str) ∧ w'.cell? ⟨w.heap.size + 1, 0, none⟩ = some (.string q.1.str) ∧ w'.cell? ⟨w.heap.size + 1, 1, none⟩ = some (.string q.2.str))
    (first
      | exact ⟨hx0a, hx0b, hx1a, hx1b⟩
      | exact ⟨A1.1, A1.2, A2.1, A2.2⟩
      | exact ⟨B1.1, B1.2, B2.1, B2.2⟩
      | exact ⟨C1.1, C1.2, C2.1, C2.2⟩
      | exact ⟨D1.1, D1.2, D2.1, D2.2⟩
      | exact ⟨E1.1, E1.2, E2.1, E2.2⟩
      | exact ⟨G1.1, G1.2, G2.1, G2.2⟩)
    (first
      | (go_at_call 41; (with_reducible refine (P1 _).mono ?_); rintro e w4 ⟨g1, cap1, own1, hb4, rfl⟩; have hb4' := nx hb00.drew hb4; have A1 := two_cells (heap_keep hb4' hx0); have A2 := two_cells (heap_keep hb4' hx1))
      | (go_at_call_of 103 (some (⟨g1, 0, none⟩ : Addr)); refine (W1 _ _ _ own1.cells).mono ?_; rintro e w5 ⟨rfl, hb5⟩; have hb5' := nx hb4' hb5; have B1 := two_cells (heap_keep hb5' hx0); have B2 := two_cells (heap_keep hb5' hx1))
      | (go_at_call 41; (with_reducible refine (P2 _).mono ?_); rintro e w6 ⟨g2, cap2, own2, hb6, rfl⟩; have hb6' := nx hb5' hb6; have C1 := two_cells (heap_keep hb6' hx0); have C2 := two_cells (heap_keep hb6' hx1))
      | (go_at_call_of 103 (some (⟨g2, 0, none⟩ : Addr)); refine (W2 _ _ _ own2.cells).mono ?_; rintro e w7 ⟨rfl, hb7⟩; have hb7' := nx hb6' hb7; have D1 := two_cells (heap_keep hb7' hx0); have D2 := two_cells (heap_keep hb7' hx1))
      | (go_at_call 102; refine (RR _).mono ?_; rintro e w8 ⟨rfl, hb8⟩; have hb8' := nx hb7' hb8; have hz0 := heap_keep hb8' hx0; have hz1 := heap_keep hb8' hx1; have hz2 := heap_keep hb8' hx2; have E1 := two_cells hz0; have E2 := two_cells hz1; obtain ⟨n1, n2⟩ := two_cells hz2; obtain ⟨f1, f2⟩ := two_frozen hz2; have hq0 := (Below.heap_setCell (w8.setCell ⟨w.heap.size + 1 + 1, 0, none⟩ (.string (mulP p q).1.str)) ⟨w.heap.size + 1 + 1, 1, none⟩ (.string (mulP p q).2.str) w.heap.size (by show ¬ w.heap.size = w.heap.size + 1 + 1; omega)).trans ((Below.heap_setCell w8 ⟨w.heap.size + 1 + 1, 0, none⟩ (.string (mulP p q).1.str) w.heap.size (by show ¬ w.heap.size = w.heap.size + 1 + 1; omega)).trans hz0); have hq1 := (Below.heap_setCell (w8.setCell ⟨w.heap.size + 1 + 1, 0, none⟩ (.string (mulP p q).1.str)) ⟨w.heap.size + 1 + 1, 1, none⟩ (.string (mulP p q).2.str) (w.heap.size + 1) (by show ¬ (w.heap.size + 1) = w.heap.size + 1 + 1; omega)).trans ((Below.heap_setCell w8 ⟨w.heap.size + 1 + 1, 0, none⟩ (.string (mulP p q).1.str) (w.heap.size + 1) (by show ¬ (w.heap.size + 1) = w.heap.size + 1 + 1; omega)).trans hz1); have G1 := two_cells hq0; have G2 := two_cells hq1))
  go_wp2_with fail
  obtain ⟨q1, q2⟩ := two_cells (set_two (.string (mulP p q).1.str) (.string (mulP p q).2.str) hz2)
  refine bodyPost_ret (v := .agg #[.string (mulP p q).1.str, .string (mulP p q).2.str]) (by simp [q1, q2, results, Try.results53, go_sem]) rfl ⟨rfl, ?_⟩
  exact ((nx hbw1 hb8').setCell (by show w.heap.size ≤ w.heap.size + 1 + 1; omega) _).setCell (by show w.heap.size ≤ w.heap.size + 1 + 1; omega) _
end Go.Proofs.Ytplmbdljhgicfab

/-! LimP -/
namespace Go.Proofs.Ytplmbdljhgicfab
open Go.RowKit

/-- A pair, if its trees have no more carets than allowed. -/
def limP (p : Pr) : Option Pr := if p.1.carets ≤ 8 then some p else none
theorem treeOf_big {t : Tr} (h : 8 < t.carets) : treeOf t.str = none := by
  unfold treeOf
  rw [parse_str t _ (by have := t.str_size; have := t.text_len; omega)]
  show (if t.carets ≤ 8 then some t else none) = none
  rw [if_neg (by omega)]
theorem pairOf_lim {p : Pr} (h : okP p) : pairOf p.1.str p.2.str = limP p := by
  unfold limP
  by_cases hc : p.1.carets ≤ 8
  · rw [if_pos hc, pairOf_str h hc]
  · rw [if_neg hc]
    unfold pairOf
    rw [treeOf_big (by omega)]

set_option maxHeartbeats 1000000 in
theorem prIf_any (p : Pr) (w : World) (hok : okP p) (hz : p.1.carets ≤ 1000) :
    Calls Try.prog 52 #[.agg #[.string p.1.str, .string p.2.str]] w (Gives (ansPr (limP p)) w) := by
  have hz2 : p.2.carets ≤ 1000 := by unfold okP at hok; omega
  have s1 := p.1.str_size
  have s2 := p.2.str_size
  have hg := fun w => prGood_any p.1.str p.2.str w (by omega) (by omega)
  rw [pairOf_lim hok] at hg
  clear s1 s2
  cases h : limP p with
  | none =>
    rw [h] at hg
    clear h
    go_enter Try.func52, Try.ntmps52
    go_wp2_with fail
    have hb0 : Below w.heap.size w ((w.alloc (.cells #[.string p.1.str, .string p.2.str] 29 (0, 0))).alloc (.cells #[.string ⟨#[]⟩, .string ⟨#[]⟩] 29 (0, 0))) := nxAlloc (nxAlloc (Below.refl _ _) _) _
    have hx0 := heap_keep (nxAlloc (Below.refl _ _) (.cells #[.string ⟨#[]⟩, .string ⟨#[]⟩] 29 (0, 0))) (heap_alloc_at w (.cells #[.string p.1.str, .string p.2.str] 29 (0, 0)))
    have hx1 := heap_alloc_at (w.alloc (.cells #[.string p.1.str, .string p.2.str] 29 (0, 0))) (.cells #[.string ⟨#[]⟩, .string ⟨#[]⟩] 29 (0, 0))
    generalize ((w.alloc (.cells #[.string p.1.str, .string p.2.str] 29 (0, 0))).alloc (.cells #[.string ⟨#[]⟩, .string ⟨#[]⟩] 29 (0, 0))) = w0 at *
    have e1 : (w.alloc (.cells #[.string p.1.str, .string p.2.str] 29 (0, 0))).heap.size = w.heap.size + 1 := by simp
    rw [e1] at hx1
    clear e1
    obtain ⟨hx0a, hx0b, hx0c⟩ := two_facts hx0
    obtain ⟨hx0f, hx0g⟩ := two_frozen hx0
    obtain ⟨hx1a, hx1b, hx1c⟩ := two_facts hx1
    obtain ⟨hx1f, hx1g⟩ := two_frozen hx1
    refine (hg _).mono ?_; rintro e w1 ⟨rfl, hb1⟩
    have hbw1 := nx hb0 hb1
    replace hx0 := heap_keep hb1 hx0
    replace hx1 := heap_keep hb1 hx1
    clear hx0a hx0b hx0c hx0f hx0g
    obtain ⟨hx0a, hx0b, hx0c⟩ := two_facts hx0
    obtain ⟨hx0f, hx0g⟩ := two_frozen hx0
    clear hx1a hx1b hx1c hx1f hx1g
    obtain ⟨hx1a, hx1b, hx1c⟩ := two_facts hx1
    obtain ⟨hx1f, hx1g⟩ := two_frozen hx1
    clear hb1 hb0
    go_wp2_with fail
    obtain ⟨q1, q2⟩ := two_cells (set_two (.string ⟨#[]⟩) (.string ⟨#[]⟩) hx1)
    refine bodyPost_ret (v := .tuple #[.agg #[.string ⟨#[]⟩, .string ⟨#[]⟩], .bool false]) (by simp [q1, q2, results, Try.results52, go_sem]) rfl ⟨rfl, ?_⟩
    exact (hbw1.setCell (by show w.heap.size ≤ w.heap.size + 1; omega) _).setCell (by show w.heap.size ≤ w.heap.size + 1; omega) _
  | some q =>
    have e : q = p := by
      unfold limP at h
      split at h
      · injection h with h; exact h.symm
      · simp at h
    subst e
    rw [h] at hg
    clear h
    go_enter Try.func52, Try.ntmps52
    go_wp2_with fail
    have hb0 : Below w.heap.size w ((w.alloc (.cells #[.string q.1.str, .string q.2.str] 29 (0, 0))).alloc (.cells #[.string ⟨#[]⟩, .string ⟨#[]⟩] 29 (0, 0))) := nxAlloc (nxAlloc (Below.refl _ _) _) _
    have hx0 := heap_keep (nxAlloc (Below.refl _ _) (.cells #[.string ⟨#[]⟩, .string ⟨#[]⟩] 29 (0, 0))) (heap_alloc_at w (.cells #[.string q.1.str, .string q.2.str] 29 (0, 0)))
    have hx1 := heap_alloc_at (w.alloc (.cells #[.string q.1.str, .string q.2.str] 29 (0, 0))) (.cells #[.string ⟨#[]⟩, .string ⟨#[]⟩] 29 (0, 0))
    generalize ((w.alloc (.cells #[.string q.1.str, .string q.2.str] 29 (0, 0))).alloc (.cells #[.string ⟨#[]⟩, .string ⟨#[]⟩] 29 (0, 0))) = w0 at *
    have e1 : (w.alloc (.cells #[.string q.1.str, .string q.2.str] 29 (0, 0))).heap.size = w.heap.size + 1 := by simp
    rw [e1] at hx1
    clear e1
    obtain ⟨hx0a, hx0b, hx0c⟩ := two_facts hx0
    obtain ⟨hx0f, hx0g⟩ := two_frozen hx0
    obtain ⟨hx1a, hx1b, hx1c⟩ := two_facts hx1
    obtain ⟨hx1f, hx1g⟩ := two_frozen hx1
    refine (hg _).mono ?_; rintro e w1 ⟨rfl, hb1⟩
    have hbw1 := nx hb0 hb1
    replace hx0 := heap_keep hb1 hx0
    replace hx1 := heap_keep hb1 hx1
    clear hx0a hx0b hx0c hx0f hx0g
    obtain ⟨hx0a, hx0b, hx0c⟩ := two_facts hx0
    obtain ⟨hx0f, hx0g⟩ := two_frozen hx0
    clear hx1a hx1b hx1c hx1f hx1g
    obtain ⟨hx1a, hx1b, hx1c⟩ := two_facts hx1
    obtain ⟨hx1f, hx1g⟩ := two_frozen hx1
    clear hb1 hb0
    go_wp2_with fail
    obtain ⟨q1, q2⟩ := two_cells (set_two (.string q.1.str) (.string q.2.str) hx1)
    refine bodyPost_ret (v := .tuple #[.agg #[.string q.1.str, .string q.2.str], .bool true]) (by simp [q1, q2, results, Try.results52, go_sem]) rfl ⟨rfl, ?_⟩
    exact (hbw1.setCell (by show w.heap.size ≤ w.heap.size + 1; omega) _).setCell (by show w.heap.size ≤ w.heap.size + 1; omega) _

set_option maxHeartbeats 1000000 in
theorem pairLimit_any (p : Pr) (w : World) :
    Calls Try.prog 57 #[.agg #[.string p.1.str, .string p.2.str]] w (Gives (ansPr (limP p)) w) := by
  have hg : ∀ w, Calls Try.prog 110 #[.string p.1.str] w (Gives (ansV (lim p.1)) w) := fun w => (limit_any p.1 w).mono fun _ _ ⟨h1, h2⟩ => ⟨h1, by rw [← h2]; exact Below.refl _ _⟩
  unfold lim at hg
  unfold limP
  by_cases h : p.1.carets ≤ 8
  · rw [if_pos h] at hg ⊢
    have hg' : ∀ w, Calls Try.prog 110 #[.string p.1.str] w (Gives (.tuple #[.string p.1.str, .bool true]) w) := hg
    clear hg h
    go_enter Try.func57, Try.ntmps57
    go_wp2_with fail
    have hb0 : Below w.heap.size w ((w.alloc (.cells #[.string p.1.str, .string p.2.str] 29 (0, 0))).alloc (.cells #[.string ⟨#[]⟩, .string ⟨#[]⟩] 29 (0, 0))) := nxAlloc (nxAlloc (Below.refl _ _) _) _
    have hx0 := heap_keep (nxAlloc (Below.refl _ _) (.cells #[.string ⟨#[]⟩, .string ⟨#[]⟩] 29 (0, 0))) (heap_alloc_at w (.cells #[.string p.1.str, .string p.2.str] 29 (0, 0)))
    have hx1 := heap_alloc_at (w.alloc (.cells #[.string p.1.str, .string p.2.str] 29 (0, 0))) (.cells #[.string ⟨#[]⟩, .string ⟨#[]⟩] 29 (0, 0))
    generalize ((w.alloc (.cells #[.string p.1.str, .string p.2.str] 29 (0, 0))).alloc (.cells #[.string ⟨#[]⟩, .string ⟨#[]⟩] 29 (0, 0))) = w0 at *
    have e1 : (w.alloc (.cells #[.string p.1.str, .string p.2.str] 29 (0, 0))).heap.size = w.heap.size + 1 := by simp
    rw [e1] at hx1
    clear e1
    obtain ⟨hx0a, hx0b, hx0c⟩ := two_facts hx0
    obtain ⟨hx0f, hx0g⟩ := two_frozen hx0
    obtain ⟨hx1a, hx1b, hx1c⟩ := two_facts hx1
    obtain ⟨hx1f, hx1g⟩ := two_frozen hx1
    refine (hg' _).mono ?_; rintro e w1 ⟨rfl, hb1⟩
    have hbw1 := nx hb0 hb1
    replace hx0 := heap_keep hb1 hx0
    replace hx1 := heap_keep hb1 hx1
    clear hx0a hx0b hx0c hx0f hx0g
    obtain ⟨hx0a, hx0b, hx0c⟩ := two_facts hx0
    obtain ⟨hx0f, hx0g⟩ := two_frozen hx0
    clear hx1a hx1b hx1c hx1f hx1g
    obtain ⟨hx1a, hx1b, hx1c⟩ := two_facts hx1
    obtain ⟨hx1f, hx1g⟩ := two_frozen hx1
    clear hb1 hb0
    go_wp2_with fail
    obtain ⟨q1, q2⟩ := two_cells (set_two (.string p.1.str) (.string p.2.str) hx1)
    refine bodyPost_ret (v := .tuple #[.agg #[.string p.1.str, .string p.2.str], .bool true]) (by simp [q1, q2, results, Try.results57, go_sem]) rfl ⟨rfl, ?_⟩
    exact (hbw1.setCell (by show w.heap.size ≤ w.heap.size + 1; omega) _).setCell (by show w.heap.size ≤ w.heap.size + 1; omega) _
  · rw [if_neg h] at hg ⊢
    have hg' : ∀ w, Calls Try.prog 110 #[.string p.1.str] w (Gives (.tuple #[.string ⟨#[]⟩, .bool false]) w) := hg
    clear hg h
    go_enter Try.func57, Try.ntmps57
    go_wp2_with fail
    have hb0 : Below w.heap.size w ((w.alloc (.cells #[.string p.1.str, .string p.2.str] 29 (0, 0))).alloc (.cells #[.string ⟨#[]⟩, .string ⟨#[]⟩] 29 (0, 0))) := nxAlloc (nxAlloc (Below.refl _ _) _) _
    have hx0 := heap_keep (nxAlloc (Below.refl _ _) (.cells #[.string ⟨#[]⟩, .string ⟨#[]⟩] 29 (0, 0))) (heap_alloc_at w (.cells #[.string p.1.str, .string p.2.str] 29 (0, 0)))
    have hx1 := heap_alloc_at (w.alloc (.cells #[.string p.1.str, .string p.2.str] 29 (0, 0))) (.cells #[.string ⟨#[]⟩, .string ⟨#[]⟩] 29 (0, 0))
    generalize ((w.alloc (.cells #[.string p.1.str, .string p.2.str] 29 (0, 0))).alloc (.cells #[.string ⟨#[]⟩, .string ⟨#[]⟩] 29 (0, 0))) = w0 at *
    have e1 : (w.alloc (.cells #[.string p.1.str, .string p.2.str] 29 (0, 0))).heap.size = w.heap.size + 1 := by simp
    rw [e1] at hx1
    clear e1
    obtain ⟨hx0a, hx0b, hx0c⟩ := two_facts hx0
    obtain ⟨hx0f, hx0g⟩ := two_frozen hx0
    obtain ⟨hx1a, hx1b, hx1c⟩ := two_facts hx1
    obtain ⟨hx1f, hx1g⟩ := two_frozen hx1
    refine (hg' _).mono ?_; rintro e w1 ⟨rfl, hb1⟩
    have hbw1 := nx hb0 hb1
    replace hx0 := heap_keep hb1 hx0
    replace hx1 := heap_keep hb1 hx1
    clear hx0a hx0b hx0c hx0f hx0g
    obtain ⟨hx0a, hx0b, hx0c⟩ := two_facts hx0
    obtain ⟨hx0f, hx0g⟩ := two_frozen hx0
    clear hx1a hx1b hx1c hx1f hx1g
    obtain ⟨hx1a, hx1b, hx1c⟩ := two_facts hx1
    obtain ⟨hx1f, hx1g⟩ := two_frozen hx1
    clear hb1 hb0
    go_wp2_with fail
    obtain ⟨q1, q2⟩ := two_cells (set_two (.string ⟨#[]⟩) (.string ⟨#[]⟩) hx1)
    refine bodyPost_ret (v := .tuple #[.agg #[.string ⟨#[]⟩, .string ⟨#[]⟩], .bool false]) (by simp [q1, q2, results, Try.results57, go_sem]) rfl ⟨rfl, ?_⟩
    exact (hbw1.setCell (by show w.heap.size ≤ w.heap.size + 1; omega) _).setCell (by show w.heap.size ≤ w.heap.size + 1; omega) _
end Go.Proofs.Ytplmbdljhgicfab

/-! Comb -/
namespace Go.Proofs.Ytplmbdljhgicfab
open Go.RowKit

def rcomb : Nat → Tr
  | 0 => .lf
  | n + 1 => .nd .lf (rcomb n)
def lcomb : Nat → Tr
  | 0 => .lf
  | n + 1 => .nd (lcomb n) .lf
theorem rcomb_carets (n : Nat) : (rcomb n).carets = n := by induction n with | zero => rfl | succ n ih => simp [rcomb, Tr.carets, ih]
theorem lcomb_carets (n : Nat) : (lcomb n).carets = n := by induction n with | zero => rfl | succ n ih => simp [lcomb, Tr.carets, ih]
theorem rcomb_mir (n : Nat) : (rcomb n).mir = lcomb n := by induction n with | zero => rfl | succ n ih => simp [rcomb, lcomb, Tr.mir, ih]

def combO (g : Nat → Tr) (n : Int) : Option Tr := if 0 ≤ n ∧ n ≤ 8 then some (g n.toNat) else none

theorem trRight_any (n : Nat) (w : World) (h : n ≤ 100) :
    Calls Try.prog 105 #[.int .i64 n] w fun e w' => e = .returned (.string (rcomb n).str) ∧ w = w' := by
  go_enter Try.func105, Try.ntmps105
  go_wp2_with fail
  go_loop [0, 3] (fun i t => ∃ k : Nat, k ≤ n ∧ i = .int .i64 k ∧ t = .string (rcomb (n - k)).str) (fun i _ => (intOf i).toNat)
  case atStart => exact ⟨n, Nat.le_refl _, rfl, by rw [Nat.sub_self]; rfl⟩
  case round =>
    obtain ⟨k, hk, rfl, rfl⟩ := hrel
    by_cases hlt : (0 : Int) < k
    · have hc := rcomb_carets (n - k)
      have he : Hid (rcomb (n - k + 1) = rcomb (n - (k - 1))) := by show _ = _; congr 1; omega
      go_wp2_with fail
      refine (trOf_any .lf (rcomb (n - k)) _ (by simp [Tr.carets, hc]; omega)).mono ?_; rintro e w1 ⟨rfl, rfl⟩
      go_wp2_with fail
      go_round
      case rel => exact ⟨k - 1, by omega, by go_num, by rw [← he.out]; rfl⟩
      case measure => simp [intOf]; omega
    · obtain rfl : k = 0 := by omega
      go_wp2_with fail
      go_ret
      exact ⟨rfl, rfl⟩

end Go.Proofs.Ytplmbdljhgicfab

/-! ShelfRep -/
namespace Go.Proofs
open Go.Shelf
def Try.lays105_ren : Go.Shelf.Ren := ⟨fun | 105 => 146 | 212 => 148 | 99 => 163 | 165 => 165 | 166 => 144 | 170 => 166 | 169 => 145 | 263 => 170 | 264 => 171 | 206 => 173 | 240 => 164 | 241 => 176 | 276 => 175 | 277 => 178 | n => n, fun | 9 => 9 | 3 => 3 | 4 => 4 | 20 => 20 | 0 => 0 | 46 => 159 | 109 => 160 | 5 => 5 | 72 => 152 | 76 => 156 | 51 => 173 | 146 => 174 | 53 => 176 | 148 => 177 | 70 => 150 | 37 => 117 | 75 => 154 | 127 => 170 | 164 => 179 | 80 => 104 | n => n, fun | n => n⟩
theorem Try.lays105 : Go.Proofs.Lays.n105 Try.prog Try.lays105_ren := {
  mixed := by kernel_rfl
  f99 := Try.func163.trans (congrArg some (by kernel_rfl))
  f105 := Try.func146.trans (congrArg some (by kernel_rfl))
  f165 := Try.func165.trans (congrArg some (by kernel_rfl))
  f166 := Try.func144.trans (congrArg some (by kernel_rfl))
  f169 := Try.func145.trans (congrArg some (by kernel_rfl))
  f170 := Try.func166.trans (congrArg some (by kernel_rfl))
  f206 := Try.func173.trans (congrArg some (by kernel_rfl))
  f212 := Try.func148.trans (congrArg some (by kernel_rfl))
  f240 := Try.func164.trans (congrArg some (by kernel_rfl))
  f241 := Try.func176.trans (congrArg some (by kernel_rfl))
  f263 := Try.func170.trans (congrArg some (by kernel_rfl))
  f264 := Try.func171.trans (congrArg some (by kernel_rfl))
  f276 := Try.func175.trans (congrArg some (by kernel_rfl))
  f277 := Try.func178.trans (congrArg some (by kernel_rfl))
  t0 := Try.underlying0
  a0 := Try.isAgg0
  z0 := Try.sizeOf0
  v0 := Try.zeroValue0
  t3 := Try.underlying3
  a3 := Try.isAgg3
  z3 := Try.sizeOf3
  v3 := Try.zeroValue3
  t4 := Try.underlying4
  a4 := Try.isAgg4
  z4 := Try.sizeOf4
  v4 := Try.zeroValue4
  t5 := Try.underlying5
  a5 := Try.isAgg5
  z5 := Try.sizeOf5
  v5 := Try.zeroValue5
  t9 := Try.underlying9
  a9 := Try.isAgg9
  z9 := Try.sizeOf9
  v9 := Try.zeroValue9
  t20 := Try.underlying20
  a20 := Try.isAgg20
  z20 := Try.sizeOf20
  v20 := Try.zeroValue20
  t37 := Try.underlying117
  a37 := Try.isAgg117
  z37 := Try.sizeOf117
  v37 := Try.zeroValue117
  t46 := Try.underlying159
  a46 := Try.isAgg159
  z46 := Try.sizeOf159
  v46 := Try.zeroValue159
  t51 := Try.underlying173
  a51 := Try.isAgg173
  z51 := Try.sizeOf173
  v51 := Try.zeroValue173
  t53 := Try.underlying176
  a53 := Try.isAgg176
  z53 := Try.sizeOf176
  v53 := Try.zeroValue176
  t70 := Try.underlying150
  a70 := Try.isAgg150
  z70 := Try.sizeOf150
  v70 := Try.zeroValue150
  t72 := Try.underlying152
  a72 := Try.isAgg152
  z72 := Try.sizeOf152
  v72 := Try.zeroValue152
  t75 := Try.underlying154
  a75 := Try.isAgg154
  z75 := Try.sizeOf154
  v75 := Try.zeroValue154
  t76 := Try.underlying156
  a76 := Try.isAgg156
  z76 := Try.sizeOf156
  v76 := Try.zeroValue156
  t109 := Try.underlying160
  a109 := Try.isAgg160
  z109 := Try.sizeOf160
  v109 := Try.zeroValue160
  t127 := Try.underlying170
  a127 := Try.isAgg170
  z127 := Try.sizeOf170
  v127 := Try.zeroValue170
  t146 := Try.underlying174
  a146 := Try.isAgg174
  z146 := Try.sizeOf174
  v146 := Try.zeroValue174
  t148 := Try.underlying177
  a148 := Try.isAgg177
  z148 := Try.sizeOf177
  v148 := Try.zeroValue177
  t164 := Try.underlying179
  a164 := Try.isAgg179
  z164 := Try.sizeOf179
  v164 := Try.zeroValue179 }
theorem Try.Builder_Extra_105 : Builder.Extra Try.prog Try.lays105_ren := {
  sizeBuilder := by kernel_rfl
  liesBuilder := by kernel_rfl
  t5 := Try.underlying5
  a5 := Try.isAgg5
  z5 := Try.sizeOf5
  v5 := Try.zeroValue5
  infoByte := by kernel_rfl
  cellsByte := by kernel_rfl
  sizeByte := by kernel_rfl
  neB5 := by decide }
open Go.RowKit Go.Lib in
theorem Try.strings_Repeat (s : ByteArray) (c : Nat) (w : World) (hc : c ≤ 9223372036854775807) (hlen : s.size * c ≤ 140737488355328) :
    Calls Try.prog 146 #[.string s, .int .i64 c] w fun e w' => e = .returned (.string ⟨(Lib.repeatL s.data.toList c).toArray⟩) ∧ Below w.heap.size w w' := Any.strings_Repeat Try.lays105 Try.Builder_Extra_105 s c w hc hlen
end Go.Proofs
