/- FnReducedAreUnique: for every input the law returns true and leaves its arguments as they were. No conditions. -/
import Derived.Test.YteflpaebckichabMgReducedAreUnique4
import Derived.ProofKit
import Derived.OpenShut
import Derived.ShutString
import Derived.ChangeOld
import Derived.Below
/-! WReducedAreUnique -/
namespace Go.Proofs.Yteflpaebckichab
open Go.RowKit

theorem cut_cases (z : ByteArray) : cutP z = none ∨ ∃ p : Pr, cutP z = some p ∧ okP p ∧ p.1.carets ≤ 8 ∧ p.2.carets ≤ 8 ∧ prS p = z := by
  cases h : cutP z with
  | none => exact .inl rfl
  | some p =>
    right
    unfold cutP at h
    split at h
    · next h0 =>
      obtain ⟨h1, h2, h3, h4, h5⟩ := pairOf_some h
      refine ⟨p, rfl, h3, h4, h5, ?_⟩
      rcases idxB_spec z 62 with ⟨e, _⟩ | ⟨k, e, hk, hb, _⟩
      · omega
      · rw [e] at h1 h2
        simp only [Int.toNat_natCast] at h1 h2
        unfold prS
        rw [← h1, ← h2]
        apply ba_ext
        have hb2 : z.data.toList.drop k = 62 :: z.data.toList.drop (k + 1) := by
          rw [List.drop_eq_getElem_cons (by rw [← Lib.size_eq]; exact hk)]
          congr 1
          rw [List.getElem?_eq_getElem (by rw [← Lib.size_eq]; exact hk)] at hb
          exact Option.some.inj hb
        have e1 : (z.extract 0 k ++ ⟨#[62]⟩ ++ z.extract (k + 1) z.size).data.toList = z.data.toList.take k ++ (62 :: z.data.toList.drop (k + 1)) := by
          rw [ByteArray.data_append, ByteArray.data_append, Array.toList_append, Array.toList_append, ext_end]
          have e2 : (z.extract 0 k).data.toList = z.data.toList.take k := by rw [Lib.extract_data]; simp
          rw [e2]
          simp
        rw [e1, ← hb2, List.take_append_drop]
    · cases h
theorem expand_cases (a b : ByteArray) (n : Int) : ((pairOf a b).bind fun p => expP p n) = none ∨ ∃ p l : Pr, a = p.1.str ∧ b = p.2.str ∧ pairOf p.1.str p.2.str = some p ∧ ((pairOf p.1.str p.2.str).bind fun p => expP p n) = some l ∧ pairOf l.1.str l.2.str = some l ∧ (both l).isEmpty = false ∧ red l = red p ∧ p.1.carets ≤ 8 ∧ p.2.carets ≤ 8 ∧ l.1.carets ≤ 8 ∧ l.2.carets ≤ 8 := by
  cases h : pairOf a b with
  | none => exact .inl rfl
  | some p =>
    obtain ⟨rfl, rfl, h3, h4, h5⟩ := pairOf_some h
    by_cases hn : 0 ≤ n ∧ n ≤ p.1.carets ∧ p.1.carets < 8
    · right
      have h3' : p.1.carets = p.2.carets := h3
      obtain ⟨e1, e2⟩ := exp_both h3 hn.1 hn.2.1
      have c1 := graft_carets p.1 (.nd .lf .lf) n hn.1 (by unfold Tr.leaves; omega)
      have c2 := graft_carets p.2 (.nd .lf .lf) n hn.1 (by unfold Tr.leaves; omega)
      have e9 : (Tr.nd .lf .lf).carets = 1 := rfl
      rw [e9] at c1 c2
      have hk : okP (p.1.graft n (.nd .lf .lf), p.2.graft n (.nd .lf .lf)) := by unfold okP; show (p.1.graft n _).carets = (p.2.graft n _).carets; omega
      refine ⟨p, (p.1.graft n (.nd .lf .lf), p.2.graft n (.nd .lf .lf)), rfl, rfl, h, ?_, pairOf_str hk (by show (p.1.graft n _).carets ≤ 8; omega), ?_, e2, h4, h5, by show (p.1.graft n _).carets ≤ 8; omega, by show (p.2.graft n _).carets ≤ 8; omega⟩
      · simp only [h, Option.bind_some, expP, ex1]
        rw [if_pos hn]
      · cases hb : both (p.1.graft n (.nd .lf .lf), p.2.graft n (.nd .lf .lf)) with
        | nil => rw [hb] at e1; simp at e1
        | cons x l => rfl
    · left
      simp only [Option.bind_some, expP]
      rw [if_neg hn]

set_option maxRecDepth 100000 in
set_option maxHeartbeats 20000000 in
theorem reducedAreUnique_law (W : World) (c d : Bts) (hc : InB W c) (hd : InB W d) (hn : c.n + d.n ≤ 1048576) :
    Calls Try.prog 6 #[.slice c.a c.n c.cap, .slice d.a d.n d.cap] W (SaysTrue W) := by
  go_enter Try.func6, Try.ntmps6
  go_wp2_with fail
  refine (big_no c d _ hn).mono ?_; rintro e w1 ⟨rfl, rfl⟩
  have HB := Lib.hid (Below.refl W.heap.size W)
  go_wp2_with fail
  refine (drawReduceBy_any c _ hc).mono ?_; rintro e w31 ⟨a, b, v, L, z1, z2, hL, hL2, hO, rfl, hb⟩
  have O := Lib.hid hO.cells
  clear hO
  replace HB := Lib.hid (nx HB.out hb)
  clear hb
  replace O := Lib.hid (O.out.keep (allocB w31 (.cells #[.string a, .string b] 59 (0, 0))))
  have Bp := Lib.hid (heap_alloc_at w31 (.cells #[.string a, .string b] 59 (0, 0)))
  replace HB := Lib.hid (nxAlloc HB.out (.cells #[.string a, .string b] 59 (0, 0)))
  have HL2 := Lib.hid hL2
  clear hL2
  have h1 := fun w (b1 : Nat) (h : CellsI b1 w v L) => implReduceBy_any a b v L b1 w (by omega) (by omega) h (fun c hc => by have := HL2.out c hc; omega)
  have h2 := fun w (b1 : Nat) (h : CellsI b1 w v L) => specReduceBy_any a b v L b1 w (by omega) (by omega) h (fun c hc => by have := HL2.out c hc; omega)
  have h3 := fun w => implReducePair_any a b w (by omega) (by omega)
  have h4 := fun w => specReducePair_any a b w (by omega) (by omega)
  have h5 := fun w => implIsPair_any a b w (by omega) (by omega)
  obtain ⟨fp1, fp2, fp3⟩ := two_facts Bp.out
  go_wp2_with fail
  cases hpo : pairOf a b with
  | none =>
    simp only [redO, hpo, Option.bind_none, Option.isSome_none, ansPr, pS1, pS2] at h1 h2 h3 h4 h5
    refine (h1 _ _ O.out).mono ?_; rintro e w32 ⟨rfl, hb⟩
    clear fp1 fp2 fp3
    replace Bp := Lib.hid (heap_keep hb Bp.out)
    replace O := Lib.hid (O.out.keep hb)
    replace HB := Lib.hid (nx HB.out hb)
    clear hb
    replace Bp := Lib.hid (heap_keep (allocB w32 (.cells #[.string ⟨#[]⟩, .string ⟨#[]⟩] 59 (0, 0))) Bp.out)
    replace O := Lib.hid (O.out.keep (allocB w32 (.cells #[.string ⟨#[]⟩, .string ⟨#[]⟩] 59 (0, 0))))
    have Bb := Lib.hid (heap_alloc_at w32 (.cells #[.string ⟨#[]⟩, .string ⟨#[]⟩] 59 (0, 0)))
    replace HB := Lib.hid (nxAlloc HB.out (.cells #[.string ⟨#[]⟩, .string ⟨#[]⟩] 59 (0, 0)))
    obtain ⟨fp1, fp2, fp3⟩ := two_facts Bp.out
    go_wp2_with fail
    refine (h2 _ _ O.out).mono ?_; rintro e w33 ⟨rfl, hb⟩
    clear fp1 fp2 fp3
    replace Bp := Lib.hid (heap_keep hb Bp.out)
    replace Bb := Lib.hid (heap_keep hb Bb.out)
    replace O := Lib.hid (O.out.keep hb)
    replace HB := Lib.hid (nx HB.out hb)
    clear hb
    replace Bp := Lib.hid (heap_keep (allocB w33 (.cells #[.string ⟨#[]⟩, .string ⟨#[]⟩] 59 (0, 0))) Bp.out)
    replace Bb := Lib.hid (heap_keep (allocB w33 (.cells #[.string ⟨#[]⟩, .string ⟨#[]⟩] 59 (0, 0))) Bb.out)
    replace O := Lib.hid (O.out.keep (allocB w33 (.cells #[.string ⟨#[]⟩, .string ⟨#[]⟩] 59 (0, 0))))
    have Br := Lib.hid (heap_alloc_at w33 (.cells #[.string ⟨#[]⟩, .string ⟨#[]⟩] 59 (0, 0)))
    replace HB := Lib.hid (nxAlloc HB.out (.cells #[.string ⟨#[]⟩, .string ⟨#[]⟩] 59 (0, 0)))
    obtain ⟨fp1, fp2, fp3⟩ := two_facts Bp.out
    go_wp2_with fail
    clear O
    refine (h3 _).mono ?_; rintro e w34 ⟨rfl, hb⟩
    clear fp1 fp2 fp3
    replace Bp := Lib.hid (heap_keep hb Bp.out)
    replace Bb := Lib.hid (heap_keep hb Bb.out)
    replace Br := Lib.hid (heap_keep hb Br.out)
    replace HB := Lib.hid (nx HB.out hb)
    clear hb
    replace Bp := Lib.hid (heap_keep (allocB w34 (.cells #[.string ⟨#[]⟩, .string ⟨#[]⟩] 59 (0, 0))) Bp.out)
    replace Bb := Lib.hid (heap_keep (allocB w34 (.cells #[.string ⟨#[]⟩, .string ⟨#[]⟩] 59 (0, 0))) Bb.out)
    replace Br := Lib.hid (heap_keep (allocB w34 (.cells #[.string ⟨#[]⟩, .string ⟨#[]⟩] 59 (0, 0))) Br.out)
    have Bd := Lib.hid (heap_alloc_at w34 (.cells #[.string ⟨#[]⟩, .string ⟨#[]⟩] 59 (0, 0)))
    replace HB := Lib.hid (nxAlloc HB.out (.cells #[.string ⟨#[]⟩, .string ⟨#[]⟩] 59 (0, 0)))
    obtain ⟨fp1, fp2, fp3⟩ := two_facts Bp.out
    go_wp2_with fail
    refine (h4 _).mono ?_; rintro e w35 ⟨rfl, hb⟩
    clear fp1 fp2 fp3
    replace Bp := Lib.hid (heap_keep hb Bp.out)
    replace Bb := Lib.hid (heap_keep hb Bb.out)
    replace Br := Lib.hid (heap_keep hb Br.out)
    replace Bd := Lib.hid (heap_keep hb Bd.out)
    replace HB := Lib.hid (nx HB.out hb)
    clear hb
    clear h1 h2 h3 h4
    replace Bp := Lib.hid (heap_keep (allocB w35 (.cells #[.string ⟨#[]⟩, .string ⟨#[]⟩] 59 (0, 0))) Bp.out)
    replace Bb := Lib.hid (heap_keep (allocB w35 (.cells #[.string ⟨#[]⟩, .string ⟨#[]⟩] 59 (0, 0))) Bb.out)
    replace Br := Lib.hid (heap_keep (allocB w35 (.cells #[.string ⟨#[]⟩, .string ⟨#[]⟩] 59 (0, 0))) Br.out)
    replace Bd := Lib.hid (heap_keep (allocB w35 (.cells #[.string ⟨#[]⟩, .string ⟨#[]⟩] 59 (0, 0))) Bd.out)
    have Bw := Lib.hid (heap_alloc_at w35 (.cells #[.string ⟨#[]⟩, .string ⟨#[]⟩] 59 (0, 0)))
    replace HB := Lib.hid (nxAlloc HB.out (.cells #[.string ⟨#[]⟩, .string ⟨#[]⟩] 59 (0, 0)))
    obtain ⟨fp1, fp2, fp3⟩ := two_facts Bp.out
    obtain ⟨fb1, fb2, fb3⟩ := two_facts Bb.out
    obtain ⟨fr1, fr2, fr3⟩ := two_facts Br.out
    obtain ⟨fd1, fd2, fd3⟩ := two_facts Bd.out
    obtain ⟨fw1, fw2, fw3⟩ := two_facts Bw.out
    go_wp2_with fail
    refine (h5 _).mono ?_; rintro e w36 ⟨rfl, hb⟩
    clear fp1 fp2 fp3 fb1 fb2 fb3 fr1 fr2 fr3 fd1 fd2 fd3 fw1 fw2 fw3
    replace Bp := Lib.hid (heap_keep hb Bp.out)
    replace Bb := Lib.hid (heap_keep hb Bb.out)
    replace Br := Lib.hid (heap_keep hb Br.out)
    replace Bd := Lib.hid (heap_keep hb Bd.out)
    replace Bw := Lib.hid (heap_keep hb Bw.out)
    replace HB := Lib.hid (nx HB.out hb)
    clear hb
    clear h5
    go_wp2_with fail
    clear Bp
    clear Bb
    clear Br
    clear Bd
    clear Bw
    refine (drawExpandPair_any d _ (hd.keep HB.out)).mono ?_; rintro e w37 ⟨a, b, n, z1, z2, n1, n2, rfl, hb⟩
    replace HB := Lib.hid (nx HB.out hb)
    clear hb
    have Bq := Lib.hid (heap_alloc_at w37 (.cells #[.string a, .string b] 59 (0, 0)))
    replace HB := Lib.hid (nxAlloc HB.out (.cells #[.string a, .string b] 59 (0, 0)))
    have h1 := fun w => implExpandPair_any a b n w (by omega) (by omega) (by omega) (by omega)
    have h2 := fun w => specExpandPair_any a b n w (by omega) (by omega) (by omega) (by omega)
    obtain ⟨fq1, fq2, fq3⟩ := two_facts Bq.out
    go_wp2_with fail
    rcases expand_cases a b n with hno | ⟨p, l, rfl, rfl, hpo, hyes, hlo, hlb, hlr, hc8, hc9, hd8, hd9⟩
    · rw [hno] at h1 h2
      simp only [ansPr, pS1, pS2, Option.isSome_none] at h1 h2
      refine (h1 _).mono ?_; rintro e w38 ⟨rfl, hb⟩
      clear fq1 fq2 fq3
      replace Bq := Lib.hid (heap_keep hb Bq.out)
      replace HB := Lib.hid (nx HB.out hb)
      clear hb
      replace Bq := Lib.hid (heap_keep (allocB w38 (.cells #[.string ⟨#[]⟩, .string ⟨#[]⟩] 59 (0, 0))) Bq.out)
      have Bl := Lib.hid (heap_alloc_at w38 (.cells #[.string ⟨#[]⟩, .string ⟨#[]⟩] 59 (0, 0)))
      replace HB := Lib.hid (nxAlloc HB.out (.cells #[.string ⟨#[]⟩, .string ⟨#[]⟩] 59 (0, 0)))
      obtain ⟨fq1, fq2, fq3⟩ := two_facts Bq.out
      go_wp2_with fail
      refine (h2 _).mono ?_; rintro e w39 ⟨rfl, hb⟩
      clear fq1 fq2 fq3
      replace Bq := Lib.hid (heap_keep hb Bq.out)
      replace Bl := Lib.hid (heap_keep hb Bl.out)
      replace HB := Lib.hid (nx HB.out hb)
      clear hb
      clear h1 h2
      replace Bq := Lib.hid (heap_keep (allocB w39 (.cells #[.string ⟨#[]⟩, .string ⟨#[]⟩] 59 (0, 0))) Bq.out)
      replace Bl := Lib.hid (heap_keep (allocB w39 (.cells #[.string ⟨#[]⟩, .string ⟨#[]⟩] 59 (0, 0))) Bl.out)
      have Bm := Lib.hid (heap_alloc_at w39 (.cells #[.string ⟨#[]⟩, .string ⟨#[]⟩] 59 (0, 0)))
      replace HB := Lib.hid (nxAlloc HB.out (.cells #[.string ⟨#[]⟩, .string ⟨#[]⟩] 59 (0, 0)))
      obtain ⟨fl1, fl2, fl3⟩ := two_facts Bl.out
      obtain ⟨fm1, fm2, fm3⟩ := two_facts Bm.out
      go_wp2_with fail
      clear fl1 fl2 fl3 fm1 fm2 fm3
      clear Bq
      clear Bl
      clear Bm
      refine (drawAreSamePairs_any d _ (hd.keep HB.out)).mono ?_; rintro e w40 ⟨s1, t1, s2, t2, z1, z2, z3, z4, rfl, hb⟩
      replace HB := Lib.hid (nx HB.out hb)
      clear hb
      have BA := Lib.hid (heap_alloc_at w40 (.cells #[.string s1, .string t1] 59 (0, 0)))
      replace HB := Lib.hid (nxAlloc HB.out (.cells #[.string s1, .string t1] 59 (0, 0)))
      replace BA := Lib.hid (heap_keep (allocB (w40.alloc (.cells #[.string s1, .string t1] 59 (0, 0))) (.cells #[.string s2, .string t2] 59 (0, 0))) BA.out)
      have bC := heap_alloc_at (w40.alloc (.cells #[.string s1, .string t1] 59 (0, 0))) (.cells #[.string s2, .string t2] 59 (0, 0))
      rw [show (w40.alloc (.cells #[.string s1, .string t1] 59 (0, 0))).heap.size = w40.heap.size + 1 by simp] at bC
      have BC := Lib.hid bC
      clear bC
      replace HB := Lib.hid (nxAlloc HB.out (.cells #[.string s2, .string t2] 59 (0, 0)))
      have h1 := fun w => implAreSamePairs_any s1 t1 s2 t2 w (by omega) (by omega) (by omega) (by omega)
      have h2 := fun w => specAreSamePairs_any s1 t1 s2 t2 w (by omega) (by omega) (by omega) (by omega)
      simp only [ansB] at h1 h2
      generalize ((pairOf s1 t1).bind fun p => (pairOf s2 t2).bind fun q => some (sameB p q)) = o1 at *
      generalize (o1 == some true) = y1 at *
      generalize o1.isSome = y2 at *
      obtain ⟨fA1, fA2, fA3⟩ := two_facts BA.out
      obtain ⟨fC1, fC2, fC3⟩ := two_facts BC.out
      go_wp2_with fail
      refine (h1 _).mono ?_; rintro e w41 ⟨rfl, hb⟩
      clear fA1 fA2 fA3 fC1 fC2 fC3
      replace BA := Lib.hid (heap_keep hb BA.out)
      replace BC := Lib.hid (heap_keep hb BC.out)
      replace HB := Lib.hid (nx HB.out hb)
      clear hb
      obtain ⟨fA1, fA2, fA3⟩ := two_facts BA.out
      obtain ⟨fC1, fC2, fC3⟩ := two_facts BC.out
      go_wp2_with fail
      refine (h2 _).mono ?_; rintro e w42 ⟨rfl, hb⟩
      clear fA1 fA2 fA3 fC1 fC2 fC3
      replace BA := Lib.hid (heap_keep hb BA.out)
      replace BC := Lib.hid (heap_keep hb BC.out)
      replace HB := Lib.hid (nx HB.out hb)
      clear hb
      clear h1 h2
      go_wp2_with fail
      clear BA
      clear BC
      refine (drawIsReduced_any d _ (hd.keep HB.out)).mono ?_; rintro e w43 ⟨s3, t3, z5, z6, rfl, hb⟩
      replace HB := Lib.hid (nx HB.out hb)
      clear hb
      have BR := Lib.hid (heap_alloc_at w43 (.cells #[.string s3, .string t3] 59 (0, 0)))
      replace HB := Lib.hid (nxAlloc HB.out (.cells #[.string s3, .string t3] 59 (0, 0)))
      have h1 := fun w => implIsReduced_any s3 t3 w (by omega) (by omega)
      have h2 := fun w => specIsReduced_any s3 t3 w (by omega) (by omega)
      simp only [ansB] at h1 h2
      generalize ((pairOf s3 t3).bind fun p => some (both p).isEmpty) = o3 at *
      generalize (o3 == some true) = y3 at *
      generalize o3.isSome = y4 at *
      obtain ⟨fR1, fR2, fR3⟩ := two_facts BR.out
      go_wp2_with fail
      refine (h1 _).mono ?_; rintro e w44 ⟨rfl, hb⟩
      clear fR1 fR2 fR3
      replace BR := Lib.hid (heap_keep hb BR.out)
      replace HB := Lib.hid (nx HB.out hb)
      clear hb
      obtain ⟨fR1, fR2, fR3⟩ := two_facts BR.out
      go_wp2_with fail
      refine (h2 _).mono ?_; rintro e w45 ⟨rfl, hb⟩
      clear fR1 fR2 fR3
      replace BR := Lib.hid (heap_keep hb BR.out)
      replace HB := Lib.hid (nx HB.out hb)
      clear hb
      clear h1 h2
      go_wp2_with fail
      clear BR
      refine (drawParsePair_any c _ (hc.keep HB.out)).mono ?_; rintro e w46 ⟨z, hz, rfl, hb⟩
      replace HB := Lib.hid (nx HB.out hb)
      clear hb
      go_wp2_with fail
      have h1 := fun w => implParsePair_any z w (by omega)
      have h2 := fun w => specParsePair_any z w (by omega)
      rcases cut_cases z with hno | ⟨p, hyes, hpk, hpc, hpc2, hps⟩
      · rw [hno] at h1 h2
        simp only [ansPr, pS1, pS2, Option.isSome_none] at h1 h2
        refine (h1 _).mono ?_; rintro e w47 ⟨rfl, hb⟩
        replace HB := Lib.hid (nx HB.out hb)
        clear hb
        have BP := Lib.hid (heap_alloc_at w47 (.cells #[.string ⟨#[]⟩, .string ⟨#[]⟩] 59 (0, 0)))
        replace HB := Lib.hid (nxAlloc HB.out (.cells #[.string ⟨#[]⟩, .string ⟨#[]⟩] 59 (0, 0)))
        go_wp2_with fail
        refine (h2 _).mono ?_; rintro e w48 ⟨rfl, hb⟩
        replace BP := Lib.hid (heap_keep hb BP.out)
        replace HB := Lib.hid (nx HB.out hb)
        clear hb
        replace BP := Lib.hid (heap_keep (allocB w48 (.cells #[.string ⟨#[]⟩, .string ⟨#[]⟩] 59 (0, 0))) BP.out)
        have BQ := Lib.hid (heap_alloc_at w48 (.cells #[.string ⟨#[]⟩, .string ⟨#[]⟩] 59 (0, 0)))
        replace HB := Lib.hid (nxAlloc HB.out (.cells #[.string ⟨#[]⟩, .string ⟨#[]⟩] 59 (0, 0)))
        obtain ⟨fP1, fP2, fP3⟩ := two_facts BP.out
        obtain ⟨fQ1, fQ2, fQ3⟩ := two_facts BQ.out
        go_wp2_with fail
        go_ret
        exact ⟨by simp, HB.out⟩
      · rw [hyes] at h1 h2
        have hT := fun w => implPairText_any p.1.str p.2.str w (by have := p.1.str_size; omega) (by have := p.2.str_size; omega)
        rw [pairOf_str hpk hpc] at hT
        simp only [ansT, prT, Option.isSome_some] at hT
        rw [hps] at hT
        simp only [ansPr, pS1, pS2, Option.isSome_some] at h1 h2
        refine (h1 _).mono ?_; rintro e w49 ⟨rfl, hb⟩
        replace HB := Lib.hid (nx HB.out hb)
        clear hb
        have BP := Lib.hid (heap_alloc_at w49 (.cells #[.string p.1.str, .string p.2.str] 59 (0, 0)))
        replace HB := Lib.hid (nxAlloc HB.out (.cells #[.string p.1.str, .string p.2.str] 59 (0, 0)))
        go_wp2_with fail
        refine (h2 _).mono ?_; rintro e w50 ⟨rfl, hb⟩
        replace BP := Lib.hid (heap_keep hb BP.out)
        replace HB := Lib.hid (nx HB.out hb)
        clear hb
        replace BP := Lib.hid (heap_keep (allocB w50 (.cells #[.string p.1.str, .string p.2.str] 59 (0, 0))) BP.out)
        have BQ := Lib.hid (heap_alloc_at w50 (.cells #[.string p.1.str, .string p.2.str] 59 (0, 0)))
        replace HB := Lib.hid (nxAlloc HB.out (.cells #[.string p.1.str, .string p.2.str] 59 (0, 0)))
        obtain ⟨fP1, fP2, fP3⟩ := two_facts BP.out
        obtain ⟨fQ1, fQ2, fQ3⟩ := two_facts BQ.out
        go_wp2_with fail
        refine (hT _).mono ?_; rintro e w51 ⟨rfl, hb⟩
        clear fP1 fP2 fP3 fQ1 fQ2 fQ3
        replace BP := Lib.hid (heap_keep hb BP.out)
        replace BQ := Lib.hid (heap_keep hb BQ.out)
        replace HB := Lib.hid (nx HB.out hb)
        clear hb
        clear hT h1 h2
        go_wp2_with fail
        go_ret
        exact ⟨by simp, HB.out⟩
    · rw [hyes] at h1 h2
      have s1 := l.1.str_size
      have s2 := l.2.str_size
      have s3 := p.1.str_size
      have s4 := p.2.str_size
      have hI := fun w => implIsReduced_any l.1.str l.2.str w (by omega) (by omega)
      rw [hlo] at hI
      simp only [Option.bind_some, hlb, ansB_some] at hI
      have hS := fun w => sameMap_any p.1.str p.2.str l.1.str l.2.str w p l hpo hlo hlr.symm (by omega) (by omega) (by omega) (by omega)
      simp only [ansPr, pS1, pS2, Option.isSome_some] at h1 h2
      clear s1 s2 s3 s4 hlb hlr hlo
      generalize l.1.str = l1 at *
      generalize l.2.str = l2 at *
      refine (h1 _).mono ?_; rintro e w52 ⟨rfl, hb⟩
      clear fq1 fq2 fq3
      replace Bq := Lib.hid (heap_keep hb Bq.out)
      replace HB := Lib.hid (nx HB.out hb)
      clear hb
      replace Bq := Lib.hid (heap_keep (allocB w52 (.cells #[.string l1, .string l2] 59 (0, 0))) Bq.out)
      have Bl := Lib.hid (heap_alloc_at w52 (.cells #[.string l1, .string l2] 59 (0, 0)))
      replace HB := Lib.hid (nxAlloc HB.out (.cells #[.string l1, .string l2] 59 (0, 0)))
      obtain ⟨fq1, fq2, fq3⟩ := two_facts Bq.out
      go_wp2_with fail
      refine (h2 _).mono ?_; rintro e w53 ⟨rfl, hb⟩
      clear fq1 fq2 fq3
      replace Bq := Lib.hid (heap_keep hb Bq.out)
      replace Bl := Lib.hid (heap_keep hb Bl.out)
      replace HB := Lib.hid (nx HB.out hb)
      clear hb
      clear h1 h2
      replace Bq := Lib.hid (heap_keep (allocB w53 (.cells #[.string l1, .string l2] 59 (0, 0))) Bq.out)
      replace Bl := Lib.hid (heap_keep (allocB w53 (.cells #[.string l1, .string l2] 59 (0, 0))) Bl.out)
      have Bm := Lib.hid (heap_alloc_at w53 (.cells #[.string l1, .string l2] 59 (0, 0)))
      replace HB := Lib.hid (nxAlloc HB.out (.cells #[.string l1, .string l2] 59 (0, 0)))
      obtain ⟨fl1, fl2, fl3⟩ := two_facts Bl.out
      obtain ⟨fm1, fm2, fm3⟩ := two_facts Bm.out
      go_wp2_with fail
      refine (hI _).mono ?_; rintro e w54 ⟨rfl, hb⟩
      clear fl1 fl2 fl3 fm1 fm2 fm3
      replace Bq := Lib.hid (heap_keep hb Bq.out)
      replace Bl := Lib.hid (heap_keep hb Bl.out)
      replace Bm := Lib.hid (heap_keep hb Bm.out)
      replace HB := Lib.hid (nx HB.out hb)
      clear hb
      clear hI
      obtain ⟨fq1, fq2, fq3⟩ := two_facts Bq.out
      obtain ⟨fl1, fl2, fl3⟩ := two_facts Bl.out
      go_wp2_with fail
      refine (hS _).mono ?_; rintro e w55 ⟨rfl, hb⟩
      clear fq1 fq2 fq3 fl1 fl2 fl3
      replace Bq := Lib.hid (heap_keep hb Bq.out)
      replace Bl := Lib.hid (heap_keep hb Bl.out)
      replace Bm := Lib.hid (heap_keep hb Bm.out)
      replace HB := Lib.hid (nx HB.out hb)
      clear hb
      clear hS
      go_wp2_with fail
      clear Bq
      clear Bl
      clear Bm
      refine (drawAreSamePairs_any d _ (hd.keep HB.out)).mono ?_; rintro e w56 ⟨s1, t1, s2, t2, z1, z2, z3, z4, rfl, hb⟩
      replace HB := Lib.hid (nx HB.out hb)
      clear hb
      have BA := Lib.hid (heap_alloc_at w56 (.cells #[.string s1, .string t1] 59 (0, 0)))
      replace HB := Lib.hid (nxAlloc HB.out (.cells #[.string s1, .string t1] 59 (0, 0)))
      replace BA := Lib.hid (heap_keep (allocB (w56.alloc (.cells #[.string s1, .string t1] 59 (0, 0))) (.cells #[.string s2, .string t2] 59 (0, 0))) BA.out)
      have bC := heap_alloc_at (w56.alloc (.cells #[.string s1, .string t1] 59 (0, 0))) (.cells #[.string s2, .string t2] 59 (0, 0))
      rw [show (w56.alloc (.cells #[.string s1, .string t1] 59 (0, 0))).heap.size = w56.heap.size + 1 by simp] at bC
      have BC := Lib.hid bC
      clear bC
      replace HB := Lib.hid (nxAlloc HB.out (.cells #[.string s2, .string t2] 59 (0, 0)))
      have h1 := fun w => implAreSamePairs_any s1 t1 s2 t2 w (by omega) (by omega) (by omega) (by omega)
      have h2 := fun w => specAreSamePairs_any s1 t1 s2 t2 w (by omega) (by omega) (by omega) (by omega)
      simp only [ansB] at h1 h2
      generalize ((pairOf s1 t1).bind fun p => (pairOf s2 t2).bind fun q => some (sameB p q)) = o1 at *
      generalize (o1 == some true) = y1 at *
      generalize o1.isSome = y2 at *
      obtain ⟨fA1, fA2, fA3⟩ := two_facts BA.out
      obtain ⟨fC1, fC2, fC3⟩ := two_facts BC.out
      go_wp2_with fail
      refine (h1 _).mono ?_; rintro e w57 ⟨rfl, hb⟩
      clear fA1 fA2 fA3 fC1 fC2 fC3
      replace BA := Lib.hid (heap_keep hb BA.out)
      replace BC := Lib.hid (heap_keep hb BC.out)
      replace HB := Lib.hid (nx HB.out hb)
      clear hb
      obtain ⟨fA1, fA2, fA3⟩ := two_facts BA.out
      obtain ⟨fC1, fC2, fC3⟩ := two_facts BC.out
      go_wp2_with fail
      refine (h2 _).mono ?_; rintro e w58 ⟨rfl, hb⟩
      clear fA1 fA2 fA3 fC1 fC2 fC3
      replace BA := Lib.hid (heap_keep hb BA.out)
      replace BC := Lib.hid (heap_keep hb BC.out)
      replace HB := Lib.hid (nx HB.out hb)
      clear hb
      clear h1 h2
      go_wp2_with fail
      clear BA
      clear BC
      refine (drawIsReduced_any d _ (hd.keep HB.out)).mono ?_; rintro e w59 ⟨s3, t3, z5, z6, rfl, hb⟩
      replace HB := Lib.hid (nx HB.out hb)
      clear hb
      have BR := Lib.hid (heap_alloc_at w59 (.cells #[.string s3, .string t3] 59 (0, 0)))
      replace HB := Lib.hid (nxAlloc HB.out (.cells #[.string s3, .string t3] 59 (0, 0)))
      have h1 := fun w => implIsReduced_any s3 t3 w (by omega) (by omega)
      have h2 := fun w => specIsReduced_any s3 t3 w (by omega) (by omega)
      simp only [ansB] at h1 h2
      generalize ((pairOf s3 t3).bind fun p => some (both p).isEmpty) = o3 at *
      generalize (o3 == some true) = y3 at *
      generalize o3.isSome = y4 at *
      obtain ⟨fR1, fR2, fR3⟩ := two_facts BR.out
      go_wp2_with fail
      refine (h1 _).mono ?_; rintro e w60 ⟨rfl, hb⟩
      clear fR1 fR2 fR3
      replace BR := Lib.hid (heap_keep hb BR.out)
      replace HB := Lib.hid (nx HB.out hb)
      clear hb
      obtain ⟨fR1, fR2, fR3⟩ := two_facts BR.out
      go_wp2_with fail
      refine (h2 _).mono ?_; rintro e w61 ⟨rfl, hb⟩
      clear fR1 fR2 fR3
      replace BR := Lib.hid (heap_keep hb BR.out)
      replace HB := Lib.hid (nx HB.out hb)
      clear hb
      clear h1 h2
      go_wp2_with fail
      clear BR
      refine (drawParsePair_any c _ (hc.keep HB.out)).mono ?_; rintro e w62 ⟨z, hz, rfl, hb⟩
      replace HB := Lib.hid (nx HB.out hb)
      clear hb
      go_wp2_with fail
      have h1 := fun w => implParsePair_any z w (by omega)
      have h2 := fun w => specParsePair_any z w (by omega)
      rcases cut_cases z with hno | ⟨p, hyes, hpk, hpc, hpc2, hps⟩
      · rw [hno] at h1 h2
        simp only [ansPr, pS1, pS2, Option.isSome_none] at h1 h2
        refine (h1 _).mono ?_; rintro e w63 ⟨rfl, hb⟩
        replace HB := Lib.hid (nx HB.out hb)
        clear hb
        have BP := Lib.hid (heap_alloc_at w63 (.cells #[.string ⟨#[]⟩, .string ⟨#[]⟩] 59 (0, 0)))
        replace HB := Lib.hid (nxAlloc HB.out (.cells #[.string ⟨#[]⟩, .string ⟨#[]⟩] 59 (0, 0)))
        go_wp2_with fail
        refine (h2 _).mono ?_; rintro e w64 ⟨rfl, hb⟩
        replace BP := Lib.hid (heap_keep hb BP.out)
        replace HB := Lib.hid (nx HB.out hb)
        clear hb
        replace BP := Lib.hid (heap_keep (allocB w64 (.cells #[.string ⟨#[]⟩, .string ⟨#[]⟩] 59 (0, 0))) BP.out)
        have BQ := Lib.hid (heap_alloc_at w64 (.cells #[.string ⟨#[]⟩, .string ⟨#[]⟩] 59 (0, 0)))
        replace HB := Lib.hid (nxAlloc HB.out (.cells #[.string ⟨#[]⟩, .string ⟨#[]⟩] 59 (0, 0)))
        obtain ⟨fP1, fP2, fP3⟩ := two_facts BP.out
        obtain ⟨fQ1, fQ2, fQ3⟩ := two_facts BQ.out
        go_wp2_with fail
        go_ret
        exact ⟨by simp, HB.out⟩
      · rw [hyes] at h1 h2
        have hT := fun w => implPairText_any p.1.str p.2.str w (by have := p.1.str_size; omega) (by have := p.2.str_size; omega)
        rw [pairOf_str hpk hpc] at hT
        simp only [ansT, prT, Option.isSome_some] at hT
        rw [hps] at hT
        simp only [ansPr, pS1, pS2, Option.isSome_some] at h1 h2
        refine (h1 _).mono ?_; rintro e w65 ⟨rfl, hb⟩
        replace HB := Lib.hid (nx HB.out hb)
        clear hb
        have BP := Lib.hid (heap_alloc_at w65 (.cells #[.string p.1.str, .string p.2.str] 59 (0, 0)))
        replace HB := Lib.hid (nxAlloc HB.out (.cells #[.string p.1.str, .string p.2.str] 59 (0, 0)))
        go_wp2_with fail
        refine (h2 _).mono ?_; rintro e w66 ⟨rfl, hb⟩
        replace BP := Lib.hid (heap_keep hb BP.out)
        replace HB := Lib.hid (nx HB.out hb)
        clear hb
        replace BP := Lib.hid (heap_keep (allocB w66 (.cells #[.string p.1.str, .string p.2.str] 59 (0, 0))) BP.out)
        have BQ := Lib.hid (heap_alloc_at w66 (.cells #[.string p.1.str, .string p.2.str] 59 (0, 0)))
        replace HB := Lib.hid (nxAlloc HB.out (.cells #[.string p.1.str, .string p.2.str] 59 (0, 0)))
        obtain ⟨fP1, fP2, fP3⟩ := two_facts BP.out
        obtain ⟨fQ1, fQ2, fQ3⟩ := two_facts BQ.out
        go_wp2_with fail
        refine (hT _).mono ?_; rintro e w67 ⟨rfl, hb⟩
        clear fP1 fP2 fP3 fQ1 fQ2 fQ3
        replace BP := Lib.hid (heap_keep hb BP.out)
        replace BQ := Lib.hid (heap_keep hb BQ.out)
        replace HB := Lib.hid (nx HB.out hb)
        clear hb
        clear hT h1 h2
        go_wp2_with fail
        go_ret
        exact ⟨by simp, HB.out⟩
  | some p =>
    obtain ⟨rfl, rfl, hpk, hpc, hpc2⟩ := pairOf_some hpo
    have s1 := p.1.str_size
    have s2 := p.2.str_size
    have rc := redBy_carets p []
    have hrk : okP (red p) := red_ok hpk []
    have hro : pairOf (red p).1.str (red p).2.str = some (red p) := pairOf_str hrk (by show (redBy p []).1.carets ≤ 8; omega)
    have s3 := (red p).1.str_size
    have s4 := (red p).2.str_size
    have rc1 : (red p).1.carets ≤ p.1.carets := rc.1
    have rc2 : (red p).2.carets ≤ p.2.carets := rc.2.1
    have hI := fun w => implIsReduced_any (red p).1.str (red p).2.str w (by omega) (by omega)
    have hrb : both (red p) = [] := red_both p []
    rw [hro] at hI
    simp only [Option.bind_some, hrb, List.isEmpty_nil, ansB_some] at hI
    have hJ := fun w => implIsReduced_any p.1.str p.2.str w (by omega) (by omega)
    rw [hpo] at hJ
    simp only [Option.bind_some, ansB_some] at hJ
    have hS := fun w => sameMap_any p.1.str p.2.str (red p).1.str (red p).2.str w p (red p) hpo hro (red_red p).symm (by omega) (by omega) (by omega) (by omega)
    clear hro
    by_cases hirr : both p = []
    · rw [hirr] at hJ
      simp only [List.isEmpty_nil] at hJ
      replace hirr := (red_self p).2 hirr
      cases hch : choB L with
      | true =>
        simp only [redO, hpo, Option.bind_some, Option.isSome_some] at h1 h2 h3 h4 h5
        rw [if_pos hch] at h1 h2
        rw [redBy_uniq _ p L rfl] at h1 h2
        simp only [ansPr, pS1, pS2, Option.isSome_some] at h1 h2 h3 h4
        rw [hirr] at h1 h2 h3 h4 hI hrb hS
        clear hch hpo
        refine (h1 _ _ O.out).mono ?_; rintro e w68 ⟨rfl, hb⟩
        clear fp1 fp2 fp3
        replace Bp := Lib.hid (heap_keep hb Bp.out)
        replace O := Lib.hid (O.out.keep hb)
        replace HB := Lib.hid (nx HB.out hb)
        clear hb
        replace Bp := Lib.hid (heap_keep (allocB w68 (.cells #[.string p.1.str, .string p.2.str] 59 (0, 0))) Bp.out)
        replace O := Lib.hid (O.out.keep (allocB w68 (.cells #[.string p.1.str, .string p.2.str] 59 (0, 0))))
        have Bb := Lib.hid (heap_alloc_at w68 (.cells #[.string p.1.str, .string p.2.str] 59 (0, 0)))
        replace HB := Lib.hid (nxAlloc HB.out (.cells #[.string p.1.str, .string p.2.str] 59 (0, 0)))
        obtain ⟨fp1, fp2, fp3⟩ := two_facts Bp.out
        go_wp2_with fail
        refine (h2 _ _ O.out).mono ?_; rintro e w69 ⟨rfl, hb⟩
        clear fp1 fp2 fp3
        replace Bp := Lib.hid (heap_keep hb Bp.out)
        replace Bb := Lib.hid (heap_keep hb Bb.out)
        replace O := Lib.hid (O.out.keep hb)
        replace HB := Lib.hid (nx HB.out hb)
        clear hb
        replace Bp := Lib.hid (heap_keep (allocB w69 (.cells #[.string p.1.str, .string p.2.str] 59 (0, 0))) Bp.out)
        replace Bb := Lib.hid (heap_keep (allocB w69 (.cells #[.string p.1.str, .string p.2.str] 59 (0, 0))) Bb.out)
        replace O := Lib.hid (O.out.keep (allocB w69 (.cells #[.string p.1.str, .string p.2.str] 59 (0, 0))))
        have Br := Lib.hid (heap_alloc_at w69 (.cells #[.string p.1.str, .string p.2.str] 59 (0, 0)))
        replace HB := Lib.hid (nxAlloc HB.out (.cells #[.string p.1.str, .string p.2.str] 59 (0, 0)))
        obtain ⟨fp1, fp2, fp3⟩ := two_facts Bp.out
        go_wp2_with fail
        clear O
        refine (h3 _).mono ?_; rintro e w70 ⟨rfl, hb⟩
        clear fp1 fp2 fp3
        replace Bp := Lib.hid (heap_keep hb Bp.out)
        replace Bb := Lib.hid (heap_keep hb Bb.out)
        replace Br := Lib.hid (heap_keep hb Br.out)
        replace HB := Lib.hid (nx HB.out hb)
        clear hb
        replace Bp := Lib.hid (heap_keep (allocB w70 (.cells #[.string p.1.str, .string p.2.str] 59 (0, 0))) Bp.out)
        replace Bb := Lib.hid (heap_keep (allocB w70 (.cells #[.string p.1.str, .string p.2.str] 59 (0, 0))) Bb.out)
        replace Br := Lib.hid (heap_keep (allocB w70 (.cells #[.string p.1.str, .string p.2.str] 59 (0, 0))) Br.out)
        have Bd := Lib.hid (heap_alloc_at w70 (.cells #[.string p.1.str, .string p.2.str] 59 (0, 0)))
        replace HB := Lib.hid (nxAlloc HB.out (.cells #[.string p.1.str, .string p.2.str] 59 (0, 0)))
        obtain ⟨fp1, fp2, fp3⟩ := two_facts Bp.out
        go_wp2_with fail
        refine (h4 _).mono ?_; rintro e w71 ⟨rfl, hb⟩
        clear fp1 fp2 fp3
        replace Bp := Lib.hid (heap_keep hb Bp.out)
        replace Bb := Lib.hid (heap_keep hb Bb.out)
        replace Br := Lib.hid (heap_keep hb Br.out)
        replace Bd := Lib.hid (heap_keep hb Bd.out)
        replace HB := Lib.hid (nx HB.out hb)
        clear hb
        clear h1 h2 h3 h4
        replace Bp := Lib.hid (heap_keep (allocB w71 (.cells #[.string p.1.str, .string p.2.str] 59 (0, 0))) Bp.out)
        replace Bb := Lib.hid (heap_keep (allocB w71 (.cells #[.string p.1.str, .string p.2.str] 59 (0, 0))) Bb.out)
        replace Br := Lib.hid (heap_keep (allocB w71 (.cells #[.string p.1.str, .string p.2.str] 59 (0, 0))) Br.out)
        replace Bd := Lib.hid (heap_keep (allocB w71 (.cells #[.string p.1.str, .string p.2.str] 59 (0, 0))) Bd.out)
        have Bw := Lib.hid (heap_alloc_at w71 (.cells #[.string p.1.str, .string p.2.str] 59 (0, 0)))
        replace HB := Lib.hid (nxAlloc HB.out (.cells #[.string p.1.str, .string p.2.str] 59 (0, 0)))
        obtain ⟨fp1, fp2, fp3⟩ := two_facts Bp.out
        obtain ⟨fb1, fb2, fb3⟩ := two_facts Bb.out
        obtain ⟨fr1, fr2, fr3⟩ := two_facts Br.out
        obtain ⟨fd1, fd2, fd3⟩ := two_facts Bd.out
        obtain ⟨fw1, fw2, fw3⟩ := two_facts Bw.out
        go_wp2_with fail
        refine (h5 _).mono ?_; rintro e w72 ⟨rfl, hb⟩
        clear fp1 fp2 fp3 fb1 fb2 fb3 fr1 fr2 fr3 fd1 fd2 fd3 fw1 fw2 fw3
        replace Bp := Lib.hid (heap_keep hb Bp.out)
        replace Bb := Lib.hid (heap_keep hb Bb.out)
        replace Br := Lib.hid (heap_keep hb Br.out)
        replace Bd := Lib.hid (heap_keep hb Bd.out)
        replace Bw := Lib.hid (heap_keep hb Bw.out)
        replace HB := Lib.hid (nx HB.out hb)
        clear hb
        clear h5
        obtain ⟨fd1, fd2, fd3⟩ := two_facts Bd.out
        obtain ⟨fp1, fp2, fp3⟩ := two_facts Bp.out
        go_wp2_with fail
        refine (hI _).mono ?_; rintro e w73 ⟨rfl, hb⟩
        clear fd1 fd2 fd3 fp1 fp2 fp3
        replace Bp := Lib.hid (heap_keep hb Bp.out)
        replace Bb := Lib.hid (heap_keep hb Bb.out)
        replace Br := Lib.hid (heap_keep hb Br.out)
        replace Bd := Lib.hid (heap_keep hb Bd.out)
        replace Bw := Lib.hid (heap_keep hb Bw.out)
        replace HB := Lib.hid (nx HB.out hb)
        clear hb
        obtain ⟨fp1, fp2, fp3⟩ := two_facts Bp.out
        go_wp2_with fail
        refine (hJ _).mono ?_; rintro e w74 ⟨rfl, hb⟩
        clear fp1 fp2 fp3
        replace Bp := Lib.hid (heap_keep hb Bp.out)
        replace Bb := Lib.hid (heap_keep hb Bb.out)
        replace Br := Lib.hid (heap_keep hb Br.out)
        replace Bd := Lib.hid (heap_keep hb Bd.out)
        replace Bw := Lib.hid (heap_keep hb Bw.out)
        replace HB := Lib.hid (nx HB.out hb)
        clear hb
        obtain ⟨fp1, fp2, fp3⟩ := two_facts Bp.out
        obtain ⟨fd1, fd2, fd3⟩ := two_facts Bd.out
        go_wp2_with fail
        refine (hS _).mono ?_; rintro e w75 ⟨rfl, hb⟩
        clear fp1 fp2 fp3 fd1 fd2 fd3
        replace Bp := Lib.hid (heap_keep hb Bp.out)
        replace Bb := Lib.hid (heap_keep hb Bb.out)
        replace Br := Lib.hid (heap_keep hb Br.out)
        replace Bd := Lib.hid (heap_keep hb Bd.out)
        replace Bw := Lib.hid (heap_keep hb Bw.out)
        replace HB := Lib.hid (nx HB.out hb)
        clear hb
        clear hI hJ hS
        go_wp2_with fail
        clear Bp
        clear Bb
        clear Br
        clear Bd
        clear Bw
        refine (drawExpandPair_any d _ (hd.keep HB.out)).mono ?_; rintro e w76 ⟨a, b, n, z1, z2, n1, n2, rfl, hb⟩
        replace HB := Lib.hid (nx HB.out hb)
        clear hb
        have Bq := Lib.hid (heap_alloc_at w76 (.cells #[.string a, .string b] 59 (0, 0)))
        replace HB := Lib.hid (nxAlloc HB.out (.cells #[.string a, .string b] 59 (0, 0)))
        have h1 := fun w => implExpandPair_any a b n w (by omega) (by omega) (by omega) (by omega)
        have h2 := fun w => specExpandPair_any a b n w (by omega) (by omega) (by omega) (by omega)
        obtain ⟨fq1, fq2, fq3⟩ := two_facts Bq.out
        go_wp2_with fail
        rcases expand_cases a b n with hno | ⟨p, l, rfl, rfl, hpo, hyes, hlo, hlb, hlr, hc8, hc9, hd8, hd9⟩
        · rw [hno] at h1 h2
          simp only [ansPr, pS1, pS2, Option.isSome_none] at h1 h2
          refine (h1 _).mono ?_; rintro e w77 ⟨rfl, hb⟩
          clear fq1 fq2 fq3
          replace Bq := Lib.hid (heap_keep hb Bq.out)
          replace HB := Lib.hid (nx HB.out hb)
          clear hb
          replace Bq := Lib.hid (heap_keep (allocB w77 (.cells #[.string ⟨#[]⟩, .string ⟨#[]⟩] 59 (0, 0))) Bq.out)
          have Bl := Lib.hid (heap_alloc_at w77 (.cells #[.string ⟨#[]⟩, .string ⟨#[]⟩] 59 (0, 0)))
          replace HB := Lib.hid (nxAlloc HB.out (.cells #[.string ⟨#[]⟩, .string ⟨#[]⟩] 59 (0, 0)))
          obtain ⟨fq1, fq2, fq3⟩ := two_facts Bq.out
          go_wp2_with fail
          refine (h2 _).mono ?_; rintro e w78 ⟨rfl, hb⟩
          clear fq1 fq2 fq3
          replace Bq := Lib.hid (heap_keep hb Bq.out)
          replace Bl := Lib.hid (heap_keep hb Bl.out)
          replace HB := Lib.hid (nx HB.out hb)
          clear hb
          clear h1 h2
          replace Bq := Lib.hid (heap_keep (allocB w78 (.cells #[.string ⟨#[]⟩, .string ⟨#[]⟩] 59 (0, 0))) Bq.out)
          replace Bl := Lib.hid (heap_keep (allocB w78 (.cells #[.string ⟨#[]⟩, .string ⟨#[]⟩] 59 (0, 0))) Bl.out)
          have Bm := Lib.hid (heap_alloc_at w78 (.cells #[.string ⟨#[]⟩, .string ⟨#[]⟩] 59 (0, 0)))
          replace HB := Lib.hid (nxAlloc HB.out (.cells #[.string ⟨#[]⟩, .string ⟨#[]⟩] 59 (0, 0)))
          obtain ⟨fl1, fl2, fl3⟩ := two_facts Bl.out
          obtain ⟨fm1, fm2, fm3⟩ := two_facts Bm.out
          go_wp2_with fail
          clear fl1 fl2 fl3 fm1 fm2 fm3
          clear Bq
          clear Bl
          clear Bm
          refine (drawAreSamePairs_any d _ (hd.keep HB.out)).mono ?_; rintro e w79 ⟨s1, t1, s2, t2, z1, z2, z3, z4, rfl, hb⟩
          replace HB := Lib.hid (nx HB.out hb)
          clear hb
          have BA := Lib.hid (heap_alloc_at w79 (.cells #[.string s1, .string t1] 59 (0, 0)))
          replace HB := Lib.hid (nxAlloc HB.out (.cells #[.string s1, .string t1] 59 (0, 0)))
          replace BA := Lib.hid (heap_keep (allocB (w79.alloc (.cells #[.string s1, .string t1] 59 (0, 0))) (.cells #[.string s2, .string t2] 59 (0, 0))) BA.out)
          have bC := heap_alloc_at (w79.alloc (.cells #[.string s1, .string t1] 59 (0, 0))) (.cells #[.string s2, .string t2] 59 (0, 0))
          rw [show (w79.alloc (.cells #[.string s1, .string t1] 59 (0, 0))).heap.size = w79.heap.size + 1 by simp] at bC
          have BC := Lib.hid bC
          clear bC
          replace HB := Lib.hid (nxAlloc HB.out (.cells #[.string s2, .string t2] 59 (0, 0)))
          have h1 := fun w => implAreSamePairs_any s1 t1 s2 t2 w (by omega) (by omega) (by omega) (by omega)
          have h2 := fun w => specAreSamePairs_any s1 t1 s2 t2 w (by omega) (by omega) (by omega) (by omega)
          simp only [ansB] at h1 h2
          generalize ((pairOf s1 t1).bind fun p => (pairOf s2 t2).bind fun q => some (sameB p q)) = o1 at *
          generalize (o1 == some true) = y1 at *
          generalize o1.isSome = y2 at *
          obtain ⟨fA1, fA2, fA3⟩ := two_facts BA.out
          obtain ⟨fC1, fC2, fC3⟩ := two_facts BC.out
          go_wp2_with fail
          refine (h1 _).mono ?_; rintro e w80 ⟨rfl, hb⟩
          clear fA1 fA2 fA3 fC1 fC2 fC3
          replace BA := Lib.hid (heap_keep hb BA.out)
          replace BC := Lib.hid (heap_keep hb BC.out)
          replace HB := Lib.hid (nx HB.out hb)
          clear hb
          obtain ⟨fA1, fA2, fA3⟩ := two_facts BA.out
          obtain ⟨fC1, fC2, fC3⟩ := two_facts BC.out
          go_wp2_with fail
          refine (h2 _).mono ?_; rintro e w81 ⟨rfl, hb⟩
          clear fA1 fA2 fA3 fC1 fC2 fC3
          replace BA := Lib.hid (heap_keep hb BA.out)
          replace BC := Lib.hid (heap_keep hb BC.out)
          replace HB := Lib.hid (nx HB.out hb)
          clear hb
          clear h1 h2
          go_wp2_with fail
          clear BA
          clear BC
          refine (drawIsReduced_any d _ (hd.keep HB.out)).mono ?_; rintro e w82 ⟨s3, t3, z5, z6, rfl, hb⟩
          replace HB := Lib.hid (nx HB.out hb)
          clear hb
          have BR := Lib.hid (heap_alloc_at w82 (.cells #[.string s3, .string t3] 59 (0, 0)))
          replace HB := Lib.hid (nxAlloc HB.out (.cells #[.string s3, .string t3] 59 (0, 0)))
          have h1 := fun w => implIsReduced_any s3 t3 w (by omega) (by omega)
          have h2 := fun w => specIsReduced_any s3 t3 w (by omega) (by omega)
          simp only [ansB] at h1 h2
          generalize ((pairOf s3 t3).bind fun p => some (both p).isEmpty) = o3 at *
          generalize (o3 == some true) = y3 at *
          generalize o3.isSome = y4 at *
          obtain ⟨fR1, fR2, fR3⟩ := two_facts BR.out
          go_wp2_with fail
          refine (h1 _).mono ?_; rintro e w83 ⟨rfl, hb⟩
          clear fR1 fR2 fR3
          replace BR := Lib.hid (heap_keep hb BR.out)
          replace HB := Lib.hid (nx HB.out hb)
          clear hb
          obtain ⟨fR1, fR2, fR3⟩ := two_facts BR.out
          go_wp2_with fail
          refine (h2 _).mono ?_; rintro e w84 ⟨rfl, hb⟩
          clear fR1 fR2 fR3
          replace BR := Lib.hid (heap_keep hb BR.out)
          replace HB := Lib.hid (nx HB.out hb)
          clear hb
          clear h1 h2
          go_wp2_with fail
          clear BR
          refine (drawParsePair_any c _ (hc.keep HB.out)).mono ?_; rintro e w85 ⟨z, hz, rfl, hb⟩
          replace HB := Lib.hid (nx HB.out hb)
          clear hb
          go_wp2_with fail
          have h1 := fun w => implParsePair_any z w (by omega)
          have h2 := fun w => specParsePair_any z w (by omega)
          rcases cut_cases z with hno | ⟨p, hyes, hpk, hpc, hpc2, hps⟩
          · rw [hno] at h1 h2
            simp only [ansPr, pS1, pS2, Option.isSome_none] at h1 h2
            refine (h1 _).mono ?_; rintro e w86 ⟨rfl, hb⟩
            replace HB := Lib.hid (nx HB.out hb)
            clear hb
            have BP := Lib.hid (heap_alloc_at w86 (.cells #[.string ⟨#[]⟩, .string ⟨#[]⟩] 59 (0, 0)))
            replace HB := Lib.hid (nxAlloc HB.out (.cells #[.string ⟨#[]⟩, .string ⟨#[]⟩] 59 (0, 0)))
            go_wp2_with fail
            refine (h2 _).mono ?_; rintro e w87 ⟨rfl, hb⟩
            replace BP := Lib.hid (heap_keep hb BP.out)
            replace HB := Lib.hid (nx HB.out hb)
            clear hb
            replace BP := Lib.hid (heap_keep (allocB w87 (.cells #[.string ⟨#[]⟩, .string ⟨#[]⟩] 59 (0, 0))) BP.out)
            have BQ := Lib.hid (heap_alloc_at w87 (.cells #[.string ⟨#[]⟩, .string ⟨#[]⟩] 59 (0, 0)))
            replace HB := Lib.hid (nxAlloc HB.out (.cells #[.string ⟨#[]⟩, .string ⟨#[]⟩] 59 (0, 0)))
            obtain ⟨fP1, fP2, fP3⟩ := two_facts BP.out
            obtain ⟨fQ1, fQ2, fQ3⟩ := two_facts BQ.out
            go_wp2_with fail
            go_ret
            exact ⟨by simp, HB.out⟩
          · rw [hyes] at h1 h2
            have hT := fun w => implPairText_any p.1.str p.2.str w (by have := p.1.str_size; omega) (by have := p.2.str_size; omega)
            rw [pairOf_str hpk hpc] at hT
            simp only [ansT, prT, Option.isSome_some] at hT
            rw [hps] at hT
            simp only [ansPr, pS1, pS2, Option.isSome_some] at h1 h2
            refine (h1 _).mono ?_; rintro e w88 ⟨rfl, hb⟩
            replace HB := Lib.hid (nx HB.out hb)
            clear hb
            have BP := Lib.hid (heap_alloc_at w88 (.cells #[.string p.1.str, .string p.2.str] 59 (0, 0)))
            replace HB := Lib.hid (nxAlloc HB.out (.cells #[.string p.1.str, .string p.2.str] 59 (0, 0)))
            go_wp2_with fail
            refine (h2 _).mono ?_; rintro e w89 ⟨rfl, hb⟩
            replace BP := Lib.hid (heap_keep hb BP.out)
            replace HB := Lib.hid (nx HB.out hb)
            clear hb
            replace BP := Lib.hid (heap_keep (allocB w89 (.cells #[.string p.1.str, .string p.2.str] 59 (0, 0))) BP.out)
            have BQ := Lib.hid (heap_alloc_at w89 (.cells #[.string p.1.str, .string p.2.str] 59 (0, 0)))
            replace HB := Lib.hid (nxAlloc HB.out (.cells #[.string p.1.str, .string p.2.str] 59 (0, 0)))
            obtain ⟨fP1, fP2, fP3⟩ := two_facts BP.out
            obtain ⟨fQ1, fQ2, fQ3⟩ := two_facts BQ.out
            go_wp2_with fail
            refine (hT _).mono ?_; rintro e w90 ⟨rfl, hb⟩
            clear fP1 fP2 fP3 fQ1 fQ2 fQ3
            replace BP := Lib.hid (heap_keep hb BP.out)
            replace BQ := Lib.hid (heap_keep hb BQ.out)
            replace HB := Lib.hid (nx HB.out hb)
            clear hb
            clear hT h1 h2
            go_wp2_with fail
            go_ret
            exact ⟨by simp, HB.out⟩
        · rw [hyes] at h1 h2
          have s1 := l.1.str_size
          have s2 := l.2.str_size
          have s3 := p.1.str_size
          have s4 := p.2.str_size
          have hI := fun w => implIsReduced_any l.1.str l.2.str w (by omega) (by omega)
          rw [hlo] at hI
          simp only [Option.bind_some, hlb, ansB_some] at hI
          have hS := fun w => sameMap_any p.1.str p.2.str l.1.str l.2.str w p l hpo hlo hlr.symm (by omega) (by omega) (by omega) (by omega)
          simp only [ansPr, pS1, pS2, Option.isSome_some] at h1 h2
          clear s1 s2 s3 s4 hlb hlr hlo
          generalize l.1.str = l1 at *
          generalize l.2.str = l2 at *
          refine (h1 _).mono ?_; rintro e w91 ⟨rfl, hb⟩
          clear fq1 fq2 fq3
          replace Bq := Lib.hid (heap_keep hb Bq.out)
          replace HB := Lib.hid (nx HB.out hb)
          clear hb
          replace Bq := Lib.hid (heap_keep (allocB w91 (.cells #[.string l1, .string l2] 59 (0, 0))) Bq.out)
          have Bl := Lib.hid (heap_alloc_at w91 (.cells #[.string l1, .string l2] 59 (0, 0)))
          replace HB := Lib.hid (nxAlloc HB.out (.cells #[.string l1, .string l2] 59 (0, 0)))
          obtain ⟨fq1, fq2, fq3⟩ := two_facts Bq.out
          go_wp2_with fail
          refine (h2 _).mono ?_; rintro e w92 ⟨rfl, hb⟩
          clear fq1 fq2 fq3
          replace Bq := Lib.hid (heap_keep hb Bq.out)
          replace Bl := Lib.hid (heap_keep hb Bl.out)
          replace HB := Lib.hid (nx HB.out hb)
          clear hb
          clear h1 h2
          replace Bq := Lib.hid (heap_keep (allocB w92 (.cells #[.string l1, .string l2] 59 (0, 0))) Bq.out)
          replace Bl := Lib.hid (heap_keep (allocB w92 (.cells #[.string l1, .string l2] 59 (0, 0))) Bl.out)
          have Bm := Lib.hid (heap_alloc_at w92 (.cells #[.string l1, .string l2] 59 (0, 0)))
          replace HB := Lib.hid (nxAlloc HB.out (.cells #[.string l1, .string l2] 59 (0, 0)))
          obtain ⟨fl1, fl2, fl3⟩ := two_facts Bl.out
          obtain ⟨fm1, fm2, fm3⟩ := two_facts Bm.out
          go_wp2_with fail
          refine (hI _).mono ?_; rintro e w93 ⟨rfl, hb⟩
          clear fl1 fl2 fl3 fm1 fm2 fm3
          replace Bq := Lib.hid (heap_keep hb Bq.out)
          replace Bl := Lib.hid (heap_keep hb Bl.out)
          replace Bm := Lib.hid (heap_keep hb Bm.out)
          replace HB := Lib.hid (nx HB.out hb)
          clear hb
          clear hI
          obtain ⟨fq1, fq2, fq3⟩ := two_facts Bq.out
          obtain ⟨fl1, fl2, fl3⟩ := two_facts Bl.out
          go_wp2_with fail
          refine (hS _).mono ?_; rintro e w94 ⟨rfl, hb⟩
          clear fq1 fq2 fq3 fl1 fl2 fl3
          replace Bq := Lib.hid (heap_keep hb Bq.out)
          replace Bl := Lib.hid (heap_keep hb Bl.out)
          replace Bm := Lib.hid (heap_keep hb Bm.out)
          replace HB := Lib.hid (nx HB.out hb)
          clear hb
          clear hS
          go_wp2_with fail
          clear Bq
          clear Bl
          clear Bm
          refine (drawAreSamePairs_any d _ (hd.keep HB.out)).mono ?_; rintro e w95 ⟨s1, t1, s2, t2, z1, z2, z3, z4, rfl, hb⟩
          replace HB := Lib.hid (nx HB.out hb)
          clear hb
          have BA := Lib.hid (heap_alloc_at w95 (.cells #[.string s1, .string t1] 59 (0, 0)))
          replace HB := Lib.hid (nxAlloc HB.out (.cells #[.string s1, .string t1] 59 (0, 0)))
          replace BA := Lib.hid (heap_keep (allocB (w95.alloc (.cells #[.string s1, .string t1] 59 (0, 0))) (.cells #[.string s2, .string t2] 59 (0, 0))) BA.out)
          have bC := heap_alloc_at (w95.alloc (.cells #[.string s1, .string t1] 59 (0, 0))) (.cells #[.string s2, .string t2] 59 (0, 0))
          rw [show (w95.alloc (.cells #[.string s1, .string t1] 59 (0, 0))).heap.size = w95.heap.size + 1 by simp] at bC
          have BC := Lib.hid bC
          clear bC
          replace HB := Lib.hid (nxAlloc HB.out (.cells #[.string s2, .string t2] 59 (0, 0)))
          have h1 := fun w => implAreSamePairs_any s1 t1 s2 t2 w (by omega) (by omega) (by omega) (by omega)
          have h2 := fun w => specAreSamePairs_any s1 t1 s2 t2 w (by omega) (by omega) (by omega) (by omega)
          simp only [ansB] at h1 h2
          generalize ((pairOf s1 t1).bind fun p => (pairOf s2 t2).bind fun q => some (sameB p q)) = o1 at *
          generalize (o1 == some true) = y1 at *
          generalize o1.isSome = y2 at *
          obtain ⟨fA1, fA2, fA3⟩ := two_facts BA.out
          obtain ⟨fC1, fC2, fC3⟩ := two_facts BC.out
          go_wp2_with fail
          refine (h1 _).mono ?_; rintro e w96 ⟨rfl, hb⟩
          clear fA1 fA2 fA3 fC1 fC2 fC3
          replace BA := Lib.hid (heap_keep hb BA.out)
          replace BC := Lib.hid (heap_keep hb BC.out)
          replace HB := Lib.hid (nx HB.out hb)
          clear hb
          obtain ⟨fA1, fA2, fA3⟩ := two_facts BA.out
          obtain ⟨fC1, fC2, fC3⟩ := two_facts BC.out
          go_wp2_with fail
          refine (h2 _).mono ?_; rintro e w97 ⟨rfl, hb⟩
          clear fA1 fA2 fA3 fC1 fC2 fC3
          replace BA := Lib.hid (heap_keep hb BA.out)
          replace BC := Lib.hid (heap_keep hb BC.out)
          replace HB := Lib.hid (nx HB.out hb)
          clear hb
          clear h1 h2
          go_wp2_with fail
          clear BA
          clear BC
          refine (drawIsReduced_any d _ (hd.keep HB.out)).mono ?_; rintro e w98 ⟨s3, t3, z5, z6, rfl, hb⟩
          replace HB := Lib.hid (nx HB.out hb)
          clear hb
          have BR := Lib.hid (heap_alloc_at w98 (.cells #[.string s3, .string t3] 59 (0, 0)))
          replace HB := Lib.hid (nxAlloc HB.out (.cells #[.string s3, .string t3] 59 (0, 0)))
          have h1 := fun w => implIsReduced_any s3 t3 w (by omega) (by omega)
          have h2 := fun w => specIsReduced_any s3 t3 w (by omega) (by omega)
          simp only [ansB] at h1 h2
          generalize ((pairOf s3 t3).bind fun p => some (both p).isEmpty) = o3 at *
          generalize (o3 == some true) = y3 at *
          generalize o3.isSome = y4 at *
          obtain ⟨fR1, fR2, fR3⟩ := two_facts BR.out
          go_wp2_with fail
          refine (h1 _).mono ?_; rintro e w99 ⟨rfl, hb⟩
          clear fR1 fR2 fR3
          replace BR := Lib.hid (heap_keep hb BR.out)
          replace HB := Lib.hid (nx HB.out hb)
          clear hb
          obtain ⟨fR1, fR2, fR3⟩ := two_facts BR.out
          go_wp2_with fail
          refine (h2 _).mono ?_; rintro e w100 ⟨rfl, hb⟩
          clear fR1 fR2 fR3
          replace BR := Lib.hid (heap_keep hb BR.out)
          replace HB := Lib.hid (nx HB.out hb)
          clear hb
          clear h1 h2
          go_wp2_with fail
          clear BR
          refine (drawParsePair_any c _ (hc.keep HB.out)).mono ?_; rintro e w101 ⟨z, hz, rfl, hb⟩
          replace HB := Lib.hid (nx HB.out hb)
          clear hb
          go_wp2_with fail
          have h1 := fun w => implParsePair_any z w (by omega)
          have h2 := fun w => specParsePair_any z w (by omega)
          rcases cut_cases z with hno | ⟨p, hyes, hpk, hpc, hpc2, hps⟩
          · rw [hno] at h1 h2
            simp only [ansPr, pS1, pS2, Option.isSome_none] at h1 h2
            refine (h1 _).mono ?_; rintro e w102 ⟨rfl, hb⟩
            replace HB := Lib.hid (nx HB.out hb)
            clear hb
            have BP := Lib.hid (heap_alloc_at w102 (.cells #[.string ⟨#[]⟩, .string ⟨#[]⟩] 59 (0, 0)))
            replace HB := Lib.hid (nxAlloc HB.out (.cells #[.string ⟨#[]⟩, .string ⟨#[]⟩] 59 (0, 0)))
            go_wp2_with fail
            refine (h2 _).mono ?_; rintro e w103 ⟨rfl, hb⟩
            replace BP := Lib.hid (heap_keep hb BP.out)
            replace HB := Lib.hid (nx HB.out hb)
            clear hb
            replace BP := Lib.hid (heap_keep (allocB w103 (.cells #[.string ⟨#[]⟩, .string ⟨#[]⟩] 59 (0, 0))) BP.out)
            have BQ := Lib.hid (heap_alloc_at w103 (.cells #[.string ⟨#[]⟩, .string ⟨#[]⟩] 59 (0, 0)))
            replace HB := Lib.hid (nxAlloc HB.out (.cells #[.string ⟨#[]⟩, .string ⟨#[]⟩] 59 (0, 0)))
            obtain ⟨fP1, fP2, fP3⟩ := two_facts BP.out
            obtain ⟨fQ1, fQ2, fQ3⟩ := two_facts BQ.out
            go_wp2_with fail
            go_ret
            exact ⟨by simp, HB.out⟩
          · rw [hyes] at h1 h2
            have hT := fun w => implPairText_any p.1.str p.2.str w (by have := p.1.str_size; omega) (by have := p.2.str_size; omega)
            rw [pairOf_str hpk hpc] at hT
            simp only [ansT, prT, Option.isSome_some] at hT
            rw [hps] at hT
            simp only [ansPr, pS1, pS2, Option.isSome_some] at h1 h2
            refine (h1 _).mono ?_; rintro e w104 ⟨rfl, hb⟩
            replace HB := Lib.hid (nx HB.out hb)
            clear hb
            have BP := Lib.hid (heap_alloc_at w104 (.cells #[.string p.1.str, .string p.2.str] 59 (0, 0)))
            replace HB := Lib.hid (nxAlloc HB.out (.cells #[.string p.1.str, .string p.2.str] 59 (0, 0)))
            go_wp2_with fail
            refine (h2 _).mono ?_; rintro e w105 ⟨rfl, hb⟩
            replace BP := Lib.hid (heap_keep hb BP.out)
            replace HB := Lib.hid (nx HB.out hb)
            clear hb
            replace BP := Lib.hid (heap_keep (allocB w105 (.cells #[.string p.1.str, .string p.2.str] 59 (0, 0))) BP.out)
            have BQ := Lib.hid (heap_alloc_at w105 (.cells #[.string p.1.str, .string p.2.str] 59 (0, 0)))
            replace HB := Lib.hid (nxAlloc HB.out (.cells #[.string p.1.str, .string p.2.str] 59 (0, 0)))
            obtain ⟨fP1, fP2, fP3⟩ := two_facts BP.out
            obtain ⟨fQ1, fQ2, fQ3⟩ := two_facts BQ.out
            go_wp2_with fail
            refine (hT _).mono ?_; rintro e w106 ⟨rfl, hb⟩
            clear fP1 fP2 fP3 fQ1 fQ2 fQ3
            replace BP := Lib.hid (heap_keep hb BP.out)
            replace BQ := Lib.hid (heap_keep hb BQ.out)
            replace HB := Lib.hid (nx HB.out hb)
            clear hb
            clear hT h1 h2
            go_wp2_with fail
            go_ret
            exact ⟨by simp, HB.out⟩
      | false =>
        simp only [redO, hpo, Option.bind_some, Option.isSome_some] at h1 h2 h3 h4 h5
        rw [if_neg (by simp [hch])] at h1 h2
        simp only [ansPr, pS1, pS2, Option.isSome_some, Option.isSome_none] at h1 h2 h3 h4
        rw [hirr] at h3 h4 hI hrb hS
        clear hch hpo
        refine (h1 _ _ O.out).mono ?_; rintro e w107 ⟨rfl, hb⟩
        clear fp1 fp2 fp3
        replace Bp := Lib.hid (heap_keep hb Bp.out)
        replace O := Lib.hid (O.out.keep hb)
        replace HB := Lib.hid (nx HB.out hb)
        clear hb
        replace Bp := Lib.hid (heap_keep (allocB w107 (.cells #[.string ⟨#[]⟩, .string ⟨#[]⟩] 59 (0, 0))) Bp.out)
        replace O := Lib.hid (O.out.keep (allocB w107 (.cells #[.string ⟨#[]⟩, .string ⟨#[]⟩] 59 (0, 0))))
        have Bb := Lib.hid (heap_alloc_at w107 (.cells #[.string ⟨#[]⟩, .string ⟨#[]⟩] 59 (0, 0)))
        replace HB := Lib.hid (nxAlloc HB.out (.cells #[.string ⟨#[]⟩, .string ⟨#[]⟩] 59 (0, 0)))
        obtain ⟨fp1, fp2, fp3⟩ := two_facts Bp.out
        go_wp2_with fail
        refine (h2 _ _ O.out).mono ?_; rintro e w108 ⟨rfl, hb⟩
        clear fp1 fp2 fp3
        replace Bp := Lib.hid (heap_keep hb Bp.out)
        replace Bb := Lib.hid (heap_keep hb Bb.out)
        replace O := Lib.hid (O.out.keep hb)
        replace HB := Lib.hid (nx HB.out hb)
        clear hb
        replace Bp := Lib.hid (heap_keep (allocB w108 (.cells #[.string ⟨#[]⟩, .string ⟨#[]⟩] 59 (0, 0))) Bp.out)
        replace Bb := Lib.hid (heap_keep (allocB w108 (.cells #[.string ⟨#[]⟩, .string ⟨#[]⟩] 59 (0, 0))) Bb.out)
        replace O := Lib.hid (O.out.keep (allocB w108 (.cells #[.string ⟨#[]⟩, .string ⟨#[]⟩] 59 (0, 0))))
        have Br := Lib.hid (heap_alloc_at w108 (.cells #[.string ⟨#[]⟩, .string ⟨#[]⟩] 59 (0, 0)))
        replace HB := Lib.hid (nxAlloc HB.out (.cells #[.string ⟨#[]⟩, .string ⟨#[]⟩] 59 (0, 0)))
        obtain ⟨fp1, fp2, fp3⟩ := two_facts Bp.out
        go_wp2_with fail
        clear O
        refine (h3 _).mono ?_; rintro e w109 ⟨rfl, hb⟩
        clear fp1 fp2 fp3
        replace Bp := Lib.hid (heap_keep hb Bp.out)
        replace Bb := Lib.hid (heap_keep hb Bb.out)
        replace Br := Lib.hid (heap_keep hb Br.out)
        replace HB := Lib.hid (nx HB.out hb)
        clear hb
        replace Bp := Lib.hid (heap_keep (allocB w109 (.cells #[.string p.1.str, .string p.2.str] 59 (0, 0))) Bp.out)
        replace Bb := Lib.hid (heap_keep (allocB w109 (.cells #[.string p.1.str, .string p.2.str] 59 (0, 0))) Bb.out)
        replace Br := Lib.hid (heap_keep (allocB w109 (.cells #[.string p.1.str, .string p.2.str] 59 (0, 0))) Br.out)
        have Bd := Lib.hid (heap_alloc_at w109 (.cells #[.string p.1.str, .string p.2.str] 59 (0, 0)))
        replace HB := Lib.hid (nxAlloc HB.out (.cells #[.string p.1.str, .string p.2.str] 59 (0, 0)))
        obtain ⟨fp1, fp2, fp3⟩ := two_facts Bp.out
        go_wp2_with fail
        refine (h4 _).mono ?_; rintro e w110 ⟨rfl, hb⟩
        clear fp1 fp2 fp3
        replace Bp := Lib.hid (heap_keep hb Bp.out)
        replace Bb := Lib.hid (heap_keep hb Bb.out)
        replace Br := Lib.hid (heap_keep hb Br.out)
        replace Bd := Lib.hid (heap_keep hb Bd.out)
        replace HB := Lib.hid (nx HB.out hb)
        clear hb
        clear h1 h2 h3 h4
        replace Bp := Lib.hid (heap_keep (allocB w110 (.cells #[.string p.1.str, .string p.2.str] 59 (0, 0))) Bp.out)
        replace Bb := Lib.hid (heap_keep (allocB w110 (.cells #[.string p.1.str, .string p.2.str] 59 (0, 0))) Bb.out)
        replace Br := Lib.hid (heap_keep (allocB w110 (.cells #[.string p.1.str, .string p.2.str] 59 (0, 0))) Br.out)
        replace Bd := Lib.hid (heap_keep (allocB w110 (.cells #[.string p.1.str, .string p.2.str] 59 (0, 0))) Bd.out)
        have Bw := Lib.hid (heap_alloc_at w110 (.cells #[.string p.1.str, .string p.2.str] 59 (0, 0)))
        replace HB := Lib.hid (nxAlloc HB.out (.cells #[.string p.1.str, .string p.2.str] 59 (0, 0)))
        obtain ⟨fp1, fp2, fp3⟩ := two_facts Bp.out
        obtain ⟨fb1, fb2, fb3⟩ := two_facts Bb.out
        obtain ⟨fr1, fr2, fr3⟩ := two_facts Br.out
        obtain ⟨fd1, fd2, fd3⟩ := two_facts Bd.out
        obtain ⟨fw1, fw2, fw3⟩ := two_facts Bw.out
        go_wp2_with fail
        refine (h5 _).mono ?_; rintro e w111 ⟨rfl, hb⟩
        clear fp1 fp2 fp3 fb1 fb2 fb3 fr1 fr2 fr3 fd1 fd2 fd3 fw1 fw2 fw3
        replace Bp := Lib.hid (heap_keep hb Bp.out)
        replace Bb := Lib.hid (heap_keep hb Bb.out)
        replace Br := Lib.hid (heap_keep hb Br.out)
        replace Bd := Lib.hid (heap_keep hb Bd.out)
        replace Bw := Lib.hid (heap_keep hb Bw.out)
        replace HB := Lib.hid (nx HB.out hb)
        clear hb
        clear h5
        obtain ⟨fd1, fd2, fd3⟩ := two_facts Bd.out
        obtain ⟨fp1, fp2, fp3⟩ := two_facts Bp.out
        go_wp2_with fail
        refine (hI _).mono ?_; rintro e w112 ⟨rfl, hb⟩
        clear fd1 fd2 fd3 fp1 fp2 fp3
        replace Bp := Lib.hid (heap_keep hb Bp.out)
        replace Bb := Lib.hid (heap_keep hb Bb.out)
        replace Br := Lib.hid (heap_keep hb Br.out)
        replace Bd := Lib.hid (heap_keep hb Bd.out)
        replace Bw := Lib.hid (heap_keep hb Bw.out)
        replace HB := Lib.hid (nx HB.out hb)
        clear hb
        obtain ⟨fp1, fp2, fp3⟩ := two_facts Bp.out
        go_wp2_with fail
        refine (hJ _).mono ?_; rintro e w113 ⟨rfl, hb⟩
        clear fp1 fp2 fp3
        replace Bp := Lib.hid (heap_keep hb Bp.out)
        replace Bb := Lib.hid (heap_keep hb Bb.out)
        replace Br := Lib.hid (heap_keep hb Br.out)
        replace Bd := Lib.hid (heap_keep hb Bd.out)
        replace Bw := Lib.hid (heap_keep hb Bw.out)
        replace HB := Lib.hid (nx HB.out hb)
        clear hb
        obtain ⟨fp1, fp2, fp3⟩ := two_facts Bp.out
        obtain ⟨fd1, fd2, fd3⟩ := two_facts Bd.out
        go_wp2_with fail
        refine (hS _).mono ?_; rintro e w114 ⟨rfl, hb⟩
        clear fp1 fp2 fp3 fd1 fd2 fd3
        replace Bp := Lib.hid (heap_keep hb Bp.out)
        replace Bb := Lib.hid (heap_keep hb Bb.out)
        replace Br := Lib.hid (heap_keep hb Br.out)
        replace Bd := Lib.hid (heap_keep hb Bd.out)
        replace Bw := Lib.hid (heap_keep hb Bw.out)
        replace HB := Lib.hid (nx HB.out hb)
        clear hb
        clear hI hJ hS
        go_wp2_with fail
        clear Bp
        clear Bb
        clear Br
        clear Bd
        clear Bw
        refine (drawExpandPair_any d _ (hd.keep HB.out)).mono ?_; rintro e w115 ⟨a, b, n, z1, z2, n1, n2, rfl, hb⟩
        replace HB := Lib.hid (nx HB.out hb)
        clear hb
        have Bq := Lib.hid (heap_alloc_at w115 (.cells #[.string a, .string b] 59 (0, 0)))
        replace HB := Lib.hid (nxAlloc HB.out (.cells #[.string a, .string b] 59 (0, 0)))
        have h1 := fun w => implExpandPair_any a b n w (by omega) (by omega) (by omega) (by omega)
        have h2 := fun w => specExpandPair_any a b n w (by omega) (by omega) (by omega) (by omega)
        obtain ⟨fq1, fq2, fq3⟩ := two_facts Bq.out
        go_wp2_with fail
        rcases expand_cases a b n with hno | ⟨p, l, rfl, rfl, hpo, hyes, hlo, hlb, hlr, hc8, hc9, hd8, hd9⟩
        · rw [hno] at h1 h2
          simp only [ansPr, pS1, pS2, Option.isSome_none] at h1 h2
          refine (h1 _).mono ?_; rintro e w116 ⟨rfl, hb⟩
          clear fq1 fq2 fq3
          replace Bq := Lib.hid (heap_keep hb Bq.out)
          replace HB := Lib.hid (nx HB.out hb)
          clear hb
          replace Bq := Lib.hid (heap_keep (allocB w116 (.cells #[.string ⟨#[]⟩, .string ⟨#[]⟩] 59 (0, 0))) Bq.out)
          have Bl := Lib.hid (heap_alloc_at w116 (.cells #[.string ⟨#[]⟩, .string ⟨#[]⟩] 59 (0, 0)))
          replace HB := Lib.hid (nxAlloc HB.out (.cells #[.string ⟨#[]⟩, .string ⟨#[]⟩] 59 (0, 0)))
          obtain ⟨fq1, fq2, fq3⟩ := two_facts Bq.out
          go_wp2_with fail
          refine (h2 _).mono ?_; rintro e w117 ⟨rfl, hb⟩
          clear fq1 fq2 fq3
          replace Bq := Lib.hid (heap_keep hb Bq.out)
          replace Bl := Lib.hid (heap_keep hb Bl.out)
          replace HB := Lib.hid (nx HB.out hb)
          clear hb
          clear h1 h2
          replace Bq := Lib.hid (heap_keep (allocB w117 (.cells #[.string ⟨#[]⟩, .string ⟨#[]⟩] 59 (0, 0))) Bq.out)
          replace Bl := Lib.hid (heap_keep (allocB w117 (.cells #[.string ⟨#[]⟩, .string ⟨#[]⟩] 59 (0, 0))) Bl.out)
          have Bm := Lib.hid (heap_alloc_at w117 (.cells #[.string ⟨#[]⟩, .string ⟨#[]⟩] 59 (0, 0)))
          replace HB := Lib.hid (nxAlloc HB.out (.cells #[.string ⟨#[]⟩, .string ⟨#[]⟩] 59 (0, 0)))
          obtain ⟨fl1, fl2, fl3⟩ := two_facts Bl.out
          obtain ⟨fm1, fm2, fm3⟩ := two_facts Bm.out
          go_wp2_with fail
          clear fl1 fl2 fl3 fm1 fm2 fm3
          clear Bq
          clear Bl
          clear Bm
          refine (drawAreSamePairs_any d _ (hd.keep HB.out)).mono ?_; rintro e w118 ⟨s1, t1, s2, t2, z1, z2, z3, z4, rfl, hb⟩
          replace HB := Lib.hid (nx HB.out hb)
          clear hb
          have BA := Lib.hid (heap_alloc_at w118 (.cells #[.string s1, .string t1] 59 (0, 0)))
          replace HB := Lib.hid (nxAlloc HB.out (.cells #[.string s1, .string t1] 59 (0, 0)))
          replace BA := Lib.hid (heap_keep (allocB (w118.alloc (.cells #[.string s1, .string t1] 59 (0, 0))) (.cells #[.string s2, .string t2] 59 (0, 0))) BA.out)
          have bC := heap_alloc_at (w118.alloc (.cells #[.string s1, .string t1] 59 (0, 0))) (.cells #[.string s2, .string t2] 59 (0, 0))
          rw [show (w118.alloc (.cells #[.string s1, .string t1] 59 (0, 0))).heap.size = w118.heap.size + 1 by simp] at bC
          have BC := Lib.hid bC
          clear bC
          replace HB := Lib.hid (nxAlloc HB.out (.cells #[.string s2, .string t2] 59 (0, 0)))
          have h1 := fun w => implAreSamePairs_any s1 t1 s2 t2 w (by omega) (by omega) (by omega) (by omega)
          have h2 := fun w => specAreSamePairs_any s1 t1 s2 t2 w (by omega) (by omega) (by omega) (by omega)
          simp only [ansB] at h1 h2
          generalize ((pairOf s1 t1).bind fun p => (pairOf s2 t2).bind fun q => some (sameB p q)) = o1 at *
          generalize (o1 == some true) = y1 at *
          generalize o1.isSome = y2 at *
          obtain ⟨fA1, fA2, fA3⟩ := two_facts BA.out
          obtain ⟨fC1, fC2, fC3⟩ := two_facts BC.out
          go_wp2_with fail
          refine (h1 _).mono ?_; rintro e w119 ⟨rfl, hb⟩
          clear fA1 fA2 fA3 fC1 fC2 fC3
          replace BA := Lib.hid (heap_keep hb BA.out)
          replace BC := Lib.hid (heap_keep hb BC.out)
          replace HB := Lib.hid (nx HB.out hb)
          clear hb
          obtain ⟨fA1, fA2, fA3⟩ := two_facts BA.out
          obtain ⟨fC1, fC2, fC3⟩ := two_facts BC.out
          go_wp2_with fail
          refine (h2 _).mono ?_; rintro e w120 ⟨rfl, hb⟩
          clear fA1 fA2 fA3 fC1 fC2 fC3
          replace BA := Lib.hid (heap_keep hb BA.out)
          replace BC := Lib.hid (heap_keep hb BC.out)
          replace HB := Lib.hid (nx HB.out hb)
          clear hb
          clear h1 h2
          go_wp2_with fail
          clear BA
          clear BC
          refine (drawIsReduced_any d _ (hd.keep HB.out)).mono ?_; rintro e w121 ⟨s3, t3, z5, z6, rfl, hb⟩
          replace HB := Lib.hid (nx HB.out hb)
          clear hb
          have BR := Lib.hid (heap_alloc_at w121 (.cells #[.string s3, .string t3] 59 (0, 0)))
          replace HB := Lib.hid (nxAlloc HB.out (.cells #[.string s3, .string t3] 59 (0, 0)))
          have h1 := fun w => implIsReduced_any s3 t3 w (by omega) (by omega)
          have h2 := fun w => specIsReduced_any s3 t3 w (by omega) (by omega)
          simp only [ansB] at h1 h2
          generalize ((pairOf s3 t3).bind fun p => some (both p).isEmpty) = o3 at *
          generalize (o3 == some true) = y3 at *
          generalize o3.isSome = y4 at *
          obtain ⟨fR1, fR2, fR3⟩ := two_facts BR.out
          go_wp2_with fail
          refine (h1 _).mono ?_; rintro e w122 ⟨rfl, hb⟩
          clear fR1 fR2 fR3
          replace BR := Lib.hid (heap_keep hb BR.out)
          replace HB := Lib.hid (nx HB.out hb)
          clear hb
          obtain ⟨fR1, fR2, fR3⟩ := two_facts BR.out
          go_wp2_with fail
          refine (h2 _).mono ?_; rintro e w123 ⟨rfl, hb⟩
          clear fR1 fR2 fR3
          replace BR := Lib.hid (heap_keep hb BR.out)
          replace HB := Lib.hid (nx HB.out hb)
          clear hb
          clear h1 h2
          go_wp2_with fail
          clear BR
          refine (drawParsePair_any c _ (hc.keep HB.out)).mono ?_; rintro e w124 ⟨z, hz, rfl, hb⟩
          replace HB := Lib.hid (nx HB.out hb)
          clear hb
          go_wp2_with fail
          have h1 := fun w => implParsePair_any z w (by omega)
          have h2 := fun w => specParsePair_any z w (by omega)
          rcases cut_cases z with hno | ⟨p, hyes, hpk, hpc, hpc2, hps⟩
          · rw [hno] at h1 h2
            simp only [ansPr, pS1, pS2, Option.isSome_none] at h1 h2
            refine (h1 _).mono ?_; rintro e w125 ⟨rfl, hb⟩
            replace HB := Lib.hid (nx HB.out hb)
            clear hb
            have BP := Lib.hid (heap_alloc_at w125 (.cells #[.string ⟨#[]⟩, .string ⟨#[]⟩] 59 (0, 0)))
            replace HB := Lib.hid (nxAlloc HB.out (.cells #[.string ⟨#[]⟩, .string ⟨#[]⟩] 59 (0, 0)))
            go_wp2_with fail
            refine (h2 _).mono ?_; rintro e w126 ⟨rfl, hb⟩
            replace BP := Lib.hid (heap_keep hb BP.out)
            replace HB := Lib.hid (nx HB.out hb)
            clear hb
            replace BP := Lib.hid (heap_keep (allocB w126 (.cells #[.string ⟨#[]⟩, .string ⟨#[]⟩] 59 (0, 0))) BP.out)
            have BQ := Lib.hid (heap_alloc_at w126 (.cells #[.string ⟨#[]⟩, .string ⟨#[]⟩] 59 (0, 0)))
            replace HB := Lib.hid (nxAlloc HB.out (.cells #[.string ⟨#[]⟩, .string ⟨#[]⟩] 59 (0, 0)))
            obtain ⟨fP1, fP2, fP3⟩ := two_facts BP.out
            obtain ⟨fQ1, fQ2, fQ3⟩ := two_facts BQ.out
            go_wp2_with fail
            go_ret
            exact ⟨by simp, HB.out⟩
          · rw [hyes] at h1 h2
            have hT := fun w => implPairText_any p.1.str p.2.str w (by have := p.1.str_size; omega) (by have := p.2.str_size; omega)
            rw [pairOf_str hpk hpc] at hT
            simp only [ansT, prT, Option.isSome_some] at hT
            rw [hps] at hT
            simp only [ansPr, pS1, pS2, Option.isSome_some] at h1 h2
            refine (h1 _).mono ?_; rintro e w127 ⟨rfl, hb⟩
            replace HB := Lib.hid (nx HB.out hb)
            clear hb
            have BP := Lib.hid (heap_alloc_at w127 (.cells #[.string p.1.str, .string p.2.str] 59 (0, 0)))
            replace HB := Lib.hid (nxAlloc HB.out (.cells #[.string p.1.str, .string p.2.str] 59 (0, 0)))
            go_wp2_with fail
            refine (h2 _).mono ?_; rintro e w128 ⟨rfl, hb⟩
            replace BP := Lib.hid (heap_keep hb BP.out)
            replace HB := Lib.hid (nx HB.out hb)
            clear hb
            replace BP := Lib.hid (heap_keep (allocB w128 (.cells #[.string p.1.str, .string p.2.str] 59 (0, 0))) BP.out)
            have BQ := Lib.hid (heap_alloc_at w128 (.cells #[.string p.1.str, .string p.2.str] 59 (0, 0)))
            replace HB := Lib.hid (nxAlloc HB.out (.cells #[.string p.1.str, .string p.2.str] 59 (0, 0)))
            obtain ⟨fP1, fP2, fP3⟩ := two_facts BP.out
            obtain ⟨fQ1, fQ2, fQ3⟩ := two_facts BQ.out
            go_wp2_with fail
            refine (hT _).mono ?_; rintro e w129 ⟨rfl, hb⟩
            clear fP1 fP2 fP3 fQ1 fQ2 fQ3
            replace BP := Lib.hid (heap_keep hb BP.out)
            replace BQ := Lib.hid (heap_keep hb BQ.out)
            replace HB := Lib.hid (nx HB.out hb)
            clear hb
            clear hT h1 h2
            go_wp2_with fail
            go_ret
            exact ⟨by simp, HB.out⟩
        · rw [hyes] at h1 h2
          have s1 := l.1.str_size
          have s2 := l.2.str_size
          have s3 := p.1.str_size
          have s4 := p.2.str_size
          have hI := fun w => implIsReduced_any l.1.str l.2.str w (by omega) (by omega)
          rw [hlo] at hI
          simp only [Option.bind_some, hlb, ansB_some] at hI
          have hS := fun w => sameMap_any p.1.str p.2.str l.1.str l.2.str w p l hpo hlo hlr.symm (by omega) (by omega) (by omega) (by omega)
          simp only [ansPr, pS1, pS2, Option.isSome_some] at h1 h2
          clear s1 s2 s3 s4 hlb hlr hlo
          generalize l.1.str = l1 at *
          generalize l.2.str = l2 at *
          refine (h1 _).mono ?_; rintro e w130 ⟨rfl, hb⟩
          clear fq1 fq2 fq3
          replace Bq := Lib.hid (heap_keep hb Bq.out)
          replace HB := Lib.hid (nx HB.out hb)
          clear hb
          replace Bq := Lib.hid (heap_keep (allocB w130 (.cells #[.string l1, .string l2] 59 (0, 0))) Bq.out)
          have Bl := Lib.hid (heap_alloc_at w130 (.cells #[.string l1, .string l2] 59 (0, 0)))
          replace HB := Lib.hid (nxAlloc HB.out (.cells #[.string l1, .string l2] 59 (0, 0)))
          obtain ⟨fq1, fq2, fq3⟩ := two_facts Bq.out
          go_wp2_with fail
          refine (h2 _).mono ?_; rintro e w131 ⟨rfl, hb⟩
          clear fq1 fq2 fq3
          replace Bq := Lib.hid (heap_keep hb Bq.out)
          replace Bl := Lib.hid (heap_keep hb Bl.out)
          replace HB := Lib.hid (nx HB.out hb)
          clear hb
          clear h1 h2
          replace Bq := Lib.hid (heap_keep (allocB w131 (.cells #[.string l1, .string l2] 59 (0, 0))) Bq.out)
          replace Bl := Lib.hid (heap_keep (allocB w131 (.cells #[.string l1, .string l2] 59 (0, 0))) Bl.out)
          have Bm := Lib.hid (heap_alloc_at w131 (.cells #[.string l1, .string l2] 59 (0, 0)))
          replace HB := Lib.hid (nxAlloc HB.out (.cells #[.string l1, .string l2] 59 (0, 0)))
          obtain ⟨fl1, fl2, fl3⟩ := two_facts Bl.out
          obtain ⟨fm1, fm2, fm3⟩ := two_facts Bm.out
          go_wp2_with fail
          refine (hI _).mono ?_; rintro e w132 ⟨rfl, hb⟩
          clear fl1 fl2 fl3 fm1 fm2 fm3
          replace Bq := Lib.hid (heap_keep hb Bq.out)
          replace Bl := Lib.hid (heap_keep hb Bl.out)
          replace Bm := Lib.hid (heap_keep hb Bm.out)
          replace HB := Lib.hid (nx HB.out hb)
          clear hb
          clear hI
          obtain ⟨fq1, fq2, fq3⟩ := two_facts Bq.out
          obtain ⟨fl1, fl2, fl3⟩ := two_facts Bl.out
          go_wp2_with fail
          refine (hS _).mono ?_; rintro e w133 ⟨rfl, hb⟩
          clear fq1 fq2 fq3 fl1 fl2 fl3
          replace Bq := Lib.hid (heap_keep hb Bq.out)
          replace Bl := Lib.hid (heap_keep hb Bl.out)
          replace Bm := Lib.hid (heap_keep hb Bm.out)
          replace HB := Lib.hid (nx HB.out hb)
          clear hb
          clear hS
          go_wp2_with fail
          clear Bq
          clear Bl
          clear Bm
          refine (drawAreSamePairs_any d _ (hd.keep HB.out)).mono ?_; rintro e w134 ⟨s1, t1, s2, t2, z1, z2, z3, z4, rfl, hb⟩
          replace HB := Lib.hid (nx HB.out hb)
          clear hb
          have BA := Lib.hid (heap_alloc_at w134 (.cells #[.string s1, .string t1] 59 (0, 0)))
          replace HB := Lib.hid (nxAlloc HB.out (.cells #[.string s1, .string t1] 59 (0, 0)))
          replace BA := Lib.hid (heap_keep (allocB (w134.alloc (.cells #[.string s1, .string t1] 59 (0, 0))) (.cells #[.string s2, .string t2] 59 (0, 0))) BA.out)
          have bC := heap_alloc_at (w134.alloc (.cells #[.string s1, .string t1] 59 (0, 0))) (.cells #[.string s2, .string t2] 59 (0, 0))
          rw [show (w134.alloc (.cells #[.string s1, .string t1] 59 (0, 0))).heap.size = w134.heap.size + 1 by simp] at bC
          have BC := Lib.hid bC
          clear bC
          replace HB := Lib.hid (nxAlloc HB.out (.cells #[.string s2, .string t2] 59 (0, 0)))
          have h1 := fun w => implAreSamePairs_any s1 t1 s2 t2 w (by omega) (by omega) (by omega) (by omega)
          have h2 := fun w => specAreSamePairs_any s1 t1 s2 t2 w (by omega) (by omega) (by omega) (by omega)
          simp only [ansB] at h1 h2
          generalize ((pairOf s1 t1).bind fun p => (pairOf s2 t2).bind fun q => some (sameB p q)) = o1 at *
          generalize (o1 == some true) = y1 at *
          generalize o1.isSome = y2 at *
          obtain ⟨fA1, fA2, fA3⟩ := two_facts BA.out
          obtain ⟨fC1, fC2, fC3⟩ := two_facts BC.out
          go_wp2_with fail
          refine (h1 _).mono ?_; rintro e w135 ⟨rfl, hb⟩
          clear fA1 fA2 fA3 fC1 fC2 fC3
          replace BA := Lib.hid (heap_keep hb BA.out)
          replace BC := Lib.hid (heap_keep hb BC.out)
          replace HB := Lib.hid (nx HB.out hb)
          clear hb
          obtain ⟨fA1, fA2, fA3⟩ := two_facts BA.out
          obtain ⟨fC1, fC2, fC3⟩ := two_facts BC.out
          go_wp2_with fail
          refine (h2 _).mono ?_; rintro e w136 ⟨rfl, hb⟩
          clear fA1 fA2 fA3 fC1 fC2 fC3
          replace BA := Lib.hid (heap_keep hb BA.out)
          replace BC := Lib.hid (heap_keep hb BC.out)
          replace HB := Lib.hid (nx HB.out hb)
          clear hb
          clear h1 h2
          go_wp2_with fail
          clear BA
          clear BC
          refine (drawIsReduced_any d _ (hd.keep HB.out)).mono ?_; rintro e w137 ⟨s3, t3, z5, z6, rfl, hb⟩
          replace HB := Lib.hid (nx HB.out hb)
          clear hb
          have BR := Lib.hid (heap_alloc_at w137 (.cells #[.string s3, .string t3] 59 (0, 0)))
          replace HB := Lib.hid (nxAlloc HB.out (.cells #[.string s3, .string t3] 59 (0, 0)))
          have h1 := fun w => implIsReduced_any s3 t3 w (by omega) (by omega)
          have h2 := fun w => specIsReduced_any s3 t3 w (by omega) (by omega)
          simp only [ansB] at h1 h2
          generalize ((pairOf s3 t3).bind fun p => some (both p).isEmpty) = o3 at *
          generalize (o3 == some true) = y3 at *
          generalize o3.isSome = y4 at *
          obtain ⟨fR1, fR2, fR3⟩ := two_facts BR.out
          go_wp2_with fail
          refine (h1 _).mono ?_; rintro e w138 ⟨rfl, hb⟩
          clear fR1 fR2 fR3
          replace BR := Lib.hid (heap_keep hb BR.out)
          replace HB := Lib.hid (nx HB.out hb)
          clear hb
          obtain ⟨fR1, fR2, fR3⟩ := two_facts BR.out
          go_wp2_with fail
          refine (h2 _).mono ?_; rintro e w139 ⟨rfl, hb⟩
          clear fR1 fR2 fR3
          replace BR := Lib.hid (heap_keep hb BR.out)
          replace HB := Lib.hid (nx HB.out hb)
          clear hb
          clear h1 h2
          go_wp2_with fail
          clear BR
          refine (drawParsePair_any c _ (hc.keep HB.out)).mono ?_; rintro e w140 ⟨z, hz, rfl, hb⟩
          replace HB := Lib.hid (nx HB.out hb)
          clear hb
          go_wp2_with fail
          have h1 := fun w => implParsePair_any z w (by omega)
          have h2 := fun w => specParsePair_any z w (by omega)
          rcases cut_cases z with hno | ⟨p, hyes, hpk, hpc, hpc2, hps⟩
          · rw [hno] at h1 h2
            simp only [ansPr, pS1, pS2, Option.isSome_none] at h1 h2
            refine (h1 _).mono ?_; rintro e w141 ⟨rfl, hb⟩
            replace HB := Lib.hid (nx HB.out hb)
            clear hb
            have BP := Lib.hid (heap_alloc_at w141 (.cells #[.string ⟨#[]⟩, .string ⟨#[]⟩] 59 (0, 0)))
            replace HB := Lib.hid (nxAlloc HB.out (.cells #[.string ⟨#[]⟩, .string ⟨#[]⟩] 59 (0, 0)))
            go_wp2_with fail
            refine (h2 _).mono ?_; rintro e w142 ⟨rfl, hb⟩
            replace BP := Lib.hid (heap_keep hb BP.out)
            replace HB := Lib.hid (nx HB.out hb)
            clear hb
            replace BP := Lib.hid (heap_keep (allocB w142 (.cells #[.string ⟨#[]⟩, .string ⟨#[]⟩] 59 (0, 0))) BP.out)
            have BQ := Lib.hid (heap_alloc_at w142 (.cells #[.string ⟨#[]⟩, .string ⟨#[]⟩] 59 (0, 0)))
            replace HB := Lib.hid (nxAlloc HB.out (.cells #[.string ⟨#[]⟩, .string ⟨#[]⟩] 59 (0, 0)))
            obtain ⟨fP1, fP2, fP3⟩ := two_facts BP.out
            obtain ⟨fQ1, fQ2, fQ3⟩ := two_facts BQ.out
            go_wp2_with fail
            go_ret
            exact ⟨by simp, HB.out⟩
          · rw [hyes] at h1 h2
            have hT := fun w => implPairText_any p.1.str p.2.str w (by have := p.1.str_size; omega) (by have := p.2.str_size; omega)
            rw [pairOf_str hpk hpc] at hT
            simp only [ansT, prT, Option.isSome_some] at hT
            rw [hps] at hT
            simp only [ansPr, pS1, pS2, Option.isSome_some] at h1 h2
            refine (h1 _).mono ?_; rintro e w143 ⟨rfl, hb⟩
            replace HB := Lib.hid (nx HB.out hb)
            clear hb
            have BP := Lib.hid (heap_alloc_at w143 (.cells #[.string p.1.str, .string p.2.str] 59 (0, 0)))
            replace HB := Lib.hid (nxAlloc HB.out (.cells #[.string p.1.str, .string p.2.str] 59 (0, 0)))
            go_wp2_with fail
            refine (h2 _).mono ?_; rintro e w144 ⟨rfl, hb⟩
            replace BP := Lib.hid (heap_keep hb BP.out)
            replace HB := Lib.hid (nx HB.out hb)
            clear hb
            replace BP := Lib.hid (heap_keep (allocB w144 (.cells #[.string p.1.str, .string p.2.str] 59 (0, 0))) BP.out)
            have BQ := Lib.hid (heap_alloc_at w144 (.cells #[.string p.1.str, .string p.2.str] 59 (0, 0)))
            replace HB := Lib.hid (nxAlloc HB.out (.cells #[.string p.1.str, .string p.2.str] 59 (0, 0)))
            obtain ⟨fP1, fP2, fP3⟩ := two_facts BP.out
            obtain ⟨fQ1, fQ2, fQ3⟩ := two_facts BQ.out
            go_wp2_with fail
            refine (hT _).mono ?_; rintro e w145 ⟨rfl, hb⟩
            clear fP1 fP2 fP3 fQ1 fQ2 fQ3
            replace BP := Lib.hid (heap_keep hb BP.out)
            replace BQ := Lib.hid (heap_keep hb BQ.out)
            replace HB := Lib.hid (nx HB.out hb)
            clear hb
            clear hT h1 h2
            go_wp2_with fail
            go_ret
            exact ⟨by simp, HB.out⟩
    · have hne : (both p).isEmpty = false := by cases hbp : both p with | nil => exact absurd hbp hirr | cons x l => rfl
      rw [hne] at hJ
      have hlt := red_less hirr
      have hsne : ((red p).1.str.toList == p.1.str.toList) = false := by
        rw [beq_eq_false_iff_ne]
        intro h
        have := str_inj h
        rw [this] at hlt
        omega
      cases hch : choB L with
      | true =>
        simp only [redO, hpo, Option.bind_some, Option.isSome_some] at h1 h2 h3 h4 h5
        rw [if_pos hch] at h1 h2
        rw [redBy_uniq _ p L rfl] at h1 h2
        simp only [ansPr, pS1, pS2, Option.isSome_some] at h1 h2 h3 h4
        clear hch hpo
        generalize (red p).1.str = d1 at *
        generalize (red p).2.str = d2 at *
        refine (h1 _ _ O.out).mono ?_; rintro e w146 ⟨rfl, hb⟩
        clear fp1 fp2 fp3
        replace Bp := Lib.hid (heap_keep hb Bp.out)
        replace O := Lib.hid (O.out.keep hb)
        replace HB := Lib.hid (nx HB.out hb)
        clear hb
        replace Bp := Lib.hid (heap_keep (allocB w146 (.cells #[.string d1, .string d2] 59 (0, 0))) Bp.out)
        replace O := Lib.hid (O.out.keep (allocB w146 (.cells #[.string d1, .string d2] 59 (0, 0))))
        have Bb := Lib.hid (heap_alloc_at w146 (.cells #[.string d1, .string d2] 59 (0, 0)))
        replace HB := Lib.hid (nxAlloc HB.out (.cells #[.string d1, .string d2] 59 (0, 0)))
        obtain ⟨fp1, fp2, fp3⟩ := two_facts Bp.out
        go_wp2_with fail
        refine (h2 _ _ O.out).mono ?_; rintro e w147 ⟨rfl, hb⟩
        clear fp1 fp2 fp3
        replace Bp := Lib.hid (heap_keep hb Bp.out)
        replace Bb := Lib.hid (heap_keep hb Bb.out)
        replace O := Lib.hid (O.out.keep hb)
        replace HB := Lib.hid (nx HB.out hb)
        clear hb
        replace Bp := Lib.hid (heap_keep (allocB w147 (.cells #[.string d1, .string d2] 59 (0, 0))) Bp.out)
        replace Bb := Lib.hid (heap_keep (allocB w147 (.cells #[.string d1, .string d2] 59 (0, 0))) Bb.out)
        replace O := Lib.hid (O.out.keep (allocB w147 (.cells #[.string d1, .string d2] 59 (0, 0))))
        have Br := Lib.hid (heap_alloc_at w147 (.cells #[.string d1, .string d2] 59 (0, 0)))
        replace HB := Lib.hid (nxAlloc HB.out (.cells #[.string d1, .string d2] 59 (0, 0)))
        obtain ⟨fp1, fp2, fp3⟩ := two_facts Bp.out
        go_wp2_with fail
        clear O
        refine (h3 _).mono ?_; rintro e w148 ⟨rfl, hb⟩
        clear fp1 fp2 fp3
        replace Bp := Lib.hid (heap_keep hb Bp.out)
        replace Bb := Lib.hid (heap_keep hb Bb.out)
        replace Br := Lib.hid (heap_keep hb Br.out)
        replace HB := Lib.hid (nx HB.out hb)
        clear hb
        replace Bp := Lib.hid (heap_keep (allocB w148 (.cells #[.string d1, .string d2] 59 (0, 0))) Bp.out)
        replace Bb := Lib.hid (heap_keep (allocB w148 (.cells #[.string d1, .string d2] 59 (0, 0))) Bb.out)
        replace Br := Lib.hid (heap_keep (allocB w148 (.cells #[.string d1, .string d2] 59 (0, 0))) Br.out)
        have Bd := Lib.hid (heap_alloc_at w148 (.cells #[.string d1, .string d2] 59 (0, 0)))
        replace HB := Lib.hid (nxAlloc HB.out (.cells #[.string d1, .string d2] 59 (0, 0)))
        obtain ⟨fp1, fp2, fp3⟩ := two_facts Bp.out
        go_wp2_with fail
        refine (h4 _).mono ?_; rintro e w149 ⟨rfl, hb⟩
        clear fp1 fp2 fp3
        replace Bp := Lib.hid (heap_keep hb Bp.out)
        replace Bb := Lib.hid (heap_keep hb Bb.out)
        replace Br := Lib.hid (heap_keep hb Br.out)
        replace Bd := Lib.hid (heap_keep hb Bd.out)
        replace HB := Lib.hid (nx HB.out hb)
        clear hb
        clear h1 h2 h3 h4
        replace Bp := Lib.hid (heap_keep (allocB w149 (.cells #[.string d1, .string d2] 59 (0, 0))) Bp.out)
        replace Bb := Lib.hid (heap_keep (allocB w149 (.cells #[.string d1, .string d2] 59 (0, 0))) Bb.out)
        replace Br := Lib.hid (heap_keep (allocB w149 (.cells #[.string d1, .string d2] 59 (0, 0))) Br.out)
        replace Bd := Lib.hid (heap_keep (allocB w149 (.cells #[.string d1, .string d2] 59 (0, 0))) Bd.out)
        have Bw := Lib.hid (heap_alloc_at w149 (.cells #[.string d1, .string d2] 59 (0, 0)))
        replace HB := Lib.hid (nxAlloc HB.out (.cells #[.string d1, .string d2] 59 (0, 0)))
        obtain ⟨fp1, fp2, fp3⟩ := two_facts Bp.out
        obtain ⟨fb1, fb2, fb3⟩ := two_facts Bb.out
        obtain ⟨fr1, fr2, fr3⟩ := two_facts Br.out
        obtain ⟨fd1, fd2, fd3⟩ := two_facts Bd.out
        obtain ⟨fw1, fw2, fw3⟩ := two_facts Bw.out
        go_wp2_with fail
        refine (h5 _).mono ?_; rintro e w150 ⟨rfl, hb⟩
        clear fp1 fp2 fp3 fb1 fb2 fb3 fr1 fr2 fr3 fd1 fd2 fd3 fw1 fw2 fw3
        replace Bp := Lib.hid (heap_keep hb Bp.out)
        replace Bb := Lib.hid (heap_keep hb Bb.out)
        replace Br := Lib.hid (heap_keep hb Br.out)
        replace Bd := Lib.hid (heap_keep hb Bd.out)
        replace Bw := Lib.hid (heap_keep hb Bw.out)
        replace HB := Lib.hid (nx HB.out hb)
        clear hb
        clear h5
        obtain ⟨fd1, fd2, fd3⟩ := two_facts Bd.out
        obtain ⟨fp1, fp2, fp3⟩ := two_facts Bp.out
        go_wp2_with fail
        refine (hI _).mono ?_; rintro e w151 ⟨rfl, hb⟩
        clear fd1 fd2 fd3 fp1 fp2 fp3
        replace Bp := Lib.hid (heap_keep hb Bp.out)
        replace Bb := Lib.hid (heap_keep hb Bb.out)
        replace Br := Lib.hid (heap_keep hb Br.out)
        replace Bd := Lib.hid (heap_keep hb Bd.out)
        replace Bw := Lib.hid (heap_keep hb Bw.out)
        replace HB := Lib.hid (nx HB.out hb)
        clear hb
        obtain ⟨fp1, fp2, fp3⟩ := two_facts Bp.out
        go_wp2_with fail
        refine (hJ _).mono ?_; rintro e w152 ⟨rfl, hb⟩
        clear fp1 fp2 fp3
        replace Bp := Lib.hid (heap_keep hb Bp.out)
        replace Bb := Lib.hid (heap_keep hb Bb.out)
        replace Br := Lib.hid (heap_keep hb Br.out)
        replace Bd := Lib.hid (heap_keep hb Bd.out)
        replace Bw := Lib.hid (heap_keep hb Bw.out)
        replace HB := Lib.hid (nx HB.out hb)
        clear hb
        obtain ⟨fp1, fp2, fp3⟩ := two_facts Bp.out
        obtain ⟨fd1, fd2, fd3⟩ := two_facts Bd.out
        go_wp2_with fail
        refine (hS _).mono ?_; rintro e w153 ⟨rfl, hb⟩
        clear fp1 fp2 fp3 fd1 fd2 fd3
        replace Bp := Lib.hid (heap_keep hb Bp.out)
        replace Bb := Lib.hid (heap_keep hb Bb.out)
        replace Br := Lib.hid (heap_keep hb Br.out)
        replace Bd := Lib.hid (heap_keep hb Bd.out)
        replace Bw := Lib.hid (heap_keep hb Bw.out)
        replace HB := Lib.hid (nx HB.out hb)
        clear hb
        clear hI hJ hS
        go_wp2_with fail
        clear Bp
        clear Bb
        clear Br
        clear Bd
        clear Bw
        refine (drawExpandPair_any d _ (hd.keep HB.out)).mono ?_; rintro e w154 ⟨a, b, n, z1, z2, n1, n2, rfl, hb⟩
        replace HB := Lib.hid (nx HB.out hb)
        clear hb
        have Bq := Lib.hid (heap_alloc_at w154 (.cells #[.string a, .string b] 59 (0, 0)))
        replace HB := Lib.hid (nxAlloc HB.out (.cells #[.string a, .string b] 59 (0, 0)))
        have h1 := fun w => implExpandPair_any a b n w (by omega) (by omega) (by omega) (by omega)
        have h2 := fun w => specExpandPair_any a b n w (by omega) (by omega) (by omega) (by omega)
        obtain ⟨fq1, fq2, fq3⟩ := two_facts Bq.out
        go_wp2_with fail
        rcases expand_cases a b n with hno | ⟨p, l, rfl, rfl, hpo, hyes, hlo, hlb, hlr, hc8, hc9, hd8, hd9⟩
        · rw [hno] at h1 h2
          simp only [ansPr, pS1, pS2, Option.isSome_none] at h1 h2
          refine (h1 _).mono ?_; rintro e w155 ⟨rfl, hb⟩
          clear fq1 fq2 fq3
          replace Bq := Lib.hid (heap_keep hb Bq.out)
          replace HB := Lib.hid (nx HB.out hb)
          clear hb
          replace Bq := Lib.hid (heap_keep (allocB w155 (.cells #[.string ⟨#[]⟩, .string ⟨#[]⟩] 59 (0, 0))) Bq.out)
          have Bl := Lib.hid (heap_alloc_at w155 (.cells #[.string ⟨#[]⟩, .string ⟨#[]⟩] 59 (0, 0)))
          replace HB := Lib.hid (nxAlloc HB.out (.cells #[.string ⟨#[]⟩, .string ⟨#[]⟩] 59 (0, 0)))
          obtain ⟨fq1, fq2, fq3⟩ := two_facts Bq.out
          go_wp2_with fail
          refine (h2 _).mono ?_; rintro e w156 ⟨rfl, hb⟩
          clear fq1 fq2 fq3
          replace Bq := Lib.hid (heap_keep hb Bq.out)
          replace Bl := Lib.hid (heap_keep hb Bl.out)
          replace HB := Lib.hid (nx HB.out hb)
          clear hb
          clear h1 h2
          replace Bq := Lib.hid (heap_keep (allocB w156 (.cells #[.string ⟨#[]⟩, .string ⟨#[]⟩] 59 (0, 0))) Bq.out)
          replace Bl := Lib.hid (heap_keep (allocB w156 (.cells #[.string ⟨#[]⟩, .string ⟨#[]⟩] 59 (0, 0))) Bl.out)
          have Bm := Lib.hid (heap_alloc_at w156 (.cells #[.string ⟨#[]⟩, .string ⟨#[]⟩] 59 (0, 0)))
          replace HB := Lib.hid (nxAlloc HB.out (.cells #[.string ⟨#[]⟩, .string ⟨#[]⟩] 59 (0, 0)))
          obtain ⟨fl1, fl2, fl3⟩ := two_facts Bl.out
          obtain ⟨fm1, fm2, fm3⟩ := two_facts Bm.out
          go_wp2_with fail
          clear fl1 fl2 fl3 fm1 fm2 fm3
          clear Bq
          clear Bl
          clear Bm
          refine (drawAreSamePairs_any d _ (hd.keep HB.out)).mono ?_; rintro e w157 ⟨s1, t1, s2, t2, z1, z2, z3, z4, rfl, hb⟩
          replace HB := Lib.hid (nx HB.out hb)
          clear hb
          have BA := Lib.hid (heap_alloc_at w157 (.cells #[.string s1, .string t1] 59 (0, 0)))
          replace HB := Lib.hid (nxAlloc HB.out (.cells #[.string s1, .string t1] 59 (0, 0)))
          replace BA := Lib.hid (heap_keep (allocB (w157.alloc (.cells #[.string s1, .string t1] 59 (0, 0))) (.cells #[.string s2, .string t2] 59 (0, 0))) BA.out)
          have bC := heap_alloc_at (w157.alloc (.cells #[.string s1, .string t1] 59 (0, 0))) (.cells #[.string s2, .string t2] 59 (0, 0))
          rw [show (w157.alloc (.cells #[.string s1, .string t1] 59 (0, 0))).heap.size = w157.heap.size + 1 by simp] at bC
          have BC := Lib.hid bC
          clear bC
          replace HB := Lib.hid (nxAlloc HB.out (.cells #[.string s2, .string t2] 59 (0, 0)))
          have h1 := fun w => implAreSamePairs_any s1 t1 s2 t2 w (by omega) (by omega) (by omega) (by omega)
          have h2 := fun w => specAreSamePairs_any s1 t1 s2 t2 w (by omega) (by omega) (by omega) (by omega)
          simp only [ansB] at h1 h2
          generalize ((pairOf s1 t1).bind fun p => (pairOf s2 t2).bind fun q => some (sameB p q)) = o1 at *
          generalize (o1 == some true) = y1 at *
          generalize o1.isSome = y2 at *
          obtain ⟨fA1, fA2, fA3⟩ := two_facts BA.out
          obtain ⟨fC1, fC2, fC3⟩ := two_facts BC.out
          go_wp2_with fail
          refine (h1 _).mono ?_; rintro e w158 ⟨rfl, hb⟩
          clear fA1 fA2 fA3 fC1 fC2 fC3
          replace BA := Lib.hid (heap_keep hb BA.out)
          replace BC := Lib.hid (heap_keep hb BC.out)
          replace HB := Lib.hid (nx HB.out hb)
          clear hb
          obtain ⟨fA1, fA2, fA3⟩ := two_facts BA.out
          obtain ⟨fC1, fC2, fC3⟩ := two_facts BC.out
          go_wp2_with fail
          refine (h2 _).mono ?_; rintro e w159 ⟨rfl, hb⟩
          clear fA1 fA2 fA3 fC1 fC2 fC3
          replace BA := Lib.hid (heap_keep hb BA.out)
          replace BC := Lib.hid (heap_keep hb BC.out)
          replace HB := Lib.hid (nx HB.out hb)
          clear hb
          clear h1 h2
          go_wp2_with fail
          clear BA
          clear BC
          refine (drawIsReduced_any d _ (hd.keep HB.out)).mono ?_; rintro e w160 ⟨s3, t3, z5, z6, rfl, hb⟩
          replace HB := Lib.hid (nx HB.out hb)
          clear hb
          have BR := Lib.hid (heap_alloc_at w160 (.cells #[.string s3, .string t3] 59 (0, 0)))
          replace HB := Lib.hid (nxAlloc HB.out (.cells #[.string s3, .string t3] 59 (0, 0)))
          have h1 := fun w => implIsReduced_any s3 t3 w (by omega) (by omega)
          have h2 := fun w => specIsReduced_any s3 t3 w (by omega) (by omega)
          simp only [ansB] at h1 h2
          generalize ((pairOf s3 t3).bind fun p => some (both p).isEmpty) = o3 at *
          generalize (o3 == some true) = y3 at *
          generalize o3.isSome = y4 at *
          obtain ⟨fR1, fR2, fR3⟩ := two_facts BR.out
          go_wp2_with fail
          refine (h1 _).mono ?_; rintro e w161 ⟨rfl, hb⟩
          clear fR1 fR2 fR3
          replace BR := Lib.hid (heap_keep hb BR.out)
          replace HB := Lib.hid (nx HB.out hb)
          clear hb
          obtain ⟨fR1, fR2, fR3⟩ := two_facts BR.out
          go_wp2_with fail
          refine (h2 _).mono ?_; rintro e w162 ⟨rfl, hb⟩
          clear fR1 fR2 fR3
          replace BR := Lib.hid (heap_keep hb BR.out)
          replace HB := Lib.hid (nx HB.out hb)
          clear hb
          clear h1 h2
          go_wp2_with fail
          clear BR
          refine (drawParsePair_any c _ (hc.keep HB.out)).mono ?_; rintro e w163 ⟨z, hz, rfl, hb⟩
          replace HB := Lib.hid (nx HB.out hb)
          clear hb
          go_wp2_with fail
          have h1 := fun w => implParsePair_any z w (by omega)
          have h2 := fun w => specParsePair_any z w (by omega)
          rcases cut_cases z with hno | ⟨p, hyes, hpk, hpc, hpc2, hps⟩
          · rw [hno] at h1 h2
            simp only [ansPr, pS1, pS2, Option.isSome_none] at h1 h2
            refine (h1 _).mono ?_; rintro e w164 ⟨rfl, hb⟩
            replace HB := Lib.hid (nx HB.out hb)
            clear hb
            have BP := Lib.hid (heap_alloc_at w164 (.cells #[.string ⟨#[]⟩, .string ⟨#[]⟩] 59 (0, 0)))
            replace HB := Lib.hid (nxAlloc HB.out (.cells #[.string ⟨#[]⟩, .string ⟨#[]⟩] 59 (0, 0)))
            go_wp2_with fail
            refine (h2 _).mono ?_; rintro e w165 ⟨rfl, hb⟩
            replace BP := Lib.hid (heap_keep hb BP.out)
            replace HB := Lib.hid (nx HB.out hb)
            clear hb
            replace BP := Lib.hid (heap_keep (allocB w165 (.cells #[.string ⟨#[]⟩, .string ⟨#[]⟩] 59 (0, 0))) BP.out)
            have BQ := Lib.hid (heap_alloc_at w165 (.cells #[.string ⟨#[]⟩, .string ⟨#[]⟩] 59 (0, 0)))
            replace HB := Lib.hid (nxAlloc HB.out (.cells #[.string ⟨#[]⟩, .string ⟨#[]⟩] 59 (0, 0)))
            obtain ⟨fP1, fP2, fP3⟩ := two_facts BP.out
            obtain ⟨fQ1, fQ2, fQ3⟩ := two_facts BQ.out
            go_wp2_with fail
            go_ret
            exact ⟨by simp, HB.out⟩
          · rw [hyes] at h1 h2
            have hT := fun w => implPairText_any p.1.str p.2.str w (by have := p.1.str_size; omega) (by have := p.2.str_size; omega)
            rw [pairOf_str hpk hpc] at hT
            simp only [ansT, prT, Option.isSome_some] at hT
            rw [hps] at hT
            simp only [ansPr, pS1, pS2, Option.isSome_some] at h1 h2
            refine (h1 _).mono ?_; rintro e w166 ⟨rfl, hb⟩
            replace HB := Lib.hid (nx HB.out hb)
            clear hb
            have BP := Lib.hid (heap_alloc_at w166 (.cells #[.string p.1.str, .string p.2.str] 59 (0, 0)))
            replace HB := Lib.hid (nxAlloc HB.out (.cells #[.string p.1.str, .string p.2.str] 59 (0, 0)))
            go_wp2_with fail
            refine (h2 _).mono ?_; rintro e w167 ⟨rfl, hb⟩
            replace BP := Lib.hid (heap_keep hb BP.out)
            replace HB := Lib.hid (nx HB.out hb)
            clear hb
            replace BP := Lib.hid (heap_keep (allocB w167 (.cells #[.string p.1.str, .string p.2.str] 59 (0, 0))) BP.out)
            have BQ := Lib.hid (heap_alloc_at w167 (.cells #[.string p.1.str, .string p.2.str] 59 (0, 0)))
            replace HB := Lib.hid (nxAlloc HB.out (.cells #[.string p.1.str, .string p.2.str] 59 (0, 0)))
            obtain ⟨fP1, fP2, fP3⟩ := two_facts BP.out
            obtain ⟨fQ1, fQ2, fQ3⟩ := two_facts BQ.out
            go_wp2_with fail
            refine (hT _).mono ?_; rintro e w168 ⟨rfl, hb⟩
            clear fP1 fP2 fP3 fQ1 fQ2 fQ3
            replace BP := Lib.hid (heap_keep hb BP.out)
            replace BQ := Lib.hid (heap_keep hb BQ.out)
            replace HB := Lib.hid (nx HB.out hb)
            clear hb
            clear hT h1 h2
            go_wp2_with fail
            go_ret
            exact ⟨by simp, HB.out⟩
        · rw [hyes] at h1 h2
          have s1 := l.1.str_size
          have s2 := l.2.str_size
          have s3 := p.1.str_size
          have s4 := p.2.str_size
          have hI := fun w => implIsReduced_any l.1.str l.2.str w (by omega) (by omega)
          rw [hlo] at hI
          simp only [Option.bind_some, hlb, ansB_some] at hI
          have hS := fun w => sameMap_any p.1.str p.2.str l.1.str l.2.str w p l hpo hlo hlr.symm (by omega) (by omega) (by omega) (by omega)
          simp only [ansPr, pS1, pS2, Option.isSome_some] at h1 h2
          clear s1 s2 s3 s4 hlb hlr hlo
          generalize l.1.str = l1 at *
          generalize l.2.str = l2 at *
          refine (h1 _).mono ?_; rintro e w169 ⟨rfl, hb⟩
          clear fq1 fq2 fq3
          replace Bq := Lib.hid (heap_keep hb Bq.out)
          replace HB := Lib.hid (nx HB.out hb)
          clear hb
          replace Bq := Lib.hid (heap_keep (allocB w169 (.cells #[.string l1, .string l2] 59 (0, 0))) Bq.out)
          have Bl := Lib.hid (heap_alloc_at w169 (.cells #[.string l1, .string l2] 59 (0, 0)))
          replace HB := Lib.hid (nxAlloc HB.out (.cells #[.string l1, .string l2] 59 (0, 0)))
          obtain ⟨fq1, fq2, fq3⟩ := two_facts Bq.out
          go_wp2_with fail
          refine (h2 _).mono ?_; rintro e w170 ⟨rfl, hb⟩
          clear fq1 fq2 fq3
          replace Bq := Lib.hid (heap_keep hb Bq.out)
          replace Bl := Lib.hid (heap_keep hb Bl.out)
          replace HB := Lib.hid (nx HB.out hb)
          clear hb
          clear h1 h2
          replace Bq := Lib.hid (heap_keep (allocB w170 (.cells #[.string l1, .string l2] 59 (0, 0))) Bq.out)
          replace Bl := Lib.hid (heap_keep (allocB w170 (.cells #[.string l1, .string l2] 59 (0, 0))) Bl.out)
          have Bm := Lib.hid (heap_alloc_at w170 (.cells #[.string l1, .string l2] 59 (0, 0)))
          replace HB := Lib.hid (nxAlloc HB.out (.cells #[.string l1, .string l2] 59 (0, 0)))
          obtain ⟨fl1, fl2, fl3⟩ := two_facts Bl.out
          obtain ⟨fm1, fm2, fm3⟩ := two_facts Bm.out
          go_wp2_with fail
          refine (hI _).mono ?_; rintro e w171 ⟨rfl, hb⟩
          clear fl1 fl2 fl3 fm1 fm2 fm3
          replace Bq := Lib.hid (heap_keep hb Bq.out)
          replace Bl := Lib.hid (heap_keep hb Bl.out)
          replace Bm := Lib.hid (heap_keep hb Bm.out)
          replace HB := Lib.hid (nx HB.out hb)
          clear hb
          clear hI
          obtain ⟨fq1, fq2, fq3⟩ := two_facts Bq.out
          obtain ⟨fl1, fl2, fl3⟩ := two_facts Bl.out
          go_wp2_with fail
          refine (hS _).mono ?_; rintro e w172 ⟨rfl, hb⟩
          clear fq1 fq2 fq3 fl1 fl2 fl3
          replace Bq := Lib.hid (heap_keep hb Bq.out)
          replace Bl := Lib.hid (heap_keep hb Bl.out)
          replace Bm := Lib.hid (heap_keep hb Bm.out)
          replace HB := Lib.hid (nx HB.out hb)
          clear hb
          clear hS
          go_wp2_with fail
          clear Bq
          clear Bl
          clear Bm
          refine (drawAreSamePairs_any d _ (hd.keep HB.out)).mono ?_; rintro e w173 ⟨s1, t1, s2, t2, z1, z2, z3, z4, rfl, hb⟩
          replace HB := Lib.hid (nx HB.out hb)
          clear hb
          have BA := Lib.hid (heap_alloc_at w173 (.cells #[.string s1, .string t1] 59 (0, 0)))
          replace HB := Lib.hid (nxAlloc HB.out (.cells #[.string s1, .string t1] 59 (0, 0)))
          replace BA := Lib.hid (heap_keep (allocB (w173.alloc (.cells #[.string s1, .string t1] 59 (0, 0))) (.cells #[.string s2, .string t2] 59 (0, 0))) BA.out)
          have bC := heap_alloc_at (w173.alloc (.cells #[.string s1, .string t1] 59 (0, 0))) (.cells #[.string s2, .string t2] 59 (0, 0))
          rw [show (w173.alloc (.cells #[.string s1, .string t1] 59 (0, 0))).heap.size = w173.heap.size + 1 by simp] at bC
          have BC := Lib.hid bC
          clear bC
          replace HB := Lib.hid (nxAlloc HB.out (.cells #[.string s2, .string t2] 59 (0, 0)))
          have h1 := fun w => implAreSamePairs_any s1 t1 s2 t2 w (by omega) (by omega) (by omega) (by omega)
          have h2 := fun w => specAreSamePairs_any s1 t1 s2 t2 w (by omega) (by omega) (by omega) (by omega)
          simp only [ansB] at h1 h2
          generalize ((pairOf s1 t1).bind fun p => (pairOf s2 t2).bind fun q => some (sameB p q)) = o1 at *
          generalize (o1 == some true) = y1 at *
          generalize o1.isSome = y2 at *
          obtain ⟨fA1, fA2, fA3⟩ := two_facts BA.out
          obtain ⟨fC1, fC2, fC3⟩ := two_facts BC.out
          go_wp2_with fail
          refine (h1 _).mono ?_; rintro e w174 ⟨rfl, hb⟩
          clear fA1 fA2 fA3 fC1 fC2 fC3
          replace BA := Lib.hid (heap_keep hb BA.out)
          replace BC := Lib.hid (heap_keep hb BC.out)
          replace HB := Lib.hid (nx HB.out hb)
          clear hb
          obtain ⟨fA1, fA2, fA3⟩ := two_facts BA.out
          obtain ⟨fC1, fC2, fC3⟩ := two_facts BC.out
          go_wp2_with fail
          refine (h2 _).mono ?_; rintro e w175 ⟨rfl, hb⟩
          clear fA1 fA2 fA3 fC1 fC2 fC3
          replace BA := Lib.hid (heap_keep hb BA.out)
          replace BC := Lib.hid (heap_keep hb BC.out)
          replace HB := Lib.hid (nx HB.out hb)
          clear hb
          clear h1 h2
          go_wp2_with fail
          clear BA
          clear BC
          refine (drawIsReduced_any d _ (hd.keep HB.out)).mono ?_; rintro e w176 ⟨s3, t3, z5, z6, rfl, hb⟩
          replace HB := Lib.hid (nx HB.out hb)
          clear hb
          have BR := Lib.hid (heap_alloc_at w176 (.cells #[.string s3, .string t3] 59 (0, 0)))
          replace HB := Lib.hid (nxAlloc HB.out (.cells #[.string s3, .string t3] 59 (0, 0)))
          have h1 := fun w => implIsReduced_any s3 t3 w (by omega) (by omega)
          have h2 := fun w => specIsReduced_any s3 t3 w (by omega) (by omega)
          simp only [ansB] at h1 h2
          generalize ((pairOf s3 t3).bind fun p => some (both p).isEmpty) = o3 at *
          generalize (o3 == some true) = y3 at *
          generalize o3.isSome = y4 at *
          obtain ⟨fR1, fR2, fR3⟩ := two_facts BR.out
          go_wp2_with fail
          refine (h1 _).mono ?_; rintro e w177 ⟨rfl, hb⟩
          clear fR1 fR2 fR3
          replace BR := Lib.hid (heap_keep hb BR.out)
          replace HB := Lib.hid (nx HB.out hb)
          clear hb
          obtain ⟨fR1, fR2, fR3⟩ := two_facts BR.out
          go_wp2_with fail
          refine (h2 _).mono ?_; rintro e w178 ⟨rfl, hb⟩
          clear fR1 fR2 fR3
          replace BR := Lib.hid (heap_keep hb BR.out)
          replace HB := Lib.hid (nx HB.out hb)
          clear hb
          clear h1 h2
          go_wp2_with fail
          clear BR
          refine (drawParsePair_any c _ (hc.keep HB.out)).mono ?_; rintro e w179 ⟨z, hz, rfl, hb⟩
          replace HB := Lib.hid (nx HB.out hb)
          clear hb
          go_wp2_with fail
          have h1 := fun w => implParsePair_any z w (by omega)
          have h2 := fun w => specParsePair_any z w (by omega)
          rcases cut_cases z with hno | ⟨p, hyes, hpk, hpc, hpc2, hps⟩
          · rw [hno] at h1 h2
            simp only [ansPr, pS1, pS2, Option.isSome_none] at h1 h2
            refine (h1 _).mono ?_; rintro e w180 ⟨rfl, hb⟩
            replace HB := Lib.hid (nx HB.out hb)
            clear hb
            have BP := Lib.hid (heap_alloc_at w180 (.cells #[.string ⟨#[]⟩, .string ⟨#[]⟩] 59 (0, 0)))
            replace HB := Lib.hid (nxAlloc HB.out (.cells #[.string ⟨#[]⟩, .string ⟨#[]⟩] 59 (0, 0)))
            go_wp2_with fail
            refine (h2 _).mono ?_; rintro e w181 ⟨rfl, hb⟩
            replace BP := Lib.hid (heap_keep hb BP.out)
            replace HB := Lib.hid (nx HB.out hb)
            clear hb
            replace BP := Lib.hid (heap_keep (allocB w181 (.cells #[.string ⟨#[]⟩, .string ⟨#[]⟩] 59 (0, 0))) BP.out)
            have BQ := Lib.hid (heap_alloc_at w181 (.cells #[.string ⟨#[]⟩, .string ⟨#[]⟩] 59 (0, 0)))
            replace HB := Lib.hid (nxAlloc HB.out (.cells #[.string ⟨#[]⟩, .string ⟨#[]⟩] 59 (0, 0)))
            obtain ⟨fP1, fP2, fP3⟩ := two_facts BP.out
            obtain ⟨fQ1, fQ2, fQ3⟩ := two_facts BQ.out
            go_wp2_with fail
            go_ret
            exact ⟨by simp, HB.out⟩
          · rw [hyes] at h1 h2
            have hT := fun w => implPairText_any p.1.str p.2.str w (by have := p.1.str_size; omega) (by have := p.2.str_size; omega)
            rw [pairOf_str hpk hpc] at hT
            simp only [ansT, prT, Option.isSome_some] at hT
            rw [hps] at hT
            simp only [ansPr, pS1, pS2, Option.isSome_some] at h1 h2
            refine (h1 _).mono ?_; rintro e w182 ⟨rfl, hb⟩
            replace HB := Lib.hid (nx HB.out hb)
            clear hb
            have BP := Lib.hid (heap_alloc_at w182 (.cells #[.string p.1.str, .string p.2.str] 59 (0, 0)))
            replace HB := Lib.hid (nxAlloc HB.out (.cells #[.string p.1.str, .string p.2.str] 59 (0, 0)))
            go_wp2_with fail
            refine (h2 _).mono ?_; rintro e w183 ⟨rfl, hb⟩
            replace BP := Lib.hid (heap_keep hb BP.out)
            replace HB := Lib.hid (nx HB.out hb)
            clear hb
            replace BP := Lib.hid (heap_keep (allocB w183 (.cells #[.string p.1.str, .string p.2.str] 59 (0, 0))) BP.out)
            have BQ := Lib.hid (heap_alloc_at w183 (.cells #[.string p.1.str, .string p.2.str] 59 (0, 0)))
            replace HB := Lib.hid (nxAlloc HB.out (.cells #[.string p.1.str, .string p.2.str] 59 (0, 0)))
            obtain ⟨fP1, fP2, fP3⟩ := two_facts BP.out
            obtain ⟨fQ1, fQ2, fQ3⟩ := two_facts BQ.out
            go_wp2_with fail
            refine (hT _).mono ?_; rintro e w184 ⟨rfl, hb⟩
            clear fP1 fP2 fP3 fQ1 fQ2 fQ3
            replace BP := Lib.hid (heap_keep hb BP.out)
            replace BQ := Lib.hid (heap_keep hb BQ.out)
            replace HB := Lib.hid (nx HB.out hb)
            clear hb
            clear hT h1 h2
            go_wp2_with fail
            go_ret
            exact ⟨by simp, HB.out⟩
      | false =>
        simp only [redO, hpo, Option.bind_some, Option.isSome_some] at h1 h2 h3 h4 h5
        rw [if_neg (by simp [hch])] at h1 h2
        simp only [ansPr, pS1, pS2, Option.isSome_some, Option.isSome_none] at h1 h2 h3 h4
        clear hch hpo
        generalize (red p).1.str = d1 at *
        generalize (red p).2.str = d2 at *
        refine (h1 _ _ O.out).mono ?_; rintro e w185 ⟨rfl, hb⟩
        clear fp1 fp2 fp3
        replace Bp := Lib.hid (heap_keep hb Bp.out)
        replace O := Lib.hid (O.out.keep hb)
        replace HB := Lib.hid (nx HB.out hb)
        clear hb
        replace Bp := Lib.hid (heap_keep (allocB w185 (.cells #[.string ⟨#[]⟩, .string ⟨#[]⟩] 59 (0, 0))) Bp.out)
        replace O := Lib.hid (O.out.keep (allocB w185 (.cells #[.string ⟨#[]⟩, .string ⟨#[]⟩] 59 (0, 0))))
        have Bb := Lib.hid (heap_alloc_at w185 (.cells #[.string ⟨#[]⟩, .string ⟨#[]⟩] 59 (0, 0)))
        replace HB := Lib.hid (nxAlloc HB.out (.cells #[.string ⟨#[]⟩, .string ⟨#[]⟩] 59 (0, 0)))
        obtain ⟨fp1, fp2, fp3⟩ := two_facts Bp.out
        go_wp2_with fail
        refine (h2 _ _ O.out).mono ?_; rintro e w186 ⟨rfl, hb⟩
        clear fp1 fp2 fp3
        replace Bp := Lib.hid (heap_keep hb Bp.out)
        replace Bb := Lib.hid (heap_keep hb Bb.out)
        replace O := Lib.hid (O.out.keep hb)
        replace HB := Lib.hid (nx HB.out hb)
        clear hb
        replace Bp := Lib.hid (heap_keep (allocB w186 (.cells #[.string ⟨#[]⟩, .string ⟨#[]⟩] 59 (0, 0))) Bp.out)
        replace Bb := Lib.hid (heap_keep (allocB w186 (.cells #[.string ⟨#[]⟩, .string ⟨#[]⟩] 59 (0, 0))) Bb.out)
        replace O := Lib.hid (O.out.keep (allocB w186 (.cells #[.string ⟨#[]⟩, .string ⟨#[]⟩] 59 (0, 0))))
        have Br := Lib.hid (heap_alloc_at w186 (.cells #[.string ⟨#[]⟩, .string ⟨#[]⟩] 59 (0, 0)))
        replace HB := Lib.hid (nxAlloc HB.out (.cells #[.string ⟨#[]⟩, .string ⟨#[]⟩] 59 (0, 0)))
        obtain ⟨fp1, fp2, fp3⟩ := two_facts Bp.out
        go_wp2_with fail
        clear O
        refine (h3 _).mono ?_; rintro e w187 ⟨rfl, hb⟩
        clear fp1 fp2 fp3
        replace Bp := Lib.hid (heap_keep hb Bp.out)
        replace Bb := Lib.hid (heap_keep hb Bb.out)
        replace Br := Lib.hid (heap_keep hb Br.out)
        replace HB := Lib.hid (nx HB.out hb)
        clear hb
        replace Bp := Lib.hid (heap_keep (allocB w187 (.cells #[.string d1, .string d2] 59 (0, 0))) Bp.out)
        replace Bb := Lib.hid (heap_keep (allocB w187 (.cells #[.string d1, .string d2] 59 (0, 0))) Bb.out)
        replace Br := Lib.hid (heap_keep (allocB w187 (.cells #[.string d1, .string d2] 59 (0, 0))) Br.out)
        have Bd := Lib.hid (heap_alloc_at w187 (.cells #[.string d1, .string d2] 59 (0, 0)))
        replace HB := Lib.hid (nxAlloc HB.out (.cells #[.string d1, .string d2] 59 (0, 0)))
        obtain ⟨fp1, fp2, fp3⟩ := two_facts Bp.out
        go_wp2_with fail
        refine (h4 _).mono ?_; rintro e w188 ⟨rfl, hb⟩
        clear fp1 fp2 fp3
        replace Bp := Lib.hid (heap_keep hb Bp.out)
        replace Bb := Lib.hid (heap_keep hb Bb.out)
        replace Br := Lib.hid (heap_keep hb Br.out)
        replace Bd := Lib.hid (heap_keep hb Bd.out)
        replace HB := Lib.hid (nx HB.out hb)
        clear hb
        clear h1 h2 h3 h4
        replace Bp := Lib.hid (heap_keep (allocB w188 (.cells #[.string d1, .string d2] 59 (0, 0))) Bp.out)
        replace Bb := Lib.hid (heap_keep (allocB w188 (.cells #[.string d1, .string d2] 59 (0, 0))) Bb.out)
        replace Br := Lib.hid (heap_keep (allocB w188 (.cells #[.string d1, .string d2] 59 (0, 0))) Br.out)
        replace Bd := Lib.hid (heap_keep (allocB w188 (.cells #[.string d1, .string d2] 59 (0, 0))) Bd.out)
        have Bw := Lib.hid (heap_alloc_at w188 (.cells #[.string d1, .string d2] 59 (0, 0)))
        replace HB := Lib.hid (nxAlloc HB.out (.cells #[.string d1, .string d2] 59 (0, 0)))
        obtain ⟨fp1, fp2, fp3⟩ := two_facts Bp.out
        obtain ⟨fb1, fb2, fb3⟩ := two_facts Bb.out
        obtain ⟨fr1, fr2, fr3⟩ := two_facts Br.out
        obtain ⟨fd1, fd2, fd3⟩ := two_facts Bd.out
        obtain ⟨fw1, fw2, fw3⟩ := two_facts Bw.out
        go_wp2_with fail
        refine (h5 _).mono ?_; rintro e w189 ⟨rfl, hb⟩
        clear fp1 fp2 fp3 fb1 fb2 fb3 fr1 fr2 fr3 fd1 fd2 fd3 fw1 fw2 fw3
        replace Bp := Lib.hid (heap_keep hb Bp.out)
        replace Bb := Lib.hid (heap_keep hb Bb.out)
        replace Br := Lib.hid (heap_keep hb Br.out)
        replace Bd := Lib.hid (heap_keep hb Bd.out)
        replace Bw := Lib.hid (heap_keep hb Bw.out)
        replace HB := Lib.hid (nx HB.out hb)
        clear hb
        clear h5
        obtain ⟨fd1, fd2, fd3⟩ := two_facts Bd.out
        obtain ⟨fp1, fp2, fp3⟩ := two_facts Bp.out
        go_wp2_with fail
        refine (hI _).mono ?_; rintro e w190 ⟨rfl, hb⟩
        clear fd1 fd2 fd3 fp1 fp2 fp3
        replace Bp := Lib.hid (heap_keep hb Bp.out)
        replace Bb := Lib.hid (heap_keep hb Bb.out)
        replace Br := Lib.hid (heap_keep hb Br.out)
        replace Bd := Lib.hid (heap_keep hb Bd.out)
        replace Bw := Lib.hid (heap_keep hb Bw.out)
        replace HB := Lib.hid (nx HB.out hb)
        clear hb
        obtain ⟨fp1, fp2, fp3⟩ := two_facts Bp.out
        go_wp2_with fail
        refine (hJ _).mono ?_; rintro e w191 ⟨rfl, hb⟩
        clear fp1 fp2 fp3
        replace Bp := Lib.hid (heap_keep hb Bp.out)
        replace Bb := Lib.hid (heap_keep hb Bb.out)
        replace Br := Lib.hid (heap_keep hb Br.out)
        replace Bd := Lib.hid (heap_keep hb Bd.out)
        replace Bw := Lib.hid (heap_keep hb Bw.out)
        replace HB := Lib.hid (nx HB.out hb)
        clear hb
        obtain ⟨fp1, fp2, fp3⟩ := two_facts Bp.out
        obtain ⟨fd1, fd2, fd3⟩ := two_facts Bd.out
        go_wp2_with fail
        refine (hS _).mono ?_; rintro e w192 ⟨rfl, hb⟩
        clear fp1 fp2 fp3 fd1 fd2 fd3
        replace Bp := Lib.hid (heap_keep hb Bp.out)
        replace Bb := Lib.hid (heap_keep hb Bb.out)
        replace Br := Lib.hid (heap_keep hb Br.out)
        replace Bd := Lib.hid (heap_keep hb Bd.out)
        replace Bw := Lib.hid (heap_keep hb Bw.out)
        replace HB := Lib.hid (nx HB.out hb)
        clear hb
        clear hI hJ hS
        go_wp2_with fail
        clear Bp
        clear Bb
        clear Br
        clear Bd
        clear Bw
        refine (drawExpandPair_any d _ (hd.keep HB.out)).mono ?_; rintro e w193 ⟨a, b, n, z1, z2, n1, n2, rfl, hb⟩
        replace HB := Lib.hid (nx HB.out hb)
        clear hb
        have Bq := Lib.hid (heap_alloc_at w193 (.cells #[.string a, .string b] 59 (0, 0)))
        replace HB := Lib.hid (nxAlloc HB.out (.cells #[.string a, .string b] 59 (0, 0)))
        have h1 := fun w => implExpandPair_any a b n w (by omega) (by omega) (by omega) (by omega)
        have h2 := fun w => specExpandPair_any a b n w (by omega) (by omega) (by omega) (by omega)
        obtain ⟨fq1, fq2, fq3⟩ := two_facts Bq.out
        go_wp2_with fail
        rcases expand_cases a b n with hno | ⟨p, l, rfl, rfl, hpo, hyes, hlo, hlb, hlr, hc8, hc9, hd8, hd9⟩
        · rw [hno] at h1 h2
          simp only [ansPr, pS1, pS2, Option.isSome_none] at h1 h2
          refine (h1 _).mono ?_; rintro e w194 ⟨rfl, hb⟩
          clear fq1 fq2 fq3
          replace Bq := Lib.hid (heap_keep hb Bq.out)
          replace HB := Lib.hid (nx HB.out hb)
          clear hb
          replace Bq := Lib.hid (heap_keep (allocB w194 (.cells #[.string ⟨#[]⟩, .string ⟨#[]⟩] 59 (0, 0))) Bq.out)
          have Bl := Lib.hid (heap_alloc_at w194 (.cells #[.string ⟨#[]⟩, .string ⟨#[]⟩] 59 (0, 0)))
          replace HB := Lib.hid (nxAlloc HB.out (.cells #[.string ⟨#[]⟩, .string ⟨#[]⟩] 59 (0, 0)))
          obtain ⟨fq1, fq2, fq3⟩ := two_facts Bq.out
          go_wp2_with fail
          refine (h2 _).mono ?_; rintro e w195 ⟨rfl, hb⟩
          clear fq1 fq2 fq3
          replace Bq := Lib.hid (heap_keep hb Bq.out)
          replace Bl := Lib.hid (heap_keep hb Bl.out)
          replace HB := Lib.hid (nx HB.out hb)
          clear hb
          clear h1 h2
          replace Bq := Lib.hid (heap_keep (allocB w195 (.cells #[.string ⟨#[]⟩, .string ⟨#[]⟩] 59 (0, 0))) Bq.out)
          replace Bl := Lib.hid (heap_keep (allocB w195 (.cells #[.string ⟨#[]⟩, .string ⟨#[]⟩] 59 (0, 0))) Bl.out)
          have Bm := Lib.hid (heap_alloc_at w195 (.cells #[.string ⟨#[]⟩, .string ⟨#[]⟩] 59 (0, 0)))
          replace HB := Lib.hid (nxAlloc HB.out (.cells #[.string ⟨#[]⟩, .string ⟨#[]⟩] 59 (0, 0)))
          obtain ⟨fl1, fl2, fl3⟩ := two_facts Bl.out
          obtain ⟨fm1, fm2, fm3⟩ := two_facts Bm.out
          go_wp2_with fail
          clear fl1 fl2 fl3 fm1 fm2 fm3
          clear Bq
          clear Bl
          clear Bm
          refine (drawAreSamePairs_any d _ (hd.keep HB.out)).mono ?_; rintro e w196 ⟨s1, t1, s2, t2, z1, z2, z3, z4, rfl, hb⟩
          replace HB := Lib.hid (nx HB.out hb)
          clear hb
          have BA := Lib.hid (heap_alloc_at w196 (.cells #[.string s1, .string t1] 59 (0, 0)))
          replace HB := Lib.hid (nxAlloc HB.out (.cells #[.string s1, .string t1] 59 (0, 0)))
          replace BA := Lib.hid (heap_keep (allocB (w196.alloc (.cells #[.string s1, .string t1] 59 (0, 0))) (.cells #[.string s2, .string t2] 59 (0, 0))) BA.out)
          have bC := heap_alloc_at (w196.alloc (.cells #[.string s1, .string t1] 59 (0, 0))) (.cells #[.string s2, .string t2] 59 (0, 0))
          rw [show (w196.alloc (.cells #[.string s1, .string t1] 59 (0, 0))).heap.size = w196.heap.size + 1 by simp] at bC
          have BC := Lib.hid bC
          clear bC
          replace HB := Lib.hid (nxAlloc HB.out (.cells #[.string s2, .string t2] 59 (0, 0)))
          have h1 := fun w => implAreSamePairs_any s1 t1 s2 t2 w (by omega) (by omega) (by omega) (by omega)
          have h2 := fun w => specAreSamePairs_any s1 t1 s2 t2 w (by omega) (by omega) (by omega) (by omega)
          simp only [ansB] at h1 h2
          generalize ((pairOf s1 t1).bind fun p => (pairOf s2 t2).bind fun q => some (sameB p q)) = o1 at *
          generalize (o1 == some true) = y1 at *
          generalize o1.isSome = y2 at *
          obtain ⟨fA1, fA2, fA3⟩ := two_facts BA.out
          obtain ⟨fC1, fC2, fC3⟩ := two_facts BC.out
          go_wp2_with fail
          refine (h1 _).mono ?_; rintro e w197 ⟨rfl, hb⟩
          clear fA1 fA2 fA3 fC1 fC2 fC3
          replace BA := Lib.hid (heap_keep hb BA.out)
          replace BC := Lib.hid (heap_keep hb BC.out)
          replace HB := Lib.hid (nx HB.out hb)
          clear hb
          obtain ⟨fA1, fA2, fA3⟩ := two_facts BA.out
          obtain ⟨fC1, fC2, fC3⟩ := two_facts BC.out
          go_wp2_with fail
          refine (h2 _).mono ?_; rintro e w198 ⟨rfl, hb⟩
          clear fA1 fA2 fA3 fC1 fC2 fC3
          replace BA := Lib.hid (heap_keep hb BA.out)
          replace BC := Lib.hid (heap_keep hb BC.out)
          replace HB := Lib.hid (nx HB.out hb)
          clear hb
          clear h1 h2
          go_wp2_with fail
          clear BA
          clear BC
          refine (drawIsReduced_any d _ (hd.keep HB.out)).mono ?_; rintro e w199 ⟨s3, t3, z5, z6, rfl, hb⟩
          replace HB := Lib.hid (nx HB.out hb)
          clear hb
          have BR := Lib.hid (heap_alloc_at w199 (.cells #[.string s3, .string t3] 59 (0, 0)))
          replace HB := Lib.hid (nxAlloc HB.out (.cells #[.string s3, .string t3] 59 (0, 0)))
          have h1 := fun w => implIsReduced_any s3 t3 w (by omega) (by omega)
          have h2 := fun w => specIsReduced_any s3 t3 w (by omega) (by omega)
          simp only [ansB] at h1 h2
          generalize ((pairOf s3 t3).bind fun p => some (both p).isEmpty) = o3 at *
          generalize (o3 == some true) = y3 at *
          generalize o3.isSome = y4 at *
          obtain ⟨fR1, fR2, fR3⟩ := two_facts BR.out
          go_wp2_with fail
          refine (h1 _).mono ?_; rintro e w200 ⟨rfl, hb⟩
          clear fR1 fR2 fR3
          replace BR := Lib.hid (heap_keep hb BR.out)
          replace HB := Lib.hid (nx HB.out hb)
          clear hb
          obtain ⟨fR1, fR2, fR3⟩ := two_facts BR.out
          go_wp2_with fail
          refine (h2 _).mono ?_; rintro e w201 ⟨rfl, hb⟩
          clear fR1 fR2 fR3
          replace BR := Lib.hid (heap_keep hb BR.out)
          replace HB := Lib.hid (nx HB.out hb)
          clear hb
          clear h1 h2
          go_wp2_with fail
          clear BR
          refine (drawParsePair_any c _ (hc.keep HB.out)).mono ?_; rintro e w202 ⟨z, hz, rfl, hb⟩
          replace HB := Lib.hid (nx HB.out hb)
          clear hb
          go_wp2_with fail
          have h1 := fun w => implParsePair_any z w (by omega)
          have h2 := fun w => specParsePair_any z w (by omega)
          rcases cut_cases z with hno | ⟨p, hyes, hpk, hpc, hpc2, hps⟩
          · rw [hno] at h1 h2
            simp only [ansPr, pS1, pS2, Option.isSome_none] at h1 h2
            refine (h1 _).mono ?_; rintro e w203 ⟨rfl, hb⟩
            replace HB := Lib.hid (nx HB.out hb)
            clear hb
            have BP := Lib.hid (heap_alloc_at w203 (.cells #[.string ⟨#[]⟩, .string ⟨#[]⟩] 59 (0, 0)))
            replace HB := Lib.hid (nxAlloc HB.out (.cells #[.string ⟨#[]⟩, .string ⟨#[]⟩] 59 (0, 0)))
            go_wp2_with fail
            refine (h2 _).mono ?_; rintro e w204 ⟨rfl, hb⟩
            replace BP := Lib.hid (heap_keep hb BP.out)
            replace HB := Lib.hid (nx HB.out hb)
            clear hb
            replace BP := Lib.hid (heap_keep (allocB w204 (.cells #[.string ⟨#[]⟩, .string ⟨#[]⟩] 59 (0, 0))) BP.out)
            have BQ := Lib.hid (heap_alloc_at w204 (.cells #[.string ⟨#[]⟩, .string ⟨#[]⟩] 59 (0, 0)))
            replace HB := Lib.hid (nxAlloc HB.out (.cells #[.string ⟨#[]⟩, .string ⟨#[]⟩] 59 (0, 0)))
            obtain ⟨fP1, fP2, fP3⟩ := two_facts BP.out
            obtain ⟨fQ1, fQ2, fQ3⟩ := two_facts BQ.out
            go_wp2_with fail
            go_ret
            exact ⟨by simp, HB.out⟩
          · rw [hyes] at h1 h2
            have hT := fun w => implPairText_any p.1.str p.2.str w (by have := p.1.str_size; omega) (by have := p.2.str_size; omega)
            rw [pairOf_str hpk hpc] at hT
            simp only [ansT, prT, Option.isSome_some] at hT
            rw [hps] at hT
            simp only [ansPr, pS1, pS2, Option.isSome_some] at h1 h2
            refine (h1 _).mono ?_; rintro e w205 ⟨rfl, hb⟩
            replace HB := Lib.hid (nx HB.out hb)
            clear hb
            have BP := Lib.hid (heap_alloc_at w205 (.cells #[.string p.1.str, .string p.2.str] 59 (0, 0)))
            replace HB := Lib.hid (nxAlloc HB.out (.cells #[.string p.1.str, .string p.2.str] 59 (0, 0)))
            go_wp2_with fail
            refine (h2 _).mono ?_; rintro e w206 ⟨rfl, hb⟩
            replace BP := Lib.hid (heap_keep hb BP.out)
            replace HB := Lib.hid (nx HB.out hb)
            clear hb
            replace BP := Lib.hid (heap_keep (allocB w206 (.cells #[.string p.1.str, .string p.2.str] 59 (0, 0))) BP.out)
            have BQ := Lib.hid (heap_alloc_at w206 (.cells #[.string p.1.str, .string p.2.str] 59 (0, 0)))
            replace HB := Lib.hid (nxAlloc HB.out (.cells #[.string p.1.str, .string p.2.str] 59 (0, 0)))
            obtain ⟨fP1, fP2, fP3⟩ := two_facts BP.out
            obtain ⟨fQ1, fQ2, fQ3⟩ := two_facts BQ.out
            go_wp2_with fail
            refine (hT _).mono ?_; rintro e w207 ⟨rfl, hb⟩
            clear fP1 fP2 fP3 fQ1 fQ2 fQ3
            replace BP := Lib.hid (heap_keep hb BP.out)
            replace BQ := Lib.hid (heap_keep hb BQ.out)
            replace HB := Lib.hid (nx HB.out hb)
            clear hb
            clear hT h1 h2
            go_wp2_with fail
            go_ret
            exact ⟨by simp, HB.out⟩
        · rw [hyes] at h1 h2
          have s1 := l.1.str_size
          have s2 := l.2.str_size
          have s3 := p.1.str_size
          have s4 := p.2.str_size
          have hI := fun w => implIsReduced_any l.1.str l.2.str w (by omega) (by omega)
          rw [hlo] at hI
          simp only [Option.bind_some, hlb, ansB_some] at hI
          have hS := fun w => sameMap_any p.1.str p.2.str l.1.str l.2.str w p l hpo hlo hlr.symm (by omega) (by omega) (by omega) (by omega)
          simp only [ansPr, pS1, pS2, Option.isSome_some] at h1 h2
          clear s1 s2 s3 s4 hlb hlr hlo
          generalize l.1.str = l1 at *
          generalize l.2.str = l2 at *
          refine (h1 _).mono ?_; rintro e w208 ⟨rfl, hb⟩
          clear fq1 fq2 fq3
          replace Bq := Lib.hid (heap_keep hb Bq.out)
          replace HB := Lib.hid (nx HB.out hb)
          clear hb
          replace Bq := Lib.hid (heap_keep (allocB w208 (.cells #[.string l1, .string l2] 59 (0, 0))) Bq.out)
          have Bl := Lib.hid (heap_alloc_at w208 (.cells #[.string l1, .string l2] 59 (0, 0)))
          replace HB := Lib.hid (nxAlloc HB.out (.cells #[.string l1, .string l2] 59 (0, 0)))
          obtain ⟨fq1, fq2, fq3⟩ := two_facts Bq.out
          go_wp2_with fail
          refine (h2 _).mono ?_; rintro e w209 ⟨rfl, hb⟩
          clear fq1 fq2 fq3
          replace Bq := Lib.hid (heap_keep hb Bq.out)
          replace Bl := Lib.hid (heap_keep hb Bl.out)
          replace HB := Lib.hid (nx HB.out hb)
          clear hb
          clear h1 h2
          replace Bq := Lib.hid (heap_keep (allocB w209 (.cells #[.string l1, .string l2] 59 (0, 0))) Bq.out)
          replace Bl := Lib.hid (heap_keep (allocB w209 (.cells #[.string l1, .string l2] 59 (0, 0))) Bl.out)
          have Bm := Lib.hid (heap_alloc_at w209 (.cells #[.string l1, .string l2] 59 (0, 0)))
          replace HB := Lib.hid (nxAlloc HB.out (.cells #[.string l1, .string l2] 59 (0, 0)))
          obtain ⟨fl1, fl2, fl3⟩ := two_facts Bl.out
          obtain ⟨fm1, fm2, fm3⟩ := two_facts Bm.out
          go_wp2_with fail
          refine (hI _).mono ?_; rintro e w210 ⟨rfl, hb⟩
          clear fl1 fl2 fl3 fm1 fm2 fm3
          replace Bq := Lib.hid (heap_keep hb Bq.out)
          replace Bl := Lib.hid (heap_keep hb Bl.out)
          replace Bm := Lib.hid (heap_keep hb Bm.out)
          replace HB := Lib.hid (nx HB.out hb)
          clear hb
          clear hI
          obtain ⟨fq1, fq2, fq3⟩ := two_facts Bq.out
          obtain ⟨fl1, fl2, fl3⟩ := two_facts Bl.out
          go_wp2_with fail
          refine (hS _).mono ?_; rintro e w211 ⟨rfl, hb⟩
          clear fq1 fq2 fq3 fl1 fl2 fl3
          replace Bq := Lib.hid (heap_keep hb Bq.out)
          replace Bl := Lib.hid (heap_keep hb Bl.out)
          replace Bm := Lib.hid (heap_keep hb Bm.out)
          replace HB := Lib.hid (nx HB.out hb)
          clear hb
          clear hS
          go_wp2_with fail
          clear Bq
          clear Bl
          clear Bm
          refine (drawAreSamePairs_any d _ (hd.keep HB.out)).mono ?_; rintro e w212 ⟨s1, t1, s2, t2, z1, z2, z3, z4, rfl, hb⟩
          replace HB := Lib.hid (nx HB.out hb)
          clear hb
          have BA := Lib.hid (heap_alloc_at w212 (.cells #[.string s1, .string t1] 59 (0, 0)))
          replace HB := Lib.hid (nxAlloc HB.out (.cells #[.string s1, .string t1] 59 (0, 0)))
          replace BA := Lib.hid (heap_keep (allocB (w212.alloc (.cells #[.string s1, .string t1] 59 (0, 0))) (.cells #[.string s2, .string t2] 59 (0, 0))) BA.out)
          have bC := heap_alloc_at (w212.alloc (.cells #[.string s1, .string t1] 59 (0, 0))) (.cells #[.string s2, .string t2] 59 (0, 0))
          rw [show (w212.alloc (.cells #[.string s1, .string t1] 59 (0, 0))).heap.size = w212.heap.size + 1 by simp] at bC
          have BC := Lib.hid bC
          clear bC
          replace HB := Lib.hid (nxAlloc HB.out (.cells #[.string s2, .string t2] 59 (0, 0)))
          have h1 := fun w => implAreSamePairs_any s1 t1 s2 t2 w (by omega) (by omega) (by omega) (by omega)
          have h2 := fun w => specAreSamePairs_any s1 t1 s2 t2 w (by omega) (by omega) (by omega) (by omega)
          simp only [ansB] at h1 h2
          generalize ((pairOf s1 t1).bind fun p => (pairOf s2 t2).bind fun q => some (sameB p q)) = o1 at *
          generalize (o1 == some true) = y1 at *
          generalize o1.isSome = y2 at *
          obtain ⟨fA1, fA2, fA3⟩ := two_facts BA.out
          obtain ⟨fC1, fC2, fC3⟩ := two_facts BC.out
          go_wp2_with fail
          refine (h1 _).mono ?_; rintro e w213 ⟨rfl, hb⟩
          clear fA1 fA2 fA3 fC1 fC2 fC3
          replace BA := Lib.hid (heap_keep hb BA.out)
          replace BC := Lib.hid (heap_keep hb BC.out)
          replace HB := Lib.hid (nx HB.out hb)
          clear hb
          obtain ⟨fA1, fA2, fA3⟩ := two_facts BA.out
          obtain ⟨fC1, fC2, fC3⟩ := two_facts BC.out
          go_wp2_with fail
          refine (h2 _).mono ?_; rintro e w214 ⟨rfl, hb⟩
          clear fA1 fA2 fA3 fC1 fC2 fC3
          replace BA := Lib.hid (heap_keep hb BA.out)
          replace BC := Lib.hid (heap_keep hb BC.out)
          replace HB := Lib.hid (nx HB.out hb)
          clear hb
          clear h1 h2
          go_wp2_with fail
          clear BA
          clear BC
          refine (drawIsReduced_any d _ (hd.keep HB.out)).mono ?_; rintro e w215 ⟨s3, t3, z5, z6, rfl, hb⟩
          replace HB := Lib.hid (nx HB.out hb)
          clear hb
          have BR := Lib.hid (heap_alloc_at w215 (.cells #[.string s3, .string t3] 59 (0, 0)))
          replace HB := Lib.hid (nxAlloc HB.out (.cells #[.string s3, .string t3] 59 (0, 0)))
          have h1 := fun w => implIsReduced_any s3 t3 w (by omega) (by omega)
          have h2 := fun w => specIsReduced_any s3 t3 w (by omega) (by omega)
          simp only [ansB] at h1 h2
          generalize ((pairOf s3 t3).bind fun p => some (both p).isEmpty) = o3 at *
          generalize (o3 == some true) = y3 at *
          generalize o3.isSome = y4 at *
          obtain ⟨fR1, fR2, fR3⟩ := two_facts BR.out
          go_wp2_with fail
          refine (h1 _).mono ?_; rintro e w216 ⟨rfl, hb⟩
          clear fR1 fR2 fR3
          replace BR := Lib.hid (heap_keep hb BR.out)
          replace HB := Lib.hid (nx HB.out hb)
          clear hb
          obtain ⟨fR1, fR2, fR3⟩ := two_facts BR.out
          go_wp2_with fail
          refine (h2 _).mono ?_; rintro e w217 ⟨rfl, hb⟩
          clear fR1 fR2 fR3
          replace BR := Lib.hid (heap_keep hb BR.out)
          replace HB := Lib.hid (nx HB.out hb)
          clear hb
          clear h1 h2
          go_wp2_with fail
          clear BR
          refine (drawParsePair_any c _ (hc.keep HB.out)).mono ?_; rintro e w218 ⟨z, hz, rfl, hb⟩
          replace HB := Lib.hid (nx HB.out hb)
          clear hb
          go_wp2_with fail
          have h1 := fun w => implParsePair_any z w (by omega)
          have h2 := fun w => specParsePair_any z w (by omega)
          rcases cut_cases z with hno | ⟨p, hyes, hpk, hpc, hpc2, hps⟩
          · rw [hno] at h1 h2
            simp only [ansPr, pS1, pS2, Option.isSome_none] at h1 h2
            refine (h1 _).mono ?_; rintro e w219 ⟨rfl, hb⟩
            replace HB := Lib.hid (nx HB.out hb)
            clear hb
            have BP := Lib.hid (heap_alloc_at w219 (.cells #[.string ⟨#[]⟩, .string ⟨#[]⟩] 59 (0, 0)))
            replace HB := Lib.hid (nxAlloc HB.out (.cells #[.string ⟨#[]⟩, .string ⟨#[]⟩] 59 (0, 0)))
            go_wp2_with fail
            refine (h2 _).mono ?_; rintro e w220 ⟨rfl, hb⟩
            replace BP := Lib.hid (heap_keep hb BP.out)
            replace HB := Lib.hid (nx HB.out hb)
            clear hb
            replace BP := Lib.hid (heap_keep (allocB w220 (.cells #[.string ⟨#[]⟩, .string ⟨#[]⟩] 59 (0, 0))) BP.out)
            have BQ := Lib.hid (heap_alloc_at w220 (.cells #[.string ⟨#[]⟩, .string ⟨#[]⟩] 59 (0, 0)))
            replace HB := Lib.hid (nxAlloc HB.out (.cells #[.string ⟨#[]⟩, .string ⟨#[]⟩] 59 (0, 0)))
            obtain ⟨fP1, fP2, fP3⟩ := two_facts BP.out
            obtain ⟨fQ1, fQ2, fQ3⟩ := two_facts BQ.out
            go_wp2_with fail
            go_ret
            exact ⟨by simp, HB.out⟩
          · rw [hyes] at h1 h2
            have hT := fun w => implPairText_any p.1.str p.2.str w (by have := p.1.str_size; omega) (by have := p.2.str_size; omega)
            rw [pairOf_str hpk hpc] at hT
            simp only [ansT, prT, Option.isSome_some] at hT
            rw [hps] at hT
            simp only [ansPr, pS1, pS2, Option.isSome_some] at h1 h2
            refine (h1 _).mono ?_; rintro e w221 ⟨rfl, hb⟩
            replace HB := Lib.hid (nx HB.out hb)
            clear hb
            have BP := Lib.hid (heap_alloc_at w221 (.cells #[.string p.1.str, .string p.2.str] 59 (0, 0)))
            replace HB := Lib.hid (nxAlloc HB.out (.cells #[.string p.1.str, .string p.2.str] 59 (0, 0)))
            go_wp2_with fail
            refine (h2 _).mono ?_; rintro e w222 ⟨rfl, hb⟩
            replace BP := Lib.hid (heap_keep hb BP.out)
            replace HB := Lib.hid (nx HB.out hb)
            clear hb
            replace BP := Lib.hid (heap_keep (allocB w222 (.cells #[.string p.1.str, .string p.2.str] 59 (0, 0))) BP.out)
            have BQ := Lib.hid (heap_alloc_at w222 (.cells #[.string p.1.str, .string p.2.str] 59 (0, 0)))
            replace HB := Lib.hid (nxAlloc HB.out (.cells #[.string p.1.str, .string p.2.str] 59 (0, 0)))
            obtain ⟨fP1, fP2, fP3⟩ := two_facts BP.out
            obtain ⟨fQ1, fQ2, fQ3⟩ := two_facts BQ.out
            go_wp2_with fail
            refine (hT _).mono ?_; rintro e w223 ⟨rfl, hb⟩
            clear fP1 fP2 fP3 fQ1 fQ2 fQ3
            replace BP := Lib.hid (heap_keep hb BP.out)
            replace BQ := Lib.hid (heap_keep hb BQ.out)
            replace HB := Lib.hid (nx HB.out hb)
            clear hb
            clear hT h1 h2
            go_wp2_with fail
            go_ret
            exact ⟨by simp, HB.out⟩
end Go.Proofs.Yteflpaebckichab

/-! Lw2 -/
namespace Go.Proofs.Yteflpaebckichab
open Go.RowKit

theorem rawB_nil (W : World) : RawB W ⟨none, 0, 0⟩ := ⟨by simp, .inl rfl⟩
theorem rawB_of {W : World} {x : Addr} {len cap : Nat} {zs : List Int} (h1 : len ≤ cap) (h2 : cap ≤ maxLen) (h3 : zs.length = cap) (h4 : ∀ i, i < zs.length → W.cell? (x.add i) = some (.int .u8 (zs.getD i 0))) (h5 : ∀ s ∈ zs, (Lit.int .u8 s).wf = true) :
    RawB W ⟨some x, len, cap⟩ := by
  unfold maxLen at h2
  refine ⟨by show (len : Int) ≤ _; omega, ?_⟩
  by_cases h0 : len = 0
  · exact .inl h0
  · right
    obtain ⟨b, off, spot⟩ := x
    have hc := h4 0 (by omega)
    have hspot : spot = none := by simpa [Addr.add] using World.cell?_spot hc
    subst hspot
    refine ⟨b, off, rfl, fun i hi => ?_⟩
    have hi2 : i < len := hi
    have := h4 i (by omega)
    have e : (⟨b, off, none⟩ : Addr).add i = ⟨b, off + i, none⟩ := by
      unfold Addr.add
      split
      · next h => rw [h]; simp
      · rfl
    rw [e] at this
    have hm : zs.getD i 0 ∈ zs := by
      rw [List.getD_eq_getElem?_getD, List.getElem?_eq_getElem (show i < zs.length by omega)]; exact List.getElem_mem _
    have hw := h5 _ hm
    have e1 : IntKind.u8.min = 0 := rfl
    have e2 : IntKind.u8.max = 255 := rfl
    simp only [Lit.wf, Bool.and_eq_true, decide_eq_true_eq] at hw
    refine ⟨(zs.getD i 0).toNat, by omega, ?_⟩
    rw [this, show (((zs.getD i 0).toNat : Nat) : Int) = zs.getD i 0 by omega]
end Go.Proofs.Yteflpaebckichab

/-! LFnReducedAreUnique -/
namespace Go.Proofs.Yteflpaebckichab.fnReducedAreUnique
open Go.ChangeShapes Go.WideShapes Go.ChangeAt Go.RowKit
open Go.ChangeMaps (open_string shut_string)
set_option linter.unusedVariables false

theorem own : ownKnob Try.prog.godebug = none := by kernel_rfl
theorem laidOut : laidOutB Try.prog = true := by kernel_rfl

set_option maxRecDepth 100000 in
theorem walked (W : World) (c d : Bts) (hc : RawB W c) (hd : RawB W d) : Calls Try.prog 6 #[.slice c.a c.n c.cap, .slice d.a d.n d.cap] W (SaysTrue W) := by
  by_cases hbig : c.n + d.n ≤ 1048576
  · exact reducedAreUnique_law W c d ⟨by omega, hc.2⟩ ⟨by omega, hd.2⟩ hbig
  · go_enter Try.func6, Try.ntmps6
    go_wp2_with fail
    refine (big_yes c d _ hc.1 hd.1 (by omega)).mono ?_; rintro e w1 ⟨rfl, rfl⟩
    go_wp2_with fail
    go_ret
    exact ⟨rfl, Below.refl _ _⟩

set_option maxRecDepth 100000 in
theorem lifted (os : Os) (started : os.Started) (H : Type) (enc : TypeId × Value → H) :
    ReturnsInHanded {} Try.checked os 6 .any (Rows.fnReducedAreUniqueSpec.pre6 enc Try.prog Try.f6 Rows.fnReducedAreUniqueRow.domain false) (Rows.fnReducedAreUniqueSpec.post enc Try.prog Try.f6 false true false false) := by
  refine returnsInHanded_of_change (C := Try.checked) own started (by kernel_rfl) Try.func6
    (ChangeSpec.witness6 (enc := enc) (C := Try.checked) false ⟨#[], #[.slice none 0 0, .slice none 0 0], []⟩ 8 (by kernel_rfl) (by kernel_rfl) (by kernel_rfl) (by kernel_rfl)) ?_
  intro W base args ds gs before hval0 hW hcnd _
  have hval : ∀ (j : Nat) t v, Try.f6.params[j]? = some t → args[j]? = some v → Value.okWide Try.prog W .any base t v := hval0
  have hW' := hW
  obtain ⟨p, q, hA0, hV, rfl, hfz, hnd⟩ := hW
  have hA : DataW.TrodAll enc Try.prog W 0 (fun _ => true) true Try.f6.params.toList args.toList ds p := hA0
  rw [Try.params6] at hA hval
  obtain ⟨v0, vs0, d0, ds0, p0, q0, hargs, rfl, rfl, h0, r0⟩ := trodAll_cons hA
  obtain ⟨v1, vs1, d1, ds1, p1, q1, rfl, rfl, rfl, h1, r1⟩ := trodAll_cons r0
  obtain ⟨rfl, rfl, rfl⟩ := trodAll_nil r1
  obtain rfl : args = #[v0, v1] := by cases args; simp_all
  obtain ⟨rfl, rfl⟩ := trodVars_none hV
  obtain ⟨a0, len0, cap0, rfl⟩ := okWide_slice Try.underlying22 (hval 0 22 v0 rfl rfl)
  have k0 := h0
  have lt0 : ∀ x ∈ p0, x.block < W.heap.size := by obtain ⟨m, hm⟩ := k0; exact DataW.trod_lt m _ _ _ hm
  have w0 : RawB W ⟨a0, len0, cap0⟩ := by
    obtain ⟨fuel, hf⟩ := h0
    rcases open_ints Try.underlying22 Try.underlying5 (by kernel_rfl) hf with ⟨hcs, _⟩ | ⟨x, l, c, zs, hcs, _, hl, hm, hz, _, hcell, hwz⟩
    · simp [Value.cells] at hcs
      obtain ⟨rfl, rfl, rfl⟩ := hcs
      exact rawB_nil W
    · simp [Value.cells] at hcs
      obtain ⟨rfl, rfl, rfl⟩ := hcs
      exact rawB_of hl hm (by simpa using hz) hcell hwz
  obtain ⟨a1, len1, cap1, rfl⟩ := okWide_slice Try.underlying22 (hval 1 22 v1 rfl rfl)
  have k1 := h1
  have lt1 : ∀ x ∈ p1, x.block < W.heap.size := by obtain ⟨m, hm⟩ := k1; exact DataW.trod_lt m _ _ _ hm
  have w1 : RawB W ⟨a1, len1, cap1⟩ := by
    obtain ⟨fuel, hf⟩ := h1
    rcases open_ints Try.underlying22 Try.underlying5 (by kernel_rfl) hf with ⟨hcs, _⟩ | ⟨x, l, c, zs, hcs, _, hl, hm, hz, _, hcell, hwz⟩
    · simp [Value.cells] at hcs
      obtain ⟨rfl, rfl, rfl⟩ := hcs
      exact rawB_nil W
    · simp [Value.cells] at hcs
      obtain ⟨rfl, rfl, rfl⟩ := hcs
      exact rawB_of hl hm (by simpa using hz) hcell hwz
  clear hA0 hval0
  simp only [List.append_nil] at hW'
  refine (walked W ⟨a0, len0, cap0⟩ ⟨a1, len1, cap1⟩ w0 w1).mono fun e W' ⟨he, bel⟩ => ?_
  subst he
  exact ⟨_, rfl, _, _, _, [], _, [], hW', trodAll_mk1 (shut_bool Try.underlying4 _), (trodAll_cons_mk (Below.trod laidOut (by kernel_rfl) (of_decide_eq_true (by kernel_rfl)) k0 bel lt0) (trodAll_cons_mk (Below.trod laidOut (by kernel_rfl) (of_decide_eq_true (by kernel_rfl)) k1 bel lt1) trodAll_mk0)), rfl, bel.frame _, fun h => by cases h⟩

theorem over : Rows.fnReducedAreUniqueRow.holds Try.pinned (OpenSpec.ofChange Rows.fnReducedAreUniqueSpec) :=
  OpenClaim.holds_of_wide 6 Try.f6 rfl rfl rfl rfl rfl rfl rfl ⟨rfl, rfl, rfl, rfl, rfl⟩ rfl rfl rfl rfl rfl (by kernel_rfl) Try.func6 (by kernel_rfl)
    (of_decide_eq_true (by kernel_rfl)) (by unfold Func.isWrapper; first | (rw [if_pos (by decide +kernel)]; kernel_rfl) | (rw [if_neg (by decide +kernel)]; exact ⟨rfl, rfl⟩))
    (fun os started H enc _ => lifted os started H enc)

theorem proved : Rows.FnReducedAreUniqueSaid := over
#print axioms proved
end Go.Proofs.Yteflpaebckichab.fnReducedAreUnique
