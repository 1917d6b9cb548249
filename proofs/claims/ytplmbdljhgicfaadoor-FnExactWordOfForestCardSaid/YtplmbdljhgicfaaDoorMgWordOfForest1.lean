/- Texts that the claim needs, part 2. -/
import Derived.Test.YtplmbdljhgicfaaDoorMgWordOfForest0
import Derived.Deep.RegionHeld3
import Derived.Deep.AppendLies
import Derived.Laws.CopyOwn
import Derived.Laws.MakeOwn
import Derived.Deep.RegionLaw
import Derived.WalkKit
import Derived.RangeFuncBox
import Derived.RangeFuncLeaves
import Derived.Shelf.Abstract
import Derived.OwnWalkIn
import Derived.TacticsInMore
import Derived.LoopNIn
import Derived.LoopIn
import Derived.Maps.AppendAt
import Derived.Lib.Bytealg
import Derived.StillTail
import Derived.Deep.QuietTactic
import Derived.BigQuiet
import Derived.Lib.SmallJoins
import Derived.IntWalk
import Derived.RangeFuncNested
/-! Addr -/
namespace Go.Proofs.YtplmbdljhgicfaaDoor
open Go.RowKit

set_option maxRecDepth 100000 in
set_option maxHeartbeats 4000000 in
theorem addressesFrom_any (t : Tr) : ∀ (b : Nat) (here : ByteArray) (w : World), NodeAt w t b → t.carets ≤ 60 → here.size + t.carets ≤ 1000 →
    Calls Tryd.prog 49 #[.pointer (some ⟨b, 0, none⟩), .string here] w (GivesTexts (t.addrs here) w) := by
  obtain ⟨i0, hi, hz0, hz1, hz2⟩ := info_parts info_str
  induction t with
  | lf =>
    intro b here w h ht hh
    have H := Lib.hid h
    clear h
    go_enter Tryd.func49, Tryd.ntmps49
    go_wp2_with fail
    refine (isLeaf_any .lf b _ H.out).mono ?_; rintro e w1 ⟨rfl, rfl⟩
    simp only [Tr.isLf]
    go_wp2_with fail
    go_ret
    exact ⟨_, 1, OwnS.one _ _, nxAlloc (Below.refl _ _) _, rfl⟩
  | nd l r ihl ihr =>
    intro b here w h ht hh
    have ht' : l.carets + r.carets + 1 ≤ 60 := ht
    have hh' : here.size + (l.carets + r.carets + 1) ≤ 1000 := hh
    have ll := addrs_length l (here ++ ⟨#[48]⟩)
    have lr := addrs_length r (here ++ ⟨#[49]⟩)
    obtain ⟨A, hA⟩ : ∃ A, A = l.addrs (here ++ ⟨#[48]⟩) := ⟨_, rfl⟩
    obtain ⟨B, hB⟩ : ∃ B, B = r.addrs (here ++ ⟨#[49]⟩) := ⟨_, rfl⟩
    have hC : (Tr.nd l r).addrs here = A ++ B := by rw [hA, hB]; rfl
    have s0 : (here ++ (⟨#[48]⟩ : ByteArray)).size = here.size + 1 := ByteArray.size_append
    have s1 : (here ++ (⟨#[49]⟩ : ByteArray)).size = here.size + 1 := ByteArray.size_append
    have jl := fun b w h => ihl b (here ++ ⟨#[48]⟩) w h (by omega) (by omega)
    have jr := fun b w h => ihr b (here ++ ⟨#[49]⟩) w h (by omega) (by omega)
    rw [← hA] at ll jl
    rw [← hB] at lr jr
    rw [hC]
    have hAn : A.length ≤ 61 := by omega
    have hBn : B.length ≤ 61 := by omega
    have hBp : 0 < B.length := by omega
    have hAp : 0 < A.length := by omega
    have H := Lib.hid h
    obtain ⟨bl, br, h, hl, hr⟩ := h
    have h1 := two_left h
    have h2 := two_right h
    have hb0 := Below.refl w.heap.size w
    have hz3 : (9223372036854775807 < here.size + 1) = False := eq_false (by omega)
    clear h ihl ihr hA hB hC s0 s1 ll lr
    go_enter Tryd.func49, Tryd.ntmps49
    go_wp2_with fail
    refine (isLeaf_any (.nd l r) b _ H.out).mono ?_; rintro e w1 ⟨rfl, rfl⟩
    simp only [Tr.isLf]
    go_wp2_with fail
    go_region_held3 (fun w' => w'.cell? ⟨b, 0, none⟩ = some (.pointer (some ⟨bl, 0, none⟩)) ∧ w'.cell? ⟨b, 1, none⟩ = some (.pointer (some ⟨br, 0, none⟩)))
      (first
        | exact ⟨h1, h2⟩
        | exact ⟨q1, q2⟩
        | exact ⟨s1, s2⟩
        | exact ⟨r1, r2⟩)
      (first
        | (go_at_call_of 49 (some (⟨bl, 0, none⟩ : Addr)); refine (jl bl _ ?_).mono ?_; exact hl.keep hb0.drew; rintro e w1 ⟨g1, cap1, own1, hb1, rfl⟩; have hb1' := nx hb0.drew hb1; obtain ⟨q1, q2⟩ := below_two hb1' h1 h2)
        | (go_at_call_of 49 (some (⟨br, 0, none⟩ : Addr)); refine (jr br _ ?_).mono ?_; exact hr.keep hb1'; rintro e w2 ⟨g2, cap2, own2, hb2, rfl⟩; have hb2' := nx hb1' hb2; obtain ⟨s1, s2⟩ := below_two hb2' h1 h2; have hown := (own1.keep hb2).mono hb0.drew.size)
        | (refine step_append_lies _ (by rfl) _ _ _ (by rfl) w.heap.size 9 i0 _ 1 16 Tryd.underlying22 hi hz0 hz1 hz2 rfl (by omega) (.slice (some ⟨g1, 0, none⟩) A.length cap1) A.length (A.map Value.string) (by rfl) hown ⟨g2, 0, none⟩ B.length cap2 (B.map Value.string) (by rfl) (by simp) (own2.news rfl) (oneS _) hBp (by unfold maxLen; omega) (by omega) hb2'.size w2.heap.size (by rfl) ?_; intro gg cap w3 hown1 hgrow hat hlt; have hb3 := below_app0 hb2' hown (Nat.le_refl _) hgrow; obtain ⟨r1, r2⟩ := below_two hb3 h1 h2))
    go_wp2_with fail
    go_ret
    exact ⟨gg, cap, by rw [List.length_append]; exact OwnS.app hown1, hb3, by rw [List.length_append]; rfl⟩
end Go.Proofs.YtplmbdljhgicfaaDoor

/-! TreeO -/
namespace Go.Proofs.YtplmbdljhgicfaaDoor
open Go.RowKit

theorem keep_cell {w w' : World} {b o : Nat} {v : Value} (hb : Below w.heap.size w w') (h : w.cell? ⟨b, o, none⟩ = some v) : w'.cell? ⟨b, o, none⟩ = some v :=
  (hb.cell (p := ⟨b, o, none⟩) (World.block_lt_of_cell? _ _ h)).trans h

theorem treeOf_any (t : Tr) (w : World) (h : t.carets ≤ 1000) : Calls Tryd.prog 48 #[.string t.str] w (GivesNode t w) := by
  have hz := t.str_size
  have hp := place_any (t.str.size + 1) t.str
  rw [parse_str t _ (by have := t.text_len; omega)] at hp
  have hp' : ∀ w, Calls Tryd.prog 57 #[.string t.str] w (PlaceOk t [] t.str w) := fun w => hp w (by omega) (by omega)
  clear hz hp
  go_enter Tryd.func48, Tryd.ntmps48
  go_wp2_with fail
  refine (hp' _).mono ?_; rintro e w1 ⟨b1, s1, hs1, hz1, hn1, hb1, rfl⟩
  clear hs1 hz1
  go_wp2_with fail
  go_ret
  exact ⟨b1, hn1, hb1, rfl⟩

end Go.Proofs.YtplmbdljhgicfaaDoor

/-! RepM -/
namespace Go.Proofs.YtplmbdljhgicfaaDoor
open Go.RowKit

set_option maxRecDepth 100000 in
set_option maxHeartbeats 4000000 in
theorem bitsMul_one (n : Nat) (hn : n ≤ 20) (w : World) :
    Calls Tryd.prog 51 #[.int .u64 1, .int .u64 n] w fun e w' => e = .returned (.tuple #[.int .u64 0, .int .u64 n]) ∧ w = w' := by
  obtain rfl | rfl | rfl | rfl | rfl | rfl | rfl | rfl | rfl | rfl | rfl | rfl | rfl | rfl | rfl | rfl | rfl | rfl | rfl | rfl | rfl : n = 0 ∨ n = 1 ∨ n = 2 ∨ n = 3 ∨ n = 4 ∨ n = 5 ∨ n = 6 ∨ n = 7 ∨ n = 8 ∨ n = 9 ∨ n = 10 ∨ n = 11 ∨ n = 12 ∨ n = 13 ∨ n = 14 ∨ n = 15 ∨ n = 16 ∨ n = 17 ∨ n = 18 ∨ n = 19 ∨ n = 20 := by omega
  all_goals
    go_enter Tryd.func51, Tryd.ntmps51
    go_wp2
    go_ret2
    exact ⟨rfl, rfl⟩
end Go.Proofs.YtplmbdljhgicfaaDoor

/-! Form -/
namespace Go.Proofs.YtplmbdljhgicfaaDoor
open Go.RowKit

theorem CellsI.form {b1 : Nat} {w : World} {v : Value} {xs : List Int} (h : CellsI b1 w v xs) :
    ∃ oa cap, v = .slice oa xs.length cap ∧ xs.length ≤ cap ∧ cap ≤ maxLen ∧ ∀ i, i < xs.length → ∃ g, oa = some ⟨g, 0, none⟩ ∧ b1 ≤ g ∧ g < w.heap.size ∧ w.cell? ⟨g, i, none⟩ = some (.int .i64 (xs.getD i 0)) := by
  rcases h with ⟨rfl, rfl⟩ | ⟨g, cap, rfl, h1, h2, h3, h4, h5, _⟩
  · exact ⟨none, 0, rfl, Nat.le_refl _, Nat.zero_le _, fun i hi => by simp at hi⟩
  · exact ⟨some ⟨g, 0, none⟩, cap, rfl, h3, h4, fun i hi => ⟨g, rfl, h1, h2, h5 i hi⟩⟩

end Go.Proofs.YtplmbdljhgicfaaDoor

/-! Rep -/
namespace Go.Proofs.YtplmbdljhgicfaaDoor
open Go.RowKit

/-- The first m cells of a row are all X. -/
def allX (X : Value) (m : Nat) (c : List Value) : Prop := c.take m = List.replicate m X
theorem allX_splice {X : Value} {m k : Nat} {c : List Value} (h : allX X m c) : allX X (m + k) (splice c m (List.replicate k X)) := by
  unfold allX splice at *
  rw [h, ← List.append_assoc, List.replicate_append_replicate, List.take_left' (by simp)]
theorem allX_at {X : Value} {m j : Nat} {c : List Value} (h : allX X m c) (hj : j < m) : c[j]? = some X := by
  have e : (c.take m)[j]? = some X := by rw [h]; simp [hj]
  rwa [List.getElem?_take_of_lt hj] at e
theorem cell_of_block {w : World} {g j : Nat} {c : List Value} {t : TypeId} {X : Value} (h : w.heap[g]? = some (.cells c.toArray t (0, 0))) (hj : c[j]? = some X) : w.cell? ⟨g, j, none⟩ = some X := by
  unfold World.cell?
  rw [h]
  simpa using hj

/-- A call that hands back so many cells of one number, in a new block. -/
def GivesRep (x : Int) (n : Nat) (w : World) (e : Ending) (w' : World) : Prop :=
  ∃ g : Nat, OwnI w.heap.size w' (.slice (some ⟨g, 0, none⟩) n n) (List.replicate n x) ∧ Below w.heap.size w w' ∧ e = .returned (.slice (some ⟨g, 0, none⟩) n n)

theorem own_of_block {w : World} {B g n : Nat} {c : List Value} {x : Int} (h : w.heap[g]? = some (.cells c.toArray 3 (0, 0))) (hB : B ≤ g) (hl : c.length = n) (hn : n ≤ 1000000) (ha : allX (.int .i64 x) n c) :
    OwnI B w (.slice (some ⟨g, 0, none⟩) n n) (List.replicate n x) := by
  unfold OwnI
  rw [List.length_replicate]
  refine ⟨by simp, .inr ⟨g, n, c.toArray, rfl, hB, h, Nat.le_refl _, by unfold maxLen; omega, by simp [hl], ?_⟩⟩
  unfold allX at ha
  simp only [Nat.mul_one]
  rw [ha]
  simp

set_option maxRecDepth 100000 in
set_option maxHeartbeats 200000 in
theorem repeat_any (x : Int) (n g cap : Nat) (w : World) (hn : n ≤ 20) (hn1 : 1 ≤ n) (hc : w.cell? ⟨g, 0, none⟩ = some (.int .i64 x)) :
    Calls Tryd.prog 39 #[.slice (some ⟨g, 0, none⟩) 1 cap, .int .i64 n] w (GivesRep x n w) := by
  obtain ⟨i0, hi, hz0, hz1, hz2⟩ := info_parts info_int
  have hsz1 : (Tryd.prog.info? 3).map (·.size) = some 1 := by rw [hi]; simp [hz1]
  have hgl := World.block_lt_of_cell? w _ hc
  have hM := fun w => bitsMul_one n hn w
  have hb8 : ((i0.bytes : Nat) : Int) * (n : Int) ≤ 281474976710656 := by rw [hz2]; omega
  have hmk := fun w => run_make (P := Tryd.prog) w 24 3 i0 (.int .i64 0) Tryd.underlying24 hi hz0 .i64 .i64 n n (by omega) (by omega) hb8 (by omega)
  obtain ⟨C, hC⟩ : ∃ C : List Value, C.toArray = madeCells (Value.int .i64 0).cells ((n : Int).toNat * i0.size) := ⟨_, Array.toArray_toList⟩
  have hCl : C.length = n := by
    have h := size_madeCells (Value.int .i64 0).cells ((n : Int).toNat * i0.size)
    rw [← hC, hz1] at h
    simpa using h
  rw [← hC] at hmk
  simp only [Int.toNat_natCast] at hmk
  have HC := Lib.hid hCl
  have hnn : (0 : Int) ≤ (n : Int) := by omega
  have hb0 : Below w.heap.size w (w.alloc (.cells C.toArray 3)) := (Below.refl _ w).alloc (Nat.le_refl _) _
  have hsrc : ∀ (j : Nat) (v : Value), [Value.int .i64 x][j]? = some v → (w.alloc (.cells C.toArray 3)).cell? ((⟨g, 0, none⟩ : Addr).add j) = some v := by
    intro j v hj
    match j, hj with
    | 0, hj =>
      simp at hj; subst hj
      rw [addr_add]
      exact (hb0.cell (p := ⟨g, 0, none⟩) hgl).trans hc
    | j + 1, hj => simp at hj
  have hnew : (w.alloc (.cells C.toArray 3)).heap[w.heap.size]? = some (.cells C.toArray 3 (0, 0)) := by
    show (w.heap.push _)[w.heap.size]? = _
    simp
  have hone : ∀ v ∈ [Value.int .i64 x], v.oneCell' = true := by intro u hu; simp at hu; subst hu; rfl
  have hall0 : allX (.int .i64 x) 0 C := by unfold allX; simp
  have hall1 : allX (.int .i64 x) 1 (splice C 0 [Value.int .i64 x]) := allX_splice (k := 1) hall0
  have hlen1 : (splice C 0 [Value.int .i64 x]).length = n := by rw [length_splice _ _ _ (by simp; omega)]; exact HC.out
  have HA := Lib.hid hall1
  have HL := Lib.hid hlen1
  clear hC hb8 hCl hall0 hall1 hlen1
  go_enter Tryd.func39, Tryd.ntmps39
  go_wp2_with fail
  refine (hM _).mono ?_; rintro e w1 ⟨rfl, rfl⟩
  go_wp2_with (refine wpList_copy_splice rfl (.tmp 31) (.tmp 32) 24 24 rfl 3 Tryd.underlying24 hsz1 _ _ _ _ _ _ rfl rfl w.heap.size 0 C 3 hnew [Value.int .i64 x] (Nat.min_eq_left hn1).symm (fun _ => ⟨rfl, _, rfl, hsrc⟩) (by have := HC.out; simp; omega) hone w.heap.size w hb0 (Nat.le_refl _) ?_; intro w2 HG2 hB2)
  generalize splice C 0 [Value.int .i64 x] = D at HG2 HA HL
  clear hsrc hb0 hone hmk HC hnew
  go_loopw [8] (fun i wr => ∃ (m : Nat) (c : List Value), i = .int .i64 m ∧ 1 ≤ m ∧ m ≤ n ∧ Hid (c.length = n) ∧ Hid (allX (.int .i64 x) m c) ∧ Hid (wr.heap[w.heap.size]? = some (.cells c.toArray 3 (0, 0))) ∧ Below w.heap.size w wr) (fun i _ => n - (intOf i).toNat)
  case atStart => exact ⟨1, D, rfl, Nat.le_refl _, hn1, HL, HA, HG2, hB2⟩
  case round =>
    obtain ⟨m, c, rfl, hm1, hmn, hcl, hal, hg, hbw⟩ := hrel
    clear HG2 HA HL hB2
    by_cases hlt : m < n
    · have hlt' : (m : Int) < (n : Int) := by omega
      obtain ⟨k, hk⟩ : ∃ k, k = Nat.min m (n - m) := ⟨_, rfl⟩
      have hk1 : 1 ≤ k := by rw [hk]; exact Nat.le_min.2 ⟨hm1, by omega⟩
      have hk2 : m + k ≤ n := by have : k ≤ n - m := by rw [hk]; exact Nat.min_le_right _ _
                                 omega
      have hk3 : k ≤ m := by rw [hk]; exact Nat.min_le_left _ _
      have hcs : (List.replicate k (Value.int .i64 x)).length = Nat.min m (n - m) := by rw [List.length_replicate]; exact hk
      have hsrc : ∀ (j : Nat) (v : Value), (List.replicate k (Value.int .i64 x))[j]? = some v → wr.cell? ((⟨w.heap.size, 0, none⟩ : Addr).add j) = some v := by
        intro j v hj
        have hjk := (List.getElem?_eq_some_iff.1 hj).1
        rw [List.length_replicate] at hjk
        rw [List.getElem?_replicate, if_pos hjk] at hj
        rw [addr_add, ← hj]
        exact cell_of_block hg.out (allX_at hal.out (by omega))
      have hone : ∀ v ∈ List.replicate k (Value.int .i64 x), v.oneCell' = true := by intro u hu; rw [List.eq_of_mem_replicate hu]; rfl
      have hal' : Hid (allX (.int .i64 x) (m + k) (splice c m (List.replicate k (Value.int .i64 x)))) := allX_splice hal.out
      have hcl' : Hid ((splice c m (List.replicate k (Value.int .i64 x))).length = n) := by
        show _ = _
        rw [length_splice _ _ _ (by rw [List.length_replicate, hcl.out]; omega)]; exact hcl.out
      have hfit : m + (List.replicate k (Value.int .i64 x)).length ≤ c.length := by rw [List.length_replicate, hcl.out]; omega
      obtain ⟨R, hR⟩ : ∃ R, R = List.replicate k (Value.int .i64 x) := ⟨_, rfl⟩
      have hRl : R.length = k := by rw [hR, List.length_replicate]
      rw [← hR] at hcs hsrc hone hal' hcl' hfit
      have HCS := Lib.hid hcs
      have ew : IntKind.i64.wrap ((m : Int) + (k : Int)) = ((m + k : Nat) : Int) := by rw [IntKind.wrap_i64]; omega
      clear hR hk hcs
      have hsrcD : ∀ (j : Nat) (v : Value), R[j]? = some v → wr.drew.cell? ((⟨w.heap.size, 0, none⟩ : Addr).add j) = some v := hsrc
      go_wp2_with fail
      go_region_law (refine step_copy_splice (by rfl) (.tmp 41) (.tmp 44) 24 24 (by rfl) 3 Tryd.underlying24 hsz1 (if n = m then some ⟨w.heap.size, 0, none⟩ else some ⟨w.heap.size, m, none⟩) (some ⟨w.heap.size, 0, none⟩) (n - m) (n - m) m n (by go_simp) (by go_simp) w.heap.size m c 3 hg.out R HCS.out (fun _ => ⟨if_neg (by omega), _, rfl, hsrcD⟩) hfit hone w.heap.size w hbw.drew (Nat.le_refl _) ?_; intro w4 hg4 hb4)
      go_wp2_with fail
      go_roundw
      case rel => exact ⟨m + k, by omega, by omega, hk2, _, hcl', hal', hg4⟩
      case measure => simp [intOf]; omega
    · obtain rfl : m = n := by omega
      go_wp2_with fail
      go_ret
      exact ⟨_, own_of_block hg.out (Nat.le_refl _) hcl.out (by omega) hal.out, hbw, rfl⟩
end Go.Proofs.YtplmbdljhgicfaaDoor

/-! Dots -/
namespace Go.Proofs.YtplmbdljhgicfaaDoor

/-- The index of the leaf n in a text that begins at 'off', or -1. -/
def posFrom : List UInt8 → Nat → Int → Int
  | [], _, _ => -1
  | c :: r, off, n => if c = 46 then (if n = 0 then off else posFrom r (off + 1) (n - 1)) else posFrom r (off + 1) n

theorem posFrom_range : ∀ (l : List UInt8) (off : Nat) (n : Int), posFrom l off n = -1 ∨ (off ≤ posFrom l off n ∧ posFrom l off n < off + l.length) := by
  intro l
  induction l with
  | nil => intro off n; exact .inl rfl
  | cons c r ih =>
    intro off n
    rw [posFrom]
    have h1 := ih (off + 1) n
    have h2 := ih (off + 1) (n - 1)
    simp only [List.length_cons]
    repeat' split
    all_goals omega

theorem posFrom_neg : ∀ (l : List UInt8) (off : Nat) (n : Int), n < 0 → posFrom l off n = -1 := by
  intro l
  induction l with
  | nil => intro off n _; rfl
  | cons c r ih =>
    intro off n h
    rw [posFrom, ih _ _ h, ih _ (n - 1) (by omega)]
    have h0 : ¬ n = 0 := by omega
    simp [h0]

theorem posFrom_big : ∀ (l : List UInt8) (off : Nat) (n : Int), (l.count 46 : Int) ≤ n → posFrom l off n = -1 := by
  intro l
  induction l with
  | nil => intro off n _; rfl
  | cons c r ih =>
    intro off n h
    rw [posFrom]
    rw [List.count_cons] at h
    split
    · next hc => rw [if_neg (by simp [hc] at h; omega)]; exact ih _ _ (by simp [hc] at h; omega)
    · next hc => exact ih _ _ (by simp [hc] at h; omega)

theorem posFrom_in : ∀ (l : List UInt8) (off : Nat) (n : Int), 0 ≤ n → n < (l.count 46 : Int) → off ≤ posFrom l off n := by
  intro l
  induction l with
  | nil => intro off n h k; simp at k; omega
  | cons c r ih =>
    intro off n h k
    rw [posFrom]
    rw [List.count_cons] at k
    split
    · next hc =>
      split
      · omega
      · have := ih (off + 1) (n - 1) (by omega) (by simp [hc] at k; omega); omega
    · next hc => have := ih (off + 1) n h (by simp [hc] at k; omega); omega

theorem text_dots (t : Tr) : t.text.count 46 = t.carets + 1 := by
  induction t with
  | lf => rfl
  | nd l r ihl ihr => simp [Tr.text, Tr.carets, List.count_append, ihl, ihr]; omega

/-- The text of a tree with another text in place of a leaf. -/
def graftS (s : ByteArray) (n : Int) (o : ByteArray) : ByteArray :=
  s.extract 0 (posFrom s.data.toList 0 n).toNat ++ o ++ s.extract ((posFrom s.data.toList 0 n).toNat + 1) s.size

theorem pos_str (t : Tr) (n : Int) : (0 ≤ n ∧ n ≤ t.carets ∧ 0 ≤ posFrom t.str.data.toList 0 n ∧ posFrom t.str.data.toList 0 n < t.str.size) ∨ ((n < 0 ∨ t.carets < n) ∧ posFrom t.str.data.toList 0 n = -1) := by
  rw [Tr.str_list]
  have hr := posFrom_range t.text 0 n
  have hz := t.str_size
  have hl := t.text_len
  have hd := text_dots t
  by_cases h1 : n < 0
  · exact .inr ⟨.inl h1, posFrom_neg _ _ _ h1⟩
  · by_cases h2 : (t.carets : Int) < n
    · exact .inr ⟨.inr h2, posFrom_big _ _ _ (by rw [hd]; omega)⟩
    · have := posFrom_in t.text 0 n (by omega) (by rw [hd]; omega)
      exact .inl (by omega)

theorem graft_size (t : Tr) (n : Int) (o : ByteArray) (h : 0 ≤ posFrom t.str.data.toList 0 n) (k : posFrom t.str.data.toList 0 n < t.str.size) : (graftS t.str n o).size = t.str.size - 1 + o.size := by
  unfold graftS
  simp only [ByteArray.size_append, ByteArray.size_extract]
  omega

end Go.Proofs.YtplmbdljhgicfaaDoor

/-! ExpoP -/
namespace Go.Proofs.YtplmbdljhgicfaaDoor

/-- Does a text begin with an exposed caret? -/
def expB (l : List UInt8) : Bool := l.take 4 == [40, 46, 46, 41]

/-- The left leaves of the exposed carets of a text, n leaves being in front of it. -/
def exL : List UInt8 → Int → List Int
  | [], _ => []
  | c :: r, n => (if expB (c :: r) then [n] else []) ++ exL r (if c = 46 then n + 1 else n)

theorem exL_length : ∀ (l : List UInt8) (n : Int), (exL l n).length ≤ l.length := by
  intro l
  induction l with
  | nil => intro n; simp [exL]
  | cons c r ih => intro n; have := ih (if c = 46 then n + 1 else n); rw [exL]; simp only [List.length_append, List.length_cons]; split <;> simp <;> omega

/-- What the spec's scan, which looks one byte back, has still to tell at index k. -/
def pend (l : List UInt8) (k : Nat) (n : Int) : List Int := if 0 < k ∧ expB (l.drop (k - 1)) = true then [n] else []

theorem expB_cons {c : UInt8} {r : List UInt8} (h : expB (c :: r) = true) : c = 40 ∧ 3 ≤ r.length := by
  unfold expB at h
  simp only [beq_iff_eq] at h
  have h1 := congrArg List.length h
  have h2 := congrArg List.head? h
  simp at h1 h2
  exact ⟨h2, by omega⟩

theorem exL_step {l r : List UInt8} {k : Nat} {c : UInt8} {n : Int} (h : l.drop k = c :: r) :
    exL (l.drop k) n = pend l (k + 1) (if c = 46 then n + 1 else n) ++ exL (l.drop (k + 1)) (if c = 46 then n + 1 else n) := by
  have hr : l.drop (k + 1) = r := drop_succ h
  rw [hr, h, exL]
  congr 1
  unfold pend
  rw [Nat.add_sub_cancel, h]
  cases hb : expB (c :: r) with
  | false => simp
  | true =>
    have := (expB_cons hb).1
    subst this
    simp

theorem expB_extract (s : ByteArray) (k : Nat) (h : 0 < k) : expB (s.data.toList.drop (k - 1)) = ((s.extract (k - 1) (k + 3)).toList == [40, 46, 46, 41]) := by
  unfold expB
  rw [Lib.extract_toList]
  have : k + 3 - (k - 1) = 4 := by omega
  rw [this]

theorem expB_here (s : ByteArray) (k : Nat) : expB (s.data.toList.drop k) = ((s.data.toList.drop k).take 4 == [40, 46, 46, 41]) := rfl

theorem expB_drop {l : List UInt8} {k : Nat} (h : expB (l.drop k) = true) : k + 4 ≤ l.length := by
  cases hd : l.drop k with
  | nil => rw [hd] at h; simp [expB] at h
  | cons c r =>
    rw [hd] at h
    have := (expB_cons h).2
    have := congrArg List.length hd
    simp at this
    omega

theorem pend_zero (l : List UInt8) (n : Int) : pend l 0 n = [] := by simp [pend]

end Go.Proofs.YtplmbdljhgicfaaDoor

/-! DropP -/
namespace Go.Proofs.YtplmbdljhgicfaaDoor

theorem posFrom_shift : ∀ (l : List UInt8) (off : Nat) (q : Int), posFrom l off q = if posFrom l 0 q = -1 then -1 else posFrom l 0 q + off := by
  intro l
  induction l with
  | nil => intro off q; rfl
  | cons c r ih =>
    intro off q
    have h1 := ih (off + 1) (q - 1)
    have h2 := ih (0 + 1) (q - 1)
    have h3 := ih (off + 1) q
    have h4 := ih (0 + 1) q
    have r1 := posFrom_range r 0 (q - 1)
    have r2 := posFrom_range r 0 q
    rw [posFrom, posFrom, h1, h2, h3, h4]
    repeat' split
    all_goals omega

/-- The leaf q is the left one of an exposed caret. -/
def dropB (l : List UInt8) (q : Int) : Bool := decide (1 ≤ posFrom l 0 q) && expB (l.drop ((posFrom l 0 q).toNat - 1))

theorem expB_two {c : UInt8} {r : List UInt8} (h : expB (c :: r) = true) : ∃ r', r = 46 :: r' := by
  unfold expB at h
  simp only [beq_iff_eq] at h
  match r with
  | [] => simp at h
  | d :: r' =>
    simp at h
    exact ⟨r', by rw [h.2.1]⟩

theorem mem_exL : ∀ (l : List UInt8) (n m : Int), n ∈ exL l m ↔ dropB l (n - m) = true := by
  intro l
  induction l with
  | nil => intro n m; simp [exL, dropB, posFrom]
  | cons c r ih =>
    intro n m
    have ih0 := ih n m
    have ih1 := ih n (m + 1)
    have e1 : n - (m + 1) = n - m - 1 := by omega
    rw [e1] at ih1
    rw [exL, List.mem_append]
    by_cases hc : c = 46
    · have hx : expB (c :: r) = false := by
        cases h : expB (c :: r) with
        | false => rfl
        | true => have := (expB_cons h).1; rw [hc] at this; exact absurd this (by decide)
      rw [hx, if_pos hc, ih1]
      simp only [Bool.false_eq_true, if_false, List.not_mem_nil, false_or]
      unfold dropB
      rw [posFrom, if_pos hc]
      by_cases hz : n - m = 0
      · rw [if_pos hz, posFrom_neg r 0 (n - m - 1) (by omega)]
        simp
      · rw [if_neg hz, posFrom_shift r (0 + 1)]
        have hr := posFrom_range r 0 (n - m - 1)
        by_cases h1 : posFrom r 0 (n - m - 1) = -1
        · rw [if_pos h1, h1]; simp
        · rw [if_neg h1]
          by_cases h0 : posFrom r 0 (n - m - 1) = 0
          · rw [h0]
            simp [hx]
          · have h2 : 1 ≤ posFrom r 0 (n - m - 1) := by omega
            obtain ⟨p, hp⟩ : ∃ p : Nat, posFrom r 0 (n - m - 1) = (p : Int) + 1 := ⟨(posFrom r 0 (n - m - 1)).toNat - 1, by omega⟩
            rw [hp]
            have t1 : ((p : Int) + 1 + ((0 + 1 : Nat) : Int)).toNat - 1 = p + 1 := by omega
            have t2 : ((p : Int) + 1).toNat - 1 = p := by omega
            rw [t1, t2, List.drop_succ_cons]
            have d1 : decide (1 ≤ (p : Int) + 1) = true := decide_eq_true (by omega)
            have d2 : decide (1 ≤ (p : Int) + 1 + ((0 + 1 : Nat) : Int)) = true := decide_eq_true (by omega)
            rw [d1, d2]
    · rw [if_neg hc, ih0]
      unfold dropB
      rw [posFrom, if_neg hc, posFrom_shift r (0 + 1)]
      have hr := posFrom_range r 0 (n - m)
      have hzero : expB (c :: r) = true → posFrom r 0 (n - m) = 0 → n = m := by
        intro h h'
        obtain ⟨r', rfl⟩ := expB_two h
        rw [posFrom, if_pos rfl] at h'
        by_cases hz : n - m = 0
        · omega
        · rw [if_neg hz, posFrom_shift r' (0 + 1)] at h'
          have := posFrom_range r' 0 (n - m - 1)
          split at h' <;> omega
      have hzero' : expB (c :: r) = true → n = m → posFrom r 0 (n - m) = 0 := by
        intro h h'
        obtain ⟨r', rfl⟩ := expB_two h
        rw [posFrom, if_pos rfl, if_pos (by omega)]; rfl
      by_cases h1 : posFrom r 0 (n - m) = -1
      · rw [if_pos h1, h1]
        simp only [show decide ((1 : Int) ≤ -1) = false from rfl, Bool.false_and, Bool.false_eq_true, or_false, iff_false]
        intro h
        split at h
        · next he =>
          have := hzero' he (by simpa using h)
          omega
        · simp at h
      · rw [if_neg h1]
        by_cases h0 : posFrom r 0 (n - m) = 0
        · rw [h0]
          simp only [show decide ((1 : Int) ≤ 0) = false from rfl, Bool.false_and, Bool.false_eq_true, or_false]
          have t1 : ((0 : Int) + ((0 + 1 : Nat) : Int)).toNat - 1 = 0 := by omega
          rw [t1, List.drop_zero]
          have d2 : decide (1 ≤ (0 : Int) + ((0 + 1 : Nat) : Int)) = true := decide_eq_true (by omega)
          rw [d2]
          cases he : expB (c :: r) with
          | false => simp
          | true => simp; exact hzero he h0
        · obtain ⟨p, hp⟩ : ∃ p : Nat, posFrom r 0 (n - m) = (p : Int) + 1 := ⟨(posFrom r 0 (n - m)).toNat - 1, by omega⟩
          rw [hp]
          have t1 : ((p : Int) + 1 + ((0 + 1 : Nat) : Int)).toNat - 1 = p + 1 := by omega
          have t2 : ((p : Int) + 1).toNat - 1 = p := by omega
          rw [t1, t2, List.drop_succ_cons]
          have d1 : decide (1 ≤ (p : Int) + 1) = true := decide_eq_true (by omega)
          have d2 : decide (1 ≤ (p : Int) + 1 + ((0 + 1 : Nat) : Int)) = true := decide_eq_true (by omega)
          rw [d1, d2]
          constructor
          · rintro (h | h)
            · split at h
              · next he =>
                have := hzero' he (by simpa using h)
                omega
              · simp at h
            · exact h
          · exact .inr

/-- The text of a tree with a leaf in place of the exposed caret that begins at index q. -/
def dropS (s : ByteArray) (q : Nat) : ByteArray := s.extract 0 q ++ ⟨#[46]⟩ ++ s.extract (q + 4) s.size

/-- Of a text, the answer of DropExposed. -/
def dropO (s : ByteArray) (n : Int) : Option ByteArray :=
  if dropB s.data.toList n = true then some (dropS s ((posFrom s.data.toList 0 n).toNat - 1)) else none

theorem dropB_true {s : ByteArray} {n : Int} (h : dropB s.data.toList n = true) : ∃ q : Nat, posFrom s.data.toList 0 n = (q : Int) + 1 ∧ q + 4 ≤ s.size ∧ expB (s.data.toList.drop q) = true ∧ 0 ≤ n := by
  unfold dropB at h
  simp only [Bool.and_eq_true, decide_eq_true_eq] at h
  obtain ⟨h1, h2⟩ := h
  refine ⟨(posFrom s.data.toList 0 n).toNat - 1, by omega, ?_, h2, ?_⟩
  · have := expB_drop h2; rw [← Lib.size_eq] at this; exact this
  · rcases Int.lt_or_le n 0 with hn | hn
    · rw [posFrom_neg _ _ _ hn] at h1; omega
    · exact hn
end Go.Proofs.YtplmbdljhgicfaaDoor

/-! PrT -/
namespace Go.Proofs.YtplmbdljhgicfaaDoor
namespace Tr
def leaves (t : Tr) : Nat := t.carets + 1
/-- The left leaves of the exposed carets, n leaves being in front. -/
def exps : Tr → Int → List Int
  | lf, _ => []
  | nd l r, n => (if l.isLf && r.isLf then [n] else []) ++ (l.exps n ++ r.exps (n + l.leaves))
/-- The tree with a leaf in place of the exposed caret with the left leaf n. -/
def dropAt : Tr → Int → Tr
  | lf, _ => lf
  | nd l r, n => if l.isLf && r.isLf then lf else if n < l.leaves then nd (l.dropAt n) r else nd l (r.dropAt (n - l.leaves))
/-- The tree with u in place of the leaf n. -/
def graft : Tr → Int → Tr → Tr
  | lf, _, u => u
  | nd l r, n, u => if n < l.leaves then nd (l.graft n u) r else nd l (r.graft (n - l.leaves) u)
end Tr

theorem leaves_nd (l r : Tr) : (Tr.nd l r).leaves = l.leaves + r.leaves := by simp [Tr.leaves, Tr.carets]; omega
theorem leaves_pos (t : Tr) : 1 ≤ t.leaves := by simp [Tr.leaves]
theorem isLf_iff (t : Tr) : t.isLf = true ↔ t = .lf := by cases t <;> simp [Tr.isLf]
theorem both_lf {l r : Tr} (h : (l.isLf && r.isLf) = true) : l = .lf ∧ r = .lf := by
  simp only [Bool.and_eq_true, isLf_iff] at h; exact h

theorem expB_len {l : List UInt8} (h : l.length < 4) : expB l = false := by
  unfold expB
  rw [beq_eq_false_iff_ne]
  intro e
  have := congrArg List.length e
  simp at this
  omega

theorem text_head (t : Tr) : (t = .lf ∧ t.text = [46]) ∨ ∃ r, t.text = 40 :: r := by
  cases t with
  | lf => exact .inl ⟨rfl, rfl⟩
  | nd l r => exact .inr ⟨_, rfl⟩

theorem expB_nd (l r : Tr) (q : List UInt8) : expB (40 :: (l.text ++ (r.text ++ (41 :: q)))) = (l.isLf && r.isLf) := by
  cases l with
  | lf =>
    cases r with
    | lf => rfl
    | nd a b => simp [expB, Tr.text, Tr.isLf]
  | nd a b => simp [expB, Tr.text, Tr.isLf]

theorem exL_text (t : Tr) : ∀ (q : List UInt8) (m : Int), exL (t.text ++ q) m = t.exps m ++ exL q (m + t.leaves) := by
  induction t with
  | lf => intro q m; simp [Tr.text, exL, Tr.exps, expB, Tr.leaves, Tr.carets]
  | nd l r ihl ihr =>
    intro q m
    have e : (Tr.nd l r).text ++ q = 40 :: (l.text ++ (r.text ++ (41 :: q))) := by simp [Tr.text]
    rw [e, exL, expB_nd, if_neg (show ¬ (40 : UInt8) = 46 by decide), ihl, ihr, exL, if_neg (show ¬ (41 : UInt8) = 46 by decide)]
    have h41 : expB (41 :: q) = false := by
      cases h : expB (41 :: q) with
      | false => rfl
      | true => exact absurd (expB_cons h).1 (by decide)
    rw [h41]
    have e2 : m + (l.leaves : Int) + (r.leaves : Int) = m + ((Tr.nd l r).leaves : Int) := by rw [leaves_nd]; omega
    rw [e2]
    simp [Tr.exps]

theorem exps_text (t : Tr) (m : Int) : exL t.text m = t.exps m := by
  have := exL_text t [] m
  simpa [exL] using this

theorem exps_range (t : Tr) : ∀ (n m : Int), m ∈ t.exps n → n ≤ m ∧ m + 1 < n + t.leaves := by
  induction t with
  | lf => intro n m h; simp [Tr.exps] at h
  | nd l r ihl ihr =>
    intro n m h
    have h1 := leaves_pos l
    have h2 := leaves_pos r
    rw [Tr.exps, List.mem_append, List.mem_append] at h
    rw [leaves_nd]
    rcases h with h | h | h
    · split at h
      · simp at h; omega
      · simp at h
    · have := ihl _ _ h; omega
    · have := ihr _ _ h; omega

theorem exps_shift (t : Tr) : ∀ (n d : Int), t.exps (n + d) = (t.exps n).map (· + d) := by
  induction t with
  | lf => intro n d; rfl
  | nd l r ihl ihr =>
    intro n d
    have e : n + d + (l.leaves : Int) = n + (l.leaves : Int) + d := by omega
    rw [Tr.exps, Tr.exps, ihl n d, e, ihr, List.map_append, List.map_append]
    split <;> simp

theorem exps_shift_mem (t : Tr) (n m : Int) : m ∈ t.exps n ↔ m - n ∈ t.exps 0 := by
  have := exps_shift t 0 n
  rw [Int.zero_add] at this
  rw [this, List.mem_map]
  constructor
  · rintro ⟨a, ha, rfl⟩; have : a + n - n = a := by omega
    rw [this]; exact ha
  · intro h; exact ⟨m - n, h, by omega⟩

theorem exps_length (t : Tr) : ∀ n, (t.exps n).length ≤ t.carets := by
  induction t with
  | lf => intro n; simp [Tr.exps]
  | nd l r ihl ihr =>
    intro n
    have h1 := ihl n
    have h2 := ihr (n + l.leaves)
    rw [Tr.exps]
    simp only [List.length_append, Tr.carets]
    split <;> simp <;> omega

/-- An exposed caret in a text: what is in front of it and behind it. -/
theorem exps_split (t : Tr) : ∀ n : Int, n ∈ t.exps 0 → ∃ x y : List UInt8, t.text = x ++ (40 :: 46 :: 46 :: 41 :: y) ∧ ((x.count 46 : Nat) : Int) = n ∧ (t.dropAt n).text = x ++ (46 :: y) := by
  induction t with
  | lf => intro n h; simp [Tr.exps] at h
  | nd l r ihl ihr =>
    intro n h
    rw [Tr.exps, List.mem_append, List.mem_append] at h
    cases hb : l.isLf && r.isLf with
    | true =>
      obtain ⟨rfl, rfl⟩ := both_lf hb
      simp [Tr.exps, Tr.isLf] at h
      subst h
      exact ⟨[], [], rfl, rfl, rfl⟩
    | false =>
      rw [hb] at h
      rcases h with h | h | h
      · simp at h
      · have hr := exps_range l _ _ h
        obtain ⟨x, y, e1, e2, e3⟩ := ihl n h
        refine ⟨40 :: x, y ++ (r.text ++ [41]), ?_, ?_, ?_⟩
        · simp [Tr.text, e1]
        · simp [e2]
        · rw [Tr.dropAt, hb, if_neg (by decide), if_pos (by omega)]
          simp [Tr.text, e3]
      · have hr := exps_range r _ _ h
        rw [Int.zero_add] at h hr
        obtain ⟨x, y, e1, e2, e3⟩ := ihr (n - l.leaves) ((exps_shift_mem r _ _).1 h)
        refine ⟨40 :: (l.text ++ x), y ++ [41], ?_, ?_, ?_⟩
        · simp [Tr.text, e1]
        · have := text_dots l
          simp only [List.count_cons, List.count_append]
          simp [Tr.leaves] at *
          omega
        · rw [Tr.dropAt, hb, if_neg (by decide), if_neg (by omega)]
          simp [Tr.text, e3]

/-- A leaf in a text. -/
theorem leaf_split (t : Tr) : ∀ n : Int, 0 ≤ n → n < t.leaves → ∃ x y : List UInt8, t.text = x ++ (46 :: y) ∧ ((x.count 46 : Nat) : Int) = n ∧ ∀ u : Tr, (t.graft n u).text = x ++ (u.text ++ y) := by
  induction t with
  | lf =>
    intro n h k
    simp [Tr.leaves, Tr.carets] at k
    obtain rfl : n = 0 := by omega
    exact ⟨[], [], rfl, rfl, fun u => by simp [Tr.graft]⟩
  | nd l r ihl ihr =>
    intro n h k
    rw [leaves_nd] at k
    by_cases hl : n < l.leaves
    · obtain ⟨x, y, e1, e2, e3⟩ := ihl n h hl
      refine ⟨40 :: x, y ++ (r.text ++ [41]), ?_, ?_, fun u => ?_⟩
      · simp [Tr.text, e1]
      · simp [e2]
      · rw [Tr.graft, if_pos hl]; simp [Tr.text, e3]
    · obtain ⟨x, y, e1, e2, e3⟩ := ihr (n - l.leaves) (by omega) (by omega)
      refine ⟨40 :: (l.text ++ x), y ++ [41], ?_, ?_, fun u => ?_⟩
      · simp [Tr.text, e1]
      · have := text_dots l
        simp only [List.count_cons, List.count_append]
        simp [Tr.leaves] at *
        omega
      · rw [Tr.graft, if_neg hl]; simp [Tr.text, e3]

theorem posFrom_count : ∀ (x y : List UInt8) (off : Nat), posFrom (x ++ 46 :: y) off (x.count 46 : Nat) = ((off + x.length : Nat) : Int) := by
  intro x
  induction x with
  | nil => intro y off; simp [posFrom]
  | cons c r ih =>
    intro y off
    rw [List.cons_append, posFrom]
    by_cases hc : c = 46
    · subst hc
      have hcount : ((List.count 46 (46 :: r) : Nat) : Int) = (r.count 46 : Nat) + 1 := by simp
      rw [if_pos rfl, hcount, if_neg (by omega), Int.add_sub_cancel, ih]
      simp; omega
    · have hcount : List.count 46 (c :: r) = r.count 46 := by rw [List.count_cons]; simp [hc]
      rw [if_neg hc, hcount, ih]
      simp; omega

theorem dropS_list (s : ByteArray) (q : Nat) : (dropS s q).data.toList = s.data.toList.take q ++ (46 :: s.data.toList.drop (q + 4)) := by
  unfold dropS
  simp only [ByteArray.data_append, Array.toList_append]
  rw [ext_end, Lib.extract_data]
  simp

theorem drop_str (t : Tr) (n : Int) (h : n ∈ t.exps 0) : 1 ≤ posFrom t.str.data.toList 0 n ∧ dropS t.str ((posFrom t.str.data.toList 0 n).toNat - 1) = (t.dropAt n).str := by
  obtain ⟨x, y, e1, e2, e3⟩ := exps_split t n h
  have e1' : t.text = (x ++ [40]) ++ 46 :: (46 :: 41 :: y) := by simp [e1]
  have hp : posFrom t.str.data.toList 0 n = ((x.length + 1 : Nat) : Int) := by
    have := posFrom_count (x ++ [40]) (46 :: 41 :: y) 0
    rw [← e1'] at this
    rw [Tr.str_list, ← e2]
    simpa using this
  rw [hp]
  refine ⟨by omega, ba_ext ?_⟩
  rw [dropS_list, Tr.str_list, Tr.str_list, e3, e1]
  have : ((x.length + 1 : Nat) : Int).toNat - 1 = x.length := by omega
  rw [this]
  have e4 : x ++ 40 :: 46 :: 46 :: 41 :: y = (x ++ [40, 46, 46, 41]) ++ y := by simp
  rw [List.take_left, e4, List.drop_left' (by simp)]

theorem dropB_str (t : Tr) (n : Int) : dropB t.str.data.toList n = true ↔ n ∈ t.exps 0 := by
  rw [← exps_text, mem_exL, Tr.str_list]; simp

theorem graft_str (t u : Tr) (n : Int) (h : 0 ≤ n) (k : n < t.leaves) : graftS t.str n u.str = (t.graft n u).str := by
  obtain ⟨x, y, e1, e2, e3⟩ := leaf_split t n h k
  have hp : posFrom t.str.data.toList 0 n = ((x.length : Nat) : Int) := by
    have := posFrom_count x y 0
    rw [← e1] at this
    rw [Tr.str_list, ← e2]
    simpa using this
  refine ba_ext ?_
  unfold graftS
  rw [hp]
  simp only [ByteArray.data_append, Array.toList_append]
  rw [ext_end, Lib.extract_data]
  simp only [Tr.str_list, e3, e1]
  have e4 : x ++ 46 :: y = (x ++ [46]) ++ y := by simp
  simp only [Int.toNat_natCast, Nat.sub_zero, List.drop_zero, List.take_left]
  rw [e4, List.drop_left' (by simp)]
  simp

theorem dropAt_carets (t : Tr) : ∀ n : Int, n ∈ t.exps 0 → (t.dropAt n).carets + 1 = t.carets := by
  intro n h
  obtain ⟨x, y, e1, e2, e3⟩ := exps_split t n h
  have h1 := t.text_len
  have h2 := (t.dropAt n).text_len
  have := congrArg List.length e1
  have := congrArg List.length e3
  simp at *
  omega

theorem graft_carets (t u : Tr) (n : Int) (h : 0 ≤ n) (k : n < t.leaves) : (t.graft n u).carets = t.carets + u.carets := by
  obtain ⟨x, y, e1, e2, e3⟩ := leaf_split t n h k
  have e3 := e3 u
  have h1 := t.text_len
  have h2 := (t.graft n u).text_len
  have h3 := u.text_len
  have := congrArg List.length e1
  have := congrArg List.length e3
  simp at *
  omega
end Go.Proofs.YtplmbdljhgicfaaDoor

/-! WayQ -/
namespace Go.Proofs.YtplmbdljhgicfaaDoor

/-- A left comb. -/
def lcT : Nat → Tr
  | 0 => .lf
  | n + 1 => .nd (lcT n) .lf
theorem lcT_carets (n : Nat) : (lcT n).carets = n := by induction n with | zero => rfl | succ n ih => simp [lcT, Tr.carets, ih]
theorem lcT_exps (e : Nat) : ∀ x, (lcT e).expN x = (x + e) :: List.replicate e 0 := by
  induction e with
  | zero => intro x; rfl
  | succ e ih => intro x; rw [lcT, Tr.expN, ih, Tr.expN, List.replicate_succ']; simp; omega

theorem expN_graft (u c : Tr) : ∀ (w : Nat) (X Y : List Nat) (x : Nat), u.expN w = X ++ x :: Y → (u.graft (X.length : Int) c).expN w = X ++ (c.expN x ++ Y) := by
  induction u with
  | lf =>
    intro w X Y x h
    rw [Tr.expN] at h
    cases X with
    | nil => simp at h; obtain ⟨rfl, rfl⟩ := h; simp [Tr.graft]
    | cons a X => simp at h
  | nd l r ihl ihr =>
    intro w X Y x h
    have hl := expN_length l (w + 1)
    rw [Tr.expN] at h
    rw [Tr.graft]
    by_cases hc : (X.length : Int) < l.leaves
    · rw [if_pos hc]
      simp only [Tr.leaves] at hc
      have h1 : l.expN (w + 1) = X ++ x :: Y.take (l.carets - X.length) := by
        have h2 := congrArg (List.take (l.carets + 1)) h
        rw [List.take_append_of_le_length (by omega), ← hl, List.take_length, List.take_append, List.take_of_length_le (by omega)] at h2
        rw [h2]
        have : (l.expN (w + 1)).length - X.length = (l.carets - X.length) + 1 := by omega
        rw [this, List.take_succ_cons]
      have h3 : Y = Y.take (l.carets - X.length) ++ r.expN 0 := by
        rw [h1] at h
        simp only [List.append_assoc, List.cons_append] at h
        have h4 := List.append_cancel_left h
        injection h4 with _ h4
        exact h4.symm
      rw [Tr.expN, ihl _ _ _ _ h1]
      rw [List.append_assoc, List.append_assoc, ← h3]
    · rw [if_neg hc]
      simp only [Tr.leaves] at hc
      have h1 : X = l.expN (w + 1) ++ X.drop (l.carets + 1) := by
        have h2 := congrArg (List.take (l.carets + 1)) h
        rw [List.take_append_of_le_length (by omega), ← hl, List.take_length, List.take_append_of_le_length (by omega)] at h2
        rw [h2, hl, List.take_append_drop]
      have h3 : r.expN 0 = X.drop (l.carets + 1) ++ x :: Y := by
        rw [h1] at h
        rw [List.append_assoc] at h
        exact List.append_cancel_left h
      have h4 := ihr _ _ _ _ h3
      have h5 : ((X.drop (l.carets + 1)).length : Int) = (X.length : Int) - l.leaves := by
        rw [List.length_drop]; simp only [Tr.leaves]; omega
      rw [h5] at h4
      rw [Tr.expN, h4]
      rw [← List.append_assoc, ← h1]

/-- The exponents of a list of trees. -/
def expF (s : List Tr) : List Nat := s.flatMap fun t => t.expN 0
theorem expR_sides (t : Tr) : t.expR = expF (sidesT t) ++ [0] := by
  induction t with
  | lf => rfl
  | nd l r _ ihr => rw [Tr.expR, ihr, sidesT]; simp [expF]
def combS (s : List Tr) : Tr := combT s
theorem sides_comb (s : List Tr) : sidesT (combT s) = s := by
  induction s with
  | nil => rfl
  | cons t s ih => rw [combT, sidesT, ih]
theorem expF_app (s u : List Tr) : expF (s ++ u) = expF s ++ expF u := by simp [expF]
theorem expF_one (u : Tr) : expF [u] = u.expN 0 := by simp [expF]

/-- A graft behind the first sides. -/
theorem graft_comb (c : Tr) : ∀ (s : List Tr) (u : Tr) (i : Nat), (combT (s ++ [u])).graft (((expF s).length + i : Nat) : Int) c = if i ≤ u.carets then combT (s ++ [u.graft i c]) else combT (s ++ [u]) |>.graft (((expF s).length + i : Nat) : Int) c := by
  intro s
  induction s with
  | nil =>
    intro u i
    split
    · next h =>
      show (Tr.nd u .lf).graft _ c = Tr.nd (u.graft i c) .lf
      rw [Tr.graft, if_pos (by simp [expF, Tr.leaves]; omega)]
      simp [expF]
    · rfl
  | cons t s ih =>
    intro u i
    split
    · next h =>
      have h1 := ih u i
      rw [if_pos h] at h1
      have h2 : (expF (t :: s)).length = t.carets + 1 + (expF s).length := by
        show (expF ([t] ++ s)).length = _
        rw [expF_app, List.length_append, expF_one, expN_length]
      show (Tr.nd t (combT (s ++ [u]))).graft _ c = Tr.nd t (combT (s ++ [u.graft i c]))
      rw [Tr.graft, if_neg (by rw [h2]; simp only [Tr.leaves]; omega), ← h1]
      congr 2
      rw [h2]; simp only [Tr.leaves]; omega
    · rfl
theorem graft_last (c : Tr) : ∀ s : List Tr, (combT s).graft ((expF s).length : Int) (.nd c .lf) = combT (s ++ [c]) := by
  intro s
  induction s with
  | nil => rfl
  | cons t s ih =>
    have h2 : (expF (t :: s)).length = t.carets + 1 + (expF s).length := by
      show (expF ([t] ++ s)).length = _
      rw [expF_app, List.length_append, expF_one, expN_length]
    show (Tr.nd t (combT s)).graft _ _ = Tr.nd t (combT (s ++ [c]))
    rw [Tr.graft, if_neg (by rw [h2]; simp only [Tr.leaves]; omega), ← ih]
    congr 2
    rw [h2]; simp only [Tr.leaves]; omega

/-- One exponent more. -/
def stepE (t : Tr) (k e : Nat) : Tr := if k = t.carets then t.graft k (.nd (lcT e) .lf) else t.graft k (lcT e)
def foldE : Tr → Nat → List Nat → Tr
  | t, _, [] => t
  | t, k, e :: L => foldE (stepE t k e) (k + 1) L

theorem comb_carets (s : List Tr) : (combT s).carets = (expF s).length := by
  induction s with
  | nil => rfl
  | cons t s ih =>
    show t.carets + (combT s).carets + 1 = (expF ([t] ++ s)).length
    rw [expF_app, List.length_append, expF_one, expN_length, ih]; omega

theorem stepE_carets (t : Tr) (k e : Nat) (h : k ≤ t.carets) : t.carets + e ≤ (stepE t k e).carets ∧ (k = t.carets → (stepE t k e).carets = t.carets + e + 1) ∧ k + 1 ≤ (stepE t k e).carets := by
  unfold stepE
  split
  · next hk =>
    rw [graft_carets t _ k (by omega) (by simp [Tr.leaves]; omega)]
    simp [Tr.carets, lcT_carets]; omega
  · next hk =>
    rw [graft_carets t _ k (by omega) (by simp [Tr.leaves]; omega)]
    simp [lcT_carets]; omega

/-- What holds of the tree made of the exponents A. -/
def InvE (A : List Nat) (t : Tr) : Prop :=
  (A = [] ∧ t = .lf) ∨ ∃ s u j, t = combT (s ++ [u]) ∧ (expF s).length < A.length ∧ expF (s ++ [u]) = A ++ List.replicate j 0

theorem invE_carets {A : List Nat} {t : Tr} (h : InvE A t) : A.length ≤ t.carets := by
  rcases h with ⟨rfl, rfl⟩ | ⟨s, u, j, rfl, _, h2⟩
  · exact Nat.le_refl _
  · rw [comb_carets, h2]; simp

theorem invE_step {A : List Nat} {t : Tr} (h : InvE A t) (e : Nat) : InvE (A ++ [e]) (stepE t A.length e) := by
  rcases h with ⟨rfl, rfl⟩ | ⟨s, u, j, rfl, h1, h2⟩
  · refine .inr ⟨[], lcT e, e, rfl, by simp [expF], ?_⟩
    rw [List.nil_append, expF_one, lcT_exps]; simp
  · have hc : (combT (s ++ [u])).carets = A.length + j := by rw [comb_carets, h2]; simp
    unfold stepE
    by_cases hj : j = 0
    · subst hj
      rw [if_pos (by omega)]
      have hl : (expF (s ++ [u])).length = A.length := by rw [h2]; simp
      have := graft_last (lcT e) (s ++ [u])
      rw [hl] at this
      rw [this]
      refine .inr ⟨s ++ [u], lcT e, e, rfl, by rw [hl]; simp, ?_⟩
      rw [expF_app, h2, expF_one, lcT_exps]; simp
    · rw [if_neg (by omega)]
      obtain ⟨i, hi⟩ : ∃ i, A.length = (expF s).length + i := ⟨A.length - (expF s).length, by omega⟩
      have hu : u.carets + 1 + (expF s).length = A.length + j := by
        have := congrArg List.length h2
        rw [expF_app, expF_one] at this
        simp [expN_length] at this; omega
      have hg := graft_comb (lcT e) s u i
      rw [if_pos (by omega), ← hi] at hg
      rw [hg]
      have hx : u.expN 0 = A.drop (expF s).length ++ 0 :: List.replicate (j - 1) 0 := by
        have h3 := congrArg (List.drop (expF s).length) h2
        rw [expF_app, expF_one, List.drop_left, List.drop_append_of_le_length (by omega)] at h3
        rw [h3, ← List.replicate_succ]
        congr 2; omega
      have hs : expF s = A.take (expF s).length := by
        have h3 := congrArg (List.take (expF s).length) h2
        rw [expF_app, List.take_left, List.take_append_of_le_length (by omega)] at h3
        exact h3
      have hgr := expN_graft u (lcT e) 0 _ _ _ hx
      have hlen : ((A.drop (expF s).length).length : Int) = (i : Int) := by rw [List.length_drop]; omega
      rw [hlen, lcT_exps] at hgr
      refine .inr ⟨s, u.graft i (lcT e), e + (j - 1), rfl, by simp; omega, ?_⟩
      rw [expF_app, expF_one, hgr, hs]
      simp only [List.length_take]
      rw [Nat.min_eq_left (by omega), ← List.append_assoc, List.take_append_drop]
      simp [List.replicate_append_replicate]

theorem invE_all : ∀ (L A : List Nat) (t : Tr), InvE A t → InvE (A ++ L) (foldE t A.length L) := by
  intro L
  induction L with
  | nil => intro A t h; simpa [foldE] using h
  | cons e L ih =>
    intro A t h
    have h1 := ih (A ++ [e]) _ (invE_step h e)
    rw [List.length_append, List.append_assoc] at h1
    exact h1

theorem invE_end {A : List Nat} {t : Tr} (h : InvE A t) (ha : ∀ B, A ≠ B ++ [0]) : treeE A = t := by
  rcases h with ⟨rfl, rfl⟩ | ⟨s, u, j, rfl, h1, h2⟩
  · exact treeE_of [] .lf 1 rfl (.inl rfl)
  · refine treeE_of A _ (j + 1) ?_ (.inr ⟨s, u, sides_comb _, ?_⟩)
    · rw [expR_sides, sides_comb, h2, List.replicate_succ']; simp
    · cases u with
      | nd l r => rfl
      | lf =>
        exfalso
        rw [expF_app] at h2
        have hl := congrArg List.length h2
        simp [expF_one, Tr.expN] at hl
        have hj : j = 0 := by omega
        subst hj
        exact ha (expF s) (by rw [expF_one, Tr.expN] at h2; simpa using h2.symm)
theorem foldE_tree (L : List Nat) (ha : ∀ B, L ≠ B ++ [0]) : foldE .lf 0 L = treeE L := by
  have h := invE_all L [] .lf (.inl ⟨rfl, rfl⟩)
  exact (invE_end h ha).symm

end Go.Proofs.YtplmbdljhgicfaaDoor

/-! TeP -/
namespace Go.Proofs.YtplmbdljhgicfaaDoor

theorem joinJ_succ : ∀ (a : Nat) (s : List Tr) (t u : Tr) (r : List Tr), joinJ a s = t :: u :: r → a < s.length → joinJ (a + 1) s = .nd t u :: r := by
  intro a
  induction a with
  | zero => intro s t u r h _; rw [joinJ] at h; rw [h]; rfl
  | succ a ih =>
    intro s t u r h hl
    match s, hl with
    | [], hl => simp at hl
    | [x], hl => simp at hl
    | x :: y :: q, hl =>
      rw [joinJ] at h
      show joinJ (a + 1) (.nd x y :: q) = _
      exact ih _ _ _ _ h (by simp at hl ⊢; omega)
def sumT (s : List Tr) : Nat := (s.map Tr.carets).sum
theorem sumT_cons (t : Tr) (s : List Tr) : sumT (t :: s) = t.carets + sumT s := by simp [sumT]
theorem sumT_app (s u : List Tr) : sumT (s ++ u) = sumT s + sumT u := by simp [sumT]
theorem sumT_lf (n : Nat) : sumT (List.replicate n .lf) = 0 := by
  induction n with
  | zero => rfl
  | succ n ih => rw [List.replicate_succ, sumT_cons, ih]; rfl
theorem sumT_mem {s : List Tr} {t : Tr} (h : t ∈ s) : t.carets ≤ sumT s := by
  induction s with
  | nil => simp at h
  | cons x s ih =>
    rw [sumT_cons]
    rcases List.mem_cons.1 h with rfl | h
    · omega
    · have := ih h; omega
theorem sumT_join : ∀ (a : Nat) (s : List Tr), a < s.length → sumT (joinJ a s) = sumT s + a := by
  intro a
  induction a with
  | zero => intro s _; rfl
  | succ a ih =>
    intro s h
    match s, h with
    | [], h => simp at h
    | [_], h => simp at h
    | x :: y :: q, h =>
      rw [joinJ, ih _ (by simp at h ⊢; omega), sumT_cons, sumT_cons, sumT_cons]
      simp [Tr.carets]; omega
theorem sumT_stack (n : Nat) : ∀ L : List Nat, L.sum ≤ n → sumT (stackD n L) = L.sum := by
  intro L
  induction L with
  | nil => intro _; exact sumT_lf n
  | cons e L ih =>
    intro h
    rw [List.sum_cons] at h
    have hl := stackD_length n L (by omega)
    rw [stackD, sumT_join _ _ (by simp; omega), sumT_cons, ih (by omega), List.sum_cons]
    simp [Tr.carets]; omega
theorem foldE_carets : ∀ (L A : List Nat) (t : Tr), InvE A t → t.carets ≤ (foldE t A.length L).carets := by
  intro L
  induction L with
  | nil => intro A t _; exact Nat.le_refl _
  | cons e L ih =>
    intro A t h
    have h1 := ih (A ++ [e]) _ (invE_step h e)
    rw [List.length_append] at h1
    have h2 := (stepE_carets t A.length e (invE_carets h)).1
    show _ ≤ (foldE (stepE t A.length e) (A.length + 1) L).carets
    rw [show A.length + [e].length = A.length + 1 from rfl] at h1
    omega
theorem stripT_take {s : List Tr} {n : Nat} {t : Tr} (h : s[n]? = some t) (ht : t.isLf = true) : stripT (s.take (n + 1)) = stripT (s.take n) := by
  obtain ⟨hn, rfl⟩ := List.getElem?_eq_some_iff.1 h
  rw [List.take_succ_eq_append_getElem hn]
  have := (isLf_iff _).1 ht
  rw [this]
  exact stripT_lf (s.take n) 1
theorem stripT_stop {s : List Tr} {n : Nat} {t : Tr} (h : s[n]? = some t) (ht : t.isLf = false) : stripT (s.take (n + 1)) = s.take (n + 1) := by
  obtain ⟨hn, rfl⟩ := List.getElem?_eq_some_iff.1 h
  rw [List.take_succ_eq_append_getElem hn]
  exact stripT_last _ _ ht

/-- Is a list one of exponents? -/
def exOk (L : List Int) : Bool := decide (L.length ≤ 9) && (L.all (fun x => decide (0 ≤ x) && decide (x ≤ 8)) && !(L.getLast? == some 0))
theorem exOk_iff {L : List Int} : exOk L = true ↔ L.length ≤ 9 ∧ (∀ x ∈ L, 0 ≤ x ∧ x ≤ 8) ∧ L.getLast? ≠ some 0 := by simp [exOk]
def toN (L : List Int) : List Nat := L.map Int.toNat
theorem toN_length (L : List Int) : (toN L).length = L.length := by simp [toN]
theorem toN_sum {L : List Int} (h : ∀ x ∈ L, 0 ≤ x ∧ x ≤ 8) : (toN L).sum ≤ 8 * L.length := by
  induction L with
  | nil => simp [toN]
  | cons x L ih =>
    have h1 := h x (by simp)
    have h2 := ih (fun y hy => h y (by simp [hy]))
    have h3 : (toN (x :: L)).sum = x.toNat + (toN L).sum := by simp [toN]
    rw [h3, List.length_cons]; omega
theorem toN_end {L : List Int} (h : L.getLast? ≠ some 0) (hp : ∀ x ∈ L, 0 ≤ x ∧ x ≤ 8) : ∀ B, toN L ≠ B ++ [0] := by
  intro B hB
  apply h
  have h1 := congrArg List.getLast? hB
  rw [List.getLast?_append] at h1
  simp only [toN, List.getLast?_map, List.getLast?_singleton, Option.or] at h1
  cases hl : L.getLast? with
  | none => rw [hl] at h1; simp at h1
  | some x =>
    rw [hl] at h1
    simp only [Option.map_some, Option.some.injEq] at h1
    have := hp x (List.mem_of_getLast? hl)
    congr 1; omega
end Go.Proofs.YtplmbdljhgicfaaDoor

/-! PrP -/
namespace Go.Proofs.YtplmbdljhgicfaaDoor

/-- A pair of trees. -/
abbrev Pr := Tr × Tr

/-- The left leaves with which both trees have exposed carets. -/
def both (p : Pr) : List Int := (p.1.exps 0).filter fun n => (p.2.exps 0).contains n

/-- Both carets dropped. -/
def dropP (p : Pr) (n : Int) : Pr := (p.1.dropAt n, p.2.dropAt n)

/-- Which of so many a step takes: the first choice modulo their number, or the first one. -/
def pickI (cs : List Int) (k : Nat) : Nat := match cs with
  | [] => 0
  | c :: _ => (c % k).toNat

/-- The reduced pair by choices (fuel: the number of steps that are left at most). -/
def redF : Nat → Pr → List Int → Pr
  | 0, p, _ => p
  | k + 1, p, cs => match both p with
    | [] => p
    | n :: ns => redF k (dropP p ((n :: ns).getD (pickI cs (ns.length + 1)) 0)) cs.tail
def redBy (p : Pr) (cs : List Int) : Pr := redF p.1.carets p cs
def red (p : Pr) : Pr := redBy p []

theorem mem_both {p : Pr} {n : Int} : n ∈ both p ↔ n ∈ p.1.exps 0 ∧ n ∈ p.2.exps 0 := by
  simp [both]

theorem both_length (p : Pr) : (both p).length ≤ p.1.carets :=
  Nat.le_trans (List.length_filter_le _ _) (exps_length _ _)

theorem both_empty {p : Pr} (h : p.1.carets = 0) : both p = [] := by
  have := both_length p
  exact List.length_eq_zero_iff.1 (by omega)

theorem pickI_lt (cs : List Int) (k : Nat) (h : 0 < k) : pickI cs k < k := by
  unfold pickI
  split
  · exact h
  · next c _ =>
    have h1 := Int.emod_lt_of_pos c (show (0 : Int) < k by omega)
    have h2 := Int.emod_nonneg c (show (k : Int) ≠ 0 by omega)
    omega

theorem pick_mem {p : Pr} {n : Int} {ns : List Int} (h : both p = n :: ns) (cs : List Int) : (n :: ns).getD (pickI cs (ns.length + 1)) 0 ∈ both p := by
  rw [h]
  have := pickI_lt cs (ns.length + 1) (by omega)
  rw [List.getD_eq_getElem?_getD, List.getElem?_eq_getElem (by simpa using this)]
  exact List.getElem_mem _

theorem dropP_carets {p : Pr} {n : Int} (h : n ∈ both p) : (dropP p n).1.carets + 1 = p.1.carets ∧ (dropP p n).2.carets + 1 = p.2.carets :=
  ⟨dropAt_carets _ _ (mem_both.1 h).1, dropAt_carets _ _ (mem_both.1 h).2⟩

/-- One step. -/
theorem redBy_step {p : Pr} {n : Int} {ns : List Int} (h : both p = n :: ns) (cs : List Int) :
    redBy p cs = redBy (dropP p ((n :: ns).getD (pickI cs (ns.length + 1)) 0)) cs.tail := by
  have hc := (dropP_carets (pick_mem h cs)).1
  unfold redBy
  obtain ⟨k, hk⟩ : ∃ k, p.1.carets = k + 1 := ⟨p.1.carets - 1, by omega⟩
  rw [hk, redF, h]
  have : (dropP p ((n :: ns).getD (pickI cs (ns.length + 1)) 0)).1.carets = k := by omega
  rw [this]
theorem redBy_end {p : Pr} (h : both p = []) (cs : List Int) : redBy p cs = p := by
  unfold redBy
  cases hk : p.1.carets with
  | zero => rfl
  | succ k => rw [redF, h]

theorem redF_carets (k : Nat) : ∀ (p : Pr) (cs : List Int), (redF k p cs).1.carets ≤ p.1.carets ∧ (redF k p cs).2.carets ≤ p.2.carets ∧ (redF k p cs).1.carets + p.2.carets = (redF k p cs).2.carets + p.1.carets := by
  induction k with
  | zero => intro p cs; simp [redF]; omega
  | succ k ih =>
    intro p cs
    rw [redF]
    split
    · refine ⟨Nat.le_refl _, Nat.le_refl _, by omega⟩
    · next n ns h =>
      have h1 := dropP_carets (pick_mem h cs)
      have h2 := ih (dropP p ((n :: ns).getD (pickI cs (ns.length + 1)) 0)) cs.tail
      omega
theorem redBy_carets (p : Pr) (cs : List Int) : (redBy p cs).1.carets ≤ p.1.carets ∧ (redBy p cs).2.carets ≤ p.2.carets ∧ (redBy p cs).1.carets + p.2.carets = (redBy p cs).2.carets + p.1.carets := redF_carets _ p cs

theorem redF_both (k : Nat) : ∀ (p : Pr) (cs : List Int), p.1.carets ≤ k → both (redF k p cs) = [] := by
  induction k with
  | zero => intro p cs h; rw [redF]; exact both_empty (by omega)
  | succ k ih =>
    intro p cs hk
    rw [redF]
    split
    · next h => exact h
    · next n ns h =>
      have h1 := dropP_carets (pick_mem h cs)
      exact ih _ _ (by omega)
theorem red_both (p : Pr) (cs : List Int) : both (redBy p cs) = [] := redF_both _ p cs (Nat.le_refl _)

/-- A pair is what is left of it just if it is reduced. -/
theorem red_self (p : Pr) : red p = p ↔ both p = [] := by
  constructor
  · intro h; rw [← h]; exact red_both p []
  · exact fun h => redBy_end h []

namespace Tr
/-- What a greater tree has at the leaves of one that is part of it. -/
def subs : Tr → Tr → List Tr
  | lf, g => [g]
  | nd l r, nd p q => l.subs p ++ r.subs q
  | nd _ _, lf => []
/-- A tree with others in place of its leaves, and those that are left. -/
def fillR : Tr → List Tr → Tr × List Tr
  | lf, [] => (lf, [])
  | lf, u :: us => (u, us)
  | nd l r, us => (nd (l.fillR us).1 (r.fillR (l.fillR us).2).1, (r.fillR (l.fillR us).2).2)
def fill (t : Tr) (us : List Tr) : Tr := (t.fillR us).1
end Tr

theorem below_length (a : Tr) : ∀ b : Tr, (a.subs (a.join b)).length = a.leaves := by
  induction a with
  | lf => intro b; rfl
  | nd l r ihl ihr =>
    intro b
    cases b with
    | lf =>
      have h1 := ihl .lf
      have h2 := ihr .lf
      rw [leaves_nd]
      have j : ∀ t : Tr, t.join .lf = t := fun t => by cases t <;> rfl
      rw [j] at h1 h2
      show ((Tr.nd l r).subs (.nd l r)).length = _
      simp [Tr.subs, h1, h2]
    | nd p q =>
      rw [leaves_nd]
      simp [Tr.join, Tr.subs, ihl p, ihr q]

theorem join_comm (a : Tr) : ∀ b : Tr, a.join b = b.join a := by
  induction a with
  | lf => intro b; cases b <;> rfl
  | nd l r ihl ihr =>
    intro b
    cases b with
    | lf => rfl
    | nd p q => simp [Tr.join, ihl p, ihr q]

/-- a is part of g, whose texts below a are told. -/
def sumC (us : List Tr) : Nat := (us.map Tr.carets).sum

theorem sumC_cons (u : Tr) (us : List Tr) : sumC (u :: us) = u.carets + sumC us := by simp [sumC]
theorem sumC_append (us vs : List Tr) : sumC (us ++ vs) = sumC us + sumC vs := by simp [sumC]

theorem below_carets (a : Tr) : ∀ g : Tr, a.part g = true → a.carets + sumC (a.subs g) = g.carets ∧ (a.subs g).length = a.leaves := by
  induction a with
  | lf => intro g _; simp [Tr.subs, sumC, Tr.carets, Tr.leaves]
  | nd l r ihl ihr =>
    intro g h
    cases g with
    | lf => simp [Tr.part] at h
    | nd p q =>
      simp [Tr.part] at h
      have h1 := ihl p h.1
      have h2 := ihr q h.2
      rw [leaves_nd]
      simp only [Tr.subs, sumC_append, Tr.carets, List.length_append]
      omega

theorem part_refl (a : Tr) : a.part a = true := by
  induction a with
  | lf => rfl
  | nd l r ihl ihr => simp [Tr.part, ihl, ihr]

theorem part_join (a : Tr) : ∀ b : Tr, a.part (a.join b) = true := by
  induction a with
  | lf => intro b; rfl
  | nd l r ihl ihr =>
    intro b
    cases b with
    | lf => show (Tr.nd l r).part (.nd l r) = true; exact part_refl _
    | nd p q => simp [Tr.join, Tr.part, ihl p, ihr q]
theorem part_join' (a b : Tr) : b.part (a.join b) = true := by rw [join_comm]; exact part_join b a

theorem fillR_carets (t : Tr) : ∀ us : List Tr, t.leaves ≤ us.length → (t.fillR us).1.carets + sumC (t.fillR us).2 = t.carets + sumC us ∧ (t.fillR us).2.length + t.leaves = us.length := by
  induction t with
  | lf =>
    intro us h
    cases us with
    | nil => simp [Tr.leaves] at h
    | cons u us => simp [Tr.fillR, sumC_cons, Tr.carets, Tr.leaves]
  | nd l r ihl ihr =>
    intro us h
    rw [leaves_nd] at *
    have h1 := ihl us (by omega)
    have h2 := ihr (l.fillR us).2 (by omega)
    simp only [Tr.fillR, Tr.carets]
    omega

theorem fill_carets (t : Tr) (us : List Tr) (h : us.length = t.leaves) : (t.fill us).carets = t.carets + sumC us := by
  have h1 := fillR_carets t us (by omega)
  have : (t.fillR us).2 = [] := List.length_eq_zero_iff.1 (by omega)
  rw [this] at h1
  have h2 := h1.1
  show (t.fillR us).1.carets = _
  simp [sumC] at h2 ⊢
  exact h2

/-- The text of a tree with texts in place of its leaves: the texts that are left. -/
def fillL : List UInt8 → List ByteArray → List UInt8
  | [], _ => []
  | c :: r, us => if c = 46 then (us.getD 0 ⟨#[]⟩).data.toList ++ fillL r us.tail else c :: fillL r us

theorem fillL_text (t : Tr) : ∀ (us : List Tr) (q : List UInt8), t.leaves ≤ us.length → fillL (t.text ++ q) (us.map Tr.str) = (t.fillR us).1.text ++ fillL q ((t.fillR us).2.map Tr.str) := by
  induction t with
  | lf =>
    intro us q h
    cases us with
    | nil => simp [Tr.leaves] at h
    | cons u us => simp [Tr.fillR, Tr.text, fillL, Tr.str_list]
  | nd l r ihl ihr =>
    intro us q h
    rw [leaves_nd] at h
    have e : (Tr.nd l r).text ++ q = 40 :: (l.text ++ (r.text ++ (41 :: q))) := by simp [Tr.text]
    have h1 := fillR_carets l us (by omega)
    rw [e, fillL, if_neg (by decide), ihl us _ (by omega), ihr _ _ (by omega), fillL, if_neg (by decide)]
    simp [Tr.fillR, Tr.text]

theorem fill_text (t : Tr) (us : List Tr) (h : us.length = t.leaves) : fillL t.text (us.map Tr.str) = (t.fill us).text := by
  have := fillL_text t us [] (by omega)
  show _ = (t.fillR us).1.text
  simpa [fillL] using this

/-- The product, before it is reduced. -/
def rawP (p q : Pr) : Pr := (p.1.fill (p.2.subs (p.2.join q.1)), q.2.fill (q.1.subs (p.2.join q.1)))
/-- The product. -/
def mulP (p q : Pr) : Pr := red (rawP p q)
def invP (p : Pr) : Pr := (p.2, p.1)
/-- A pair: as many leaves. -/
def okP (p : Pr) : Prop := p.1.carets = p.2.carets

theorem rawP_carets {p q : Pr} (hp : okP p) (hq : okP q) : (rawP p q).1.carets = (p.2.join q.1).carets ∧ (rawP p q).2.carets = (p.2.join q.1).carets := by
  unfold okP at *
  have h1 := below_carets p.2 _ (part_join p.2 q.1)
  have h2 := below_carets q.1 _ (part_join' p.2 q.1)
  have f1 := fill_carets p.1 (p.2.subs (p.2.join q.1)) (by rw [h1.2]; simp [Tr.leaves, hp])
  have f2 := fill_carets q.2 (q.1.subs (p.2.join q.1)) (by rw [h2.2]; simp [Tr.leaves, hq])
  show (p.1.fill _).carets = _ ∧ (q.2.fill _).carets = _
  omega
theorem rawP_ok {p q : Pr} (hp : okP p) (hq : okP q) : okP (rawP p q) := by
  have := rawP_carets hp hq; unfold okP; omega
theorem red_ok {p : Pr} (hp : okP p) (cs : List Int) : okP (redBy p cs) := by
  have := redBy_carets p cs; unfold okP at *; omega
theorem mulP_ok {p q : Pr} (hp : okP p) (hq : okP q) : okP (mulP p q) := red_ok (rawP_ok hp hq) []
theorem mulP_carets {p q : Pr} (hp : okP p) (hq : okP q) : (mulP p q).1.carets ≤ p.2.carets + q.1.carets := by
  have h1 := rawP_carets hp hq
  have h2 := redBy_carets (rawP p q) []
  have h3 := join_carets p.2 q.1
  show (redBy _ _).1.carets ≤ _
  omega
end Go.Proofs.YtplmbdljhgicfaaDoor

/-! PairOf -/
namespace Go.Proofs.YtplmbdljhgicfaaDoor

/-- The pair of two texts, if they are one. -/
def pairOf (a b : ByteArray) : Option Pr :=
  match treeOf a, treeOf b with
  | some t, some u => if t.carets = u.carets then some (t, u) else none
  | _, _ => none

theorem pairOf_some {a b : ByteArray} {p : Pr} (h : pairOf a b = some p) : a = p.1.str ∧ b = p.2.str ∧ okP p ∧ p.1.carets ≤ 8 ∧ p.2.carets ≤ 8 := by
  unfold pairOf at h
  split at h
  · next t u ht hu =>
    split at h
    · next hc =>
      injection h with h
      subst h
      obtain ⟨rfl, h1⟩ := treeOf_some ht
      obtain ⟨rfl, h2⟩ := treeOf_some hu
      exact ⟨rfl, rfl, hc, h1, h2⟩
    · simp at h
  · simp at h

theorem pairOf_str {p : Pr} (h : okP p) (k : p.1.carets ≤ 8) : pairOf p.1.str p.2.str = some p := by
  unfold pairOf
  rw [treeOf_str p.1 k, treeOf_str p.2 (by unfold okP at h; omega)]
  simp [show p.1.carets = p.2.carets from h]

/-- The texts are no pair: why. -/
theorem pairOf_none {a b : ByteArray} (h : pairOf a b = none) : treeOf a = none ∨ (∃ t : Tr, a = t.str ∧ t.carets ≤ 8 ∧ treeOf b = none) ∨ ∃ t u : Tr, a = t.str ∧ b = u.str ∧ t.carets ≤ 8 ∧ u.carets ≤ 8 ∧ ¬ t.carets = u.carets := by
  cases ha : treeOf a with
  | none => exact .inl rfl
  | some t =>
    obtain ⟨rfl, h1⟩ := treeOf_some ha
    cases hb : treeOf b with
    | none => exact .inr (.inl ⟨t, rfl, h1, rfl⟩)
    | some u =>
      obtain ⟨rfl, h2⟩ := treeOf_some hb
      refine .inr (.inr ⟨t, u, rfl, rfl, h1, h2, ?_⟩)
      intro e
      unfold pairOf at h
      rw [ha, hb] at h
      simp [e] at h
end Go.Proofs.YtplmbdljhgicfaaDoor

/-! FfP -/
namespace Go.Proofs.YtplmbdljhgicfaaDoor

/-- The trees of a list of texts, if all are trees of at most eight carets. -/
def treesOf : List ByteArray → Option (List Tr)
  | [] => some []
  | s :: L =>
    match treeOf s with
    | none => none
    | some t =>
      match treesOf L with
      | none => none
      | some us => some (t :: us)

theorem treesOf_some : ∀ (L : List ByteArray) (us : List Tr), treesOf L = some us → L = us.map Tr.str ∧ ∀ u ∈ us, u.carets ≤ 8 := by
  intro L
  induction L with
  | nil => intro us h; simp [treesOf] at h; subst h; simp
  | cons s L ih =>
    intro us h
    rw [treesOf] at h
    cases hs : treeOf s with
    | none => rw [hs] at h; cases h
    | some t =>
      rw [hs] at h
      cases hL : treesOf L with
      | none => rw [hL] at h; cases h
      | some vs =>
        rw [hL] at h
        injection h with h
        subst h
        obtain ⟨h1, h2⟩ := ih vs hL
        obtain ⟨h3, h4⟩ := treeOf_some hs
        refine ⟨by rw [h3, h1]; rfl, ?_⟩
        intro u hu
        rcases List.mem_cons.1 hu with rfl | hu
        · exact h4
        · exact h2 u hu
theorem treesOf_map (us : List Tr) (h : ∀ u ∈ us, u.carets ≤ 8) : treesOf (us.map Tr.str) = some us := by
  induction us with
  | nil => rfl
  | cons u us ih =>
    rw [List.map_cons, treesOf, treeOf_str u (h u (by simp)), ih (fun v hv => h v (by simp [hv]))]
theorem treesOf_none : ∀ (L : List ByteArray), treesOf L = none → ∃ k, k < L.length ∧ treeOf (L.getD k ⟨#[]⟩) = none ∧ ∃ us, treesOf (L.take k) = some us := by
  intro L
  induction L with
  | nil => intro h; cases h
  | cons s L ih =>
    intro h
    rw [treesOf] at h
    cases hs : treeOf s with
    | none => exact ⟨0, by simp, by simpa using hs, [], rfl⟩
    | some t =>
      rw [hs] at h
      cases hL : treesOf L with
      | some vs => rw [hL] at h; cases h
      | none =>
        obtain ⟨k, h1, h2, us, h3⟩ := ih hL
        exact ⟨k + 1, by simp; omega, by simpa using h2, t :: us, by rw [List.take_succ_cons, treesOf, hs, h3]⟩

/-- The last tree is no leaf. -/
def lastB (us : List Tr) : Bool := match us.getLast? with | none => true | some u => !u.isLf
/-- A forest. -/
def okF (us : List Tr) : Bool := decide (us.length ≤ 8) && (decide (sumT us ≤ 8) && lastB us)
theorem okF_iff {us : List Tr} : okF us = true ↔ us.length ≤ 8 ∧ sumT us ≤ 8 ∧ lastB us = true := by simp [okF]
def forOf (L : List ByteArray) : Option (List Tr) := (treesOf L).bind fun us => if okF us = true then some us else none
theorem forOf_some {L : List ByteArray} {us : List Tr} (h : forOf L = some us) : L = us.map Tr.str ∧ us.length ≤ 8 ∧ sumT us ≤ 8 ∧ lastB us = true := by
  unfold forOf at h
  cases hL : treesOf L with
  | none => rw [hL] at h; cases h
  | some vs =>
    rw [hL] at h
    simp only [Option.bind_some] at h
    split at h
    · next ho => injection h with h; subst h; exact ⟨(treesOf_some L _ hL).1, okF_iff.1 ho⟩
    · cases h
theorem forOf_map {us : List Tr} (h : okF us = true) : forOf (us.map Tr.str) = some us := by
  have h2 := (okF_iff.1 h).2.1
  unfold forOf
  rw [treesOf_map us (fun u hu => by have := sumT_mem hu; omega)]
  simp [h]

theorem lastB_nil : lastB [] = true := rfl
theorem lastB_cons (u : Tr) {us : List Tr} (h : us ≠ []) : lastB (u :: us) = lastB us := by
  cases us with
  | nil => exact absurd rfl h
  | cons v vs => simp [lastB, List.getLast?_cons_cons]
theorem lastB_one (u : Tr) : lastB [u] = !u.isLf := rfl
theorem lastB_strip (us : List Tr) : lastB us = true ↔ stripT us = us := by
  rcases List.eq_nil_or_concat us with rfl | ⟨init, x, rfl⟩
  · simp [lastB, stripT]
  · rw [List.concat_eq_append]
    cases hx : x.isLf with
    | false => rw [stripT_last _ _ hx]; simp [lastB, hx]
    | true =>
      obtain rfl := (isLf_iff x).1 hx
      have h1 := stripT_lf init 1
      rw [show List.replicate 1 Tr.lf = [Tr.lf] from rfl] at h1
      rw [h1]
      constructor
      · intro h; simp [lastB, Tr.isLf] at h
      · intro h
        have h2 : (stripT init).length ≤ init.length := by
          unfold stripT
          rw [List.length_reverse]
          exact Nat.le_trans (List.Sublist.length_le (List.dropWhile_sublist _)) (by simp)
        have := congrArg List.length h
        simp at this
        omega
theorem stripT_length (us : List Tr) : (stripT us).length ≤ us.length := by
  unfold stripT
  rw [List.length_reverse]
  exact Nat.le_trans (List.Sublist.length_le (List.dropWhile_sublist _)) (by simp)
theorem dropLf_last (l : List Tr) : lastB ((l.dropWhile Tr.isLf).reverse) = true := by
  induction l with
  | nil => rfl
  | cons x l ih =>
    cases hx : x.isLf with
    | true => rw [List.dropWhile_cons_of_pos hx]; exact ih
    | false => rw [List.dropWhile_cons_of_neg (by rw [hx]; decide)]; simp [lastB, hx]
theorem stripT_lastB (us : List Tr) : lastB (stripT us) = true := dropLf_last us.reverse
theorem stripT_stripT (us : List Tr) : stripT (stripT us) = stripT us := (lastB_strip _).1 (stripT_lastB us)
theorem sumT_rev (us : List Tr) : sumT us.reverse = sumT us := by
  induction us with
  | nil => rfl
  | cons u us ih => rw [List.reverse_cons, sumT_app, ih, sumT_cons]; simp [sumT]; omega
theorem sumT_dropLf (l : List Tr) : sumT (l.dropWhile Tr.isLf) = sumT l := by
  induction l with
  | nil => rfl
  | cons x l ih =>
    cases hx : x.isLf with
    | true =>
      obtain rfl := (isLf_iff x).1 hx
      rw [List.dropWhile_cons_of_pos rfl, ih, sumT_cons]; simp [Tr.carets]
    | false => rw [List.dropWhile_cons_of_neg (by rw [hx]; decide)]
theorem sumT_strip (us : List Tr) : sumT (stripT us) = sumT us := by
  unfold stripT
  rw [sumT_rev, sumT_dropLf, sumT_rev]

theorem sides_sum (t : Tr) : sumT (sidesT t) + (sidesT t).length = t.carets := by
  induction t with
  | lf => rfl
  | nd l r _ ihr => rw [sidesT, sumT_cons, List.length_cons, Tr.carets]; omega
/-- What hangs at the left sides of the right side. -/
def hangT (t : Tr) : List Tr := stripT (sidesT t)
theorem hang_ok {t : Tr} (h : t.carets ≤ 8) : okF (hangT t) = true := by
  have h1 := sides_sum t
  have h2 := stripT_length (sidesT t)
  have h3 := sumT_strip (sidesT t)
  rw [okF_iff]
  unfold hangT
  exact ⟨by omega, by omega, stripT_lastB _⟩

/-- Each tree of the first list is part of that of the second one. -/
def partF : List Tr → List Tr → Bool
  | [], _ => true
  | u :: us, [] => u.isLf && partF us []
  | u :: us, v :: vs => u.part v && partF us vs
theorem partF_nil (us : List Tr) (h : lastB us = true) (hn : us ≠ []) : partF us [] = false := by
  induction us with
  | nil => exact absurd rfl hn
  | cons u us ih =>
    rw [partF]
    by_cases hu : us = []
    · subst hu
      rw [lastB_one] at h
      cases hx : u.isLf with
      | true => rw [hx] at h; cases h
      | false => rfl
    · rw [lastB_cons u hu] at h
      rw [ih h hu, Bool.and_false]
theorem part_comb (us : List Tr) : ∀ vs : List Tr, lastB us = true → (combT us).part (combT vs) = partF us vs := by
  induction us with
  | nil => intro vs _; cases vs <;> rfl
  | cons u us ih =>
    intro vs h
    cases vs with
    | nil => rw [partF_nil _ h (by simp)]; rfl
    | cons v vs =>
      show (u.part v && (combT us).part (combT vs)) = (u.part v && partF us vs)
      by_cases hu : us = []
      · subst hu; rw [ih vs rfl]
      · rw [lastB_cons u hu] at h; rw [ih vs h]
theorem part_iff_join (a : Tr) : ∀ b : Tr, a.part b = true ↔ a.join b = b := by
  induction a with
  | lf => intro b; simp [Tr.part, Tr.join]
  | nd l r ihl ihr =>
    intro b
    cases b with
    | lf => simp [Tr.part, Tr.join]
    | nd p q => simp [Tr.part, Tr.join, ihl, ihr]
def atF (us : List Tr) (k : Nat) : Tr := us.getD k .lf
theorem part_lf (u : Tr) : u.part .lf = u.isLf := by cases u <;> rfl
theorem partF_all (us : List Tr) : ∀ vs : List Tr, partF us vs = true ↔ ∀ k, k < us.length → (us.getD k .lf).part (vs.getD k .lf) = true := by
  induction us with
  | nil => intro vs; simp [partF]
  | cons u us ih =>
    intro vs
    have hsplit : (∀ k, k < (u :: us).length → ((u :: us).getD k .lf).part (vs.getD k .lf) = true) ↔ u.part (vs.getD 0 .lf) = true ∧ ∀ k, k < us.length → (us.getD k .lf).part (vs.tail.getD k .lf) = true := by
      constructor
      · intro h
        refine ⟨by simpa using h 0 (by simp), fun k hk => ?_⟩
        have := h (k + 1) (by simp; omega)
        cases vs <;> simpa using this
      · intro ⟨h0, h1⟩ k hk
        cases k with
        | zero => simpa using h0
        | succ k =>
          have := h1 k (by simp at hk; omega)
          cases vs <;> simpa using this
    rw [hsplit]
    cases vs with
    | nil => rw [partF, Bool.and_eq_true, ih []]; simp [part_lf]
    | cons v vs => rw [partF, Bool.and_eq_true, ih vs]; simp

/-- Joined trees of two lists. -/
def joinF : List Tr → List Tr → List Tr
  | [], vs => vs
  | u :: us, [] => u :: us
  | u :: us, v :: vs => u.join v :: joinF us vs
theorem join_comb (us : List Tr) : ∀ vs : List Tr, (combT us).join (combT vs) = combT (joinF us vs) := by
  induction us with
  | nil => intro vs; rfl
  | cons u us ih =>
    intro vs
    cases vs with
    | nil => rfl
    | cons v vs => show Tr.nd (u.join v) ((combT us).join (combT vs)) = _; rw [ih]; rfl
theorem join_lf (u : Tr) : u.join .lf = u := by cases u <;> rfl
theorem joinF_length (us : List Tr) : ∀ vs : List Tr, (joinF us vs).length = max us.length vs.length := by
  induction us with
  | nil => intro vs; simp [joinF]
  | cons u us ih =>
    intro vs
    cases vs with
    | nil => simp [joinF]
    | cons v vs => simp [joinF, ih]
theorem joinF_get (us : List Tr) : ∀ (vs : List Tr) (k : Nat), (joinF us vs).getD k .lf = (us.getD k .lf).join (vs.getD k .lf) := by
  induction us with
  | nil => intro vs k; simp [joinF, Tr.join]
  | cons u us ih =>
    intro vs k
    cases vs with
    | nil => simp [joinF, join_lf]
    | cons v vs =>
      cases k with
      | zero => simp [joinF]
      | succ k => simpa [joinF] using ih vs k
/-- Common trees of two lists. -/
def comF : List Tr → List Tr → List Tr
  | u :: us, v :: vs => u.com v :: comF us vs
  | _, _ => []
theorem com_comb (us : List Tr) : ∀ vs : List Tr, (combT us).com (combT vs) = combT (comF us vs) := by
  induction us with
  | nil => intro vs; cases vs <;> rfl
  | cons u us ih =>
    intro vs
    cases vs with
    | nil => rfl
    | cons v vs => show Tr.nd (u.com v) ((combT us).com (combT vs)) = _; rw [ih]; rfl
theorem com_lf (u : Tr) : u.com .lf = .lf := by cases u <;> rfl
/-- Common trees of two lists, leaves behind the shorter one. -/
def comL (us vs : List Tr) : List Tr := (List.range (max us.length vs.length)).map fun k => (us.getD k .lf).com (vs.getD k .lf)
def joinL (us vs : List Tr) : List Tr := (List.range (max us.length vs.length)).map fun k => (us.getD k .lf).join (vs.getD k .lf)
theorem joinL_eq (us vs : List Tr) : joinL us vs = joinF us vs := by
  apply List.ext_getElem
  · simp [joinL, joinF_length]
  · intro k h1 h2
    have h3 := joinF_get us vs k
    rw [List.getD_eq_getElem?_getD, List.getElem?_eq_getElem h2, Option.getD_some] at h3
    rw [h3]
    simp [joinL]
theorem comL_cons (u v : Tr) (us vs : List Tr) : comL (u :: us) (v :: vs) = u.com v :: comL us vs := by
  unfold comL
  rw [show max (u :: us).length (v :: vs).length = max us.length vs.length + 1 by simp, List.range_succ_eq_map]
  simp
theorem comL_nil1 (vs : List Tr) : comL [] vs = List.replicate vs.length .lf := by
  unfold comL
  apply List.ext_getElem
  · simp
  · intro k h1 h2; simp [Tr.com]
theorem comL_nil2 (us : List Tr) : comL us [] = List.replicate us.length .lf := by
  unfold comL
  apply List.ext_getElem
  · simp
  · intro k h1 h2; simp [com_lf]
theorem comL_eq (us : List Tr) : ∀ vs : List Tr, ∃ m, comL us vs = comF us vs ++ List.replicate m .lf := by
  induction us with
  | nil => intro vs; exact ⟨vs.length, by rw [comL_nil1]; simp [comF]⟩
  | cons u us ih =>
    intro vs
    cases vs with
    | nil => exact ⟨(u :: us).length, by rw [comL_nil2]; simp [comF]⟩
    | cons v vs => obtain ⟨m, hm⟩ := ih vs; exact ⟨m, by rw [comL_cons, hm]; rfl⟩
theorem comL_strip (us vs : List Tr) : stripT (comL us vs) = stripT (comF us vs) := by
  obtain ⟨m, hm⟩ := comL_eq us vs
  rw [hm, stripT_lf]
theorem comF_length (us : List Tr) : ∀ vs : List Tr, (comF us vs).length ≤ us.length := by
  induction us with
  | nil => intro vs; simp [comF]
  | cons u us ih =>
    intro vs
    cases vs with
    | nil => simp [comF]
    | cons v vs => have := ih vs; simp [comF]; omega
theorem comF_sum (us : List Tr) : ∀ vs : List Tr, sumT (comF us vs) ≤ sumT us := by
  induction us with
  | nil => intro vs; simp [comF, sumT]
  | cons u us ih =>
    intro vs
    cases vs with
    | nil => simp [comF, sumT]
    | cons v vs => have := ih vs; have := com_carets u v; rw [comF, sumT_cons, sumT_cons]; omega
theorem joinF_sum (us : List Tr) : ∀ vs : List Tr, sumT (joinF us vs) ≤ sumT us + sumT vs := by
  induction us with
  | nil => intro vs; simp [joinF, sumT]
  | cons u us ih =>
    intro vs
    cases vs with
    | nil => simp [joinF, sumT]
    | cons v vs => have := ih vs; have := join_carets u v; rw [joinF, sumT_cons, sumT_cons, sumT_cons]; omega
theorem join_lf_iff (u v : Tr) : (u.join v).isLf = (u.isLf && v.isLf) := by cases u <;> cases v <;> rfl
theorem joinF_last (us : List Tr) : ∀ vs : List Tr, lastB us = true → lastB vs = true → lastB (joinF us vs) = true := by
  induction us with
  | nil => intro vs _ h; exact h
  | cons u us ih =>
    intro vs h k
    cases vs with
    | nil => exact h
    | cons v vs =>
      rw [joinF]
      by_cases hu : us = []
      · subst hu
        rw [joinF]
        by_cases hv : vs = []
        · subst hv
          rw [lastB_one] at h k ⊢
          rw [join_lf_iff]
          cases h1 : u.isLf with
          | true => rw [h1] at h; cases h
          | false => rfl
        · rw [lastB_cons _ hv] at k ⊢; exact k
      · rw [lastB_cons _ hu] at h
        by_cases hv : vs = []
        · subst hv
          have e : joinF us [] = us := by cases us <;> rfl
          rw [e, lastB_cons _ hu]; exact h
        · rw [lastB_cons _ hv] at k
          have hne : joinF us vs ≠ [] := by
            intro e
            have := joinF_length us vs
            rw [e] at this
            have h2 : 0 < us.length := List.length_pos_iff.2 hu
            simp at this
            omega
          rw [lastB_cons _ hne]
          exact ih vs h k
end Go.Proofs.YtplmbdljhgicfaaDoor

/-! FfQ -/
namespace Go.Proofs.YtplmbdljhgicfaaDoor

/-- The right comb. -/
def combR : Nat → Tr
  | 0 => .lf
  | n + 1 => .nd .lf (combR n)
theorem combR_carets (n : Nat) : (combR n).carets = n := by induction n with | zero => rfl | succ n ih => simp [combR, Tr.carets, ih]
theorem combR_exps (n : Nat) : ∀ m x : Int, x ∈ (combR n).exps m → x + 2 = m + (combR n).leaves := by
  induction n with
  | zero => intro m x h; simp [combR, Tr.exps] at h
  | succ n ih =>
    intro m x h
    rw [combR, Tr.exps] at h
    rw [combR, leaves_nd]
    simp only [List.mem_append] at h
    have hl : (Tr.lf).leaves = 1 := rfl
    rcases h with h | h | h
    · cases n with
      | zero => simp [combR, Tr.isLf] at h; subst h; simp [combR, Tr.leaves, Tr.carets]
      | succ n => simp [combR, Tr.isLf] at h
    · simp [Tr.exps] at h
    · have := ih _ _ h
      rw [hl] at this ⊢
      push_cast at this ⊢
      omega
theorem combT_exps (us : List Tr) : lastB us = true → ∀ m x : Int, x ∈ (combT us).exps m → x + 2 < m + (combT us).leaves := by
  induction us with
  | nil => intro _ m x h; simp [combT, Tr.exps] at h
  | cons u us ih =>
    intro h m x hx
    rw [combT, Tr.exps] at hx
    rw [combT, leaves_nd]
    simp only [List.mem_append] at hx
    by_cases hu : us = []
    · subst hu
      rw [lastB_one] at h
      have hlf : u.isLf = false := by simpa using h
      have hl : (combT []).leaves = 1 := rfl
      rcases hx with hx | hx | hx
      · simp [hlf] at hx
      · have := exps_range u _ _ hx; rw [hl]; omega
      · simp [combT, Tr.exps] at hx
    · rw [lastB_cons u hu] at h
      have h2 : 2 ≤ (combT us).leaves := by
        cases us with
        | nil => exact absurd rfl hu
        | cons v vs => rw [combT, leaves_nd]; have := leaves_pos v; have := leaves_pos (combT vs); omega
      have hnl : (combT us).isLf = false := by
        cases us with
        | nil => exact absurd rfl hu
        | cons v vs => rfl
      rcases hx with hx | hx | hx
      · simp [hnl] at hx
      · have := exps_range u _ _ hx; omega
      · have := ih h _ _ hx
        push_cast
        omega
/-- The pair of a forest. -/
def pairF (us : List Tr) : Pr := (combT us, combR (combT us).carets)
theorem pairF_ok (us : List Tr) : okP (pairF us) := by unfold okP pairF; rw [combR_carets]
theorem pairF_both (us : List Tr) (h : lastB us = true) : both (pairF us) = [] := by
  rw [List.eq_nil_iff_forall_not_mem]
  intro x hx
  obtain ⟨h1, h2⟩ := mem_both.1 hx
  have h3 := combT_exps us h _ _ h1
  have h4 := combR_exps _ _ _ h2
  unfold pairF at h2 h3
  have h5 : (combR (combT us).carets).leaves = (combT us).leaves := by unfold Tr.leaves; rw [combR_carets]
  omega
theorem pairF_red (us : List Tr) (h : lastB us = true) : red (pairF us) = pairF us := (red_self _).2 (pairF_both us h)
theorem combT_carets (us : List Tr) : (combT us).carets = sumT us + us.length := by
  induction us with
  | nil => rfl
  | cons u us ih => rw [combT, Tr.carets, ih, sumT_cons, List.length_cons]; omega

/-- The leaves of a forest's trees. -/
def leavesL (us : List Tr) : Nat := sumT us + us.length
theorem fillR_rest (t : Tr) : ∀ us : List Tr, (t.fillR us).2 = us.drop t.leaves := by
  induction t with
  | lf => intro us; cases us <;> rfl
  | nd l r ihl ihr => intro us; rw [Tr.fillR, leaves_nd]; show (r.fillR (l.fillR us).2).2 = _; rw [ihr, ihl, List.drop_drop]
theorem fillR_app (t : Tr) : ∀ (A B : List Tr), t.leaves ≤ A.length → (t.fillR (A ++ B)).1 = (t.fillR A).1 := by
  induction t with
  | lf => intro A B h; cases A with | nil => simp [Tr.leaves] at h | cons a A => rfl
  | nd l r ihl ihr =>
    intro A B h
    rw [leaves_nd] at h
    rw [Tr.fillR, Tr.fillR]
    show Tr.nd _ _ = Tr.nd _ _
    rw [ihl A B (by omega), fillR_rest, fillR_rest, List.drop_append_of_le_length (by omega), ihr _ B (by rw [List.length_drop]; omega)]
theorem fillR_lfs (t : Tr) : ∀ m : Nat, (t.fillR (List.replicate m .lf)).1 = t := by
  induction t with
  | lf => intro m; cases m <;> rfl
  | nd l r ihl ihr =>
    intro m
    rw [Tr.fillR]
    show Tr.nd _ _ = _
    rw [ihl, fillR_rest, List.drop_replicate, ihr]
theorem fillR_pad (t : Tr) : ∀ (us : List Tr) (m : Nat), (t.fillR (us ++ List.replicate m .lf)).1 = (t.fillR us).1 := by
  induction t with
  | lf => intro us m; cases us with | nil => cases m <;> rfl | cons u us => rfl
  | nd l r ihl ihr =>
    intro us m
    rw [Tr.fillR, Tr.fillR]
    show Tr.nd _ _ = Tr.nd _ _
    rw [ihl, fillR_rest, fillR_rest, List.drop_append, List.drop_replicate, ihr]
/-- The trees of a list with others in place of their leaves, in order. -/
def fillLs : List Tr → List Tr → List Tr
  | [], _ => []
  | u :: us, vs => (u.fillR vs).1 :: fillLs us (vs.drop u.leaves)
theorem fillLs_length (us : List Tr) : ∀ vs : List Tr, (fillLs us vs).length = us.length := by
  induction us with
  | nil => intro vs; rfl
  | cons u us ih => intro vs; simp [fillLs, ih]
theorem leavesL_cons (u : Tr) (us : List Tr) : leavesL (u :: us) = u.leaves + leavesL us := by
  unfold leavesL Tr.leaves; rw [sumT_cons, List.length_cons]; omega
theorem fillLs_app (us : List Tr) : ∀ (A B : List Tr), leavesL us ≤ A.length → fillLs us (A ++ B) = fillLs us A := by
  induction us with
  | nil => intro A B _; rfl
  | cons u us ih =>
    intro A B h
    rw [leavesL_cons] at h
    rw [fillLs, fillLs, fillR_app u A B (by omega), List.drop_append_of_le_length (by omega), ih _ B (by rw [List.length_drop]; omega)]
theorem fillLs_pad (us : List Tr) : ∀ (vs : List Tr) (m : Nat), fillLs us (vs ++ List.replicate m .lf) = fillLs us vs := by
  induction us with
  | nil => intro vs m; rfl
  | cons u us ih => intro vs m; rw [fillLs, fillLs, fillR_pad, List.drop_append, List.drop_replicate, ih]
theorem fillLs_take (us vs : List Tr) : fillLs us (vs.take (leavesL us)) = fillLs us vs := by
  by_cases h : leavesL us ≤ vs.length
  · have h1 := fillLs_app us (vs.take (leavesL us)) (vs.drop (leavesL us)) (by rw [List.length_take]; omega)
    rw [List.take_append_drop] at h1
    exact h1.symm
  · rw [List.take_of_length_le (by omega)]
/-- f with g stacked. -/
def stackF (us vs : List Tr) : List Tr := stripT (fillLs us vs ++ vs.drop (leavesL us))
/-- The tree with trees at the left sides of its right side, and another one at the end. -/
def combE (us : List Tr) (e : Tr) : Tr := us.foldr Tr.nd e
theorem combE_lf (us : List Tr) : combE us .lf = combT us := by
  induction us with
  | nil => rfl
  | cons u us ih => show Tr.nd u (combE us .lf) = _; rw [ih]; rfl
theorem sides_combE (us : List Tr) (e : Tr) : sidesT (combE us e) = us ++ sidesT e := by
  induction us with
  | nil => rfl
  | cons u us ih => show u :: sidesT (combE us e) = _; rw [ih]; rfl
theorem fillR_comb (us : List Tr) : ∀ vs : List Tr, ((combT us).fillR vs).1 = combE (fillLs us vs) ((vs.drop (leavesL us)).headD .lf) := by
  induction us with
  | nil => intro vs; cases vs <;> rfl
  | cons u us ih =>
    intro vs
    rw [combT, Tr.fillR, leavesL_cons]
    show Tr.nd _ _ = Tr.nd (u.fillR vs).1 _
    rw [ih, fillR_rest, List.drop_drop]
    rfl
/-- What hangs in the tree of f with the trees of g in place of its leaves. -/
theorem stack_hang (us vs : List Tr) (c : Nat) (hc : c = min (leavesL us) vs.length) :
    hangT ((combT us).fill (vs.take c ++ (List.replicate (leavesL us - c) .lf ++ [combT (vs.drop c)]))) = stackF us vs := by
  have hlen : (vs.take c ++ List.replicate (leavesL us - c) Tr.lf).length = leavesL us := by simp; omega
  unfold hangT stackF Tr.fill
  rw [← List.append_assoc, fillR_comb, fillLs_app us _ _ (by omega), fillLs_pad, List.drop_append_of_le_length (by omega), List.drop_of_length_le (by omega)]
  show stripT (sidesT (combE _ (combT (vs.drop c)))) = _
  rw [sides_combE, sides_comb]
  by_cases h : leavesL us ≤ vs.length
  · obtain rfl : c = leavesL us := by omega
    rw [fillLs_take]
  · obtain rfl : c = vs.length := by omega
    rw [List.take_of_length_le (by omega), List.drop_of_length_le (by omega), List.drop_of_length_le (by omega)]

/-- What the trees of h have at the leaves of those of f. -/
def quoF : List Tr → List Tr → List Tr
  | [], vs => vs
  | u :: us, [] => u.subs .lf ++ quoF us []
  | u :: us, v :: vs => u.subs v ++ quoF us vs
theorem subs_comb (us : List Tr) : ∀ vs : List Tr, lastB us = true → partF us vs = true → ∃ A E, (combT us).subs (combT vs) = A ++ [E] ∧ A ++ sidesT E = quoF us vs := by
  induction us with
  | nil => intro vs _ _; exact ⟨[], combT vs, by cases vs <;> rfl, by rw [sides_comb]; rfl⟩
  | cons u us ih =>
    intro vs h k
    cases vs with
    | nil => rw [partF_nil _ h (by simp)] at k; cases k
    | cons v vs =>
      rw [partF, Bool.and_eq_true] at k
      have hl : lastB us = true := by
        by_cases hu : us = []
        · subst hu; rfl
        · rwa [lastB_cons u hu] at h
      obtain ⟨A, E, h1, h2⟩ := ih vs hl k.2
      refine ⟨u.subs v ++ A, E, ?_, ?_⟩
      · show u.subs v ++ (combT us).subs (combT vs) = _
        rw [h1, List.append_assoc]
      · rw [List.append_assoc, h2]; rfl
end Go.Proofs.YtplmbdljhgicfaaDoor

/-! WdP -/
namespace Go.Proofs.YtplmbdljhgicfaaDoor

/-- A letter with a number less than m. -/
def okL (m : Int) (x : Int) : Bool := !(x == 0) && (decide (-m ≤ x) && decide (x ≤ m))
theorem okL_iff {m x : Int} : okL m x = true ↔ x ≠ 0 ∧ -m ≤ x ∧ x ≤ m := by simp [okL]
theorem okL_false {m x : Int} : okL m x = false ↔ x = 0 ∨ x < -m ∨ m < x := by
  rw [Bool.eq_false_iff, Ne, okL_iff]; omega
def isW (m : Int) (w : List Int) : Bool := w.all (okL m)
/-- Is it a word? -/
def goodW (w : List Int) : Bool := decide (w.length ≤ 20) && isW 21 w
theorem goodW_iff {w : List Int} : goodW w = true ↔ w.length ≤ 20 ∧ ∀ x ∈ w, x ≠ 0 ∧ -21 ≤ x ∧ x ≤ 21 := by
  simp only [goodW, isW, Bool.and_eq_true, decide_eq_true_eq, List.all_eq_true, okL_iff]
theorem isW_drop {m : Int} {w : List Int} {k : Nat} (h : k < w.length) : isW m (w.drop k) = (okL m (w.getD k 0) && isW m (w.drop (k + 1))) := by
  unfold isW; rw [List.drop_eq_getElem_cons h, List.all_cons]; simp [h]
theorem isW_end (m : Int) (w : List Int) : isW m (w.drop w.length) = true := by simp [isW]

/-- The word of all inverses, backwards. -/
def invW (w : List Int) : List Int := (w.map fun x => -x).reverse
theorem invW_length (w : List Int) : (invW w).length = w.length := by simp [invW]

/-- One letter more behind a word without letters and inverses next to each other. -/
def free1 (out : List Int) (x : Int) : List Int := if out.getLast? = some (-x) then out.dropLast else out ++ [x]
def freeW (w : List Int) : List Int := w.foldl free1 []
theorem free1_length (out : List Int) (x : Int) : (free1 out x).length ≤ out.length + 1 := by
  unfold free1; split <;> simp; omega
theorem freeW_take {w : List Int} {k : Nat} (h : k < w.length) : freeW (w.take (k + 1)) = free1 (freeW (w.take k)) (w.getD k 0) := by
  unfold freeW
  rw [List.take_succ_eq_append_getElem h, List.foldl_append]
  simp [h]
theorem freeW_length (w : List Int) : (freeW w).length ≤ w.length := by
  have : ∀ (l a : List Int), (l.foldl free1 a).length ≤ a.length + l.length := by
    intro l
    induction l with
    | nil => intro a; simp
    | cons x l ih => intro a; have := ih (free1 a x); have := free1_length a x; simp only [List.foldl_cons, List.length_cons]; omega
  have := this w []
  simpa [freeW] using this
theorem free1_last {out : List Int} {x : Int} (h : 0 < out.length) : free1 out x = if out.getD (out.length - 1) 0 = -x then out.take (out.length - 1) else out ++ [x] := by
  unfold free1
  rw [List.getLast?_eq_getElem?, List.getElem?_eq_getElem (by omega)]
  have : out.getD (out.length - 1) 0 = out[out.length - 1]'(by omega) := by simp [List.getD_eq_getElem?_getD, List.getElem?_eq_getElem (show out.length - 1 < out.length by omega)]
  rw [this, List.dropLast_eq_take]
  simp

/-- What two letters next to each other become. -/
def ruleO (x y : Int) : Option (List Int) :=
  if x = -y then some []
  else if 0 < x ∧ 0 < y ∧ y < x then some [y, x + 1]
  else if x < 0 ∧ y < 0 ∧ -x < -y then some [y - 1, x]
  else if x < 0 ∧ 0 < y ∧ -x < y then some [y + 1, x]
  else if x < 0 ∧ 0 < y ∧ y < -x then some [y, x - 1]
  else none
/-- A word behind the first rule. -/
def stepO : List Int → Option (List Int)
  | x :: y :: r => match ruleO x y with
    | some b => some (b ++ r)
    | none => (stepO (y :: r)).map (x :: ·)
  | _ => none

/-- Letters with numbers that are greater by so much. -/
def up (k : Int) (x : Int) : Int := if x < 0 then x - k else x + k
def upW (k : Int) (w : List Int) : List Int := w.map (up k)

/-- A word, if it is one. -/
def ifW (w : List Int) : Option (List Int) := if goodW w = true then some w else none

/-- The sums of a word: of x(0), of all others. -/
def sgn (x : Int) : Int := if x < 0 then -1 else 1
def num (x : Int) : Int := (if x < 0 then -x else x) - 1
def sumZ (w : List Int) : Int := (w.map fun x => if num x = 0 then sgn x else 0).sum
def sumO (w : List Int) : Int := (w.map fun x => if num x = 0 then 0 else sgn x).sum

end Go.Proofs.YtplmbdljhgicfaaDoor

/-! WdR -/
namespace Go.Proofs.YtplmbdljhgicfaaDoor

/-- x(k) as often as the exponent of the leaf k tells, k leaves being in front. -/
def lettersE : List Nat → Nat → List Int
  | [], _ => []
  | a :: L, k => List.replicate a ((k : Int) + 1) ++ lettersE L (k + 1)
theorem lettersE_length : ∀ (L : List Nat) (k : Nat), (lettersE L k).length = L.sum := by
  intro L
  induction L with
  | nil => intro k; rfl
  | cons a L ih => intro k; simp [lettersE, ih]
theorem lettersE_mem : ∀ (L : List Nat) (k : Nat), ∀ x ∈ lettersE L k, (k : Int) + 1 ≤ x ∧ x ≤ (k : Int) + L.length := by
  intro L
  induction L with
  | nil => intro k x h; simp [lettersE] at h
  | cons a L ih =>
    intro k x h
    rw [lettersE, List.mem_append] at h
    rcases h with h | h
    · have := (List.mem_replicate.1 h).2; simp; omega
    · have := ih (k + 1) x h; simp; omega
theorem lettersE_snoc : ∀ (L : List Nat) (a k : Nat), lettersE (L ++ [a]) k = lettersE L k ++ List.replicate a (((k + L.length : Nat) : Int) + 1) := by
  intro L
  induction L with
  | nil => intro a k; simp [lettersE]
  | cons b L ih =>
    intro a k
    rw [List.cons_append, lettersE, ih, lettersE, List.append_assoc]
    congr 4
    simp; omega
/-- The letters of a tree. -/
def Tr.letters (t : Tr) : List Int := lettersE t.expR 0
theorem letters_length (t : Tr) : t.letters.length ≤ t.carets := by unfold Tr.letters; rw [lettersE_length]; exact expR_sum t
theorem letters_mem (t : Tr) : ∀ x ∈ t.letters, 1 ≤ x ∧ x ≤ (t.carets : Int) + 1 := by
  intro x h
  have := lettersE_mem _ _ x h
  rw [expR_length] at this
  simp at this; omega
/-- The normal word of a reduced pair of trees. -/
def wordT (a b : Tr) : List Int := a.letters ++ invW b.letters
theorem wordT_good {a b : Tr} (h : a.carets ≤ 8) (k : b.carets ≤ 8) : goodW (wordT a b) = true := by
  rw [goodW_iff]
  have h1 := letters_length a
  have h2 := letters_length b
  refine ⟨by unfold wordT; rw [List.length_append, invW_length]; omega, fun x hx => ?_⟩
  rcases List.mem_append.1 hx with hx | hx
  · have := letters_mem a x hx; omega
  · unfold invW at hx
    rw [List.mem_reverse, List.mem_map] at hx
    obtain ⟨y, hy, rfl⟩ := hx
    have := letters_mem b y hy; omega

/-- The letters of x(0), x(1) that stand for one. -/
def twoL (x : Int) : List Int :=
  if num x = 0 then [x] else List.replicate (num x - 1).toNat (-1) ++ ((if 0 < x then 2 else -2) :: List.replicate (num x - 1).toNat 1)
def twoW (w : List Int) : List Int := w.flatMap twoL
def twoO (w : List Int) : Option (List Int) := if goodW w = true then if (twoW w).length ≤ 300 then some (freeW (twoW w)) else none else none
theorem twoL_length {x : Int} (_h : x ≠ 0) (h1 : -21 ≤ x) (h2 : x ≤ 21) : (twoL x).length ≤ 39 := by
  unfold twoL
  split
  · simp
  · simp only [List.length_append, List.length_replicate, List.length_cons]
    unfold num at *
    split <;> omega
theorem twoW_length {w : List Int} (h : goodW w = true) : (twoW w).length ≤ 39 * w.length := by
  have hm := (goodW_iff.1 h).2
  clear h
  induction w with
  | nil => simp [twoW]
  | cons x w ih =>
    have h1 := hm x (by simp)
    have h2 := twoL_length h1.1 h1.2.1 h1.2.2
    have h3 := ih (fun y hy => hm y (by simp [hy]))
    have h4 : twoW (x :: w) = twoL x ++ twoW w := rfl
    rw [h4, List.length_append, List.length_cons]; omega

end Go.Proofs.YtplmbdljhgicfaaDoor

/-! FfW -/
namespace Go.Proofs.YtplmbdljhgicfaaDoor

/-- The exponents of a forest's leaves. -/
def exG : List Tr → List Nat
  | [] => []
  | u :: us => u.expN 0 ++ exG us
theorem exG_app (us vs : List Tr) : exG (us ++ vs) = exG us ++ exG vs := by
  induction us with
  | nil => rfl
  | cons u us ih => rw [List.cons_append, exG, ih, exG, List.append_assoc]
theorem exG_length (us : List Tr) : (exG us).length = sumT us + us.length := by
  induction us with
  | nil => rfl
  | cons u us ih =>
    rw [exG, List.length_append, ih, expN_length]
    show _ = (u.carets + sumT us) + (us.length + 1)
    omega
theorem exG_sum (us : List Tr) : (exG us).sum = sumT us := by
  induction us with
  | nil => rfl
  | cons u us ih =>
    rw [exG, List.sum_append, ih, expN_sum]
    show _ = u.carets + sumT us
    omega
theorem combT_expR (us : List Tr) : (combT us).expR = exG us ++ [0] := by
  induction us with
  | nil => rfl
  | cons u us ih => rw [combT, Tr.expR, ih, exG, List.append_assoc]
/-- The letters of a forest's word. -/
def worL (us : List Tr) : List Int := lettersE (exG us) 0
theorem worL_comb (us : List Tr) : lettersE (combT us).expR 0 = worL us := by
  rw [combT_expR, lettersE_snoc]; simp [worL]
theorem worL_length (us : List Tr) : (worL us).length = sumT us := by unfold worL; rw [lettersE_length, exG_sum]
theorem worL_good {us : List Tr} (h : sumT us ≤ 8) (hl : us.length ≤ 8) : goodW (worL us) = true := by
  rw [goodW_iff]
  refine ⟨by rw [worL_length]; omega, fun x hx => ?_⟩
  have := lettersE_mem _ _ x hx
  rw [exG_length] at this
  omega
theorem exG_take {us : List Tr} {k : Nat} (h : k < us.length) : exG (us.take (k + 1)) = exG (us.take k) ++ (us.getD k .lf).expN 0 := by
  rw [List.take_succ_eq_append_getElem h, exG_app]
  simp [exG, h]
theorem sum_takeG (L : List Nat) (k : Nat) : (L.take k).sum ≤ L.sum := by
  have h := congrArg List.sum (List.take_append_drop k L)
  rw [List.sum_append] at h
  omega
theorem exG_bd {us : List Tr} (h : sumT us ≤ 8) (hl : us.length ≤ 8) (k : Nat) : (exG (us.take k)).length ≤ 16 ∧ (exG (us.take k)).sum ≤ 8 := by
  have h1 := congrArg exG (List.take_append_drop k us)
  rw [exG_app] at h1
  have h2 := congrArg List.length h1
  have h3 := congrArg List.sum h1
  rw [List.length_append, exG_length us] at h2
  rw [List.sum_append, exG_sum us] at h3
  omega
theorem lettersE_step (L : List Nat) (x p : Nat) (hp : p = L.length) : lettersE (L ++ [x]) 0 = lettersE L 0 ++ List.replicate x ((p : Int) + 1) := by
  rw [lettersE_snoc, hp, Nat.zero_add]
theorem take_nextG (L : List Nat) {k : Nat} (h : k < L.length) : L.take (k + 1) = L.take k ++ [L.getD k 0] := by
  rw [List.take_succ_eq_append_getElem h]; simp [h]
end Go.Proofs.YtplmbdljhgicfaaDoor

/-! BackS -/
namespace Go.Proofs.YtplmbdljhgicfaaDoor
open Go.RowKit Go.Shelf

attribute [local go_sem] Oper.semAt_some

/-- An index with the short text that stands there. -/
abbrev IxS := { p : Nat × ByteArray // p.2.size ≤ 1000 }
theorem getD_short {L : List ByteArray} (h : ∀ x ∈ L, x.size ≤ 1000) (k : Nat) : (L[k]?.getD ⟨#[]⟩).size ≤ 1000 := by
  by_cases hk : k < L.length
  · rw [List.getElem?_eq_getElem hk]; exact h _ (List.getElem_mem _)
  · rw [List.getElem?_eq_none (by omega)]; exact Nat.zero_le _
/-- What comes in the round number k. -/
def bkAtS (L : List ByteArray) (h : ∀ x ∈ L, x.size ≤ 1000) (k : Nat) : IxS := ⟨(L.length - 1 - k, L[L.length - 1 - k]?.getD ⟨#[]⟩), getD_short h _⟩
def bkToS (L : List ByteArray) (h : ∀ x ∈ L, x.size ≤ 1000) (k : Nat) : List IxS := (List.range k).map (bkAtS L h)
theorem bkToS_succ (L : List ByteArray) (h : ∀ x ∈ L, x.size ≤ 1000) (k : Nat) : bkToS L h (k + 1) = bkToS L h k ++ [bkAtS L h k] := by simp [bkToS, List.range_succ]
theorem bkToS_length (L : List ByteArray) (h : ∀ x ∈ L, x.size ≤ 1000) (k : Nat) : (bkToS L h k).length = k := by simp [bkToS]

/-- What the body of the loop must keep: what lay below n₀, and the slice's own box. -/
def KpS (n₀ Bs : Nat) (W W' : World) : Prop := Below n₀ W W' ∧ ∀ v, Boxed W Bs 22 v → Boxed W' Bs 22 v
theorem KpS.refl (n₀ Bs : Nat) (W : World) : KpS n₀ Bs W W := ⟨Below.refl _ _, fun _ h => h⟩
theorem KpS.trans {n₀ Bs : Nat} {A B C : World} (h : KpS n₀ Bs A B) (k : KpS n₀ Bs B C) : KpS n₀ Bs A C := ⟨h.1.trans k.1, fun v hv => k.2 v (h.2 v hv)⟩
theorem KpS.put {n₀ Bs : Nat} {w : World} (hn : n₀ ≤ w.heap.size) (W : World) (l : Nat) (o o' : Obj) (hl : w.heap.size ≤ l) (h : W.heap[l]? = some o) (hc : o.isCells = false) (hw : o.isWalk = false) : KpS n₀ Bs W (W.putObj l o') :=
  ⟨belowK_b hn W l o o' hl h hc hw, fun v hv => hv.kept (grownBy_putObj' W l o') (fun e => by
    cases e
    rw [show W.heap[Bs]? = _ from hv] at h
    cases h; cases hc)⟩

set_option maxRecDepth 100000 in
set_option maxHeartbeats 2000000 in
/-- The closure of slices.Backward, at a slice with cells. -/
theorem back1S_in (F : Fence) (n : Nat) (hf : F.fn 63) (hro : F.round = none) (hn : 1 ≤ n) (l Bs n₀ b cap : Nat) (L : List ByteArray) (hz : ∀ x ∈ L, x.size ≤ 1000) (hL : L.length ≤ 1000) (hb : b < n₀) (J Jx : List IxS → World → Prop)
    (hY : ∀ pre x W, J pre W → pre.length < L.length → YieldAt F (n - 1) Tryd.prog l #[.int .i64 (x.1.1 : Int), .string x.1.2] W fun e W' =>
      (e = .returned (.bool true) ∧ J (pre ++ [x]) W' ∧ KpS n₀ Bs W W') ∨ (e = .returned (.bool false) ∧ Jx (pre ++ [x]) W'))
    (W : World) (hBs : Boxed W Bs 22 (.slice (some ⟨b, 0, none⟩) L.length cap)) (hc : ∀ j, j < L.length → W.cell? ⟨b, j, none⟩ = some (.string (L[j]?.getD ⟨#[]⟩))) (h0 : J [] W) :
    CallsIn F n Tryd.prog 63 #[.func (.yield l) #[] #[], .pointer (some ⟨Bs, 0, none⟩)] W fun e W' => (∃ v, e = .returned v) ∧
      ((∃ ys, ys = bkToS L hz L.length ∧ J ys W') ∨ (∃ pre, (∃ k, k ≤ L.length ∧ pre = bkToS L hz k) ∧ Jx pre W')) := by
  refine callsIn_of_wp Tryd.func63 rfl hf ?_ hro
  simp only [Tryd.ntmps63, List.size_toArray, List.length_cons, List.length_nil, Nat.reduceAdd, Nat.reduceSub, Array.replicate_succ, Array.replicate_zero, List.push_toArray, List.append_toArray, List.nil_append, List.cons_append]
  have hB0 := hBs.cell
  gi_wp2
  gi_loopw [3] (fun i wr => ∃ m : Nat, m ≤ L.length ∧ i = .int .i64 ((m : Int) - 1) ∧ J (bkToS L hz (L.length - m)) wr ∧ KpS n₀ Bs W wr)
    (fun i _ => (intOf i + 1).toNat)
  case atStart => exact ⟨L.length, Nat.le_refl _, rfl, by rw [Nat.sub_self]; exact h0, KpS.refl _ _ _⟩
  case round =>
    obtain ⟨m, hm, rfl, hJs, hnx⟩ := hrel
    have hBx := (hnx.2 _ hBs).cell
    cases m with
    | zero =>
      have e0 : ((0 : Nat) : Int) - 1 = -1 := by omega
      rw [e0]
      gi_wp2
      go_end0
      exact ⟨⟨_, rfl⟩, .inl ⟨_, rfl, hJs⟩⟩
    | succ m =>
      have e1 : ((m + 1 : Nat) : Int) - 1 = (m : Int) := by omega
      rw [e1]
      have hcx : wr.cell? ⟨b, m, none⟩ = some (.string (L[m]?.getD ⟨#[]⟩)) := (hnx.1.cell (p := ⟨b, m, none⟩) hb).trans (hc m (by omega))
      obtain ⟨fn, tmps, assign, body, hy, hR⟩ := hY _ (bkAtS L hz (L.length - (m + 1))) wr hJs (by rw [bkToS_length]; omega)
      have e2 : L.length - 1 - (L.length - (m + 1)) = m := by omega
      simp only [bkAtS, e2] at hy
      gi_wp2
      refine hR.mono ?_
      rintro e W3 (⟨rfl, hJ3, hk3⟩ | ⟨rfl, hJx3⟩)
      · gi_wp2
        go_roundw
        case rel => exact ⟨m, by omega, by go_num, by rw [show L.length - m = (L.length - (m + 1)) + 1 by omega, bkToS_succ]; exact hJ3, hnx.trans hk3⟩
        case measure => simp [intOf]
      · gi_wp2
        refine bodyPost_ret (results_none rfl _ _ _) rfl ?_
        exact ⟨⟨_, rfl⟩, .inr ⟨_, ⟨L.length - (m + 1) + 1, by omega, (bkToS_succ _ _ _).symm⟩, hJx3⟩⟩

set_option maxRecDepth 100000 in
set_option maxHeartbeats 2000000 in
/-- .. at a slice of none: no round. -/
theorem back1S_nil_in (F : Fence) (n : Nat) (hf : F.fn 63) (hro : F.round = none) (l Bs cap : Nat) (oa : Option Addr) (J : List IxS → World → Prop) (W : World) (hBs : W.cell? ⟨Bs, 0, none⟩ = some (.slice oa 0 cap)) (h0 : J [] W) :
    CallsIn F n Tryd.prog 63 #[.func (.yield l) #[] #[], .pointer (some ⟨Bs, 0, none⟩)] W fun e W' => (∃ v, e = .returned v) ∧ J [] W' := by
  refine callsIn_of_wp Tryd.func63 rfl hf ?_ hro
  simp only [Tryd.ntmps63, List.size_toArray, List.length_cons, List.length_nil, Nat.reduceAdd, Nat.reduceSub, Array.replicate_succ, Array.replicate_zero, List.push_toArray, List.append_toArray, List.nil_append, List.cons_append]
  gi_wp2
  gi_loopw [3] (fun i wr => i = .int .i64 (-1) ∧ J [] wr) (fun _ _ => 0)
  case atStart => exact ⟨rfl, h0⟩
  case round =>
    obtain ⟨rfl, hJs⟩ := hrel
    gi_wp2
    go_end0
    exact ⟨⟨_, rfl⟩, hJs⟩

set_option maxHeartbeats 1000000 in
/-- slices.Backward: the slice is boxed. -/
theorem backS_in (F : Fence) (n : Nat) (hf : F.fn 52) (hro : F.round = none) (a : Option Addr) (len cap : Nat) (w : World) :
    CallsIn F n Tryd.prog 52 #[.slice a len cap] w fun e w' => e = .returned (.func (.func 63) #[] #[.pointer (some ⟨w.heap.size, 0, none⟩)]) ∧ w' = w.alloc (.cells #[.slice a len cap] 22) := by
  refine callsIn_of_wp Tryd.func52 rfl hf ?_ hro
  simp only [Tryd.ntmps52, List.size_toArray, List.length_cons, List.length_nil, Nat.reduceAdd, Nat.reduceSub, Array.replicate_succ, Array.replicate_zero, List.push_toArray, List.append_toArray, List.nil_append, List.cons_append]
  gi_wp2
  go_ret
  exact ⟨rfl, rfl⟩

/-- What comes of slices.Backward. -/
theorem backS_stops (F : Fence) (n : Nat) (hf : F.fn 63) (hro : F.round = none) (hn : 1 ≤ n) (Bs n₀ cap : Nat) (oa : Option Addr) (L : List ByteArray) (hz : ∀ x ∈ L, x.size ≤ 1000) (hL : L.length ≤ 1000) (w : World) (hn₁ : n₀ ≤ w.heap.size)
    (hc : Boxed w Bs 22 (.slice oa L.length cap)) (hI : ∀ i, i < L.length → ∃ g, oa = some ⟨g, 0, none⟩ ∧ g < n₀ ∧ w.cell? ⟨g, i, none⟩ = some (.string (L[i]?.getD ⟨#[]⟩))) :
    SeqStopsK F n Tryd.prog 63 #[.pointer (some ⟨Bs, 0, none⟩)] (fun x : IxS => #[Value.int .i64 (x.1.1 : Int), Value.string x.1.2]) (KpS n₀ Bs) (fun ys => ys = bkToS L hz L.length)
      (fun pre => ∃ k, k ≤ L.length ∧ pre = bkToS L hz k) L.length w := fun l J Jx W hW _ _ hY h0 => by
  have hc' : Boxed W Bs 22 (.slice oa L.length cap) := (hW.block Bs hc.lt).trans hc
  by_cases h : L.length = 0
  · have hc2 := hc'.cell
    rw [h] at hc2
    exact (back1S_nil_in F n hf hro l Bs cap oa J W hc2 h0).mono fun e W' ⟨he, hj⟩ => ⟨he, .inl ⟨_, by rw [h]; rfl, hj⟩⟩
  · obtain ⟨g, rfl, hg, _⟩ := hI 0 (by omega)
    refine back1S_in F n hf hro hn l Bs n₀ g cap L hz hL hg J Jx hY W hc' (fun i hi => ?_) h0
    obtain ⟨g', e, hg', c⟩ := hI i hi
    cases e
    exact (hW.cell (p := ⟨g, i, none⟩) (by show g < _; omega)).trans c

end Go.Proofs.YtplmbdljhgicfaaDoor

/-! Count -/
namespace Go.Proofs.YtplmbdljhgicfaaDoor
open Go.RowKit

set_option maxHeartbeats 1000000 in
set_option maxRecDepth 100000 in
theorem count_any (s : ByteArray) (w : World) :
    Calls Tryd.prog 54 #[.string s, .string ⟨#[40]⟩] w fun e w' => e = .returned (.int .i64 (Lib.countByte s.data.toList 40 : Nat)) ∧ w = w' := by
  go_enter Tryd.func54, Tryd.ntmps54
  go_wp2
  rw [run_callFunc_extern Tryd.func66 (by kernel_rfl) (by kernel_rfl) (by kernel_rfl) (e := Extern.BytealgCount.count) (by kernel_rfl), Lib.run_countString]
  simp only [Result.andThen]
  rw [Oper.upon_value]
  go_wp2
  go_ret
  exact ⟨rfl, rfl⟩

theorem countCarets_any (t : Tr) (w : World) (_h : t.carets ≤ 1000) :
    Calls Tryd.prog 47 #[.string t.str] w (Gives (.int .i64 t.carets) w) := by
  have e : Hid (Lib.countByte t.str.data.toList 40 = t.carets) := by rw [show Hid _ = _ from rfl, Tr.str_list, ← text_count]; rfl
  go_enter Tryd.func47, Tryd.ntmps47
  go_wp2_with fail
  refine (count_any t.str _).mono ?_; rintro _ w1 ⟨rfl, rfl⟩
  rw [e.out]
  go_wp2_with fail
  go_ret
  exact ⟨rfl, Below.refl _ _⟩
end Go.Proofs.YtplmbdljhgicfaaDoor

/-! Pair -/
namespace Go.Proofs.YtplmbdljhgicfaaDoor
open Go.RowKit

/-- A pair of texts as a value. -/
abbrev pv (a b : ByteArray) : Value := .agg #[.string a, .string b]

theorem pairOf_isSome (a b : ByteArray) (t u : Tr) (ha : treeOf a = some t) (hb : treeOf b = some u) : (pairOf a b).isSome = ((t.carets : Int) == (u.carets : Int)) := by
  unfold pairOf
  rw [ha, hb, Bool.eq_iff_iff, beq_iff_eq]
  by_cases h : t.carets = u.carets
  · simp [h]
  · simp only [h, if_false]; simp; omega

end Go.Proofs.YtplmbdljhgicfaaDoor

/-! RegT -/
namespace Go.Proofs.YtplmbdljhgicfaaDoor
open Go.RowKit

section
variable {P : Program} {ops : Array Oper} {md : Region.Mode} {C : World → Prop}

/-- Whatever order is drawn for the first n operations. -/
def headQ (P : Program) (md : Region.Mode) (ops : Array Oper) (C : World → Prop) (n : Nat) (L : Array Bool → Act → Prop) : Nat → Array Bool → Act → Prop
  | 0, listed, a => L listed a
  | f + 1, listed, a => Region.ready md ops listed ≠ [] ∧ ∀ i ∈ Region.ready md ops listed, i < n ∧ qOp P ops C i (headQ P md ops C n L f (listed.setIfInBounds i true)) a

theorem any_of_headQ {n g : Nat} {L : Array Bool → Act → Prop} {Q' : Exit → Act → World → Prop} (hL : ∀ listed a w, C w → L listed a → wpAny P md ops Q' g listed a w) :
    ∀ (f : Nat) (listed : Array Bool) (a : Act) (w : World), C w → headQ P md ops C n L f listed a → wpAny P md ops Q' (f + g) listed a w
  | 0, listed, a, w, hw, h => by rw [Nat.zero_add]; exact hL _ _ _ hw h
  | f + 1, listed, a, w, hw, h => by
    rw [Nat.add_right_comm]
    exact ⟨fun h0 => absurd h0 h.1, fun i hi => wpOp_of_qOp hw (fun a' w' hw' h' => any_of_headQ hL f _ a' w' hw' h') (h.2 i hi).2⟩

theorem headQ_first {n i : Nat} {oi : Oper} {v : Value} {L : Array Bool → Act → Prop} (hi : ops[i]? = some oi) (hsel : ∀ (j : Nat) (o : Oper) cs b, ops[j]? = some o → o.op ≠ .select cs b)
    (hs : Region.sinkB md ops n = true) (hc : Region.chainB md ops n = true) (hn : n < ops.size) (hin : i < n)
    (hdone : ∀ listed a, L listed a → ∀ j ∈ Region.ready md ops listed, n ≤ j) :
    ∀ (f : Nat) (listed : Array Bool) (a : Act), HeadInv md ops n listed →
      (∀ j oj, ops[j]? = some oj → j ≠ i → listed.getD j true = false → (∀ e ∈ oj.after, Region.binds md e = true → e.on ≠ i) → oi.apart ops oj = true) →
      i ∈ Region.ready md ops listed → YieldsIn P ops C oi v a →
      headQ P md ops C n L f (listed.setIfInBounds i true) (a.put oi.dst v) → headQ P md ops C n L (f + 1) listed a := by
  intro f
  induction f with
  | zero =>
    intro listed a inv _ hr hy H
    have hun := (mem_ready.1 hr).1
    refine ⟨(List.ne_nil_of_mem hr), fun j hj => ?_⟩
    have hjn : j < n := Nat.lt_of_not_le fun h => tail_waits hs hc hn inv _ i rfl hin hun j h hj
    refine ⟨hjn, ?_⟩
    by_cases hji : j = i
    · subst hji; exact hy.qOp hi H
    · have := hdone _ _ H j (ready_mono hj hji)
      omega
  | succ f ih =>
    intro listed a inv hfree hr hy H
    have hun := (mem_ready.1 hr).1
    refine ⟨(List.ne_nil_of_mem hr), fun j hj => ?_⟩
    have hjn : j < n := Nat.lt_of_not_le fun h => tail_waits hs hc hn inv _ i rfl hin hun j h hj
    refine ⟨hjn, ?_⟩
    by_cases hji : j = i
    · subst hji; exact hy.qOp hi H
    · have k1 := (H.2 j (ready_mono hj hji)).2
      obtain ⟨hjun, oj, hoj, hall⟩ := mem_ready.1 hj
      have hnot : ∀ e ∈ oj.after, Region.binds md e = true → e.on ≠ i := by
        intro e he hb heq
        have k2 := hall e he hb
        rw [heq, getD_both hun] at k2
        cases k2
      have k3 := qOp_put hoj (hfree j oj hoj hji hjun hnot) (fun cs b => hsel i oi cs b hi) (fun cs b => hsel j oj cs b hoj) hy k1
      refine qOp_mono (fun a' k4 => ih (listed.setIfInBounds j true) a' (inv.set hj hjn) ?_ (ready_mono hr (Ne.symm hji)) k4.1 ?_) k3
      · intro k ok hk hki hunk hno
        refine hfree k ok hk hki ?_ hno
        by_cases hjk : j = k
        · subst hjk; exact hjun
        · rw [getD_set_ne true hjk] at hunk; exact hunk
      · rw [Array.setIfInBounds_comm _ _ hji]
        exact k4.2

theorem headQ_lex {n g : Nat} {Lq : Act → Prop} (hsel : Region.noSelect ops = true) (hs : Region.sinkB md ops n = true) (hc : Region.chainB md ops n = true) (hn : n < ops.size) :
    ∀ (l : List Oper) (k : Nat) (listed : Array Bool) (a : Act), (∀ j, j < l.length → l[j]? = ops[k + j]?) → k + l.length = n → HeadInv md ops n listed →
    Region.lexHead md ops g l.length k listed = true → wpQuiet P ops C Lq l a →
    headQ P md ops C n (fun listed' a' => Region.seqB md ops g n listed' = true ∧ Lq a') l.length listed a
  | [], k, listed, a, _, hk, _, hB, h => by
    obtain rfl : k = n := by simpa using hk
    exact ⟨by simpa [Region.lexHead] using hB, h⟩
  | o :: l, k, listed, a, hl, hk, inv, hB, h => by
    have h0 : ops[k]? = some o := by simpa using (hl 0 (by simp)).symm
    simp only [List.length_cons, Region.lexHead, Bool.and_eq_true] at hB
    obtain ⟨⟨hr, hf⟩, hB'⟩ := hB
    have hkn : k < n := by simp only [List.length_cons] at hk; omega
    have hr' : k ∈ Region.ready md ops listed := by simpa using hr
    have hst : qOp P ops C k (wpQuiet P ops C Lq l) a := by unfold qOp; simp only [h0]; exact h
    obtain ⟨v, hy, hK⟩ := yieldsIn_of_qOp h0 hst
    refine headQ_first h0 (Region.noSelect_spec hsel) hs hc hn hkn (fun listed' a' hL => seqB_ready hL.1) l.length listed a inv (Region.free_spec h0 hf) hr' hy ?_
    refine headQ_lex hsel hs hc hn l (k + 1) _ _ (fun j hj => ?_) (by simp only [List.length_cons] at hk; omega) (inv.set hr' hkn) hB' hK
    have := hl (j + 1) (by simp; omega)
    simpa [Nat.add_assoc, Nat.add_comm 1 j] using this

/-- The first n operations are quiet in the class; the rest is walked in each of its worlds. -/
theorem wp_region_headQ {id : Nat} {Q : Exit → Act → World → Prop} {a : Act} {w : World} {l : List Oper} (n : Nat) (hm : P.follows .mixedOrders = true) (hB : Region.lexTailB .any l.toArray n = true) (hC : C w.drew)
    (h : wpQuiet P l.toArray C (fun a' => ∀ w', C w' → wpList P l.toArray Q (l.drop n) a' w') (l.take n) a) : (Code.region id l.toArray true).wp P Q a w := by
  simp only [Region.lexTailB, Bool.and_eq_true, decide_eq_true_eq] at hB
  obtain ⟨⟨⟨⟨hsel, hn⟩, hs⟩, hc⟩, hlex⟩ := hB
  have hn' : n < l.length := by simpa using hn
  have htl : (l.take n).length = n := by simp; omega
  have hdl : (l.drop n).length = l.toArray.size - n := by simp
  have inv0 : HeadInv .any l.toArray n (Array.replicate l.toArray.size false) := by
    refine ⟨by simp, fun j oj _ hl => ?_, fun t _ ht => getD_in (by simpa using ht) (getD_replicate_false _ _)⟩
    rw [getD_replicate_false] at hl; cases hl
  have H := headQ_lex (md := .any) (C := C) (g := l.toArray.size - n) hsel hs hc hn (l.take n) 0 _ a (fun j hj => by
    have hj' : j < n := by rw [htl] at hj; exact hj
    simp [hj']) (by simpa using htl) inv0 (by rw [htl]; exact hlex) h
  refine wp_region_any hm ?_
  have := any_of_headQ (Q' := Q) (g := l.toArray.size - n) (fun listed a' w' hw' hL => by
    have := wpAny_of_seq (md := .any) (Q' := Q) (l.drop n) n listed a' w' (fun j => by simp [List.getElem?_drop]) (by rw [hdl]; exact hL.1) (hL.2 w' hw')
    rwa [hdl] at this) _ _ _ _ hC H
  rw [htl, show n + (l.toArray.size - n) = l.toArray.size by omega] at this
  exact this
end

/-- The worlds that leave what was there. -/
def Cls (w w' : World) : Prop := Below w.heap.size w w'
theorem Cls.cell {w w' : World} (h : Cls w w') {g i : Nat} {v : Value} (hg : g < w.heap.size) (hc : w.cell? ⟨g, i, none⟩ = some v) : w'.cell? ⟨g, i, none⟩ = some v := (Below.cell h (p := ⟨g, i, none⟩) hg).trans hc
theorem Cls.call {P : Program} {f : FuncId} {args : Array Value} {w w' : World} {v : Value} (h : Cls w w') (k : Calls P f args w' (Gives v w')) : Calls P f args w' fun e w'' => e = .returned v ∧ Cls w w'' :=
  k.mono fun _ _ ⟨he, hb⟩ => ⟨he, nx h hb⟩

theorem wp_region_cls {P : Program} {id : Nat} {Q : Exit → Act → World → Prop} {a : Act} {w : World} {l : List Oper} (hm : P.follows .mixedOrders = true) (hB : Region.lexB .any l.toArray = true)
    (h : wpQuiet P l.toArray (Cls w) (fun a' => ∀ w', Cls w w' → Q .normal a' w') l a) : (Code.region id l.toArray true).wp P Q a w :=
  wp_region_quiet (C := Cls w) hm hB ((Below.refl _ _).drew) (by simpa using h)

theorem wp_region_clsT {P : Program} {id : Nat} {Q : Exit → Act → World → Prop} {a : Act} {w : World} {l : List Oper} (n : Nat) (hm : P.follows .mixedOrders = true) (hB : Region.lexTailB .any l.toArray n = true)
    (h : wpQuiet P l.toArray (Cls w) (fun a' => ∀ w', Cls w w' → wpList P l.toArray Q (l.drop n) a' w') (l.take n) a) : (Code.region id l.toArray true).wp P Q a w :=
  wp_region_headQ n hm hB ((Below.refl _ _).drew) h
end Go.Proofs.YtplmbdljhgicfaaDoor

/-! PairK -/
namespace Go.Proofs.YtplmbdljhgicfaaDoor
open Go.RowKit

theorem two_cells {w : World} {g : Nat} {u v : Value} {t : TypeId} (h : w.heap[g]? = some (.cells #[u, v] t (0, 0))) : w.cell? ⟨g, 0, none⟩ = some u ∧ w.cell? ⟨g, 1, none⟩ = some v := by
  simp [World.cell?, h]
theorem two_facts {w : World} {g : Nat} {u v : Value} {t : TypeId} (h : w.heap[g]? = some (.cells #[u, v] t (0, 0))) : w.cell? ⟨g, 0, none⟩ = some u ∧ w.cell? ⟨g, 1, none⟩ = some v ∧ g < w.heap.size :=
  ⟨(two_cells h).1, (two_cells h).2, lt_of_block h⟩
theorem keep_two {w w' : World} {g : Nat} {u v : Value} (hb : Below w.heap.size w w') (hg : g < w.heap.size) (h : w.cell? ⟨g, 0, none⟩ = some u ∧ w.cell? ⟨g, 1, none⟩ = some v) : w'.cell? ⟨g, 0, none⟩ = some u ∧ w'.cell? ⟨g, 1, none⟩ = some v :=
  ⟨(hb.cell (p := ⟨g, 0, none⟩) hg).trans h.1, (hb.cell (p := ⟨g, 1, none⟩) hg).trans h.2⟩


theorem two_frozen {w : World} {g : Nat} {u v : Value} {t : TypeId} (h : w.heap[g]? = some (.cells #[u, v] t (0, 0))) : w.frozen? ⟨g, 0, none⟩ = false ∧ w.frozen? ⟨g, 1, none⟩ = false := by
  simp [World.frozen?, h]
theorem set_first {w : World} {g : Nat} {u v u' : Value} {t : TypeId} (h : w.heap[g]? = some (.cells #[u, v] t (0, 0))) : (w.setCell ⟨g, 0, none⟩ u').heap[g]? = some (.cells #[u', v] t (0, 0)) := Joins.block_setCell h u'
theorem set_second {w : World} {g : Nat} {u v v' : Value} {t : TypeId} (h : w.heap[g]? = some (.cells #[u, v] t (0, 0))) : (w.setCell ⟨g, 1, none⟩ v').heap[g]? = some (.cells #[u, v'] t (0, 0)) := Joins.block_setCell h v'
theorem set_two {w : World} {g : Nat} {u v : Value} (u' v' : Value) {t : TypeId} (h : w.heap[g]? = some (.cells #[u, v] t (0, 0))) : ((w.setCell ⟨g, 0, none⟩ u').setCell ⟨g, 1, none⟩ v').heap[g]? = some (.cells #[u', v'] t (0, 0)) := set_second (set_first h)
theorem heap_keep {w w' : World} {g : Nat} {o : Obj} (hb : Below w.heap.size w w') (h : w.heap[g]? = some o) : w'.heap[g]? = some o := (hb.block g (lt_of_block h)).trans h


def pS1 (o : Option Pr) : ByteArray := match o with
  | some p => p.1.str
  | none => ⟨#[]⟩
def pS2 (o : Option Pr) : ByteArray := match o with
  | some p => p.2.str
  | none => ⟨#[]⟩
/-- An answer of a pair and a bool. -/
def ansPr (o : Option Pr) : Value := .tuple #[.agg #[.string (pS1 o), .string (pS2 o)], .bool o.isSome]
end Go.Proofs.YtplmbdljhgicfaaDoor

/-! IsPair -/
namespace Go.Proofs.YtplmbdljhgicfaaDoor
open Go.RowKit

theorem isTree_yes' (t : Tr) (w : World) (h : t.carets ≤ 8) : Calls Tryd.prog 35 #[.string t.str] w (Gives (.bool true) w) := (implIsTree_yes t w h).mono fun _ _ ⟨h1, h2⟩ => ⟨h2, h1⟩
theorem isTree_no' (s : ByteArray) (w : World) (hs : s.size ≤ 9223372036854775806) (h : treeOf s = none) : Calls Tryd.prog 35 #[.string s] w (Gives (.bool false) w) := (implIsTree_no s w hs h).mono fun _ _ ⟨h1, h2⟩ => ⟨h2, h1⟩

end Go.Proofs.YtplmbdljhgicfaaDoor

/-! ParseI -/
namespace Go.Proofs.YtplmbdljhgicfaaDoor
open Go.RowKit

/-- The index of the first byte c from an index on. -/
def idxB (s : ByteArray) (c : UInt8) : Int := Lib.indexByte s.data.toList c

set_option maxRecDepth 100000 in
set_option maxHeartbeats 1000000 in
theorem indexByteS_any (s : ByteArray) (c : UInt8) (w : World) :
    Calls Tryd.prog 74 #[.string s, .int .u8 c.toNat] w fun e w' => e = .returned (.int .i64 (idxB s c)) ∧ w = w' := by
  go_enter Tryd.func74, Tryd.ntmps74
  go_wp2
  rw [run_callFunc_extern Tryd.func82 (by kernel_rfl) (by kernel_rfl) (by kernel_rfl) (e := Extern.BytealgIndexByte.indexByte) (by kernel_rfl), Lib.run_indexByteString]
  simp only [Result.andThen]
  rw [Oper.upon_value]
  go_wp2
  go_ret
  refine ⟨ret_int ?_, rfl⟩
  unfold idxB
  simp

set_option maxRecDepth 100000 in
set_option maxHeartbeats 1000000 in
theorem index62_any (s : ByteArray) (w : World) :
    Calls Tryd.prog 67 #[.string s, .string ⟨#[62]⟩] w fun e w' => e = .returned (.int .i64 (idxB s 62)) ∧ w = w' := by
  have hI := fun w => indexByteS_any s 62 w
  have gz : ((⟨#[62]⟩ : ByteArray)[0]'(by decide)).toNat = 62 := rfl
  have ez : ((62 : UInt8).toNat : Int) = 62 := rfl
  rw [ez] at hI
  cases hq : ([62] == s.toList) with
  | true =>
    have h0 : idxB s 62 = 0 := by
      unfold idxB
      rw [← Lib.toList_data, ← (beq_iff_eq.1 hq)]
      rfl
    rw [h0]
    clear hI h0 ez
    go_enter Tryd.func67, Tryd.ntmps67
    go_wp2_with fail
    go_ret
    exact ⟨rfl, rfl⟩
  | false =>
    generalize idxB s 62 = z at *
    clear ez
    go_enter Tryd.func67, Tryd.ntmps67
    go_wp2_with fail
    refine (hI _).mono ?_; rintro e w1 ⟨rfl, rfl⟩
    go_wp2_with fail
    go_ret
    exact ⟨rfl, rfl⟩

theorem idx_spec (l : List UInt8) (c : UInt8) : (Lib.indexByte l c = -1 ∧ ∀ j : Nat, l[j]? ≠ some c) ∨ ∃ k : Nat, Lib.indexByte l c = k ∧ k < l.length ∧ l[k]? = some c ∧ ∀ j, j < k → l[j]? ≠ some c := by
  induction l with
  | nil => exact .inl ⟨rfl, fun j => by simp⟩
  | cons a l ih =>
    unfold Lib.indexByte
    by_cases h : (a == c) = true
    · rw [if_pos h]
      have : a = c := by simpa using h
      exact .inr ⟨0, rfl, by simp, by simp [this], fun j hj => by omega⟩
    · rw [if_neg h]
      have hne : a ≠ c := by simpa using h
      rcases ih with ⟨h1, h2⟩ | ⟨k, h1, h2, h3, h4⟩
      · left
        refine ⟨by rw [h1]; rfl, fun j => ?_⟩
        cases j with
        | zero => simpa using hne
        | succ j => simpa using h2 j
      · right
        refine ⟨k + 1, ?_, by simp; omega, by simpa using h3, fun j hj => ?_⟩
        · rw [h1]
          have : (((k : Nat) : Int) == -1) = false := by rw [beq_eq_false_iff_ne]; omega
          rw [this]
          simp
        · cases j with
          | zero => simpa using hne
          | succ j => simpa using h4 j (by omega)
theorem idxB_spec (s : ByteArray) (c : UInt8) : (idxB s c = -1 ∧ ∀ j : Nat, s.data.toList[j]? ≠ some c) ∨ ∃ k : Nat, idxB s c = k ∧ k < s.size ∧ s.data.toList[k]? = some c ∧ ∀ j, j < k → s.data.toList[j]? ≠ some c := by
  have := idx_spec s.data.toList c
  rw [← Lib.size_eq] at this
  exact this

def CutV (s : ByteArray) : Value := if 0 ≤ idxB s 62 then .tuple #[.string (s.extract 0 (idxB s 62).toNat), .string (s.extract ((idxB s 62).toNat + 1) s.size), .bool true] else .tuple #[.string s, .string ⟨#[]⟩, .bool false]

/-- The pieces of a text between the bytes 62, from an index on (fuel: what is left). -/
def pcs (s : ByteArray) : Nat → Nat → Nat → List ByteArray
  | 0, a, _ => [s.extract a s.size]
  | k + 1, a, i => if s.data.toList[i]? = some 62 then s.extract a i :: pcs s k (i + 1) (i + 1) else pcs s k a (i + 1)

theorem oneS1 (m : ByteArray) : ∀ u ∈ [Value.string m], u.oneCell' = true := by intro u hu; simp at hu; subst hu; rfl
theorem OwnS.snoc {base : Nat} {w : World} {v : Value} {xs : List ByteArray} {m : ByteArray} (h : w.ownsRow base 9 1 v (xs.length + 1) (xs.map Value.string ++ [Value.string m])) : OwnS base w v (xs ++ [m]) := by
  unfold OwnS; rw [List.length_append, List.map_append]; exact h

set_option maxRecDepth 100000 in
set_option maxHeartbeats 2000000 in
theorem split_any (s : ByteArray) (w : World) (hs : s.size ≤ 2000000) :
    Calls Tryd.prog 25 #[.string s, .int .u8 62] w fun e w' => ∃ v, OwnS w.heap.size w' v (pcs s s.size 0 0) ∧ Below w.heap.size w w' ∧ e = .returned v := by
  obtain ⟨i0, hi, hz0, hz1, hz2⟩ := info_parts info_str
  go_enter Tryd.func25, Tryd.ntmps25
  go_wp2_with fail
  go_loopw [5, 6, 7] (fun v f i wr => ∃ (a k : Nat) (xs : List ByteArray), f = .int .i64 a ∧ i = .int .i64 k ∧ a ≤ k ∧ k ≤ s.size ∧ xs.length ≤ k ∧ OwnS w.heap.size wr v xs ∧ Below w.heap.size w wr ∧ Hid (pcs s s.size 0 0 = xs ++ pcs s (s.size - k) a k)) (fun _ _ i _ => s.size - (intOf i).toNat)
  case atStart => exact ⟨0, 0, [], rfl, rfl, Nat.le_refl _, Nat.zero_le _, Nat.le_refl _, OwnS.nil _ _, Below.refl _ _, by show _ = _; rfl⟩
  case round =>
    obtain ⟨a, k, xs, rfl, rfl, hak, hk, hxl, hown, hbw, he⟩ := hrel
    by_cases hlt : k < s.size
    · have hlt' : (k : Int) < (s.size : Int) := by omega
      have hsk : s.data.toList[k]? = some (s[k]'hlt) := by
        have hl : k < s.data.toList.length := by rw [← Lib.size_eq]; exact hlt
        rw [List.getElem?_eq_getElem hl]; rfl
      have hu : (s[k]'hlt = 62) ↔ (((s[k]'hlt).toNat : Int) == 62) = true := by
        rw [beq_iff_eq]
        exact ⟨fun e => by rw [e]; rfl, fun e => u8_eq (n := 62) (by omega) e⟩
      have hf : s.size - k = (s.size - (k + 1)) + 1 := by omega
      have he0 := he.out
      rw [hf, pcs, hsk] at he0
      cases hb : (((s[k]'hlt).toNat : Int) == 62) with
      | true =>
        rw [if_pos (by rw [hu.2 hb])] at he0
        have he' : pcs s s.size 0 0 = (xs ++ [s.extract a k]) ++ pcs s (s.size - (k + 1)) (k + 1) (k + 1) := by rw [he0]; simp
        have HE := Lib.hid he'
        have hA : (a : Int) ≤ (k : Int) := by omega
        clear he0 he' hu hsk hf he
        go_wp2_with (at_builtin; refine wpList_append_own _ rfl _ _ 22 rfl w.heap.size 9 i0 (.string ⟨#[]⟩) 1 16 Tryd.underlying22 hi hz0 hz1 hz2 rfl (by decide) _ _ _ rfl (hown.alloc _) ⟨wr.heap.size, 0, none⟩ 1 1 [.string (s.extract a k)] rfl rfl (new1 _ _ _) (oneS1 _) (by unfold maxLen; omega) (by omega) (size_al hbw _) ?_; intro v' w1 hown' hgrow hnn)
        have hbw' := below_app hbw hown (Nat.le_refl _) hgrow
        have hown1 := OwnS.snoc hown'
        clear hown hown' hgrow hbw hnn
        go_wp2_with fail
        go_roundw
        case rel => exact ⟨k + 1, k + 1, xs ++ [s.extract a k], by go_num, by go_num, Nat.le_refl _, by omega, by simp; omega, hown1, hbw', HE⟩
        case measure => simp [intOf]; omega
      | false =>
        rw [if_neg (by intro e; rw [hu.1 (by injection e)] at hb; cases hb)] at he0
        have HE := Lib.hid he0
        clear he0 hu hsk hf he
        go_wp2_with fail
        go_roundw
        case rel => exact ⟨a, k + 1, xs, rfl, by go_num, by omega, by omega, by omega, hown, hbw, HE⟩
        case measure => simp [intOf]; omega
    · obtain rfl : k = s.size := by omega
      have he0 := he.out
      rw [Nat.sub_self, pcs] at he0
      have HE := Lib.hid he0
      have hA : (a : Int) ≤ (s.size : Int) := by omega
      clear he0 he
      go_wp2_with (at_builtin; refine wpList_append_own _ rfl _ _ 22 rfl w.heap.size 9 i0 (.string ⟨#[]⟩) 1 16 Tryd.underlying22 hi hz0 hz1 hz2 rfl (by decide) _ _ _ rfl (hown.alloc _) ⟨wr.heap.size, 0, none⟩ 1 1 [.string (s.extract a s.size)] rfl rfl (new1 _ _ _) (oneS1 _) (by unfold maxLen; omega) (by omega) (size_al hbw _) ?_; intro v' w1 hown' hgrow hnn)
      have hbw' := below_app hbw hown (Nat.le_refl _) hgrow
      have hown1 := OwnS.snoc hown'
      clear hown hown' hgrow hbw hnn
      go_wp2_with fail
      go_ret
      exact ⟨_, by rw [HE.out]; exact hown1, hbw', rfl⟩
end Go.Proofs.YtplmbdljhgicfaaDoor

/-! In0 -/
namespace Go.Proofs.YtplmbdljhgicfaaDoor
open Go.RowKit

theorem l1In_yes (n lo hi : Int) (w : World) (h1 : lo ≤ n) (h2 : n ≤ hi) :
    Calls Tryd.prog 56 #[.int .i64 n, .int .i64 lo, .int .i64 hi] w fun e w' => e = .returned (.bool true) ∧ w = w' := by
  go_enter Tryd.func56, Tryd.ntmps56
  go_wp2_with fail
  go_ret
  exact ⟨rfl, rfl⟩
theorem l1In_no (n lo hi : Int) (w : World) (h : n < lo ∨ hi < n) :
    Calls Tryd.prog 56 #[.int .i64 n, .int .i64 lo, .int .i64 hi] w fun e w' => e = .returned (.bool false) ∧ w = w' := by
  by_cases h1 : n < lo
  · clear h
    go_enter Tryd.func56, Tryd.ntmps56
    go_wp2_with fail
    go_ret
    exact ⟨rfl, rfl⟩
  · have h1' : lo ≤ n := by omega
    have h2 : hi < n := by omega
    clear h h1
    go_enter Tryd.func56, Tryd.ntmps56
    go_wp2_with fail
    go_ret
    exact ⟨ret_bool (by simp; omega), rfl⟩

end Go.Proofs.YtplmbdljhgicfaaDoor

/-! TeS -/
namespace Go.Proofs.YtplmbdljhgicfaaDoor
open Go.RowKit

theorem comb_all (s : List Tr) : (combT s).carets = sumT s + s.length := by
  induction s with
  | nil => rfl
  | cons t s ih => rw [combT, sumT_cons, List.length_cons]; simp only [Tr.carets]; omega
theorem sumT_drop (s : List Tr) (k : Nat) : sumT (s.drop k) ≤ sumT s := by
  have := sumT_app (s.take k) (s.drop k)
  rw [List.take_append_drop] at this; omega
def strs (s : List Tr) : List ByteArray := s.map Tr.str
theorem strs_length (s : List Tr) : (strs s).length = s.length := by simp [strs]
theorem oneStrs (ys : List ByteArray) : ∀ u ∈ ys.map Value.string, u.oneCell' = true := by
  intro u hu
  obtain ⟨x, _, rfl⟩ := List.mem_map.1 hu
  rfl

end Go.Proofs.YtplmbdljhgicfaaDoor

/-! FfR -/
namespace Go.Proofs.YtplmbdljhgicfaaDoor

theorem treesOf_length {L : List ByteArray} {us : List Tr} (h : treesOf L = some us) : us.length = L.length := by
  have := (treesOf_some L us h).1
  rw [this]; simp
theorem treesOf_snoc : ∀ (L : List ByteArray) (us : List Tr) (s : ByteArray) (t : Tr), treesOf L = some us → treeOf s = some t → treesOf (L ++ [s]) = some (us ++ [t]) := by
  intro L
  induction L with
  | nil => intro us s t h k; simp [treesOf] at h; subst h; simp [treesOf, k]
  | cons x L ih =>
    intro us s t h k
    rw [treesOf] at h
    cases hx : treeOf x with
    | none => rw [hx] at h; cases h
    | some y =>
      rw [hx] at h
      cases hL : treesOf L with
      | none => rw [hL] at h; cases h
      | some vs =>
        rw [hL] at h
        injection h with h
        subst h
        rw [List.cons_append, treesOf, hx, ih vs s t hL k]
        rfl
theorem treesOf_bad : ∀ (L : List ByteArray) (s : ByteArray), s ∈ L → treeOf s = none → treesOf L = none := by
  intro L
  induction L with
  | nil => intro s h; cases h
  | cons x L ih =>
    intro s h k
    rw [treesOf]
    rcases List.mem_cons.1 h with rfl | h
    · rw [k]
    · rw [ih s h k]
      cases treeOf x <;> rfl
theorem forOf_bad {L : List ByteArray} {s : ByteArray} (h : s ∈ L) (k : treeOf s = none) : forOf L = none := by
  unfold forOf; rw [treesOf_bad L s h k]; rfl
theorem forOf_long {L : List ByteArray} (h : 8 < L.length) : forOf L = none := by
  cases hf : forOf L with
  | none => rfl
  | some us => obtain ⟨h1, h2, _⟩ := forOf_some hf; rw [h1] at h; simp at h; omega
theorem getD_last {α : Type} (L : List α) (d : α) (h : L ≠ []) : L.getLast? = some (L.getD (L.length - 1) d) := by
  have hp : 0 < L.length := List.length_pos_iff.2 h
  rw [List.getLast?_eq_getElem?, List.getD_eq_getElem?_getD, List.getElem?_eq_getElem (by omega)]
  rfl
theorem lastB_get (us : List Tr) (h : us ≠ []) : lastB us = !(us.getD (us.length - 1) .lf).isLf := by
  unfold lastB; rw [getD_last us .lf h]
theorem str_dot (t : Tr) : (t.str.toList == [46]) = t.isLf := by
  have : t.str.toList = t.text := by rw [Lib.toList_data, Tr.str_list]
  rw [this]
  cases t with
  | lf => rfl
  | nd l r => simp [Tr.text, Tr.isLf]
theorem treeOf_dot : treeOf ⟨#[46]⟩ = some .lf := treeOf_str .lf (by simp [Tr.carets])
theorem map_getD (us : List Tr) (k : Nat) (h : k < us.length) : (us.map Tr.str).getD k ⟨#[]⟩ = (us.getD k .lf).str := by
  simp [List.getD_eq_getElem?_getD, h]
theorem forOf_dot {L : List ByteArray} (h : 0 < L.length) (k : ((L.getD (L.length - 1) ⟨#[]⟩).toList == [46]) = true) : forOf L = none := by
  cases hf : forOf L with
  | none => rfl
  | some us =>
    obtain ⟨h1, _, _, h4⟩ := forOf_some hf
    have hl : us.length = L.length := by rw [h1]; simp
    have hne : us ≠ [] := by intro e; rw [e] at hl; simp at hl; omega
    rw [lastB_get us hne] at h4
    rw [h1, List.length_map, map_getD us _ (by omega), str_dot] at k
    rw [k] at h4
    cases h4
theorem forOf_of {L : List ByteArray} {us : List Tr} (h : treesOf L = some us) (hl : L.length ≤ 8) (k : L.length = 0 ∨ ((L.getD (L.length - 1) ⟨#[]⟩).toList == [46]) = false) : (forOf L).isSome = decide (sumT us ≤ 8) := by
  have hlen := treesOf_length h
  obtain ⟨h1, _⟩ := treesOf_some L us h
  have hlast : lastB us = true := by
    rcases k with k | k
    · have : us = [] := List.length_eq_zero_iff.1 (by omega)
      rw [this]; rfl
    · by_cases hne : us = []
      · rw [hne]; rfl
      · have hp : 0 < us.length := List.length_pos_iff.2 hne
        rw [lastB_get us hne]
        rw [h1, List.length_map, map_getD us _ (by omega), str_dot] at k
        rw [k]; rfl
  unfold forOf
  rw [h]
  simp only [Option.bind_some]
  by_cases hs : sumT us ≤ 8
  · rw [if_pos (okF_iff.2 ⟨by omega, hs, hlast⟩)]; simp [hs]
  · rw [if_neg (fun e => hs (okF_iff.1 e).2.1)]; simp [hs]
theorem forOf_trees {L : List ByteArray} {us : List Tr} (h : treesOf L = some us) : forOf L = if okF us = true then some us else none := by unfold forOf; rw [h]; rfl
end Go.Proofs.YtplmbdljhgicfaaDoor

/-! Ff2 -/
namespace Go.Proofs.YtplmbdljhgicfaaDoor
open Go.RowKit Go.Shelf

attribute [local go_sem] Oper.semAt_some

/-- What stands behind the rounds so far. -/
def hangS (e : ByteArray) (pre : List IxS) : ByteArray := pre.foldl (fun acc x => (⟨#[40]⟩ : ByteArray) ++ x.1.2 ++ acc ++ ⟨#[41]⟩) e
theorem hangS_snoc (e : ByteArray) (pre : List IxS) (x : IxS) : hangS e (pre ++ [x]) = (⟨#[40]⟩ : ByteArray) ++ x.1.2 ++ hangS e pre ++ ⟨#[41]⟩ := by simp [hangS]
theorem s40 : (⟨#[40]⟩ : ByteArray).size = 1 := rfl
theorem s41 : (⟨#[41]⟩ : ByteArray).size = 1 := rfl
theorem hangS_size (e : ByteArray) : ∀ n : Nat, ∀ pre : List IxS, pre.length = n → (hangS e pre).size ≤ e.size + 1002 * n := by
  intro n
  induction n with
  | zero => intro pre h; obtain rfl := List.length_eq_zero_iff.1 h; exact Nat.le_refl _
  | succ n ih =>
    intro pre h
    rcases List.eq_nil_or_concat pre with rfl | ⟨p, x, rfl⟩
    · simp at h
    · rw [List.concat_eq_append] at h ⊢
      rw [hangS_snoc, ByteArray.size_append, ByteArray.size_append, ByteArray.size_append, s40, s41]
      have h1 := ih p (by simpa using h)
      have h2 := x.2
      omega
theorem short_strs {us : List Tr} (h : sumT us ≤ 300) : ∀ x ∈ strs us, x.size ≤ 1000 := by
  intro x hx
  obtain ⟨u, hu, rfl⟩ := List.mem_map.1 hx
  have := sumT_mem hu
  rw [u.str_size]; omega
theorem hangS_back (us : List Tr) (t : Tr) (hz : ∀ x ∈ strs us, x.size ≤ 1000) : ∀ k, k ≤ us.length → hangS t.str (bkToS (strs us) hz k) = (combE (us.drop (us.length - k)) t).str := by
  intro k
  induction k with
  | zero => intro _; rw [Nat.sub_zero, List.drop_length]; rfl
  | succ k ih =>
    intro h
    rw [bkToS_succ, hangS_snoc, ih (by omega)]
    have e1 : us.length - k = us.length - (k + 1) + 1 := by omega
    have e2 : (strs us).length - 1 - k = us.length - (k + 1) := by rw [strs_length]; omega
    have hlt : us.length - (k + 1) < us.length := by omega
    rw [List.drop_eq_getElem_cons hlt, e1]
    show _ = (Tr.nd _ (combE _ t)).str
    rw [str_nd]
    show (⟨#[40]⟩ : ByteArray) ++ (strs us)[(strs us).length - 1 - k]?.getD ⟨#[]⟩ ++ _ ++ _ = _
    rw [e2]
    simp [strs, hlt]

set_option maxRecDepth 100000 in
set_option maxHeartbeats 2000000 in
theorem hungAbove_in (F : Fence) (n : Nat) (h3 : F.fn 40) (h5 : F.fn 52) (h7 : F.fn 63) (hro : F.round = none) (hn : 3 ≤ n) (oa : Option Addr) (cap : Nat) (E : ByteArray) (hE : E.size ≤ 1000000) (L : List ByteArray) (hz : ∀ x ∈ L, x.size ≤ 1000) (hL : L.length ≤ 1000) (w : World)
    (hI : ∀ i, i < L.length → ∃ g, oa = some ⟨g, 0, none⟩ ∧ g < w.heap.size ∧ w.cell? ⟨g, i, none⟩ = some (.string (L[i]?.getD ⟨#[]⟩))) :
    CallsIn F n Tryd.prog 40 #[.string E, .slice oa L.length cap] w fun e W' => e = .returned (.string (hangS E (bkToS L hz L.length))) ∧ Below w.heap.size w W' := by
  have h1 : 1 ≤ n := by omega
  refine callsIn_of_wp_marks Tryd.func40 rfl h3 ?_ hro
  simp only [Tryd.ntmps40, List.size_toArray, List.length_cons, List.length_nil, Nat.reduceAdd, Nat.reduceSub, Array.replicate_succ, Array.replicate_zero, List.push_toArray, List.append_toArray, List.nil_append, List.cons_append]
  gi_wp2_with (gi_at_call 52; refine (backS_in F (n - 1) h5 hro _ _ _ _).mono ?_; rintro e w' ⟨rfl, rfl⟩)
  have bO := Boxed.new w 9 (.string E)
  have bN := Boxed.new (w.alloc (.cells #[.string E] 9)) 22 (.slice oa L.length cap)
  rw [World.size_alloc] at bN
  have hB0 : Below w.heap.size w ((w.alloc (.cells #[.string E] 9)).alloc (.cells #[.slice oa L.length cap] 22)) := ((Below.refl _ w).alloc (Nat.le_refl _) _).alloc (by simp) _
  refine wpIn_rangeFunc_ownG hro h1 (gf := 63) (lb := #[.pointer (some ⟨w.heap.size + 1, 0, none⟩)]) rfl h7 (enters_of Tryd.func63 (by kernel_rfl) rfl)
    (backS_stops F (n - 1) h7 hro (by omega) (w.heap.size + 1) w.heap.size cap oa L hz hL _ (by simp; omega) bN (fun i hi => by
      obtain ⟨g, e, hg, c⟩ := hI i hi
      exact ⟨g, e, hg, (hB0.cell (p := ⟨g, i, none⟩) hg).trans c⟩)) KpS.trans (KpS.put (by simp; omega)) (Below.refl _ _) (fun _ => rfl)
    (fun pre W => Boxed W w.heap.size 9 (.string (hangS E pre)) ∧ Below w.heap.size w W)
    (fun _ _ _ => False)
    (OwnFrom.and (Own.from (boxed_own w.heap.size 9 (fun pre => .string (hangS E pre))) _) (ownFrom_below (Nat.le_refl _) (by simp; omega)))
    (fun _ _ _ _ _ hs _ _ => hs)
    ⟨bO.alloc _, hB0⟩
    (fun x => { tmps := #[.string E, .slice oa L.length cap, .pointer (some ⟨w.heap.size, 0, none⟩), undef, .string ⟨#[]⟩, undef, .string x.1.2, .slice oa L.length cap, .func (.func 63) #[] #[.pointer (some ⟨w.heap.size + 1, 0, none⟩)], .int .i64 (x.1.1 : Int), .string x.1.2, undef, undef, undef, undef, undef, undef], defers := [] }) ?assign ?body ?done ?stop
  case assign =>
    intro l x W K hK
    gi_wp2
    exact hK
  case body =>
    rintro l pre x W ⟨hv, hB⟩ hlt
    have hc := hv.cell
    have hf := hv.frozen
    have hx := x.2
    have hps := hangS_size E pre.length pre rfl
    have hnx := hangS_snoc E pre x
    generalize hangS E pre = T at *
    have HNX := Lib.hid hnx
    clear hnx
    have hTs : T.size ≤ 2100000 := by omega
    have a1 : ¬ (9223372036854775807 < (⟨#[40]⟩ : ByteArray).size + x.1.2.size) := by rw [s40]; omega
    have a1' : ¬ (9223372036854775807 < 1 + x.1.2.size) := by omega
    have a2' : ¬ (9223372036854775807 < 1 + x.1.2.size + T.size) := by omega
    have a3' : ¬ (9223372036854775807 < 1 + x.1.2.size + T.size + 1) := by omega
    gi_wp2
    have hb2 : Below w.heap.size W (W.setCell ⟨w.heap.size, 0, none⟩ (.string ((⟨#[40]⟩ : ByteArray) ++ x.1.2 ++ T ++ ⟨#[41]⟩))) := (Below.refl w.heap.size W).setCell (Nat.le_refl _) _
    refine ⟨(KeepsOthers.setCell W _ _).from _, ⟨hb2, fun u hu => hu.other (by omega) _⟩, ?_, hB.trans hb2⟩
    show Boxed _ w.heap.size 9 (.string (hangS E (pre ++ [x])))
    rw [HNX.out]
    exact hv.set _
  case done =>
    rintro D ys W hD rfl ⟨hv, hB⟩ hK
    have hc := hv.cell
    gi_wp2
    refine ⟨by simp, .inl ⟨_, _, rfl, run_takeDeferred hK, ?_⟩⟩
    exact ⟨_, results_tmp rfl _ _ _, rfl, hB.trans (belowK_b (w := w) (Nat.le_refl _) W D _ _ (by simp at hD; omega) hK rfl rfl)⟩
  case stop =>
    rintro D c pre W _ _ h _
    exact h.elim

theorem hungAbove_any (v : Value) (b : Nat) (us : List Tr) (t : Tr) (w : World) (hv : CellsS b w v (strs us)) (hs : sumT us ≤ 300) (ht : t.carets ≤ 1000) (hl : us.length ≤ 1000) :
    Calls Tryd.prog 40 #[.string t.str, v] w (Gives (.string (combE us t).str) w) := by
  obtain ⟨oa, cap, rfl, hcl, hcm, hcc⟩ := hv.form0
  have hz := short_strs hs
  have hE : t.str.size ≤ 1000000 := by rw [t.str_size]; omega
  have hb := hangS_back us t hz us.length (Nat.le_refl _)
  rw [Nat.sub_self, List.drop_zero] at hb
  refine callsIn_wide.1 ((hungAbove_in Fence.wide 3 trivial trivial trivial rfl (Nat.le_refl _) oa cap t.str hE (strs us) hz (by rw [strs_length]; exact hl) w (fun i hi => ?_)).mono ?_)
  · obtain ⟨g, e, _, hg, c⟩ := hcc i hi
    exact ⟨g, e, hg, by rw [← List.getD_eq_getElem?_getD]; exact c⟩
  · rintro e w' ⟨he, hbw⟩
    rw [strs_length, hb] at he
    exact ⟨he, hbw⟩

theorem hung_any (v : Value) (b : Nat) (us : List Tr) (w : World) (hv : CellsS b w v (strs us)) (hs : sumT us ≤ 300) (hl : us.length ≤ 1000) :
    Calls Tryd.prog 23 #[v] w (Gives (.string (combT us).str) w) := by
  have h := hungAbove_any v b us .lf w hv hs (by simp [Tr.carets]) hl
  rw [combE_lf] at h
  have h' : Calls Tryd.prog 40 #[.string ⟨#[46]⟩, v] w (Gives (.string (combT us).str) w) := h
  obtain ⟨oa, cap, rfl, _⟩ := hv.form0
  clear h hv
  go_enter Tryd.func23, Tryd.ntmps23
  go_wp2_with fail
  refine h'.mono ?_; rintro e w1 ⟨rfl, hb1⟩
  go_wp2_with fail
  go_ret
  exact ⟨rfl, hb1⟩
end Go.Proofs.YtplmbdljhgicfaaDoor
