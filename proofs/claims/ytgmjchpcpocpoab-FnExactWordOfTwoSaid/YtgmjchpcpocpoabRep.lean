/- Walk: slices.Repeat of one number. -/
import Derived.Test.YtgmjchpcpocpoabRepM
import Derived.Test.YtgmjchpcpocpoabForm
import Derived.Test.YtgmjchpcpocpoabSrc
import Derived.Laws.CopyOwn
import Derived.Laws.MakeOwn
import Derived.Deep.RegionLaw
namespace Go.Proofs.Ytgmjchpcpocpoab
open Go.RowKit

/-- The first m cells of a row are all X. -/
def allX (X : Value) (m : Nat) (c : List Value) : Prop := c.take m = List.replicate m X
theorem allX_splice {X : Value} {m k : Nat} {c : List Value} (h : allX X m c) : allX X (m + k) (splice c m (List.replicate k X)) := by
  unfold allX splice at *
  rw [h, ← List.append_assoc, List.replicate_append_replicate, List.take_left' (by simp)]
theorem allX_at {X : Value} {m j : Nat} {c : List Value} (h : allX X m c) (hj : j < m) : c[j]? = some X := by
  have e : (c.take m)[j]? = some X := by rw [h]; simp [hj]
  rwa [List.getElem?_take_of_lt hj] at e
theorem cell_of_block {w : World} {g j : Nat} {c : List Value} {t : TypeId} {X : Value} (h : w.heap[g]? = some (.cells c.toArray t (0, 0))) (hj : c[j]? = some X) : w.cell? ⟨g, j, none⟩ = some X := by
  unfold World.cell?
  rw [h]
  simpa using hj

/-- A call that hands back so many cells of one number, in a new block. -/
def GivesRep (x : Int) (n : Nat) (w : World) (e : Ending) (w' : World) : Prop :=
  ∃ g : Nat, OwnI w.heap.size w' (.slice (some ⟨g, 0, none⟩) n n) (List.replicate n x) ∧ Below w.heap.size w w' ∧ e = .returned (.slice (some ⟨g, 0, none⟩) n n)

theorem own_of_block {w : World} {B g n : Nat} {c : List Value} {x : Int} (h : w.heap[g]? = some (.cells c.toArray 3 (0, 0))) (hB : B ≤ g) (hl : c.length = n) (hn : n ≤ 1000000) (ha : allX (.int .i64 x) n c) :
    OwnI B w (.slice (some ⟨g, 0, none⟩) n n) (List.replicate n x) := by
  unfold OwnI
  rw [List.length_replicate]
  refine ⟨by simp, .inr ⟨g, n, c.toArray, rfl, hB, h, Nat.le_refl _, by unfold maxLen; omega, by simp [hl], ?_⟩⟩
  unfold allX at ha
  simp only [Nat.mul_one]
  rw [ha]
  simp

set_option maxRecDepth 100000 in
set_option maxHeartbeats 200000 in
theorem repeat_any (x : Int) (n g cap : Nat) (w : World) (hn : n ≤ 20) (hn1 : 1 ≤ n) (hc : w.cell? ⟨g, 0, none⟩ = some (.int .i64 x)) :
    Calls Try.prog 74 #[.slice (some ⟨g, 0, none⟩) 1 cap, .int .i64 n] w (GivesRep x n w) := by
  obtain ⟨i0, hi, hz0, hz1, hz2⟩ := info_parts info_int
  have hsz1 : (Try.prog.info? 3).map (·.size) = some 1 := by rw [hi]; simp [hz1]
  have hgl := World.block_lt_of_cell? w _ hc
  have hM := fun w => bitsMul_one n hn w
  have hb8 : ((i0.bytes : Nat) : Int) * (n : Int) ≤ 281474976710656 := by rw [hz2]; omega
  have hmk := fun w => run_make (P := Try.prog) w 22 3 i0 (.int .i64 0) Try.underlying22 hi hz0 .i64 .i64 n n (by omega) (by omega) hb8 (by omega)
  obtain ⟨C, hC⟩ : ∃ C : List Value, C.toArray = madeCells (Value.int .i64 0).cells ((n : Int).toNat * i0.size) := ⟨_, Array.toArray_toList⟩
  have hCl : C.length = n := by
    have h := size_madeCells (Value.int .i64 0).cells ((n : Int).toNat * i0.size)
    rw [← hC, hz1] at h
    simpa using h
  rw [← hC] at hmk
  simp only [Int.toNat_natCast] at hmk
  have HC := Lib.hid hCl
  have hnn : (0 : Int) ≤ (n : Int) := by omega
  have hb0 : Below w.heap.size w (w.alloc (.cells C.toArray 3)) := (Below.refl _ w).alloc (Nat.le_refl _) _
  have hsrc : ∀ (j : Nat) (v : Value), [Value.int .i64 x][j]? = some v → (w.alloc (.cells C.toArray 3)).cell? ((⟨g, 0, none⟩ : Addr).add j) = some v := by
    intro j v hj
    match j, hj with
    | 0, hj =>
      simp at hj; subst hj
      rw [addr_add]
      exact (hb0.cell (p := ⟨g, 0, none⟩) hgl).trans hc
    | j + 1, hj => simp at hj
  have hnew : (w.alloc (.cells C.toArray 3)).heap[w.heap.size]? = some (.cells C.toArray 3 (0, 0)) := by
    show (w.heap.push _)[w.heap.size]? = _
    simp
  have hone : ∀ v ∈ [Value.int .i64 x], v.oneCell' = true := by intro u hu; simp at hu; subst hu; rfl
  have hall0 : allX (.int .i64 x) 0 C := by unfold allX; simp
  have hall1 : allX (.int .i64 x) 1 (splice C 0 [Value.int .i64 x]) := allX_splice (k := 1) hall0
  have hlen1 : (splice C 0 [Value.int .i64 x]).length = n := by rw [length_splice _ _ _ (by simp; omega)]; exact HC.out
  have HA := Lib.hid hall1
  have HL := Lib.hid hlen1
  clear hC hb8 hCl hall0 hall1 hlen1
  go_enter Try.func74, Try.ntmps74
  go_wp2_with fail
  refine (hM _).mono ?_; rintro e w1 ⟨rfl, rfl⟩
  go_wp2_with (refine wpList_copy_splice rfl (.tmp 31) (.tmp 32) 22 22 rfl 3 Try.underlying22 hsz1 _ _ _ _ _ _ rfl rfl w.heap.size 0 C 3 hnew [Value.int .i64 x] (Nat.min_eq_left hn1).symm (fun _ => ⟨rfl, _, rfl, hsrc⟩) (by have := HC.out; simp; omega) hone w.heap.size w hb0 (Nat.le_refl _) ?_; intro w2 HG2 hB2)
  generalize splice C 0 [Value.int .i64 x] = D at HG2 HA HL
  clear hsrc hb0 hone hmk HC hnew
  go_loopw [8] (fun i wr => ∃ (m : Nat) (c : List Value), i = .int .i64 m ∧ 1 ≤ m ∧ m ≤ n ∧ Hid (c.length = n) ∧ Hid (allX (.int .i64 x) m c) ∧ Hid (wr.heap[w.heap.size]? = some (.cells c.toArray 3 (0, 0))) ∧ Below w.heap.size w wr) (fun i _ => n - (intOf i).toNat)
  case atStart => exact ⟨1, D, rfl, Nat.le_refl _, hn1, HL, HA, HG2, hB2⟩
  case round =>
    obtain ⟨m, c, rfl, hm1, hmn, hcl, hal, hg, hbw⟩ := hrel
    clear HG2 HA HL hB2
    by_cases hlt : m < n
    · have hlt' : (m : Int) < (n : Int) := by omega
      obtain ⟨k, hk⟩ : ∃ k, k = Nat.min m (n - m) := ⟨_, rfl⟩
      have hk1 : 1 ≤ k := by rw [hk]; exact Nat.le_min.2 ⟨hm1, by omega⟩
      have hk2 : m + k ≤ n := by have : k ≤ n - m := by rw [hk]; exact Nat.min_le_right _ _
                                 omega
      have hk3 : k ≤ m := by rw [hk]; exact Nat.min_le_left _ _
      have hcs : (List.replicate k (Value.int .i64 x)).length = Nat.min m (n - m) := by rw [List.length_replicate]; exact hk
      have hsrc : ∀ (j : Nat) (v : Value), (List.replicate k (Value.int .i64 x))[j]? = some v → wr.cell? ((⟨w.heap.size, 0, none⟩ : Addr).add j) = some v := by
        intro j v hj
        have hjk := (List.getElem?_eq_some_iff.1 hj).1
        rw [List.length_replicate] at hjk
        rw [List.getElem?_replicate, if_pos hjk] at hj
        rw [addr_add, ← hj]
        exact cell_of_block hg.out (allX_at hal.out (by omega))
      have hone : ∀ v ∈ List.replicate k (Value.int .i64 x), v.oneCell' = true := by intro u hu; rw [List.eq_of_mem_replicate hu]; rfl
      have hal' : Hid (allX (.int .i64 x) (m + k) (splice c m (List.replicate k (Value.int .i64 x)))) := allX_splice hal.out
      have hcl' : Hid ((splice c m (List.replicate k (Value.int .i64 x))).length = n) := by
        show _ = _
        rw [length_splice _ _ _ (by rw [List.length_replicate, hcl.out]; omega)]; exact hcl.out
      have hfit : m + (List.replicate k (Value.int .i64 x)).length ≤ c.length := by rw [List.length_replicate, hcl.out]; omega
      obtain ⟨R, hR⟩ : ∃ R, R = List.replicate k (Value.int .i64 x) := ⟨_, rfl⟩
      have hRl : R.length = k := by rw [hR, List.length_replicate]
      rw [← hR] at hcs hsrc hone hal' hcl' hfit
      have HCS := Lib.hid hcs
      have ew : IntKind.i64.wrap ((m : Int) + (k : Int)) = ((m + k : Nat) : Int) := by rw [IntKind.wrap_i64]; omega
      clear hR hk hcs
      have hsrcD : ∀ (j : Nat) (v : Value), R[j]? = some v → wr.drew.cell? ((⟨w.heap.size, 0, none⟩ : Addr).add j) = some v := hsrc
      go_wp2_with fail
      go_region_law (refine step_copy_splice (by rfl) (.tmp 41) (.tmp 44) 22 22 (by rfl) 3 Try.underlying22 hsz1 (if n = m then some ⟨w.heap.size, 0, none⟩ else some ⟨w.heap.size, m, none⟩) (some ⟨w.heap.size, 0, none⟩) (n - m) (n - m) m n (by go_simp) (by go_simp) w.heap.size m c 3 hg.out R HCS.out (fun _ => ⟨if_neg (by omega), _, rfl, hsrcD⟩) hfit hone w.heap.size w hbw.drew (Nat.le_refl _) ?_; intro w4 hg4 hb4)
      go_wp2_with fail
      go_roundw
      case rel => exact ⟨m + k, by omega, by omega, hk2, _, hcl', hal', hg4⟩
      case measure => simp [intOf]; omega
    · obtain rfl : m = n := by omega
      go_wp2_with fail
      go_ret
      exact ⟨_, own_of_block hg.out (Nat.le_refl _) hcl.out (by omega) hal.out, hbw, rfl⟩
end Go.Proofs.Ytgmjchpcpocpoab
