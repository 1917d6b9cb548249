/- Walks: impl.addressAt. -/
import Derived.Test.YtdhjchibhlcchaaFs1
import Derived.Test.YtdhjchibhlcchaaRowW
import Derived.Test.YtdhjchibhlcchaaArgI
import Derived.Test.YtdhjchibhlcchaaIn
import Derived.Laws.IdiomStrings
namespace Go.Proofs.Ytdhjchibhlcchaa
open Go.RowKit


theorem info_byte : (Try.prog.info? 5).map (fun i => (i.zero, i.size, i.bytes)) = some (some (.int .u8 0), 1, 1) := by kernel_rfl
/-- The letters of a number of steps. -/
def bitsS (s len : Nat) : List UInt8 := (List.range len).map fun i => UInt8.ofNat (48 + s / 2 ^ (20 - (i + 1)) % 2)
theorem bitsS_length (s len : Nat) : (bitsS s len).length = len := by simp [bitsS]
/-- The values of letters. -/
def valB (l : List UInt8) : List Value := l.map fun b => Value.int .u8 (b.toNat : Int)
def OwnB (base : Nat) (w : World) (v : Value) (l : List UInt8) : Prop := w.ownsRow base 5 1 v l.length (valB l)
theorem madeCells_byte (n : Nat) : (madeCells (Value.int .u8 0).cells (n * 1)).toList = valB (List.replicate n (0 : UInt8)) := by
  unfold valB
  rw [List.map_replicate, Nat.mul_one]
  exact toList_madeCells_one _ _
theorem OwnB.keep {base : Nat} {w w' : World} {v : Value} {xs : List UInt8} (h : OwnB base w v xs) (hb : Below w.heap.size w w') : OwnB base w' v xs := by
  unfold OwnB at *
  exact ownsRow_keep h hb
theorem OwnB.set {base : Nat} {w : World} {g cap n : Nat} {L : List UInt8} (hl : L.length = n) (h : OwnB base w (.slice (some ⟨g, 0, none⟩) n cap) L) (j : Nat) (m : UInt8) :
    OwnB base (w.setCell ⟨g, j, none⟩ (.int .u8 (m.toNat : Int))) (.slice (some ⟨g, 0, none⟩) n cap) (L.set j m) := by
  unfold OwnB at *
  rw [List.length_set, hl] at *
  unfold valB at *
  rw [List.map_set]
  exact (World.ownsRow.stored h j _).1
/-- The address with so many letters that begins at so many steps. -/
def atO (s len : Nat) : Option ByteArray := if s = 1048576 ∨ s % 2 ^ (20 - len) ≠ 0 then none else some ⟨(bitsS s len).toArray⟩
theorem atO_adO {n d len : Nat} (h : isFr n d = true) (hl : len ≤ 10) : atO (stepsOf n d) len = adO n d len := by
  unfold atO adO
  have f1 := steps_whole h
  have f2 := steps_fit h hl
  have e1 : ((n : Int) ≠ (d : Int)) ↔ ¬ (n = d) := by omega
  by_cases c1 : n = d
  · rw [if_pos (.inl (f1.2 c1)), if_neg (by omega)]
  · by_cases c2 : d ≤ 2 ^ len
    · rw [if_neg (by rw [f1, ne_eq, f2]; omega), if_pos ⟨h, by omega, by omega, by omega, by rw [Int.toNat_natCast]; omega⟩]
      congr 2
      rw [Int.toNat_natCast, Int.toNat_natCast, Int.toNat_natCast]
      apply congrArg
      unfold bitsS bitsL
      apply List.map_congr_left
      intro i hi
      rw [List.mem_range] at hi
      rw [show 20 - (i + 1) = 19 - i by omega, steps_bit h hl c2 hi]
    · rw [if_pos (.inr (by rw [ne_eq, f2]; exact c2)), if_neg (by rw [Int.toNat_natCast]; omega)]

set_option maxRecDepth 100000 in
set_option maxHeartbeats 4000000 in
theorem addressAt_any (s len : Nat) (w : World) (hs : s ≤ 1048576) (hl : len ≤ 10) :
    Calls Try.prog 41 #[.int .i64 s, .int .i64 len] w (Gives (ans2 (atO s len)) w) := by
  obtain ⟨i0, hi, hz0, hz1, hz2⟩ := info_parts info_byte
  have hW := fun w => widthOf_any len w hl
  unfold atO
  by_cases c1 : s = 1048576
  · rw [if_pos (.inl c1)]
    subst c1
    go_enter Try.func41, Try.ntmps41
    go_wp2_with fail
    go_ret2
    exact ⟨rfl, Below.refl _ _⟩
  have hq0 : (0 : Nat) < 2 ^ (20 - len) := Nat.pow_pos (by omega)
  have hq9 : (2 : Nat) ^ (20 - len) ≤ 2 ^ 20 := Nat.pow_le_pow_right (by omega) (by omega)
  have c1' : (s : Int) ≠ 1048576 := by omega
  by_cases c2 : s % 2 ^ (20 - len) ≠ 0
  · rw [if_pos (.inr c2)]
    generalize (2 : Nat) ^ (20 - len) = q at *
    have c2' : ((s : Int) % (q : Int) != 0) = true := by rw [← Int.natCast_emod]; simp; omega
    have c1b : ((s : Int) == 1048576) = false := by simp; omega
    clear c2 c1
    go_enter Try.func41, Try.ntmps41
    go_wp2_with fail
    refine (hW _).mono ?_; rintro e w' ⟨rfl, rfl⟩
    go_wp2_with fail
    go_ret2
    exact ⟨rfl, Below.refl _ _⟩
  rw [if_neg (by omega)]
  generalize (2 : Nat) ^ (20 - len) = q at *
  have c2' : ((s : Int) % (q : Int) != 0) = false := by rw [← Int.natCast_emod]; simp; omega
  have c1b : ((s : Int) == 1048576) = false := by simp; omega
  clear c2 c1
  go_enter Try.func41, Try.ntmps41
  go_wp2_with fail
  refine (hW _).mono ?_; rintro e w' ⟨rfl, rfl⟩
  go_wp2_with (at_make; refine wpList_make_full _ rfl _ _ 55 rfl w.heap.size 5 i0 (.int .u8 0) 1 Try.underlying55 hi hz0 hz1 .i64 .i64 _ _ len rfl rfl rfl rfl (by rw [hz2]; omega) (by unfold maxLen; omega) (Nat.le_refl _) ?_; intro w0 hown0 hgrow0)
  rw [madeCells_byte] at hown0
  have hb0 : Below w.heap.size w w0 := (Below.refl _ _).grown hgrow0 (Nat.le_refl _) (fun k hk => by cases hk)
  have hO : OwnB w.heap.size w0 (.slice (some ⟨w.heap.size, 0, none⟩) len len) (List.replicate len (0 : UInt8)) := by
    unfold OwnB; rw [List.length_replicate]; exact hown0
  have HO := Lib.hid hO
  clear hown0 hgrow0 hO hW
  go_wp2_with fail
  go_loopw [21] (fun i wr => ∃ k : Nat, k ≤ len ∧ i = .int .i64 k ∧ Hid (OwnB w.heap.size wr (.slice (some ⟨w.heap.size, 0, none⟩) len len) ((bitsS s len).take k ++ List.replicate (len - k) (0 : UInt8))) ∧ Below w.heap.size w wr) (fun i _ => len - (intOf i).toNat)
  case atStart => exact ⟨0, Nat.zero_le _, rfl, HO, hb0⟩
  case round =>
    obtain ⟨k, hk, rfl, hown, hbw⟩ := hrel
    have hlen : ((bitsS s len).take k ++ List.replicate (len - k) (0 : UInt8)).length = len := by have := bitsS_length s len; simp; omega
    by_cases hlt : k < len
    · have hlt' : (k : Int) < (len : Int) := by omega
      have hlk : k < (bitsS s len).length := by rw [bitsS_length]; omega
      have hW := fun w => widthOf_any (k + 1) w (by omega)
      have i1 : (((k + 1 : Nat) : Nat) : Int) = (k : Int) + 1 := by omega
      rw [i1] at hW
      have hr9 : (2 : Nat) ^ (20 - (k + 1)) ≤ 2 ^ 20 := Nat.pow_le_pow_right (by omega) (by omega)
      have hr0 : (0 : Nat) < 2 ^ (20 - (k + 1)) := Nat.pow_pos (by omega)
      have hbit : (bitsS s len).getD k 0 = UInt8.ofNat (48 + s / 2 ^ (20 - (k + 1)) % 2) := by
        unfold bitsS
        simp [hlt]
      have hset := OwnB.set hlen hown.out k ((bitsS s len).getD k 0)
      have hnext : ((bitsS s len).take k ++ List.replicate (len - k) (0 : UInt8)).set k ((bitsS s len).getD k 0) = (bitsS s len).take (k + 1) ++ List.replicate (len - (k + 1)) (0 : UInt8) := by
        have e : len - k = (len - (k + 1)) + 1 := by omega
        have e2 : k - ((bitsS s len).take k).length = 0 := by simp; omega
        rw [List.set_append_right _ _ (by simp; omega), e, List.replicate_succ]
        rw [e2, List.set_cons_zero, List.take_succ_eq_append_getElem hlk, List.append_assoc]
        simp [hlk]
      rw [hnext, hbit] at hset
      have hfz : wr.frozen? ⟨w.heap.size, k, none⟩ = false := World.ownsRow.frozenAt (by have := hown.out; unfold OwnB at this; rw [hlen] at this; exact this) k
      obtain ⟨x, hcell⟩ : ∃ x, wr.cell? ⟨w.heap.size, k, none⟩ = some x := by
        have h1 := hown.out
        unfold OwnB at h1
        rw [hlen] at h1
        have := World.ownsRow.cellAt h1 k (by omega)
        rw [this]
        exact ⟨_, List.getElem?_eq_getElem (by unfold valB; rw [List.length_map, hlen]; exact hlt)⟩
      generalize (2 : Nat) ^ (20 - (k + 1)) = r at *
      have hsr := Nat.mod_two_eq_zero_or_one (s / r)
      have hd : (s : Int).tdiv (r : Int) = ((s / r : Nat) : Int) := by rw [Int.tdiv_eq_ediv_of_nonneg (by omega)]; simp
      have hm : (((s / r : Nat) : Int)).tmod 2 = ((s / r % 2 : Nat) : Int) := by rw [Int.tmod_eq_emod_of_nonneg (Int.natCast_nonneg _)]; simp
      have hb2 : (UInt8.ofNat (48 + s / r % 2)).toNat = 48 + s / r % 2 := by rcases hsr with e | e <;> (rw [e]; rfl)
      rw [hb2] at hset
      have hd9 : s / r ≤ 1048576 := Nat.le_trans (Nat.div_le_self _ _) hs
      generalize s / r = y at *
      have HSET := Lib.hid hset
      have hbw' : Below w.heap.size w (wr.setCell ⟨w.heap.size, k, none⟩ (.int .u8 ((48 + y % 2 : Nat) : Int))) := hbw.setCell (Nat.le_refl _) _
      have hy2 : (((y % 2 : Nat)) : Int) ≤ 1 := by omega
      clear hset hnext hlk hbit hb2
      go_wp2_with fail
      refine (hW _).mono ?_; rintro e w' ⟨rfl, rfl⟩
      go_wp2_with fail
      go_roundw
      case rel => exact ⟨k + 1, by omega, by go_num, HSET, hbw'⟩
      case measure => simp [intOf]; omega
    · obtain rfl : k = len := by omega
      rw [Nat.sub_self, List.replicate_zero, List.append_nil, List.take_of_length_le (by rw [bitsS_length]; omega)] at hown
      have hc : ∀ j (hj : j < (bitsS s k).length), wr.cell? ((⟨w.heap.size, 0, none⟩ : Addr).add j) = some (.int .u8 ((bitsS s k)[j].toNat : Int)) := by
        intro j hj
        have h1 := hown.out
        unfold OwnB at h1
        rw [bitsS_length] at h1 hj
        have := World.ownsRow.cellAt h1 j (by omega)
        rw [addr_add, this]
        unfold valB
        simp [bitsS_length, hj]
      have hconv := run_convert_bytes_back (P := Try.prog) wr 55 9 5 ⟨w.heap.size, 0, none⟩ k (bitsS s k) Try.underlying55 Try.underlying5 Try.underlying9 hc
      rw [bitsS_length] at hconv
      clear hown
      go_wp2_with fail
      go_ret2
      exact ⟨rfl, hbw⟩
end Go.Proofs.Ytdhjchibhlcchaa
