/- Texts that the claim needs, part 6. -/
import Derived.Test.YtjmbkieocmhmiaaGreatMgPairsMultiply4
import Derived.OwnWalk
/-! Sl2 -/
namespace Go.Proofs.YtjmbkieocmhmiaaGreat
open Go.RowKit

theorem start_any (x y z : Int) (w : World) : Calls Tryz.prog 97 #[.agg #[.int .i64 x, .int .i64 y, .int .i64 z]] w (Gives (.int .i64 x) w) := by
  go_enter Tryz.func97, Tryz.ntmps97
  go_wp2_with fail
  go_ret
  exact ⟨rfl, nxAlloc (Below.refl _ _) _⟩
set_option maxRecDepth 100000 in
set_option maxHeartbeats 2000000 in
theorem lastUpToP_any (g cap : Nat) (ps : List (Nat × Nat × Int)) (n s : Nat) (w : World) (hn : ps.length = n) (hn9 : n ≤ 1000) (hg : g < w.heap.size) (hc1 : n ≤ cap) (_hc2 : cap ≤ maxLen)
    (hcell : ∀ i, i < n * 3 → w.cell? ⟨g, i, none⟩ = some (.int .i64 ((flatP ps).getD i 0))) :
    Calls Tryz.prog 96 #[.slice (some ⟨g, 0, none⟩) n cap, .int .i64 s, .func (Fn.func 97) #[] #[]] w (Gives (.int .i64 (lastTo (ps.map fun x => x.1) s)) w) := by
  have hcall : ∀ (args : Array Value) (w : World), (callFunc 97 args).run Tryz.prog w = .ok (.enter 97 args) w := fun _ _ => by kernel_rfl
  obtain ⟨S, hS⟩ : ∃ S : List Nat, S = ps.map fun x => x.1 := ⟨_, rfl⟩
  rw [← hS]
  have hSl : S.length = n := by rw [hS]; simp [hn]
  have hst : ∀ k, k < n → S.getD k 0 = (ps.getD k (0, 0, 0)).1 := by intro k hk; have : k < ps.length := by omega
                                                                     rw [hS]; simp [this]
  have HT := Lib.hid hst
  have HNN := Lib.hid hn
  have HC := Lib.hid hcell
  unfold maxLen at _hc2
  clear hst hS hn hcell
  go_enter Tryz.func96, Tryz.ntmps96
  go_wp2_with fail
  go_loopw [7, 11] (fun v i wr => ∃ k : Nat, k ≤ n ∧ i = .int .i64 k ∧ v = .int .i64 (lastTo (S.take k) s) ∧ Below w.heap.size w wr) (fun _ i _ => n - (intOf i).toNat)
  case atStart => exact ⟨0, Nat.zero_le _, rfl, rfl, Below.refl _ _⟩
  case round =>
    obtain ⟨k, hk, rfl, rfl, hbw⟩ := hrel
    by_cases hlt : k < n
    · have hlt' : (k : Int) < (n : Int) := by omega
      have hN := HNN.out
      have fg := flatP_get ps k (by omega)
      have c1 := (hbw.cell (p := ⟨g, k * 3, none⟩) hg).trans (HC.out (k * 3) (by omega))
      have c2 := (hbw.cell (p := ⟨g, k * 3 + 1, none⟩) hg).trans (HC.out (k * 3 + 1) (by omega))
      have c3 := (hbw.cell (p := ⟨g, k * 3 + 2, none⟩) hg).trans (HC.out (k * 3 + 2) (by omega))
      rw [fg.1] at c1
      rw [fg.2.1] at c2
      rw [fg.2.2] at c3
      have hnext := lastTo_take (l := S) (k := k) (s := s) (by omega)
      rw [HT.out k hlt] at hnext
      generalize (ps.getD k (0, 0, 0)).2.2 = z at *
      generalize (ps.getD k (0, 0, 0)).2.1 = y at *
      generalize (ps.getD k (0, 0, 0)).1 = x at *
      have hS := fun w => start_any (x : Int) (y : Int) z w
      clear fg hN
      by_cases hle : x ≤ s
      · rw [if_pos hle] at hnext
        have HN := Lib.hid hnext
        have hle' : (x : Int) ≤ (s : Int) := by omega
        clear hnext hle
        go_wp2_with fail
        refine (hS _).mono ?_; rintro e w3 ⟨rfl, hb3⟩
        have hbw3 := nx hbw hb3
        go_wp2_with fail
        go_roundw
        case rel => exact ⟨k + 1, by omega, by go_num, by rw [HN.out], hbw3⟩
        case measure => simp [intOf]; omega
      · rw [if_neg hle] at hnext
        have HN := Lib.hid hnext
        have hle' : ¬ (x : Int) ≤ (s : Int) := by omega
        clear hnext hle
        go_wp2_with fail
        refine (hS _).mono ?_; rintro e w3 ⟨rfl, hb3⟩
        have hbw3 := nx hbw hb3
        go_wp2_with fail
        go_roundw
        case rel => exact ⟨k + 1, by omega, by go_num, by rw [HN.out], hbw3⟩
        case measure => simp [intOf]; omega
    · obtain rfl : k = n := by omega
      rw [List.take_of_length_le (by omega)]
      go_wp2_with fail
      go_ret
      exact ⟨rfl, hbw⟩

theorem three_cells {w : World} {g : Nat} {a b c : Value} {t : TypeId} (h : w.heap[g]? = some (.cells #[a, b, c] t (0, 0))) : w.cell? ⟨g, 0, none⟩ = some a ∧ w.cell? ⟨g, 1, none⟩ = some b ∧ w.cell? ⟨g, 2, none⟩ = some c := by
  simp [World.cell?, h]
theorem three_frozen {w : World} {g : Nat} {a b c : Value} {t : TypeId} (h : w.heap[g]? = some (.cells #[a, b, c] t (0, 0))) : w.frozen? ⟨g, 0, none⟩ = false ∧ w.frozen? ⟨g, 1, none⟩ = false ∧ w.frozen? ⟨g, 2, none⟩ = false := by
  simp [World.frozen?, h]
theorem set_three {w : World} {g : Nat} {a b c : Value} (a' b' c' : Value) {t : TypeId} (h : w.heap[g]? = some (.cells #[a, b, c] t (0, 0))) : (((w.setCell ⟨g, 0, none⟩ a').setCell ⟨g, 1, none⟩ b').setCell ⟨g, 2, none⟩ c').heap[g]? = some (.cells #[a', b', c'] t (0, 0)) :=
  Joins.block_setCell (Joins.block_setCell (Joins.block_setCell h a') b') c'

set_option maxRecDepth 100000 in
set_option maxHeartbeats 2000000 in
theorem pieceAt_any (g cap : Nat) (ps : List (Nat × Nat × Int)) (n s : Nat) (w : World) (hn : ps.length = n) (hn0 : 0 < n) (hn9 : n ≤ 1000) (hg : g < w.heap.size) (hc1 : n ≤ cap) (hc2 : cap ≤ maxLen)
    (hcell : ∀ i, i < n * 3 → w.cell? ⟨g, i, none⟩ = some (.int .i64 ((flatP ps).getD i 0))) :
    Calls Tryz.prog 65 #[.slice (some ⟨g, 0, none⟩) n cap, .int .i64 s] w (Gives (.agg #[.int .i64 (ps.getD (lastTo (ps.map fun x => x.1) s) (0, 0, 0)).1, .int .i64 (ps.getD (lastTo (ps.map fun x => x.1) s) (0, 0, 0)).2.1, .int .i64 (ps.getD (lastTo (ps.map fun x => x.1) s) (0, 0, 0)).2.2]) w) := by
  obtain ⟨o, ho⟩ : ∃ o : Obj, o = .cells #[.int .i64 0, .int .i64 0, .int .i64 0] 85 (0, 0) := ⟨_, rfl⟩
  have hb0 : Below w.heap.size w (w.alloc o) := nxAlloc (Below.refl _ _) _
  have hcell' : ∀ i, i < n * 3 → (w.alloc o).cell? ⟨g, i, none⟩ = some (.int .i64 ((flatP ps).getD i 0)) := fun i hi => (hb0.cell (p := ⟨g, i, none⟩) hg).trans (hcell i hi)
  have hg' : g < (w.alloc o).heap.size := Nat.lt_of_lt_of_le hg hb0.size
  have hU := lastUpToP_any g cap ps n s (w.alloc o) hn hn9 hg' hc1 hc2 hcell'
  have hlt := lastTo_lt (ps.map fun x => x.1) s (by simp; omega)
  rw [List.length_map, hn] at hlt
  generalize lastTo (ps.map fun x => x.1) s = r at *
  have fg := flatP_get ps r (by omega)
  have d1 := hcell' (r * 3) (by omega)
  have d2 := hcell' (r * 3 + 1) (by omega)
  have d3 := hcell' (r * 3 + 2) (by omega)
  rw [fg.1] at d1
  rw [fg.2.1] at d2
  rw [fg.2.2] at d3
  generalize (ps.getD r (0, 0, 0)).2.2 = z at *
  generalize (ps.getD r (0, 0, 0)).2.1 = y at *
  generalize (ps.getD r (0, 0, 0)).1 = x at *
  have hx0 := heap_alloc_at w o
  rw [ho] at hU d1 d2 d3 hg' hx0 hb0
  have hlt' : (r : Int) < (n : Int) := by omega
  unfold maxLen at hc2
  clear hcell hcell' fg hn ho
  go_enter Tryz.func65, Tryz.ntmps65
  go_wp2_with fail
  refine hU.mono ?_; rintro e w1 ⟨rfl, hb1⟩
  have c1 := (hb1.cell (p := ⟨g, r * 3, none⟩) hg').trans d1
  have c2 := (hb1.cell (p := ⟨g, r * 3 + 1, none⟩) hg').trans d2
  have c3 := (hb1.cell (p := ⟨g, r * 3 + 2, none⟩) hg').trans d3
  have hx1 := heap_keep hb1 hx0
  have hbw1 := nx hb0 hb1
  obtain ⟨ka, kb, kc⟩ := three_cells hx1
  obtain ⟨kf, kg, kh⟩ := three_frozen hx1
  clear d1 d2 d3 hx0 hb0 hb1 hU
  go_wp2_with fail
  obtain ⟨q1, q2, q3⟩ := three_cells (set_three (.int .i64 x) (.int .i64 y) (.int .i64 z) hx1)
  refine bodyPost_ret (v := .agg #[.int .i64 x, .int .i64 y, .int .i64 z]) (by simp [q1, q2, q3, results, Tryz.results65, go_sem]) rfl ⟨rfl, ?_⟩
  exact ((hbw1.setCell (by show w.heap.size ≤ w.heap.size; omega) _).setCell (by show w.heap.size ≤ w.heap.size; omega) _).setCell (by show w.heap.size ≤ w.heap.size; omega) _
end Go.Proofs.YtjmbkieocmhmiaaGreat

/-! WSlopeAt -/
namespace Go.Proofs.YtjmbkieocmhmiaaGreat
open Go.RowKit

def ansZ (o : Option Int) : Value := .tuple #[.int .i64 (o.getD 0), .bool o.isSome]
/-- The slope at a fraction. -/
def slopeAtO (a b : ByteArray) (n d : Int) : Option Int := (pairOf a b).bind fun p => if isFr n d = true then some ((slopes p).getD (lastTo p.1.starts (stepsOf n d)) 0) else none
theorem pcs_starts (p : Pr) (he : p.1.carets = p.2.carets) : (pcs p).map (fun x => x.1) = p.1.starts := by
  have : ∀ (l m : List ByteArray), l.length = m.length → (pcsL l m).map (fun x => x.1) = l.map stA := by
    intro l
    induction l with
    | nil => intro m h; cases m <;> rfl
    | cons a l ih => intro m h; match m, h with
      | b :: m, h => simp [pcsL, ih m (by simpa using h)]
  have l1 := addrs_length p.1 ⟨#[]⟩
  have l2 := addrs_length p.2 ⟨#[]⟩
  exact this _ _ (by omega)
theorem pcs_len (p : Pr) (he : p.1.carets = p.2.carets) : (pcs p).length = p.1.carets + 1 := by
  have l1 := addrs_length p.1 ⟨#[]⟩
  have l2 := addrs_length p.2 ⟨#[]⟩
  have := pcsL_length (p.1.addrs ⟨#[]⟩) (p.2.addrs ⟨#[]⟩) (by omega)
  show (pcsL (p.1.addrs ⟨#[]⟩) (p.2.addrs ⟨#[]⟩)).length = _
  omega
theorem slopes_get (p : Pr) {k : Nat} (h : k < (pcs p).length) : (slopes p).getD k 0 = ((pcs p).getD k (0, 0, 0)).2.2 := by
  rw [← slopes_pcs]; simp [h]

end Go.Proofs.YtjmbkieocmhmiaaGreat

/-! VlP -/
namespace Go.Proofs.YtjmbkieocmhmiaaGreat

theorem frOf_bd {a : ByteArray} (h : a.size ≤ 8) (hb : a.data.toList.all isBit = true) :
    (frOf (stA a)).1 ≤ 256 ∧ 0 < (frOf (stA a)).2 ∧ (frOf (stA a)).2 ≤ 256 ∧ (frOf (stA a)).1 * 1048576 = stA a * (frOf (stA a)).2 := by
  rw [stA_frOf (by omega)]
  have h1 := numA_lt _ a.data.toList rfl hb
  have h2 : a.data.toList.length = a.size := rfl
  rw [h2] at h1
  have h3 : 2 ^ a.size ≤ 2 ^ 8 := Nat.pow_le_pow_right (by omega) h
  have c := stA_cross (a := a) (by omega)
  refine ⟨?_, short_pos (Nat.pow_pos (by omega)), ?_, c⟩
  · exact Nat.le_trans (Nat.div_le_self _ _) (by omega)
  · exact Nat.le_trans (Nat.div_le_self _ _) (by omega)
theorem vl_sub {n d s na da sa : Nat} (h : n * 1048576 = s * d) (ha : na * 1048576 = sa * da) (hs : sa ≤ s) : na * d ≤ n * da := by
  have e : na * d * 1048576 ≤ n * da * 1048576 := by
    calc na * d * 1048576 = (na * 1048576) * d := by ac_rfl
      _ = sa * (da * d) := by rw [ha]; ac_rfl
      _ ≤ s * (da * d) := Nat.mul_le_mul_right _ hs
      _ = (s * d) * da := by ac_rfl
      _ = n * da * 1048576 := by rw [← h]; ac_rfl
  omega
theorem vl_short {n d na da nb db la lb s sa sb : Nat} (h : n * 1048576 = s * d) (ha : na * 1048576 = sa * da) (hb : nb * 1048576 = sb * db)
    (hs : s % 1024 = 0) (hsa : sa % 1024 = 0) (hl : lb ≤ 10) (hd : 0 < d) (hda : 0 < da) (hdb : 0 < db) :
    0 < d * da * 2 ^ lb * db ∧ shortN ((n * da - na * d) * 2 ^ la * db + nb * (d * da * 2 ^ lb)) (d * da * 2 ^ lb * db) = frOf (valN sa la sb lb s) := by
  have hp : 0 < d * da * 2 ^ lb * db := Nat.mul_pos (Nat.mul_pos (Nat.mul_pos hd hda) (Nat.pow_pos (by omega))) hdb
  exact ⟨hp, short_cross hp (by omega) (value_cross (la := la) h ha hb (valN_exact hs hsa hl))⟩
theorem pow8 {l : Nat} (h : l ≤ 8) : 1 ≤ 2 ^ l ∧ 2 ^ l ≤ 256 := by
  have h3 : 2 ^ l ≤ 2 ^ 8 := Nat.pow_le_pow_right (by omega) h
  exact ⟨Nat.pow_pos (by omega), by omega⟩
theorem mul_bd {a b A B C : Nat} (ha : a ≤ A) (hb : b ≤ B) (h : A * B = C) : a * b ≤ C := by
  subst h
  exact Nat.mul_le_mul ha hb
theorem valN_bd {sa la sb lb s : Nat} (hs : s ≤ 1048576) (hb : sb ≤ 1048576) (hl : la ≤ 8) : valN sa la sb lb s ≤ 269484032 := by
  unfold valN
  have h1 : (s - sa) * 2 ^ la ≤ 268435456 := mul_bd (A := 1048576) (B := 256) (by omega) (pow8 hl).2 rfl
  have h2 : (s - sa) * 2 ^ la / 2 ^ lb ≤ (s - sa) * 2 ^ la := Nat.div_le_self _ _
  omega
end Go.Proofs.YtjmbkieocmhmiaaGreat

/-! ObP -/
namespace Go.Proofs.YtjmbkieocmhmiaaGreat

/-- Where the interval of an address ends. -/
def enA (a : ByteArray) : Nat := stA a + 2 ^ (20 - a.size)
/-- Intervals that lie one after the other from x to y. -/
def Ch : List ByteArray → Nat → Nat → Prop
  | [], x, y => x = y
  | a :: l, x, y => stA a = x ∧ Ch l (enA a) y
theorem ch_append : ∀ (l m : List ByteArray) (x z y : Nat), Ch l x z → Ch m z y → Ch (l ++ m) x y := by
  intro l
  induction l with
  | nil => intro m x z y h k; cases h; exact k
  | cons a l ih => intro m x z y h k; exact ⟨h.1, ih m _ z y h.2 k⟩
theorem stA_zero {a : ByteArray} (h : a.size < 20) : stA (a ++ ⟨#[48]⟩) = stA a ∧ enA (a ++ ⟨#[48]⟩) = stA a + 2 ^ (20 - a.size - 1) := by
  have e : stA (a ++ ⟨#[48]⟩) = stA a := by
    unfold stA
    rw [data_append, ByteArray.size_append]
    show numA (a.data.toList ++ [48]) * 2 ^ (20 - (a.size + 1)) = _
    rw [numA_snoc, show 20 - a.size = (20 - (a.size + 1)) + 1 by omega, Nat.pow_succ]
    show (2 * numA a.data.toList + 0) * _ = _
    rw [Nat.add_zero, Nat.mul_comm 2, Nat.mul_assoc, Nat.mul_comm 2]
  refine ⟨e, ?_⟩
  unfold enA
  rw [e, ByteArray.size_append]
  rfl
theorem stA_one {a : ByteArray} (h : a.size < 20) : stA (a ++ ⟨#[49]⟩) = stA a + 2 ^ (20 - a.size - 1) ∧ enA (a ++ ⟨#[49]⟩) = enA a := by
  have e : stA (a ++ ⟨#[49]⟩) = stA a + 2 ^ (20 - a.size - 1) := by
    unfold stA
    rw [data_append, ByteArray.size_append]
    show numA (a.data.toList ++ [49]) * 2 ^ (20 - (a.size + 1)) = _
    rw [numA_snoc, show 20 - a.size - 1 = 20 - (a.size + 1) by omega, show 20 - a.size = (20 - (a.size + 1)) + 1 by omega, Nat.pow_succ]
    show (2 * numA a.data.toList + 1) * _ = _
    rw [Nat.add_mul, Nat.one_mul, Nat.mul_comm 2, Nat.mul_assoc, Nat.mul_comm 2]
  refine ⟨e, ?_⟩
  unfold enA
  rw [e, ByteArray.size_append, show 20 - a.size - 1 = 20 - (a.size + 1) by omega, show 20 - a.size = (20 - (a.size + 1)) + 1 by omega, Nat.pow_succ]
  show stA a + _ + 2 ^ (20 - (a.size + 1)) = _
  omega
theorem addrs_ch (t : Tr) : ∀ here : ByteArray, here.size + t.carets ≤ 20 → Ch (t.addrs here) (stA here) (enA here) := by
  induction t with
  | lf => intro here _; exact ⟨rfl, rfl⟩
  | nd l r ihl ihr =>
    intro here h
    simp only [Tr.carets] at h
    have z := stA_zero (a := here) (by omega)
    have o := stA_one (a := here) (by omega)
    have h1 := ihl (here ++ ⟨#[48]⟩) (by rw [ByteArray.size_append]; show here.size + 1 + l.carets ≤ 20; omega)
    have h2 := ihr (here ++ ⟨#[49]⟩) (by rw [ByteArray.size_append]; show here.size + 1 + r.carets ≤ 20; omega)
    rw [z.1, z.2] at h1
    rw [o.1, o.2] at h2
    exact ch_append _ _ _ _ _ h1 h2
theorem ch_get : ∀ (l : List ByteArray) (x y : Nat), Ch l x y → ∀ k, k < l.length → enA (l.getD k ⟨#[]⟩) = if k + 1 < l.length then stA (l.getD (k + 1) ⟨#[]⟩) else y := by
  intro l
  induction l with
  | nil => intro x y h k hk; simp at hk
  | cons a l ih =>
    intro x y h k hk
    match k with
    | 0 =>
      match l, h with
      | [], h => simp; exact h.2
      | b :: l, h => simp; exact h.2.1.symm
    | k + 1 =>
      have := ih _ _ h.2 k (by simpa using hk)
      simpa using this
theorem addrs_end (t : Tr) (h : t.carets ≤ 20) {k : Nat} (hk : k < t.carets + 1) :
    enA ((t.addrs ⟨#[]⟩).getD k ⟨#[]⟩) = if k < t.carets then stA ((t.addrs ⟨#[]⟩).getD (k + 1) ⟨#[]⟩) else 1048576 := by
  have c := addrs_ch t ⟨#[]⟩ (by show 0 + t.carets ≤ 20; omega)
  have l := addrs_length t ⟨#[]⟩
  have := ch_get _ _ _ c k (by omega)
  rw [this]
  by_cases e : k < t.carets
  · rw [if_pos (by omega), if_pos e]
  · rw [if_neg (by omega), if_neg e]; rfl
/-- The end of a leaf, that of the next one's start. -/
theorem starts_next (t : Tr) (h : t.carets ≤ 20) {k : Nat} (hk : k < t.carets) :
    t.starts.getD (k + 1) 0 = t.starts.getD k 0 + 2 ^ (20 - ((t.addrs ⟨#[]⟩).getD k ⟨#[]⟩).size) := by
  have := addrs_end t h (k := k) (by omega)
  rw [if_pos hk] at this
  rw [starts_at t (k := k + 1) (by omega), starts_at t (k := k) (by omega), ← this]
  rfl
theorem starts_last (t : Tr) (h : t.carets ≤ 20) : t.starts.getD t.carets 0 + 2 ^ (20 - ((t.addrs ⟨#[]⟩).getD t.carets ⟨#[]⟩).size) = 1048576 := by
  have := addrs_end t h (k := t.carets) (by omega)
  rw [if_neg (by omega)] at this
  rw [starts_at t (k := t.carets) (by omega), ← this]
  rfl
theorem width_pos (t : Tr) (k : Nat) : 0 < 2 ^ (20 - ((t.addrs ⟨#[]⟩).getD k ⟨#[]⟩).size) := Nat.pow_pos (by omega)
theorem starts_mono (t : Tr) (h : t.carets ≤ 20) : ∀ {j k : Nat}, j < k → k < t.carets + 1 → t.starts.getD j 0 < t.starts.getD k 0 := by
  intro j k hjk
  induction k with
  | zero => omega
  | succ k ih =>
    intro hk
    have e := starts_next t h (k := k) (by omega)
    have w := width_pos t k
    by_cases hj : j = k
    · subst hj; omega
    · have := ih (by omega) (by omega); omega
/-- The last one of an increasing list that is not beyond a number. -/
theorem lastTo_eq {l : List Nat} {s r : Nat} (hr : r < l.length) (h1 : l.getD r 0 ≤ s) (h2 : ∀ j, r < j → j < l.length → s < l.getD j 0) : lastTo l s = r := by
  have : ∀ n, r < n → n ≤ l.length → lastTo (l.take n) s = r := by
    intro n
    induction n with
    | zero => omega
    | succ n ih =>
      intro hn hl
      rw [lastTo_take (by omega)]
      by_cases e : r = n
      · subst e; rw [if_pos h1]
      · have := h2 n (by omega) (by omega)
        rw [if_neg (by omega)]; exact ih (by omega) (by omega)
  have := this l.length hr (Nat.le_refl _)
  rwa [List.take_length] at this
theorem starts_pick (t : Tr) (h : t.carets ≤ 20) {s r : Nat} (hr : r < t.carets + 1) (h1 : t.starts.getD r 0 ≤ s) (h2 : r < t.carets → s < t.starts.getD (r + 1) 0) : lastTo t.starts s = r := by
  have l := starts_length t
  refine lastTo_eq (by omega) h1 ?_
  intro j hj hl
  by_cases e : j = r + 1
  · subst e; exact h2 (by omega)
  · have := starts_mono t h (j := r + 1) (k := j) (by omega) (by omega)
    have := h2 (by omega)
    omega
/-- Where a number lies. -/
theorem starts_place (t : Tr) (h : t.carets ≤ 20) (s : Nat) : lastTo t.starts s < t.carets + 1 ∧ t.starts.getD (lastTo t.starts s) 0 ≤ s ∧ (lastTo t.starts s < t.carets → s < t.starts.getD (lastTo t.starts s + 1) 0) := by
  have l := starts_length t
  have hlt := lastTo_lt t.starts s (by omega)
  have hle := lastTo_le t.starts s (starts_first t)
  refine ⟨by omega, hle, ?_⟩
  intro hc
  rcases Nat.lt_or_ge s (t.starts.getD (lastTo t.starts s + 1) 0) with hx | hx
  · exact hx
  · exfalso
    -- there is a later one that is not beyond s
    have key : ∀ n, lastTo t.starts s + 1 < n → n ≤ t.starts.length → lastTo t.starts s + 1 ≤ lastTo (t.starts.take n) s := by
      intro n
      generalize lastTo t.starts s = q at *
      induction n with
      | zero => omega
      | succ n ih =>
        intro hn hl
        rw [lastTo_take (by omega)]
        split
        · omega
        · by_cases e : n = q + 1
          · subst e; omega
          · exact ih (by omega) (by omega)
    have := key t.starts.length (by omega) (Nat.le_refl _)
    rw [List.take_length] at this
    omega
theorem pick_zero (t : Tr) (h : t.carets ≤ 20) : lastTo t.starts 0 = 0 := by
  refine starts_pick t h (by omega) (by rw [starts_first]; omega) ?_
  intro hc
  have := starts_mono t h (j := 0) (k := 0 + 1) (by omega) (by omega)
  omega
theorem pick_last (t : Tr) (h : t.carets ≤ 20) : lastTo t.starts 1048575 = t.carets := by
  have e := starts_last t h
  have w := width_pos t t.carets
  exact starts_pick t h (by omega) (by omega) (fun hc => absurd hc (by omega))
/-- In front of a number: the leaf before if it is the start of one, and the same one otherwise. -/
theorem pick_left (t : Tr) (h : t.carets ≤ 20) {s : Nat} (hs : 0 < s) :
    lastTo t.starts (s - 1) = if t.starts.getD (lastTo t.starts s) 0 = s then lastTo t.starts s - 1 else lastTo t.starts s := by
  obtain ⟨p1, p2, p3⟩ := starts_place t h s
  split
  · rename_i e
    have hq : 0 < lastTo t.starts s := by
      rcases Nat.eq_zero_or_pos (lastTo t.starts s) with z | z
      · rw [z, starts_first] at e; omega
      · exact z
    have m := starts_mono t h (j := lastTo t.starts s - 1) (k := lastTo t.starts s) (by omega) p1
    refine starts_pick t h (by omega) (by omega) ?_
    intro _
    rw [show lastTo t.starts s - 1 + 1 = lastTo t.starts s by omega]
    omega
  · refine starts_pick t h p1 (by omega) ?_
    intro hc
    have := p3 hc
    omega
theorem frOf_inj1 {a b : Nat} (h : frOf a = frOf b) : a = b := by
  have h1 := short_steps (W := 1048576) (n := a) (d := 1048576) (by omega) ⟨1, rfl⟩
  have h2 := short_steps (W := 1048576) (n := b) (d := 1048576) (by omega) ⟨1, rfl⟩
  rw [Nat.div_self (by omega), Nat.mul_one] at h1 h2
  have hp : 0 < (frOf a).2 := short_pos (by omega)
  have h1' : (frOf a).1 * 1048576 = a * (frOf a).2 := h1
  have h2' : (frOf b).1 * 1048576 = b * (frOf b).2 := h2
  rw [← h] at h2'
  exact Nat.eq_of_mul_eq_mul_right hp (h1'.symm.trans h2')
end Go.Proofs.YtjmbkieocmhmiaaGreat

/-! Ob1 -/
namespace Go.Proofs.YtjmbkieocmhmiaaGreat
open Go.RowKit

/-- Two numbers and whether there are any. -/
def ans3 (o : Option (Int × Int)) : Value := .tuple #[.int .i64 (o.getD (0, 0)).1, .int .i64 (o.getD (0, 0)).2, .bool o.isSome]
/-- The slope of the piece on which a number is. -/
def slAt (ps : List (Nat × Nat × Int)) (s : Nat) : Int := (ps.getD (lastTo (ps.map fun x => x.1) s) (0, 0, 0)).2.2
set_option maxHeartbeats 2000000 in
theorem leftSlope_any (g cap : Nat) (ps : List (Nat × Nat × Int)) (n s : Nat) (w : World) (hn : ps.length = n) (hn0 : 0 < n) (hn9 : n ≤ 1000) (hg : g < w.heap.size) (hc1 : n ≤ cap) (hc2 : cap ≤ maxLen)
    (hcell : ∀ i, i < n * 3 → w.cell? ⟨g, i, none⟩ = some (.int .i64 ((flatP ps).getD i 0))) :
    Calls Tryz.prog 160 #[.int .i64 s, .slice (some ⟨g, 0, none⟩) n cap] w (Gives (.int .i64 (slAt ps s)) w) := by
  have hP := pieceAt_any g cap ps n s w hn hn0 hn9 hg hc1 hc2 hcell
  unfold slAt
  generalize ps.getD (lastTo (ps.map fun x => x.1) s) (0, 0, 0) = q at *
  generalize q.1 = x at *
  generalize q.2.1 = y at *
  generalize q.2.2 = z at *
  have hfld : ∀ w, (Instr.field 85 (.agg #[.int .i64 (x : Int), .int .i64 (y : Int), .int .i64 z]) 2).run Tryz.prog w = .ok (.int .i64 z) w := fun _ => by kernel_rfl
  clear hcell hn hn0 hn9 hg hc1 hc2
  go_enter Tryz.func160, Tryz.ntmps160
  go_wp2_with fail
  refine hP.mono ?_; rintro e w1 ⟨rfl, hb1⟩
  go_wp2_with fail
  go_ret
  exact ⟨rfl, hb1⟩
set_option maxHeartbeats 2000000 in
theorem rightSlope_any (g cap : Nat) (ps : List (Nat × Nat × Int)) (n s : Nat) (w : World) (hn : ps.length = n) (hn0 : 0 < n) (hn9 : n ≤ 1000) (hg : g < w.heap.size) (hc1 : n ≤ cap) (hc2 : cap ≤ maxLen)
    (hcell : ∀ i, i < n * 3 → w.cell? ⟨g, i, none⟩ = some (.int .i64 ((flatP ps).getD i 0))) (hs : 1 ≤ s) (hs2 : s ≤ 1048576) :
    Calls Tryz.prog 161 #[.int .i64 s, .slice (some ⟨g, 0, none⟩) n cap] w (Gives (.int .i64 (slAt ps (s - 1))) w) := by
  have hP := pieceAt_any g cap ps n (s - 1) w hn hn0 hn9 hg hc1 hc2 hcell
  have hw : IntKind.i64.wrap ((s : Int) - 1) = ((s - 1 : Nat) : Int) := by rw [IntKind.wrap_i64] <;> omega
  unfold slAt
  generalize ps.getD (lastTo (ps.map fun x => x.1) (s - 1)) (0, 0, 0) = q at *
  generalize q.1 = x at *
  generalize q.2.1 = y at *
  generalize q.2.2 = z at *
  have hfld : ∀ w, (Instr.field 85 (.agg #[.int .i64 (x : Int), .int .i64 (y : Int), .int .i64 z]) 2).run Tryz.prog w = .ok (.int .i64 z) w := fun _ => by kernel_rfl
  clear hcell hn hn0 hn9 hg hc1 hc2
  go_enter Tryz.func161, Tryz.ntmps161
  go_wp2_with fail
  refine hP.mono ?_; rintro e w1 ⟨rfl, hb1⟩
  go_wp2_with fail
  go_ret
  exact ⟨rfl, hb1⟩
/-- The pieces of a pair as a slice that the call has made. -/
theorem leafPieces_cells (p : Pr) (w : World) (h1 : p.1.carets ≤ 8) (h2 : p.2.carets ≤ 8) (he : p.1.carets = p.2.carets) :
    Calls Tryz.prog 66 #[.agg #[.string p.1.str, .string p.2.str]] w fun e w' => ∃ g cap : Nat, g < w'.heap.size ∧ p.1.carets + 1 ≤ cap ∧ cap ≤ maxLen ∧ (∀ i, i < (p.1.carets + 1) * 3 → w'.cell? ⟨g, i, none⟩ = some (.int .i64 ((flatP (pcs p)).getD i 0))) ∧ Below w.heap.size w w' ∧ e = .returned (.slice (some ⟨g, 0, none⟩) (p.1.carets + 1 : Nat) cap) := by
  have hpl := pcs_len p he
  refine (leafPieces_any p w h1 h2 he).mono ?_
  rintro e w' ⟨v, own, hb, rfl⟩
  rcases own.cells with ⟨_, h0⟩ | ⟨g, cap, rfl, _, hg, h1, h2, h3, _⟩
  · omega
  · rw [hpl] at h1 h3 ⊢
    exact ⟨g, cap, hg, h1, h2, h3, hb, rfl⟩
/-- One of both ends, as the program has it. -/
def endV : Bool → Nat → Value
  | true, s => .iface 73 (.int .i64 s)
  | false, s => .iface 74 (.int .i64 s)
def endF : Bool → FuncId
  | true => 160
  | false => 161
def endT : Bool → TypeId
  | true => 73
  | false => 74
def endS (ps : List (Nat × Nat × Int)) : Bool → Nat → Int
  | true, s => slAt ps s
  | false, s => slAt ps (s - 1)
theorem endV_eq (k : Bool) (s : Nat) : endV k s = .iface (endT k) (.int .i64 s) := by cases k <;> rfl
set_option maxRecDepth 100000 in
theorem nilAhead_end (k : Bool) (s : Int) : ∀ (m : Nat) (w : World), (nilAhead (m + 1) (endT k) (.int .i64 s) "loop.example/g01161/impl.slopeInside").run Tryz.prog w = .ok (some false) w := by
  cases k with
  | true => exact fun m w => by kernel_rfl
  | false => exact fun m w => by kernel_rfl
set_option maxRecDepth 100000 in
theorem method_end (k : Bool) (s : Int) : ∀ (m : Nat) (w : World), (method (m + 1) (endT k) (.int .i64 s) "loop.example/g01161/impl.slopeInside").run Tryz.prog w = .ok (endF k, .int .i64 s) w := by
  cases k with
  | true => exact fun m w => by kernel_rfl
  | false => exact fun m w => by kernel_rfl
set_option maxRecDepth 100000 in
theorem call_end (k : Bool) : ∀ (args : Array Value) (w : World), (callFunc (endF k) args).run Tryz.prog w = .ok (.enter (endF k) args) w := by
  cases k with
  | true => exact fun m w => by kernel_rfl
  | false => exact fun m w => by kernel_rfl
theorem endSlope_any (k : Bool) (g cap : Nat) (ps : List (Nat × Nat × Int)) (n s : Nat) (w : World) (hn : ps.length = n) (hn0 : 0 < n) (hn9 : n ≤ 1000) (hg : g < w.heap.size) (hc1 : n ≤ cap) (hc2 : cap ≤ maxLen)
    (hcell : ∀ i, i < n * 3 → w.cell? ⟨g, i, none⟩ = some (.int .i64 ((flatP ps).getD i 0))) (hs : k = false → 1 ≤ s) (hs2 : s ≤ 1048576) :
    Calls Tryz.prog (endF k) #[.int .i64 s, .slice (some ⟨g, 0, none⟩) n cap] w (Gives (.int .i64 (endS ps k s)) w) := by
  cases k with
  | true => exact leftSlope_any g cap ps n s w hn hn0 hn9 hg hc1 hc2 hcell
  | false => exact rightSlope_any g cap ps n s w hn hn0 hn9 hg hc1 hc2 hcell (hs rfl) hs2
/-- The slopes beside two ends. -/
def slopesO (a b : ByteArray) (j : Bool) (s : Nat) (k : Bool) (t : Nat) : Option (Int × Int) := (pairOf a b).map fun p => (endS (pcs p) j s, endS (pcs p) k t)
set_option maxRecDepth 100000 in
set_option maxHeartbeats 4000000 in
theorem slopesAt_any (a b : ByteArray) (j : Bool) (s : Nat) (k : Bool) (t : Nat) (w : World) (ha : a.size ≤ 9223372036854775806) (hb : b.size ≤ 9223372036854775806) (hs : j = false → 1 ≤ s) (hs2 : s ≤ 1048576) (ht : k = false → 1 ≤ t) (ht2 : t ≤ 1048576) :
    Calls Tryz.prog 52 #[.agg #[.string a, .string b], endV j s, endV k t] w (Gives (ans3 (slopesO a b j s k t)) w) := by
  unfold slopesO
  have hg := fun w => isPair_any a b w ha hb
  rw [endV_eq, endV_eq]
  cases h : pairOf a b with
  | none =>
    rw [h] at hg
    show Calls _ _ _ _ (Gives (ans3 none) w)
    clear h hs hs2 ht ht2
    go_enter Tryz.func52, Tryz.ntmps52
    go_wp2_with fail
    have hb0 : Below w.heap.size w (w.alloc (.cells #[.string a, .string b] 25 (0, 0))) := nxAlloc (Below.refl _ _) _
    have hx0 := heap_alloc_at w (.cells #[.string a, .string b] 25 (0, 0))
    generalize (w.alloc (.cells #[.string a, .string b] 25 (0, 0))) = w0 at *
    obtain ⟨hx0a, hx0b, hx0c⟩ := two_facts hx0
    obtain ⟨hx0f, hx0g⟩ := two_frozen hx0
    refine (hg _).mono ?_; rintro e w1 ⟨rfl, hb1⟩
    have hbw1 := nx hb0 hb1
    replace hx0 := heap_keep hb1 hx0
    clear hx0a hx0b hx0c hx0f hx0g
    obtain ⟨hx0a, hx0b, hx0c⟩ := two_facts hx0
    obtain ⟨hx0f, hx0g⟩ := two_frozen hx0
    clear hb1 hb0
    go_wp2_with fail
    go_ret3
    exact ⟨rfl, hbw1⟩
  | some p =>
    rw [h] at hg
    obtain ⟨rfl, rfl, hok, hc1, hc2⟩ := pairOf_some h
    clear h
    show Calls _ _ _ _ (Gives (ans3 (some (endS (pcs p) j s, endS (pcs p) k t))) w)
    have hM := fun w => leafPieces_cells p w hc1 hc2 hok
    have hpl := pcs_len p hok
    have E1 := fun g cap w h1 h2 h3 h4 => endSlope_any j g cap (pcs p) (p.1.carets + 1) s w hpl (by omega) (by omega) h1 h2 h3 h4 hs hs2
    have E2 := fun g cap w h1 h2 h3 h4 => endSlope_any k g cap (pcs p) (p.1.carets + 1) t w hpl (by omega) (by omega) h1 h2 h3 h4 ht ht2
    have nj := nilAhead_end j s
    have mj := method_end j s
    have cj := call_end j
    have nk := nilAhead_end k t
    have mk := method_end k t
    have ck := call_end k
    generalize endS (pcs p) j s = x at *
    generalize endS (pcs p) k t = y at *
    generalize pcs p = ps at *
    have hm0 : 0 < p.1.carets + 1 := by omega
    generalize p.1.carets + 1 = m at *
    clear hs hs2 ht ht2 hpl
    go_enter Tryz.func52, Tryz.ntmps52
    go_wp2_with fail
    have hb0 : Below w.heap.size w (w.alloc (.cells #[.string p.1.str, .string p.2.str] 25 (0, 0))) := nxAlloc (Below.refl _ _) _
    have hx0 := heap_alloc_at w (.cells #[.string p.1.str, .string p.2.str] 25 (0, 0))
    generalize (w.alloc (.cells #[.string p.1.str, .string p.2.str] 25 (0, 0))) = w0 at *
    obtain ⟨hx0a, hx0b, hx0c⟩ := two_facts hx0
    obtain ⟨hx0f, hx0g⟩ := two_frozen hx0
    refine (hg _).mono ?_; rintro e w1 ⟨rfl, hb1⟩
    have hbw1 := nx hb0 hb1
    replace hx0 := heap_keep hb1 hx0
    clear hx0a hx0b hx0c hx0f hx0g
    obtain ⟨hx0a, hx0b, hx0c⟩ := two_facts hx0
    obtain ⟨hx0f, hx0g⟩ := two_frozen hx0
    clear hb1 hb0
    go_wp2_with fail
    refine (hM _).mono ?_; rintro e w2 ⟨g, cap, hg2, m1, m2, hcl, hb2, rfl⟩
    have hbw2 := nx hbw1 hb2
    have HC := Lib.hid hcl
    clear hcl hM hg
    go_wp2_with fail
    refine (E1 g cap _ hg2 m1 m2 HC.out).mono ?_; rintro e w3 ⟨rfl, hb3⟩
    have hbw3 := nx hbw2 hb3
    go_wp2_with fail
    refine (E2 g cap _ (Nat.lt_of_lt_of_le hg2 hb3.size) m1 m2 (fun i hi => keep_cell hb3 (HC.out i hi))).mono ?_; rintro e w4 ⟨rfl, hb4⟩
    have hbw4 := nx hbw3 hb4
    go_wp2_with fail
    go_ret3
    exact ⟨rfl, hbw4⟩
end Go.Proofs.YtjmbkieocmhmiaaGreat

/-! Ob2 -/
namespace Go.Proofs.YtjmbkieocmhmiaaGreat
open Go.RowKit

/-- The slopes at both ends. -/
def endsO (a b : ByteArray) : Option (Int × Int) := (pairOf a b).map fun p => ((slopes p).getD 0 0, (slopes p).getD p.1.carets 0)
theorem slAt_slopes (p : Pr) (he : p.1.carets = p.2.carets) (s : Nat) : slAt (pcs p) s = (slopes p).getD (lastTo p.1.starts s) 0 := by
  unfold slAt
  rw [pcs_starts p he]
  have hl := lastTo_lt p.1.starts s (by rw [starts_length]; omega)
  rw [starts_length] at hl
  exact (slopes_get p (by rw [pcs_len p he]; exact hl)).symm
theorem ends_slopes (a b : ByteArray) : slopesO a b true 0 false 1048576 = endsO a b := by
  unfold slopesO endsO
  cases h : pairOf a b with
  | none => rfl
  | some p =>
    obtain ⟨rfl, rfl, hok, hc1, hc2⟩ := pairOf_some h
    show some (slAt (pcs p) 0, slAt (pcs p) (1048576 - 1)) = some _
    rw [slAt_slopes p hok, slAt_slopes p hok, pick_zero p.1 (by omega), pick_last p.1 (by omega)]
set_option maxHeartbeats 2000000 in
theorem implEndSlopes_any (a b : ByteArray) (w : World) (ha : a.size ≤ 9223372036854775806) (hb : b.size ≤ 9223372036854775806) :
    Calls Tryz.prog 21 #[.agg #[.string a, .string b]] w (Gives (ans3 (endsO a b)) w) := by
  have hS : ∀ w, Calls Tryz.prog 52 #[.agg #[.string a, .string b], .iface 73 (.int .i64 0), .iface 74 (.int .i64 1048576)] w (Gives (ans3 (endsO a b)) w) := by
    intro w
    have := slopesAt_any a b true 0 false 1048576 w ha hb (fun h => by simp at h) (by omega) (fun _ => by omega) (by omega)
    rw [ends_slopes] at this
    exact this
  unfold ans3 at *
  generalize (endsO a b).isSome = ok at *
  generalize ((endsO a b).getD (0, 0)).1 = x at *
  generalize ((endsO a b).getD (0, 0)).2 = y at *
  go_enter Tryz.func21, Tryz.ntmps21
  go_wp2_with fail
  have hb0 : Below w.heap.size w (w.alloc (.cells #[.string a, .string b] 25 (0, 0))) := nxAlloc (Below.refl _ _) _
  have hx0 := heap_alloc_at w (.cells #[.string a, .string b] 25 (0, 0))
  generalize (w.alloc (.cells #[.string a, .string b] 25 (0, 0))) = w0 at *
  obtain ⟨hx0a, hx0b, hx0c⟩ := two_facts hx0
  obtain ⟨hx0f, hx0g⟩ := two_frozen hx0
  refine (hS _).mono ?_; rintro e w1 ⟨rfl, hb1⟩
  have hbw1 := nx hb0 hb1
  replace hx0 := heap_keep hb1 hx0
  clear hx0a hx0b hx0c hx0f hx0g
  obtain ⟨hx0a, hx0b, hx0c⟩ := two_facts hx0
  obtain ⟨hx0f, hx0g⟩ := two_frozen hx0
  clear hb1 hb0
  go_wp2_with fail
  go_ret3
  exact ⟨rfl, hbw1⟩

set_option maxRecDepth 100000 in
set_option maxHeartbeats 2000000 in
theorem specEndSlopes_any (a b : ByteArray) (w : World) (ha : a.size ≤ 9223372036854775806) (hb : b.size ≤ 9223372036854775806) :
    Calls Tryz.prog 23 #[.agg #[.string a, .string b]] w (Gives (ans3 (endsO a b)) w) := by
  have hg := fun w => prGood_any a b w ha hb
  unfold endsO
  cases h : pairOf a b with
  | none =>
    rw [h] at hg
    show Calls _ _ _ _ (Gives (ans3 none) w)
    clear h
    go_enter Tryz.func23, Tryz.ntmps23
    go_wp2_with fail
    have hb0 : Below w.heap.size w (w.alloc (.cells #[.string a, .string b] 25 (0, 0))) := nxAlloc (Below.refl _ _) _
    have hx0 := heap_alloc_at w (.cells #[.string a, .string b] 25 (0, 0))
    generalize (w.alloc (.cells #[.string a, .string b] 25 (0, 0))) = w0 at *
    obtain ⟨hx0a, hx0b, hx0c⟩ := two_facts hx0
    obtain ⟨hx0f, hx0g⟩ := two_frozen hx0
    refine (hg _).mono ?_; rintro e w1 ⟨rfl, hb1⟩
    have hbw1 := nx hb0 hb1
    replace hx0 := heap_keep hb1 hx0
    clear hx0a hx0b hx0c hx0f hx0g
    obtain ⟨hx0a, hx0b, hx0c⟩ := two_facts hx0
    obtain ⟨hx0f, hx0g⟩ := two_frozen hx0
    clear hb1 hb0
    go_wp2_with fail
    go_ret3
    exact ⟨rfl, hbw1⟩
  | some p =>
    rw [h] at hg
    obtain ⟨rfl, rfl, hok, hc1, hc2⟩ := pairOf_some h
    clear h
    show Calls _ _ _ _ (Gives (ans3 (some ((slopes p).getD 0 0, (slopes p).getD p.1.carets 0))) w)
    have hsl : (slopes p).length = p.1.carets + 1 := by
      have l1 := addrs_length p.1 ⟨#[]⟩
      have l2 := addrs_length p.2 ⟨#[]⟩
      have hok' : p.1.carets = p.2.carets := hok
      show (slopesL _ _).length = _
      rw [slopesL_length _ _ (by omega)]; omega
    have hM := fun w => mpSlopes_any p w hc1 hc2 hok
    generalize slopes p = ps at *
    have hM' : ∀ w, Calls Tryz.prog 54 #[.agg #[.string p.1.str, .string p.2.str]] w fun e w' => ∃ g cap : Nat, w'.cell? ⟨g, 0, none⟩ = some (.int .i64 (ps.getD 0 0)) ∧ w'.cell? ⟨g, p.1.carets, none⟩ = some (.int .i64 (ps.getD p.1.carets 0)) ∧ p.1.carets + 1 ≤ cap ∧ cap ≤ maxLen ∧ Below w.heap.size w w' ∧ e = .returned (.slice (some ⟨g, 0, none⟩) (p.1.carets + 1 : Nat) cap) := by
      intro w
      refine (hM w).mono ?_
      rintro e w' ⟨v, own, hb, rfl⟩
      rcases own.cells with ⟨_, h0⟩ | ⟨g, cap, rfl, _, hg, h1, h2, h3, _⟩
      · rw [h0] at hsl; simp at hsl
      · rw [hsl] at h1 ⊢
        exact ⟨g, cap, h3 0 (by omega), h3 p.1.carets (by omega), h1, h2, hb, rfl⟩
    generalize ps.getD 0 0 = x at *
    generalize ps.getD p.1.carets 0 = y at *
    obtain ⟨c, hcc⟩ : ∃ c, c = p.1.carets := ⟨_, rfl⟩
    rw [← hcc] at hM'
    obtain ⟨m, hm⟩ : ∃ m, m = c + 1 := ⟨_, rfl⟩
    rw [← hm] at hM'
    have hw : IntKind.i64.wrap ((m : Int) - 1) = (c : Int) := by rw [IntKind.wrap_i64] <;> omega
    have hlt : (c : Int) < (m : Int) := by omega
    have hm0 : (0 : Int) < (m : Int) := by omega
    clear hM hsl hcc hm hc1 hc2 hok
    go_enter Tryz.func23, Tryz.ntmps23
    go_wp2_with fail
    have hb0 : Below w.heap.size w (w.alloc (.cells #[.string p.1.str, .string p.2.str] 25 (0, 0))) := nxAlloc (Below.refl _ _) _
    have hx0 := heap_alloc_at w (.cells #[.string p.1.str, .string p.2.str] 25 (0, 0))
    generalize (w.alloc (.cells #[.string p.1.str, .string p.2.str] 25 (0, 0))) = w0 at *
    obtain ⟨hx0a, hx0b, hx0c⟩ := two_facts hx0
    obtain ⟨hx0f, hx0g⟩ := two_frozen hx0
    refine (hg _).mono ?_; rintro e w1 ⟨rfl, hb1⟩
    have hbw1 := nx hb0 hb1
    replace hx0 := heap_keep hb1 hx0
    clear hx0a hx0b hx0c hx0f hx0g
    obtain ⟨hx0a, hx0b, hx0c⟩ := two_facts hx0
    obtain ⟨hx0f, hx0g⟩ := two_frozen hx0
    clear hb1 hb0
    go_wp2_with fail
    refine (hM' _).mono ?_; rintro e w2 ⟨g, cap, k1, k2, m1, m2, hb2, rfl⟩
    have hbw2 := nx hbw1 hb2
    go_wp2_with fail
    go_quiet (fail)
    go_wp2_with fail
    go_ret3
    exact ⟨rfl, drewB hbw2 _⟩
end Go.Proofs.YtjmbkieocmhmiaaGreat

/-! WIsInner -/
namespace Go.Proofs.YtjmbkieocmhmiaaGreat
open Go.RowKit

def innerO (a b : ByteArray) : Option Bool := (endsO a b).map fun q => q.1 == 0 && q.2 == 0

set_option maxRecDepth 100000 in
set_option maxHeartbeats 2000000 in
theorem implIsInner_any (a b : ByteArray) (w : World) (ha : a.size ≤ 9223372036854775806) (hb : b.size ≤ 9223372036854775806) :
    Calls Tryz.prog 20 #[.agg #[.string a, .string b]] w (Gives (ansB (innerO a b)) w) := by
  have hS := fun w => implEndSlopes_any a b w ha hb
  unfold innerO
  cases h : endsO a b with
  | none =>
    rw [h] at hS
    show Calls _ _ _ _ (Gives (ansB none) w)
    have hS' : ∀ w, Calls Tryz.prog 21 #[.agg #[.string a, .string b]] w (Gives (.tuple #[.int .i64 0, .int .i64 0, .bool false]) w) := hS
    clear h hS
    go_enter Tryz.func20, Tryz.ntmps20
    go_wp2_with fail
    have hb0 : Below w.heap.size w (w.alloc (.cells #[.string a, .string b] 25 (0, 0))) := nxAlloc (Below.refl _ _) _
    have hx0 := heap_alloc_at w (.cells #[.string a, .string b] 25 (0, 0))
    generalize (w.alloc (.cells #[.string a, .string b] 25 (0, 0))) = w0 at *
    obtain ⟨hx0a, hx0b, hx0c⟩ := two_facts hx0
    obtain ⟨hx0f, hx0g⟩ := two_frozen hx0
    refine (hS' _).mono ?_; rintro e w1 ⟨rfl, hb1⟩
    have hbw1 := nx hb0 hb1
    replace hx0 := heap_keep hb1 hx0
    clear hx0a hx0b hx0c hx0f hx0g
    obtain ⟨hx0a, hx0b, hx0c⟩ := two_facts hx0
    obtain ⟨hx0f, hx0g⟩ := two_frozen hx0
    clear hb1 hb0
    go_wp2_with fail
    go_ret2
    exact ⟨rfl, hbw1⟩
  | some q =>
    rw [h] at hS
    obtain ⟨x, y⟩ := q
    show Calls _ _ _ _ (Gives (ansB (some (x == 0 && y == 0))) w)
    have hS' : ∀ w, Calls Tryz.prog 21 #[.agg #[.string a, .string b]] w (Gives (.tuple #[.int .i64 x, .int .i64 y, .bool true]) w) := hS
    clear h hS
    by_cases hx : x = 0
    · subst hx
      rw [show ((0 : Int) == 0 && y == 0) = (y == 0) by simp]
      go_enter Tryz.func20, Tryz.ntmps20
      go_wp2_with fail
      have hb0 : Below w.heap.size w (w.alloc (.cells #[.string a, .string b] 25 (0, 0))) := nxAlloc (Below.refl _ _) _
      have hx0 := heap_alloc_at w (.cells #[.string a, .string b] 25 (0, 0))
      generalize (w.alloc (.cells #[.string a, .string b] 25 (0, 0))) = w0 at *
      obtain ⟨hx0a, hx0b, hx0c⟩ := two_facts hx0
      obtain ⟨hx0f, hx0g⟩ := two_frozen hx0
      refine (hS' _).mono ?_; rintro e w1 ⟨rfl, hb1⟩
      have hbw1 := nx hb0 hb1
      replace hx0 := heap_keep hb1 hx0
      clear hx0a hx0b hx0c hx0f hx0g
      obtain ⟨hx0a, hx0b, hx0c⟩ := two_facts hx0
      obtain ⟨hx0f, hx0g⟩ := two_frozen hx0
      clear hb1 hb0
      go_wp2_with fail
      go_ret2
      exact ⟨by first | rfl | simp [ansB], hbw1⟩
    · rw [show (x == 0 && y == 0) = false by simp [hx]]
      go_enter Tryz.func20, Tryz.ntmps20
      go_wp2_with fail
      have hb0 : Below w.heap.size w (w.alloc (.cells #[.string a, .string b] 25 (0, 0))) := nxAlloc (Below.refl _ _) _
      have hx0 := heap_alloc_at w (.cells #[.string a, .string b] 25 (0, 0))
      generalize (w.alloc (.cells #[.string a, .string b] 25 (0, 0))) = w0 at *
      obtain ⟨hx0a, hx0b, hx0c⟩ := two_facts hx0
      obtain ⟨hx0f, hx0g⟩ := two_frozen hx0
      refine (hS' _).mono ?_; rintro e w1 ⟨rfl, hb1⟩
      have hbw1 := nx hb0 hb1
      replace hx0 := heap_keep hb1 hx0
      clear hx0a hx0b hx0c hx0f hx0g
      obtain ⟨hx0a, hx0b, hx0c⟩ := two_facts hx0
      obtain ⟨hx0f, hx0g⟩ := two_frozen hx0
      clear hb1 hb0
      go_wp2_with fail
      go_ret2
      exact ⟨by first | rfl | simp [ansB], hbw1⟩

set_option maxRecDepth 100000 in
set_option maxHeartbeats 2000000 in
theorem specIsInner_any (a b : ByteArray) (w : World) (ha : a.size ≤ 9223372036854775806) (hb : b.size ≤ 9223372036854775806) :
    Calls Tryz.prog 24 #[.agg #[.string a, .string b]] w (Gives (ansB (innerO a b)) w) := by
  have hg := fun w => prGood_any a b w ha hb
  unfold innerO
  unfold endsO
  cases h : pairOf a b with
  | none =>
    rw [h] at hg
    show Calls _ _ _ _ (Gives (ansB none) w)
    clear h
    go_enter Tryz.func24, Tryz.ntmps24
    go_wp2_with fail
    have hb0 : Below w.heap.size w (w.alloc (.cells #[.string a, .string b] 25 (0, 0))) := nxAlloc (Below.refl _ _) _
    have hx0 := heap_alloc_at w (.cells #[.string a, .string b] 25 (0, 0))
    generalize (w.alloc (.cells #[.string a, .string b] 25 (0, 0))) = w0 at *
    obtain ⟨hx0a, hx0b, hx0c⟩ := two_facts hx0
    obtain ⟨hx0f, hx0g⟩ := two_frozen hx0
    refine (hg _).mono ?_; rintro e w1 ⟨rfl, hb1⟩
    have hbw1 := nx hb0 hb1
    replace hx0 := heap_keep hb1 hx0
    clear hx0a hx0b hx0c hx0f hx0g
    obtain ⟨hx0a, hx0b, hx0c⟩ := two_facts hx0
    obtain ⟨hx0f, hx0g⟩ := two_frozen hx0
    clear hb1 hb0
    go_wp2_with fail
    go_ret2
    exact ⟨rfl, hbw1⟩
  | some p =>
    rw [h] at hg
    obtain ⟨rfl, rfl, hok, hc1, hc2⟩ := pairOf_some h
    clear h
    show Calls _ _ _ _ (Gives (ansB (some ((slopes p).getD 0 0 == 0 && (slopes p).getD p.1.carets 0 == 0))) w)
    have hsl : (slopes p).length = p.1.carets + 1 := by
      have l1 := addrs_length p.1 ⟨#[]⟩
      have l2 := addrs_length p.2 ⟨#[]⟩
      have hok' : p.1.carets = p.2.carets := hok
      show (slopesL _ _).length = _
      rw [slopesL_length _ _ (by omega)]; omega
    have hM := fun w => mpSlopes_any p w hc1 hc2 hok
    generalize slopes p = ps at *
    have hM' : ∀ w, Calls Tryz.prog 54 #[.agg #[.string p.1.str, .string p.2.str]] w fun e w' => ∃ g cap : Nat, w'.cell? ⟨g, 0, none⟩ = some (.int .i64 (ps.getD 0 0)) ∧ w'.cell? ⟨g, p.1.carets, none⟩ = some (.int .i64 (ps.getD p.1.carets 0)) ∧ p.1.carets + 1 ≤ cap ∧ cap ≤ maxLen ∧ Below w.heap.size w w' ∧ e = .returned (.slice (some ⟨g, 0, none⟩) (p.1.carets + 1 : Nat) cap) := by
      intro w
      refine (hM w).mono ?_
      rintro e w' ⟨v, own, hb, rfl⟩
      rcases own.cells with ⟨_, h0⟩ | ⟨g, cap, rfl, _, hg, h1, h2, h3, _⟩
      · rw [h0] at hsl; simp at hsl
      · rw [hsl] at h1 ⊢
        exact ⟨g, cap, h3 0 (by omega), h3 p.1.carets (by omega), h1, h2, hb, rfl⟩
    generalize ps.getD 0 0 = x at *
    generalize ps.getD p.1.carets 0 = y at *
    obtain ⟨c, hcc⟩ : ∃ c, c = p.1.carets := ⟨_, rfl⟩
    rw [← hcc] at hM'
    obtain ⟨m, hm⟩ : ∃ m, m = c + 1 := ⟨_, rfl⟩
    rw [← hm] at hM'
    have hw : IntKind.i64.wrap ((m : Int) - 1) = (c : Int) := by rw [IntKind.wrap_i64] <;> omega
    have hlt : (c : Int) < (m : Int) := by omega
    have hm0 : (0 : Int) < (m : Int) := by omega
    clear hM hsl hcc hm hc1 hc2 hok
    by_cases hx : x = 0
    · subst hx
      rw [show ((0 : Int) == 0 && y == 0) = (y == 0) by simp]
      go_enter Tryz.func24, Tryz.ntmps24
      go_wp2_with fail
      have hb0 : Below w.heap.size w (w.alloc (.cells #[.string p.1.str, .string p.2.str] 25 (0, 0))) := nxAlloc (Below.refl _ _) _
      have hx0 := heap_alloc_at w (.cells #[.string p.1.str, .string p.2.str] 25 (0, 0))
      generalize (w.alloc (.cells #[.string p.1.str, .string p.2.str] 25 (0, 0))) = w0 at *
      obtain ⟨hx0a, hx0b, hx0c⟩ := two_facts hx0
      obtain ⟨hx0f, hx0g⟩ := two_frozen hx0
      refine (hg _).mono ?_; rintro e w1 ⟨rfl, hb1⟩
      have hbw1 := nx hb0 hb1
      replace hx0 := heap_keep hb1 hx0
      clear hx0a hx0b hx0c hx0f hx0g
      obtain ⟨hx0a, hx0b, hx0c⟩ := two_facts hx0
      obtain ⟨hx0f, hx0g⟩ := two_frozen hx0
      clear hb1 hb0
      go_wp2_with fail
      refine (hM' _).mono ?_; rintro e w2 ⟨g, cap, k1, k2, m1, m2, hb2, rfl⟩
      have hbw2 := nx hbw1 hb2
      go_wp2_with fail
      go_ret2
      exact ⟨by first | rfl | simp [ansB], hbw2⟩
    · rw [show (x == 0 && y == 0) = false by simp [hx]]
      go_enter Tryz.func24, Tryz.ntmps24
      go_wp2_with fail
      have hb0 : Below w.heap.size w (w.alloc (.cells #[.string p.1.str, .string p.2.str] 25 (0, 0))) := nxAlloc (Below.refl _ _) _
      have hx0 := heap_alloc_at w (.cells #[.string p.1.str, .string p.2.str] 25 (0, 0))
      generalize (w.alloc (.cells #[.string p.1.str, .string p.2.str] 25 (0, 0))) = w0 at *
      obtain ⟨hx0a, hx0b, hx0c⟩ := two_facts hx0
      obtain ⟨hx0f, hx0g⟩ := two_frozen hx0
      refine (hg _).mono ?_; rintro e w1 ⟨rfl, hb1⟩
      have hbw1 := nx hb0 hb1
      replace hx0 := heap_keep hb1 hx0
      clear hx0a hx0b hx0c hx0f hx0g
      obtain ⟨hx0a, hx0b, hx0c⟩ := two_facts hx0
      obtain ⟨hx0f, hx0g⟩ := two_frozen hx0
      clear hb1 hb0
      go_wp2_with fail
      refine (hM' _).mono ?_; rintro e w2 ⟨g, cap, k1, k2, m1, m2, hb2, rfl⟩
      have hbw2 := nx hbw1 hb2
      go_wp2_with fail
      go_ret2
      exact ⟨by first | rfl | simp [ansB], hbw2⟩

end Go.Proofs.YtjmbkieocmhmiaaGreat

/-! WIdentityPair -/
namespace Go.Proofs.YtjmbkieocmhmiaaGreat
open Go.RowKit

end Go.Proofs.YtjmbkieocmhmiaaGreat

/-! BasA -/
namespace Go.Proofs.YtjmbkieocmhmiaaGreat
end Go.Proofs.YtjmbkieocmhmiaaGreat

/-! WDoCommute -/
namespace Go.Proofs.YtjmbkieocmhmiaaGreat
open Go.RowKit

/-- The product of two pairs, if both are and it is one. -/
noncomputable def prodO (a b c d : ByteArray) : Option Pr := (pairOf a b).bind fun p => (pairOf c d).bind fun q => limP (mulP p q)
noncomputable def eqPr (r s : Pr) : Bool := @decide (r = s) (Classical.propDecidable _)
/-- Are both products the same? -/
noncomputable def commO (a b c d : ByteArray) : Option Bool := (prodO a b c d).bind fun r => (prodO c d a b).bind fun s => some (eqPr r s)
theorem eq_cases (r s : Pr) : (r = s ∧ eqPr r s = true) ∨ (r.1 = s.1 ∧ ¬ r.2.str.toList = s.2.str.toList ∧ eqPr r s = false) ∨ (¬ r.1.str.toList = s.1.str.toList ∧ eqPr r s = false) := by
  unfold eqPr
  by_cases h1 : r.1 = s.1
  · by_cases h2 : r.2 = s.2
    · exact .inl ⟨Prod.ext h1 h2, by simp [Prod.ext h1 h2]⟩
    · exact .inr (.inl ⟨h1, fun e => h2 (str_inj e), by simp; intro e; exact h2 (by rw [e])⟩)
  · exact .inr (.inr ⟨fun e => h1 (str_inj e), by simp; intro e; exact h1 (by rw [e])⟩)

theorem prodO_some {a b c d : ByteArray} {p q : Pr} (h : pairOf a b = some p) (k : pairOf c d = some q) : prodO a b c d = limP (mulP p q) := by
  unfold prodO; rw [h, k]; rfl
end Go.Proofs.YtjmbkieocmhmiaaGreat
