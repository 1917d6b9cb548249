/- Texts that the claim needs, part 6. -/
import Derived.Test.YtjmbkieocmhmiaaGreatMgEndsAddUp4
import Derived.OwnWalk
import Derived.Laws.OwnMore
/-! Sl2 -/
namespace Go.Proofs.YtjmbkieocmhmiaaGreat
open Go.RowKit

theorem start_any (x y z : Int) (w : World) : Calls Tryz.prog 97 #[.agg #[.int .i64 x, .int .i64 y, .int .i64 z]] w (Gives (.int .i64 x) w) := by
  go_enter Tryz.func97, Tryz.ntmps97
  go_wp2_with fail
  go_ret
  exact ⟨rfl, nxAlloc (Below.refl _ _) _⟩
set_option maxRecDepth 100000 in
set_option maxHeartbeats 2000000 in
theorem lastUpToP_any (g cap : Nat) (ps : List (Nat × Nat × Int)) (n s : Nat) (w : World) (hn : ps.length = n) (hn9 : n ≤ 1000) (hg : g < w.heap.size) (hc1 : n ≤ cap) (_hc2 : cap ≤ maxLen)
    (hcell : ∀ i, i < n * 3 → w.cell? ⟨g, i, none⟩ = some (.int .i64 ((flatP ps).getD i 0))) :
    Calls Tryz.prog 96 #[.slice (some ⟨g, 0, none⟩) n cap, .int .i64 s, .func (Fn.func 97) #[] #[]] w (Gives (.int .i64 (lastTo (ps.map fun x => x.1) s)) w) := by
  have hcall : ∀ (args : Array Value) (w : World), (callFunc 97 args).run Tryz.prog w = .ok (.enter 97 args) w := fun _ _ => by kernel_rfl
  obtain ⟨S, hS⟩ : ∃ S : List Nat, S = ps.map fun x => x.1 := ⟨_, rfl⟩
  rw [← hS]
  have hSl : S.length = n := by rw [hS]; simp [hn]
  have hst : ∀ k, k < n → S.getD k 0 = (ps.getD k (0, 0, 0)).1 := by intro k hk; have : k < ps.length := by omega
                                                                     rw [hS]; simp [this]
  have HT := Lib.hid hst
  have HNN := Lib.hid hn
  have HC := Lib.hid hcell
  unfold maxLen at _hc2
  clear hst hS hn hcell
  go_enter Tryz.func96, Tryz.ntmps96
  go_wp2_with fail
  go_loopw [7, 11] (fun v i wr => ∃ k : Nat, k ≤ n ∧ i = .int .i64 k ∧ v = .int .i64 (lastTo (S.take k) s) ∧ Below w.heap.size w wr) (fun _ i _ => n - (intOf i).toNat)
  case atStart => exact ⟨0, Nat.zero_le _, rfl, rfl, Below.refl _ _⟩
  case round =>
    obtain ⟨k, hk, rfl, rfl, hbw⟩ := hrel
    by_cases hlt : k < n
    · have hlt' : (k : Int) < (n : Int) := by omega
      have hN := HNN.out
      have fg := flatP_get ps k (by omega)
      have c1 := (hbw.cell (p := ⟨g, k * 3, none⟩) hg).trans (HC.out (k * 3) (by omega))
      have c2 := (hbw.cell (p := ⟨g, k * 3 + 1, none⟩) hg).trans (HC.out (k * 3 + 1) (by omega))
      have c3 := (hbw.cell (p := ⟨g, k * 3 + 2, none⟩) hg).trans (HC.out (k * 3 + 2) (by omega))
      rw [fg.1] at c1
      rw [fg.2.1] at c2
      rw [fg.2.2] at c3
      have hnext := lastTo_take (l := S) (k := k) (s := s) (by omega)
      rw [HT.out k hlt] at hnext
      generalize (ps.getD k (0, 0, 0)).2.2 = z at *
      generalize (ps.getD k (0, 0, 0)).2.1 = y at *
      generalize (ps.getD k (0, 0, 0)).1 = x at *
      have hS := fun w => start_any (x : Int) (y : Int) z w
      clear fg hN
      by_cases hle : x ≤ s
      · rw [if_pos hle] at hnext
        have HN := Lib.hid hnext
        have hle' : (x : Int) ≤ (s : Int) := by omega
        clear hnext hle
        go_wp2_with fail
        refine (hS _).mono ?_; rintro e w3 ⟨rfl, hb3⟩
        have hbw3 := nx hbw hb3
        go_wp2_with fail
        go_roundw
        case rel => exact ⟨k + 1, by omega, by go_num, by rw [HN.out], hbw3⟩
        case measure => simp [intOf]; omega
      · rw [if_neg hle] at hnext
        have HN := Lib.hid hnext
        have hle' : ¬ (x : Int) ≤ (s : Int) := by omega
        clear hnext hle
        go_wp2_with fail
        refine (hS _).mono ?_; rintro e w3 ⟨rfl, hb3⟩
        have hbw3 := nx hbw hb3
        go_wp2_with fail
        go_roundw
        case rel => exact ⟨k + 1, by omega, by go_num, by rw [HN.out], hbw3⟩
        case measure => simp [intOf]; omega
    · obtain rfl : k = n := by omega
      rw [List.take_of_length_le (by omega)]
      go_wp2_with fail
      go_ret
      exact ⟨rfl, hbw⟩

theorem three_cells {w : World} {g : Nat} {a b c : Value} {t : TypeId} (h : w.heap[g]? = some (.cells #[a, b, c] t (0, 0))) : w.cell? ⟨g, 0, none⟩ = some a ∧ w.cell? ⟨g, 1, none⟩ = some b ∧ w.cell? ⟨g, 2, none⟩ = some c := by
  simp [World.cell?, h]
theorem three_frozen {w : World} {g : Nat} {a b c : Value} {t : TypeId} (h : w.heap[g]? = some (.cells #[a, b, c] t (0, 0))) : w.frozen? ⟨g, 0, none⟩ = false ∧ w.frozen? ⟨g, 1, none⟩ = false ∧ w.frozen? ⟨g, 2, none⟩ = false := by
  simp [World.frozen?, h]
theorem set_three {w : World} {g : Nat} {a b c : Value} (a' b' c' : Value) {t : TypeId} (h : w.heap[g]? = some (.cells #[a, b, c] t (0, 0))) : (((w.setCell ⟨g, 0, none⟩ a').setCell ⟨g, 1, none⟩ b').setCell ⟨g, 2, none⟩ c').heap[g]? = some (.cells #[a', b', c'] t (0, 0)) :=
  Joins.block_setCell (Joins.block_setCell (Joins.block_setCell h a') b') c'

set_option maxRecDepth 100000 in
set_option maxHeartbeats 2000000 in
theorem pieceAt_any (g cap : Nat) (ps : List (Nat × Nat × Int)) (n s : Nat) (w : World) (hn : ps.length = n) (hn0 : 0 < n) (hn9 : n ≤ 1000) (hg : g < w.heap.size) (hc1 : n ≤ cap) (hc2 : cap ≤ maxLen)
    (hcell : ∀ i, i < n * 3 → w.cell? ⟨g, i, none⟩ = some (.int .i64 ((flatP ps).getD i 0))) :
    Calls Tryz.prog 65 #[.slice (some ⟨g, 0, none⟩) n cap, .int .i64 s] w (Gives (.agg #[.int .i64 (ps.getD (lastTo (ps.map fun x => x.1) s) (0, 0, 0)).1, .int .i64 (ps.getD (lastTo (ps.map fun x => x.1) s) (0, 0, 0)).2.1, .int .i64 (ps.getD (lastTo (ps.map fun x => x.1) s) (0, 0, 0)).2.2]) w) := by
  obtain ⟨o, ho⟩ : ∃ o : Obj, o = .cells #[.int .i64 0, .int .i64 0, .int .i64 0] 85 (0, 0) := ⟨_, rfl⟩
  have hb0 : Below w.heap.size w (w.alloc o) := nxAlloc (Below.refl _ _) _
  have hcell' : ∀ i, i < n * 3 → (w.alloc o).cell? ⟨g, i, none⟩ = some (.int .i64 ((flatP ps).getD i 0)) := fun i hi => (hb0.cell (p := ⟨g, i, none⟩) hg).trans (hcell i hi)
  have hg' : g < (w.alloc o).heap.size := Nat.lt_of_lt_of_le hg hb0.size
  have hU := lastUpToP_any g cap ps n s (w.alloc o) hn hn9 hg' hc1 hc2 hcell'
  have hlt := lastTo_lt (ps.map fun x => x.1) s (by simp; omega)
  rw [List.length_map, hn] at hlt
  generalize lastTo (ps.map fun x => x.1) s = r at *
  have fg := flatP_get ps r (by omega)
  have d1 := hcell' (r * 3) (by omega)
  have d2 := hcell' (r * 3 + 1) (by omega)
  have d3 := hcell' (r * 3 + 2) (by omega)
  rw [fg.1] at d1
  rw [fg.2.1] at d2
  rw [fg.2.2] at d3
  generalize (ps.getD r (0, 0, 0)).2.2 = z at *
  generalize (ps.getD r (0, 0, 0)).2.1 = y at *
  generalize (ps.getD r (0, 0, 0)).1 = x at *
  have hx0 := heap_alloc_at w o
  rw [ho] at hU d1 d2 d3 hg' hx0 hb0
  have hlt' : (r : Int) < (n : Int) := by omega
  unfold maxLen at hc2
  clear hcell hcell' fg hn ho
  go_enter Tryz.func65, Tryz.ntmps65
  go_wp2_with fail
  refine hU.mono ?_; rintro e w1 ⟨rfl, hb1⟩
  have c1 := (hb1.cell (p := ⟨g, r * 3, none⟩) hg').trans d1
  have c2 := (hb1.cell (p := ⟨g, r * 3 + 1, none⟩) hg').trans d2
  have c3 := (hb1.cell (p := ⟨g, r * 3 + 2, none⟩) hg').trans d3
  have hx1 := heap_keep hb1 hx0
  have hbw1 := nx hb0 hb1
  obtain ⟨ka, kb, kc⟩ := three_cells hx1
  obtain ⟨kf, kg, kh⟩ := three_frozen hx1
  clear d1 d2 d3 hx0 hb0 hb1 hU
  go_wp2_with fail
  obtain ⟨q1, q2, q3⟩ := three_cells (set_three (.int .i64 x) (.int .i64 y) (.int .i64 z) hx1)
  refine bodyPost_ret (v := .agg #[.int .i64 x, .int .i64 y, .int .i64 z]) (by simp [q1, q2, q3, results, Tryz.results65, go_sem]) rfl ⟨rfl, ?_⟩
  exact ((hbw1.setCell (by show w.heap.size ≤ w.heap.size; omega) _).setCell (by show w.heap.size ≤ w.heap.size; omega) _).setCell (by show w.heap.size ≤ w.heap.size; omega) _
end Go.Proofs.YtjmbkieocmhmiaaGreat

/-! WSlopeAt -/
namespace Go.Proofs.YtjmbkieocmhmiaaGreat
open Go.RowKit

def ansZ (o : Option Int) : Value := .tuple #[.int .i64 (o.getD 0), .bool o.isSome]
/-- The slope at a fraction. -/
def slopeAtO (a b : ByteArray) (n d : Int) : Option Int := (pairOf a b).bind fun p => if isFr n d = true then some ((slopes p).getD (lastTo p.1.starts (stepsOf n d)) 0) else none
theorem pcs_starts (p : Pr) (he : p.1.carets = p.2.carets) : (pcs p).map (fun x => x.1) = p.1.starts := by
  have : ∀ (l m : List ByteArray), l.length = m.length → (pcsL l m).map (fun x => x.1) = l.map stA := by
    intro l
    induction l with
    | nil => intro m h; cases m <;> rfl
    | cons a l ih => intro m h; match m, h with
      | b :: m, h => simp [pcsL, ih m (by simpa using h)]
  have l1 := addrs_length p.1 ⟨#[]⟩
  have l2 := addrs_length p.2 ⟨#[]⟩
  exact this _ _ (by omega)
theorem pcs_len (p : Pr) (he : p.1.carets = p.2.carets) : (pcs p).length = p.1.carets + 1 := by
  have l1 := addrs_length p.1 ⟨#[]⟩
  have l2 := addrs_length p.2 ⟨#[]⟩
  have := pcsL_length (p.1.addrs ⟨#[]⟩) (p.2.addrs ⟨#[]⟩) (by omega)
  show (pcsL (p.1.addrs ⟨#[]⟩) (p.2.addrs ⟨#[]⟩)).length = _
  omega
theorem slopes_get (p : Pr) {k : Nat} (h : k < (pcs p).length) : (slopes p).getD k 0 = ((pcs p).getD k (0, 0, 0)).2.2 := by
  rw [← slopes_pcs]; simp [h]

end Go.Proofs.YtjmbkieocmhmiaaGreat

/-! VlP -/
namespace Go.Proofs.YtjmbkieocmhmiaaGreat

theorem frOf_bd {a : ByteArray} (h : a.size ≤ 8) (hb : a.data.toList.all isBit = true) :
    (frOf (stA a)).1 ≤ 256 ∧ 0 < (frOf (stA a)).2 ∧ (frOf (stA a)).2 ≤ 256 ∧ (frOf (stA a)).1 * 1048576 = stA a * (frOf (stA a)).2 := by
  rw [stA_frOf (by omega)]
  have h1 := numA_lt _ a.data.toList rfl hb
  have h2 : a.data.toList.length = a.size := rfl
  rw [h2] at h1
  have h3 : 2 ^ a.size ≤ 2 ^ 8 := Nat.pow_le_pow_right (by omega) h
  have c := stA_cross (a := a) (by omega)
  refine ⟨?_, short_pos (Nat.pow_pos (by omega)), ?_, c⟩
  · exact Nat.le_trans (Nat.div_le_self _ _) (by omega)
  · exact Nat.le_trans (Nat.div_le_self _ _) (by omega)
theorem vl_sub {n d s na da sa : Nat} (h : n * 1048576 = s * d) (ha : na * 1048576 = sa * da) (hs : sa ≤ s) : na * d ≤ n * da := by
  have e : na * d * 1048576 ≤ n * da * 1048576 := by
    calc na * d * 1048576 = (na * 1048576) * d := by ac_rfl
      _ = sa * (da * d) := by rw [ha]; ac_rfl
      _ ≤ s * (da * d) := Nat.mul_le_mul_right _ hs
      _ = (s * d) * da := by ac_rfl
      _ = n * da * 1048576 := by rw [← h]; ac_rfl
  omega
theorem vl_short {n d na da nb db la lb s sa sb : Nat} (h : n * 1048576 = s * d) (ha : na * 1048576 = sa * da) (hb : nb * 1048576 = sb * db)
    (hs : s % 1024 = 0) (hsa : sa % 1024 = 0) (hl : lb ≤ 10) (hd : 0 < d) (hda : 0 < da) (hdb : 0 < db) :
    0 < d * da * 2 ^ lb * db ∧ shortN ((n * da - na * d) * 2 ^ la * db + nb * (d * da * 2 ^ lb)) (d * da * 2 ^ lb * db) = frOf (valN sa la sb lb s) := by
  have hp : 0 < d * da * 2 ^ lb * db := Nat.mul_pos (Nat.mul_pos (Nat.mul_pos hd hda) (Nat.pow_pos (by omega))) hdb
  exact ⟨hp, short_cross hp (by omega) (value_cross (la := la) h ha hb (valN_exact hs hsa hl))⟩
theorem pow8 {l : Nat} (h : l ≤ 8) : 1 ≤ 2 ^ l ∧ 2 ^ l ≤ 256 := by
  have h3 : 2 ^ l ≤ 2 ^ 8 := Nat.pow_le_pow_right (by omega) h
  exact ⟨Nat.pow_pos (by omega), by omega⟩
theorem mul_bd {a b A B C : Nat} (ha : a ≤ A) (hb : b ≤ B) (h : A * B = C) : a * b ≤ C := by
  subst h
  exact Nat.mul_le_mul ha hb
theorem valN_bd {sa la sb lb s : Nat} (hs : s ≤ 1048576) (hb : sb ≤ 1048576) (hl : la ≤ 8) : valN sa la sb lb s ≤ 269484032 := by
  unfold valN
  have h1 : (s - sa) * 2 ^ la ≤ 268435456 := mul_bd (A := 1048576) (B := 256) (by omega) (pow8 hl).2 rfl
  have h2 : (s - sa) * 2 ^ la / 2 ^ lb ≤ (s - sa) * 2 ^ la := Nat.div_le_self _ _
  omega
end Go.Proofs.YtjmbkieocmhmiaaGreat

/-! ObP -/
namespace Go.Proofs.YtjmbkieocmhmiaaGreat

/-- Where the interval of an address ends. -/
def enA (a : ByteArray) : Nat := stA a + 2 ^ (20 - a.size)
/-- Intervals that lie one after the other from x to y. -/
def Ch : List ByteArray → Nat → Nat → Prop
  | [], x, y => x = y
  | a :: l, x, y => stA a = x ∧ Ch l (enA a) y
theorem ch_append : ∀ (l m : List ByteArray) (x z y : Nat), Ch l x z → Ch m z y → Ch (l ++ m) x y := by
  intro l
  induction l with
  | nil => intro m x z y h k; cases h; exact k
  | cons a l ih => intro m x z y h k; exact ⟨h.1, ih m _ z y h.2 k⟩
theorem stA_zero {a : ByteArray} (h : a.size < 20) : stA (a ++ ⟨#[48]⟩) = stA a ∧ enA (a ++ ⟨#[48]⟩) = stA a + 2 ^ (20 - a.size - 1) := by
  have e : stA (a ++ ⟨#[48]⟩) = stA a := by
    unfold stA
    rw [data_append, ByteArray.size_append]
    show numA (a.data.toList ++ [48]) * 2 ^ (20 - (a.size + 1)) = _
    rw [numA_snoc, show 20 - a.size = (20 - (a.size + 1)) + 1 by omega, Nat.pow_succ]
    show (2 * numA a.data.toList + 0) * _ = _
    rw [Nat.add_zero, Nat.mul_comm 2, Nat.mul_assoc, Nat.mul_comm 2]
  refine ⟨e, ?_⟩
  unfold enA
  rw [e, ByteArray.size_append]
  rfl
theorem stA_one {a : ByteArray} (h : a.size < 20) : stA (a ++ ⟨#[49]⟩) = stA a + 2 ^ (20 - a.size - 1) ∧ enA (a ++ ⟨#[49]⟩) = enA a := by
  have e : stA (a ++ ⟨#[49]⟩) = stA a + 2 ^ (20 - a.size - 1) := by
    unfold stA
    rw [data_append, ByteArray.size_append]
    show numA (a.data.toList ++ [49]) * 2 ^ (20 - (a.size + 1)) = _
    rw [numA_snoc, show 20 - a.size - 1 = 20 - (a.size + 1) by omega, show 20 - a.size = (20 - (a.size + 1)) + 1 by omega, Nat.pow_succ]
    show (2 * numA a.data.toList + 1) * _ = _
    rw [Nat.add_mul, Nat.one_mul, Nat.mul_comm 2, Nat.mul_assoc, Nat.mul_comm 2]
  refine ⟨e, ?_⟩
  unfold enA
  rw [e, ByteArray.size_append, show 20 - a.size - 1 = 20 - (a.size + 1) by omega, show 20 - a.size = (20 - (a.size + 1)) + 1 by omega, Nat.pow_succ]
  show stA a + _ + 2 ^ (20 - (a.size + 1)) = _
  omega
theorem addrs_ch (t : Tr) : ∀ here : ByteArray, here.size + t.carets ≤ 20 → Ch (t.addrs here) (stA here) (enA here) := by
  induction t with
  | lf => intro here _; exact ⟨rfl, rfl⟩
  | nd l r ihl ihr =>
    intro here h
    simp only [Tr.carets] at h
    have z := stA_zero (a := here) (by omega)
    have o := stA_one (a := here) (by omega)
    have h1 := ihl (here ++ ⟨#[48]⟩) (by rw [ByteArray.size_append]; show here.size + 1 + l.carets ≤ 20; omega)
    have h2 := ihr (here ++ ⟨#[49]⟩) (by rw [ByteArray.size_append]; show here.size + 1 + r.carets ≤ 20; omega)
    rw [z.1, z.2] at h1
    rw [o.1, o.2] at h2
    exact ch_append _ _ _ _ _ h1 h2
theorem ch_get : ∀ (l : List ByteArray) (x y : Nat), Ch l x y → ∀ k, k < l.length → enA (l.getD k ⟨#[]⟩) = if k + 1 < l.length then stA (l.getD (k + 1) ⟨#[]⟩) else y := by
  intro l
  induction l with
  | nil => intro x y h k hk; simp at hk
  | cons a l ih =>
    intro x y h k hk
    match k with
    | 0 =>
      match l, h with
      | [], h => simp; exact h.2
      | b :: l, h => simp; exact h.2.1.symm
    | k + 1 =>
      have := ih _ _ h.2 k (by simpa using hk)
      simpa using this
theorem addrs_end (t : Tr) (h : t.carets ≤ 20) {k : Nat} (hk : k < t.carets + 1) :
    enA ((t.addrs ⟨#[]⟩).getD k ⟨#[]⟩) = if k < t.carets then stA ((t.addrs ⟨#[]⟩).getD (k + 1) ⟨#[]⟩) else 1048576 := by
  have c := addrs_ch t ⟨#[]⟩ (by show 0 + t.carets ≤ 20; omega)
  have l := addrs_length t ⟨#[]⟩
  have := ch_get _ _ _ c k (by omega)
  rw [this]
  by_cases e : k < t.carets
  · rw [if_pos (by omega), if_pos e]
  · rw [if_neg (by omega), if_neg e]; rfl
/-- The end of a leaf, that of the next one's start. -/
theorem starts_next (t : Tr) (h : t.carets ≤ 20) {k : Nat} (hk : k < t.carets) :
    t.starts.getD (k + 1) 0 = t.starts.getD k 0 + 2 ^ (20 - ((t.addrs ⟨#[]⟩).getD k ⟨#[]⟩).size) := by
  have := addrs_end t h (k := k) (by omega)
  rw [if_pos hk] at this
  rw [starts_at t (k := k + 1) (by omega), starts_at t (k := k) (by omega), ← this]
  rfl
theorem starts_last (t : Tr) (h : t.carets ≤ 20) : t.starts.getD t.carets 0 + 2 ^ (20 - ((t.addrs ⟨#[]⟩).getD t.carets ⟨#[]⟩).size) = 1048576 := by
  have := addrs_end t h (k := t.carets) (by omega)
  rw [if_neg (by omega)] at this
  rw [starts_at t (k := t.carets) (by omega), ← this]
  rfl
theorem width_pos (t : Tr) (k : Nat) : 0 < 2 ^ (20 - ((t.addrs ⟨#[]⟩).getD k ⟨#[]⟩).size) := Nat.pow_pos (by omega)
theorem starts_mono (t : Tr) (h : t.carets ≤ 20) : ∀ {j k : Nat}, j < k → k < t.carets + 1 → t.starts.getD j 0 < t.starts.getD k 0 := by
  intro j k hjk
  induction k with
  | zero => omega
  | succ k ih =>
    intro hk
    have e := starts_next t h (k := k) (by omega)
    have w := width_pos t k
    by_cases hj : j = k
    · subst hj; omega
    · have := ih (by omega) (by omega); omega
/-- The last one of an increasing list that is not beyond a number. -/
theorem lastTo_eq {l : List Nat} {s r : Nat} (hr : r < l.length) (h1 : l.getD r 0 ≤ s) (h2 : ∀ j, r < j → j < l.length → s < l.getD j 0) : lastTo l s = r := by
  have : ∀ n, r < n → n ≤ l.length → lastTo (l.take n) s = r := by
    intro n
    induction n with
    | zero => omega
    | succ n ih =>
      intro hn hl
      rw [lastTo_take (by omega)]
      by_cases e : r = n
      · subst e; rw [if_pos h1]
      · have := h2 n (by omega) (by omega)
        rw [if_neg (by omega)]; exact ih (by omega) (by omega)
  have := this l.length hr (Nat.le_refl _)
  rwa [List.take_length] at this
theorem starts_pick (t : Tr) (h : t.carets ≤ 20) {s r : Nat} (hr : r < t.carets + 1) (h1 : t.starts.getD r 0 ≤ s) (h2 : r < t.carets → s < t.starts.getD (r + 1) 0) : lastTo t.starts s = r := by
  have l := starts_length t
  refine lastTo_eq (by omega) h1 ?_
  intro j hj hl
  by_cases e : j = r + 1
  · subst e; exact h2 (by omega)
  · have := starts_mono t h (j := r + 1) (k := j) (by omega) (by omega)
    have := h2 (by omega)
    omega
/-- Where a number lies. -/
theorem starts_place (t : Tr) (h : t.carets ≤ 20) (s : Nat) : lastTo t.starts s < t.carets + 1 ∧ t.starts.getD (lastTo t.starts s) 0 ≤ s ∧ (lastTo t.starts s < t.carets → s < t.starts.getD (lastTo t.starts s + 1) 0) := by
  have l := starts_length t
  have hlt := lastTo_lt t.starts s (by omega)
  have hle := lastTo_le t.starts s (starts_first t)
  refine ⟨by omega, hle, ?_⟩
  intro hc
  rcases Nat.lt_or_ge s (t.starts.getD (lastTo t.starts s + 1) 0) with hx | hx
  · exact hx
  · exfalso
    -- there is a later one that is not beyond s
    have key : ∀ n, lastTo t.starts s + 1 < n → n ≤ t.starts.length → lastTo t.starts s + 1 ≤ lastTo (t.starts.take n) s := by
      intro n
      generalize lastTo t.starts s = q at *
      induction n with
      | zero => omega
      | succ n ih =>
        intro hn hl
        rw [lastTo_take (by omega)]
        split
        · omega
        · by_cases e : n = q + 1
          · subst e; omega
          · exact ih (by omega) (by omega)
    have := key t.starts.length (by omega) (Nat.le_refl _)
    rw [List.take_length] at this
    omega
theorem pick_zero (t : Tr) (h : t.carets ≤ 20) : lastTo t.starts 0 = 0 := by
  refine starts_pick t h (by omega) (by rw [starts_first]; omega) ?_
  intro hc
  have := starts_mono t h (j := 0) (k := 0 + 1) (by omega) (by omega)
  omega
theorem pick_last (t : Tr) (h : t.carets ≤ 20) : lastTo t.starts 1048575 = t.carets := by
  have e := starts_last t h
  have w := width_pos t t.carets
  exact starts_pick t h (by omega) (by omega) (fun hc => absurd hc (by omega))
/-- In front of a number: the leaf before if it is the start of one, and the same one otherwise. -/
theorem pick_left (t : Tr) (h : t.carets ≤ 20) {s : Nat} (hs : 0 < s) :
    lastTo t.starts (s - 1) = if t.starts.getD (lastTo t.starts s) 0 = s then lastTo t.starts s - 1 else lastTo t.starts s := by
  obtain ⟨p1, p2, p3⟩ := starts_place t h s
  split
  · rename_i e
    have hq : 0 < lastTo t.starts s := by
      rcases Nat.eq_zero_or_pos (lastTo t.starts s) with z | z
      · rw [z, starts_first] at e; omega
      · exact z
    have m := starts_mono t h (j := lastTo t.starts s - 1) (k := lastTo t.starts s) (by omega) p1
    refine starts_pick t h (by omega) (by omega) ?_
    intro _
    rw [show lastTo t.starts s - 1 + 1 = lastTo t.starts s by omega]
    omega
  · refine starts_pick t h p1 (by omega) ?_
    intro hc
    have := p3 hc
    omega
theorem frOf_inj1 {a b : Nat} (h : frOf a = frOf b) : a = b := by
  have h1 := short_steps (W := 1048576) (n := a) (d := 1048576) (by omega) ⟨1, rfl⟩
  have h2 := short_steps (W := 1048576) (n := b) (d := 1048576) (by omega) ⟨1, rfl⟩
  rw [Nat.div_self (by omega), Nat.mul_one] at h1 h2
  have hp : 0 < (frOf a).2 := short_pos (by omega)
  have h1' : (frOf a).1 * 1048576 = a * (frOf a).2 := h1
  have h2' : (frOf b).1 * 1048576 = b * (frOf b).2 := h2
  rw [← h] at h2'
  exact Nat.eq_of_mul_eq_mul_right hp (h1'.symm.trans h2')
end Go.Proofs.YtjmbkieocmhmiaaGreat

/-! Ob1 -/
namespace Go.Proofs.YtjmbkieocmhmiaaGreat
open Go.RowKit

/-- Two numbers and whether there are any. -/
def ans3 (o : Option (Int × Int)) : Value := .tuple #[.int .i64 (o.getD (0, 0)).1, .int .i64 (o.getD (0, 0)).2, .bool o.isSome]
/-- The slope of the piece on which a number is. -/
def slAt (ps : List (Nat × Nat × Int)) (s : Nat) : Int := (ps.getD (lastTo (ps.map fun x => x.1) s) (0, 0, 0)).2.2
set_option maxHeartbeats 2000000 in
theorem leftSlope_any (g cap : Nat) (ps : List (Nat × Nat × Int)) (n s : Nat) (w : World) (hn : ps.length = n) (hn0 : 0 < n) (hn9 : n ≤ 1000) (hg : g < w.heap.size) (hc1 : n ≤ cap) (hc2 : cap ≤ maxLen)
    (hcell : ∀ i, i < n * 3 → w.cell? ⟨g, i, none⟩ = some (.int .i64 ((flatP ps).getD i 0))) :
    Calls Tryz.prog 160 #[.int .i64 s, .slice (some ⟨g, 0, none⟩) n cap] w (Gives (.int .i64 (slAt ps s)) w) := by
  have hP := pieceAt_any g cap ps n s w hn hn0 hn9 hg hc1 hc2 hcell
  unfold slAt
  generalize ps.getD (lastTo (ps.map fun x => x.1) s) (0, 0, 0) = q at *
  generalize q.1 = x at *
  generalize q.2.1 = y at *
  generalize q.2.2 = z at *
  have hfld : ∀ w, (Instr.field 85 (.agg #[.int .i64 (x : Int), .int .i64 (y : Int), .int .i64 z]) 2).run Tryz.prog w = .ok (.int .i64 z) w := fun _ => by kernel_rfl
  clear hcell hn hn0 hn9 hg hc1 hc2
  go_enter Tryz.func160, Tryz.ntmps160
  go_wp2_with fail
  refine hP.mono ?_; rintro e w1 ⟨rfl, hb1⟩
  go_wp2_with fail
  go_ret
  exact ⟨rfl, hb1⟩
set_option maxHeartbeats 2000000 in
theorem rightSlope_any (g cap : Nat) (ps : List (Nat × Nat × Int)) (n s : Nat) (w : World) (hn : ps.length = n) (hn0 : 0 < n) (hn9 : n ≤ 1000) (hg : g < w.heap.size) (hc1 : n ≤ cap) (hc2 : cap ≤ maxLen)
    (hcell : ∀ i, i < n * 3 → w.cell? ⟨g, i, none⟩ = some (.int .i64 ((flatP ps).getD i 0))) (hs : 1 ≤ s) (hs2 : s ≤ 1048576) :
    Calls Tryz.prog 161 #[.int .i64 s, .slice (some ⟨g, 0, none⟩) n cap] w (Gives (.int .i64 (slAt ps (s - 1))) w) := by
  have hP := pieceAt_any g cap ps n (s - 1) w hn hn0 hn9 hg hc1 hc2 hcell
  have hw : IntKind.i64.wrap ((s : Int) - 1) = ((s - 1 : Nat) : Int) := by rw [IntKind.wrap_i64] <;> omega
  unfold slAt
  generalize ps.getD (lastTo (ps.map fun x => x.1) (s - 1)) (0, 0, 0) = q at *
  generalize q.1 = x at *
  generalize q.2.1 = y at *
  generalize q.2.2 = z at *
  have hfld : ∀ w, (Instr.field 85 (.agg #[.int .i64 (x : Int), .int .i64 (y : Int), .int .i64 z]) 2).run Tryz.prog w = .ok (.int .i64 z) w := fun _ => by kernel_rfl
  clear hcell hn hn0 hn9 hg hc1 hc2
  go_enter Tryz.func161, Tryz.ntmps161
  go_wp2_with fail
  refine hP.mono ?_; rintro e w1 ⟨rfl, hb1⟩
  go_wp2_with fail
  go_ret
  exact ⟨rfl, hb1⟩
/-- The pieces of a pair as a slice that the call has made. -/
theorem leafPieces_cells (p : Pr) (w : World) (h1 : p.1.carets ≤ 8) (h2 : p.2.carets ≤ 8) (he : p.1.carets = p.2.carets) :
    Calls Tryz.prog 66 #[.agg #[.string p.1.str, .string p.2.str]] w fun e w' => ∃ g cap : Nat, g < w'.heap.size ∧ p.1.carets + 1 ≤ cap ∧ cap ≤ maxLen ∧ (∀ i, i < (p.1.carets + 1) * 3 → w'.cell? ⟨g, i, none⟩ = some (.int .i64 ((flatP (pcs p)).getD i 0))) ∧ Below w.heap.size w w' ∧ e = .returned (.slice (some ⟨g, 0, none⟩) (p.1.carets + 1 : Nat) cap) := by
  have hpl := pcs_len p he
  refine (leafPieces_any p w h1 h2 he).mono ?_
  rintro e w' ⟨v, own, hb, rfl⟩
  rcases own.cells with ⟨_, h0⟩ | ⟨g, cap, rfl, _, hg, h1, h2, h3, _⟩
  · omega
  · rw [hpl] at h1 h3 ⊢
    exact ⟨g, cap, hg, h1, h2, h3, hb, rfl⟩
/-- One of both ends, as the program has it. -/
def endV : Bool → Nat → Value
  | true, s => .iface 73 (.int .i64 s)
  | false, s => .iface 74 (.int .i64 s)
def endF : Bool → FuncId
  | true => 160
  | false => 161
def endT : Bool → TypeId
  | true => 73
  | false => 74
def endS (ps : List (Nat × Nat × Int)) : Bool → Nat → Int
  | true, s => slAt ps s
  | false, s => slAt ps (s - 1)
theorem endV_eq (k : Bool) (s : Nat) : endV k s = .iface (endT k) (.int .i64 s) := by cases k <;> rfl
set_option maxRecDepth 100000 in
theorem nilAhead_end (k : Bool) (s : Int) : ∀ (m : Nat) (w : World), (nilAhead (m + 1) (endT k) (.int .i64 s) "loop.example/g01161/impl.slopeInside").run Tryz.prog w = .ok (some false) w := by
  cases k with
  | true => exact fun m w => by kernel_rfl
  | false => exact fun m w => by kernel_rfl
set_option maxRecDepth 100000 in
theorem method_end (k : Bool) (s : Int) : ∀ (m : Nat) (w : World), (method (m + 1) (endT k) (.int .i64 s) "loop.example/g01161/impl.slopeInside").run Tryz.prog w = .ok (endF k, .int .i64 s) w := by
  cases k with
  | true => exact fun m w => by kernel_rfl
  | false => exact fun m w => by kernel_rfl
set_option maxRecDepth 100000 in
theorem call_end (k : Bool) : ∀ (args : Array Value) (w : World), (callFunc (endF k) args).run Tryz.prog w = .ok (.enter (endF k) args) w := by
  cases k with
  | true => exact fun m w => by kernel_rfl
  | false => exact fun m w => by kernel_rfl
theorem endSlope_any (k : Bool) (g cap : Nat) (ps : List (Nat × Nat × Int)) (n s : Nat) (w : World) (hn : ps.length = n) (hn0 : 0 < n) (hn9 : n ≤ 1000) (hg : g < w.heap.size) (hc1 : n ≤ cap) (hc2 : cap ≤ maxLen)
    (hcell : ∀ i, i < n * 3 → w.cell? ⟨g, i, none⟩ = some (.int .i64 ((flatP ps).getD i 0))) (hs : k = false → 1 ≤ s) (hs2 : s ≤ 1048576) :
    Calls Tryz.prog (endF k) #[.int .i64 s, .slice (some ⟨g, 0, none⟩) n cap] w (Gives (.int .i64 (endS ps k s)) w) := by
  cases k with
  | true => exact leftSlope_any g cap ps n s w hn hn0 hn9 hg hc1 hc2 hcell
  | false => exact rightSlope_any g cap ps n s w hn hn0 hn9 hg hc1 hc2 hcell (hs rfl) hs2
/-- The slopes beside two ends. -/
def slopesO (a b : ByteArray) (j : Bool) (s : Nat) (k : Bool) (t : Nat) : Option (Int × Int) := (pairOf a b).map fun p => (endS (pcs p) j s, endS (pcs p) k t)
set_option maxRecDepth 100000 in
set_option maxHeartbeats 4000000 in
theorem slopesAt_any (a b : ByteArray) (j : Bool) (s : Nat) (k : Bool) (t : Nat) (w : World) (ha : a.size ≤ 9223372036854775806) (hb : b.size ≤ 9223372036854775806) (hs : j = false → 1 ≤ s) (hs2 : s ≤ 1048576) (ht : k = false → 1 ≤ t) (ht2 : t ≤ 1048576) :
    Calls Tryz.prog 52 #[.agg #[.string a, .string b], endV j s, endV k t] w (Gives (ans3 (slopesO a b j s k t)) w) := by
  unfold slopesO
  have hg := fun w => isPair_any a b w ha hb
  rw [endV_eq, endV_eq]
  cases h : pairOf a b with
  | none =>
    rw [h] at hg
    show Calls _ _ _ _ (Gives (ans3 none) w)
    clear h hs hs2 ht ht2
    go_enter Tryz.func52, Tryz.ntmps52
    go_wp2_with fail
    have hb0 : Below w.heap.size w (w.alloc (.cells #[.string a, .string b] 25 (0, 0))) := nxAlloc (Below.refl _ _) _
    have hx0 := heap_alloc_at w (.cells #[.string a, .string b] 25 (0, 0))
    generalize (w.alloc (.cells #[.string a, .string b] 25 (0, 0))) = w0 at *
    obtain ⟨hx0a, hx0b, hx0c⟩ := two_facts hx0
    obtain ⟨hx0f, hx0g⟩ := two_frozen hx0
    refine (hg _).mono ?_; rintro e w1 ⟨rfl, hb1⟩
    have hbw1 := nx hb0 hb1
    replace hx0 := heap_keep hb1 hx0
    clear hx0a hx0b hx0c hx0f hx0g
    obtain ⟨hx0a, hx0b, hx0c⟩ := two_facts hx0
    obtain ⟨hx0f, hx0g⟩ := two_frozen hx0
    clear hb1 hb0
    go_wp2_with fail
    go_ret3
    exact ⟨rfl, hbw1⟩
  | some p =>
    rw [h] at hg
    obtain ⟨rfl, rfl, hok, hc1, hc2⟩ := pairOf_some h
    clear h
    show Calls _ _ _ _ (Gives (ans3 (some (endS (pcs p) j s, endS (pcs p) k t))) w)
    have hM := fun w => leafPieces_cells p w hc1 hc2 hok
    have hpl := pcs_len p hok
    have E1 := fun g cap w h1 h2 h3 h4 => endSlope_any j g cap (pcs p) (p.1.carets + 1) s w hpl (by omega) (by omega) h1 h2 h3 h4 hs hs2
    have E2 := fun g cap w h1 h2 h3 h4 => endSlope_any k g cap (pcs p) (p.1.carets + 1) t w hpl (by omega) (by omega) h1 h2 h3 h4 ht ht2
    have nj := nilAhead_end j s
    have mj := method_end j s
    have cj := call_end j
    have nk := nilAhead_end k t
    have mk := method_end k t
    have ck := call_end k
    generalize endS (pcs p) j s = x at *
    generalize endS (pcs p) k t = y at *
    generalize pcs p = ps at *
    have hm0 : 0 < p.1.carets + 1 := by omega
    generalize p.1.carets + 1 = m at *
    clear hs hs2 ht ht2 hpl
    go_enter Tryz.func52, Tryz.ntmps52
    go_wp2_with fail
    have hb0 : Below w.heap.size w (w.alloc (.cells #[.string p.1.str, .string p.2.str] 25 (0, 0))) := nxAlloc (Below.refl _ _) _
    have hx0 := heap_alloc_at w (.cells #[.string p.1.str, .string p.2.str] 25 (0, 0))
    generalize (w.alloc (.cells #[.string p.1.str, .string p.2.str] 25 (0, 0))) = w0 at *
    obtain ⟨hx0a, hx0b, hx0c⟩ := two_facts hx0
    obtain ⟨hx0f, hx0g⟩ := two_frozen hx0
    refine (hg _).mono ?_; rintro e w1 ⟨rfl, hb1⟩
    have hbw1 := nx hb0 hb1
    replace hx0 := heap_keep hb1 hx0
    clear hx0a hx0b hx0c hx0f hx0g
    obtain ⟨hx0a, hx0b, hx0c⟩ := two_facts hx0
    obtain ⟨hx0f, hx0g⟩ := two_frozen hx0
    clear hb1 hb0
    go_wp2_with fail
    refine (hM _).mono ?_; rintro e w2 ⟨g, cap, hg2, m1, m2, hcl, hb2, rfl⟩
    have hbw2 := nx hbw1 hb2
    have HC := Lib.hid hcl
    clear hcl hM hg
    go_wp2_with fail
    refine (E1 g cap _ hg2 m1 m2 HC.out).mono ?_; rintro e w3 ⟨rfl, hb3⟩
    have hbw3 := nx hbw2 hb3
    go_wp2_with fail
    refine (E2 g cap _ (Nat.lt_of_lt_of_le hg2 hb3.size) m1 m2 (fun i hi => keep_cell hb3 (HC.out i hi))).mono ?_; rintro e w4 ⟨rfl, hb4⟩
    have hbw4 := nx hbw3 hb4
    go_wp2_with fail
    go_ret3
    exact ⟨rfl, hbw4⟩
end Go.Proofs.YtjmbkieocmhmiaaGreat

/-! Ob2 -/
namespace Go.Proofs.YtjmbkieocmhmiaaGreat
open Go.RowKit

/-- The slopes at both ends. -/
def endsO (a b : ByteArray) : Option (Int × Int) := (pairOf a b).map fun p => ((slopes p).getD 0 0, (slopes p).getD p.1.carets 0)
theorem slAt_slopes (p : Pr) (he : p.1.carets = p.2.carets) (s : Nat) : slAt (pcs p) s = (slopes p).getD (lastTo p.1.starts s) 0 := by
  unfold slAt
  rw [pcs_starts p he]
  have hl := lastTo_lt p.1.starts s (by rw [starts_length]; omega)
  rw [starts_length] at hl
  exact (slopes_get p (by rw [pcs_len p he]; exact hl)).symm
theorem ends_slopes (a b : ByteArray) : slopesO a b true 0 false 1048576 = endsO a b := by
  unfold slopesO endsO
  cases h : pairOf a b with
  | none => rfl
  | some p =>
    obtain ⟨rfl, rfl, hok, hc1, hc2⟩ := pairOf_some h
    show some (slAt (pcs p) 0, slAt (pcs p) (1048576 - 1)) = some _
    rw [slAt_slopes p hok, slAt_slopes p hok, pick_zero p.1 (by omega), pick_last p.1 (by omega)]
set_option maxHeartbeats 2000000 in
theorem implEndSlopes_any (a b : ByteArray) (w : World) (ha : a.size ≤ 9223372036854775806) (hb : b.size ≤ 9223372036854775806) :
    Calls Tryz.prog 21 #[.agg #[.string a, .string b]] w (Gives (ans3 (endsO a b)) w) := by
  have hS : ∀ w, Calls Tryz.prog 52 #[.agg #[.string a, .string b], .iface 73 (.int .i64 0), .iface 74 (.int .i64 1048576)] w (Gives (ans3 (endsO a b)) w) := by
    intro w
    have := slopesAt_any a b true 0 false 1048576 w ha hb (fun h => by simp at h) (by omega) (fun _ => by omega) (by omega)
    rw [ends_slopes] at this
    exact this
  unfold ans3 at *
  generalize (endsO a b).isSome = ok at *
  generalize ((endsO a b).getD (0, 0)).1 = x at *
  generalize ((endsO a b).getD (0, 0)).2 = y at *
  go_enter Tryz.func21, Tryz.ntmps21
  go_wp2_with fail
  have hb0 : Below w.heap.size w (w.alloc (.cells #[.string a, .string b] 25 (0, 0))) := nxAlloc (Below.refl _ _) _
  have hx0 := heap_alloc_at w (.cells #[.string a, .string b] 25 (0, 0))
  generalize (w.alloc (.cells #[.string a, .string b] 25 (0, 0))) = w0 at *
  obtain ⟨hx0a, hx0b, hx0c⟩ := two_facts hx0
  obtain ⟨hx0f, hx0g⟩ := two_frozen hx0
  refine (hS _).mono ?_; rintro e w1 ⟨rfl, hb1⟩
  have hbw1 := nx hb0 hb1
  replace hx0 := heap_keep hb1 hx0
  clear hx0a hx0b hx0c hx0f hx0g
  obtain ⟨hx0a, hx0b, hx0c⟩ := two_facts hx0
  obtain ⟨hx0f, hx0g⟩ := two_frozen hx0
  clear hb1 hb0
  go_wp2_with fail
  go_ret3
  exact ⟨rfl, hbw1⟩

set_option maxRecDepth 100000 in
set_option maxHeartbeats 2000000 in
theorem specEndSlopes_any (a b : ByteArray) (w : World) (ha : a.size ≤ 9223372036854775806) (hb : b.size ≤ 9223372036854775806) :
    Calls Tryz.prog 23 #[.agg #[.string a, .string b]] w (Gives (ans3 (endsO a b)) w) := by
  have hg := fun w => prGood_any a b w ha hb
  unfold endsO
  cases h : pairOf a b with
  | none =>
    rw [h] at hg
    show Calls _ _ _ _ (Gives (ans3 none) w)
    clear h
    go_enter Tryz.func23, Tryz.ntmps23
    go_wp2_with fail
    have hb0 : Below w.heap.size w (w.alloc (.cells #[.string a, .string b] 25 (0, 0))) := nxAlloc (Below.refl _ _) _
    have hx0 := heap_alloc_at w (.cells #[.string a, .string b] 25 (0, 0))
    generalize (w.alloc (.cells #[.string a, .string b] 25 (0, 0))) = w0 at *
    obtain ⟨hx0a, hx0b, hx0c⟩ := two_facts hx0
    obtain ⟨hx0f, hx0g⟩ := two_frozen hx0
    refine (hg _).mono ?_; rintro e w1 ⟨rfl, hb1⟩
    have hbw1 := nx hb0 hb1
    replace hx0 := heap_keep hb1 hx0
    clear hx0a hx0b hx0c hx0f hx0g
    obtain ⟨hx0a, hx0b, hx0c⟩ := two_facts hx0
    obtain ⟨hx0f, hx0g⟩ := two_frozen hx0
    clear hb1 hb0
    go_wp2_with fail
    go_ret3
    exact ⟨rfl, hbw1⟩
  | some p =>
    rw [h] at hg
    obtain ⟨rfl, rfl, hok, hc1, hc2⟩ := pairOf_some h
    clear h
    show Calls _ _ _ _ (Gives (ans3 (some ((slopes p).getD 0 0, (slopes p).getD p.1.carets 0))) w)
    have hsl : (slopes p).length = p.1.carets + 1 := by
      have l1 := addrs_length p.1 ⟨#[]⟩
      have l2 := addrs_length p.2 ⟨#[]⟩
      have hok' : p.1.carets = p.2.carets := hok
      show (slopesL _ _).length = _
      rw [slopesL_length _ _ (by omega)]; omega
    have hM := fun w => mpSlopes_any p w hc1 hc2 hok
    generalize slopes p = ps at *
    have hM' : ∀ w, Calls Tryz.prog 54 #[.agg #[.string p.1.str, .string p.2.str]] w fun e w' => ∃ g cap : Nat, w'.cell? ⟨g, 0, none⟩ = some (.int .i64 (ps.getD 0 0)) ∧ w'.cell? ⟨g, p.1.carets, none⟩ = some (.int .i64 (ps.getD p.1.carets 0)) ∧ p.1.carets + 1 ≤ cap ∧ cap ≤ maxLen ∧ Below w.heap.size w w' ∧ e = .returned (.slice (some ⟨g, 0, none⟩) (p.1.carets + 1 : Nat) cap) := by
      intro w
      refine (hM w).mono ?_
      rintro e w' ⟨v, own, hb, rfl⟩
      rcases own.cells with ⟨_, h0⟩ | ⟨g, cap, rfl, _, hg, h1, h2, h3, _⟩
      · rw [h0] at hsl; simp at hsl
      · rw [hsl] at h1 ⊢
        exact ⟨g, cap, h3 0 (by omega), h3 p.1.carets (by omega), h1, h2, hb, rfl⟩
    generalize ps.getD 0 0 = x at *
    generalize ps.getD p.1.carets 0 = y at *
    obtain ⟨c, hcc⟩ : ∃ c, c = p.1.carets := ⟨_, rfl⟩
    rw [← hcc] at hM'
    obtain ⟨m, hm⟩ : ∃ m, m = c + 1 := ⟨_, rfl⟩
    rw [← hm] at hM'
    have hw : IntKind.i64.wrap ((m : Int) - 1) = (c : Int) := by rw [IntKind.wrap_i64] <;> omega
    have hlt : (c : Int) < (m : Int) := by omega
    have hm0 : (0 : Int) < (m : Int) := by omega
    clear hM hsl hcc hm hc1 hc2 hok
    go_enter Tryz.func23, Tryz.ntmps23
    go_wp2_with fail
    have hb0 : Below w.heap.size w (w.alloc (.cells #[.string p.1.str, .string p.2.str] 25 (0, 0))) := nxAlloc (Below.refl _ _) _
    have hx0 := heap_alloc_at w (.cells #[.string p.1.str, .string p.2.str] 25 (0, 0))
    generalize (w.alloc (.cells #[.string p.1.str, .string p.2.str] 25 (0, 0))) = w0 at *
    obtain ⟨hx0a, hx0b, hx0c⟩ := two_facts hx0
    obtain ⟨hx0f, hx0g⟩ := two_frozen hx0
    refine (hg _).mono ?_; rintro e w1 ⟨rfl, hb1⟩
    have hbw1 := nx hb0 hb1
    replace hx0 := heap_keep hb1 hx0
    clear hx0a hx0b hx0c hx0f hx0g
    obtain ⟨hx0a, hx0b, hx0c⟩ := two_facts hx0
    obtain ⟨hx0f, hx0g⟩ := two_frozen hx0
    clear hb1 hb0
    go_wp2_with fail
    refine (hM' _).mono ?_; rintro e w2 ⟨g, cap, k1, k2, m1, m2, hb2, rfl⟩
    have hbw2 := nx hbw1 hb2
    go_wp2_with fail
    go_quiet (fail)
    go_wp2_with fail
    go_ret3
    exact ⟨rfl, drewB hbw2 _⟩
end Go.Proofs.YtjmbkieocmhmiaaGreat

/-! WIsInner -/
namespace Go.Proofs.YtjmbkieocmhmiaaGreat
open Go.RowKit

def innerO (a b : ByteArray) : Option Bool := (endsO a b).map fun q => q.1 == 0 && q.2 == 0

set_option maxRecDepth 100000 in
set_option maxHeartbeats 2000000 in
theorem implIsInner_any (a b : ByteArray) (w : World) (ha : a.size ≤ 9223372036854775806) (hb : b.size ≤ 9223372036854775806) :
    Calls Tryz.prog 20 #[.agg #[.string a, .string b]] w (Gives (ansB (innerO a b)) w) := by
  have hS := fun w => implEndSlopes_any a b w ha hb
  unfold innerO
  cases h : endsO a b with
  | none =>
    rw [h] at hS
    show Calls _ _ _ _ (Gives (ansB none) w)
    have hS' : ∀ w, Calls Tryz.prog 21 #[.agg #[.string a, .string b]] w (Gives (.tuple #[.int .i64 0, .int .i64 0, .bool false]) w) := hS
    clear h hS
    go_enter Tryz.func20, Tryz.ntmps20
    go_wp2_with fail
    have hb0 : Below w.heap.size w (w.alloc (.cells #[.string a, .string b] 25 (0, 0))) := nxAlloc (Below.refl _ _) _
    have hx0 := heap_alloc_at w (.cells #[.string a, .string b] 25 (0, 0))
    generalize (w.alloc (.cells #[.string a, .string b] 25 (0, 0))) = w0 at *
    obtain ⟨hx0a, hx0b, hx0c⟩ := two_facts hx0
    obtain ⟨hx0f, hx0g⟩ := two_frozen hx0
    refine (hS' _).mono ?_; rintro e w1 ⟨rfl, hb1⟩
    have hbw1 := nx hb0 hb1
    replace hx0 := heap_keep hb1 hx0
    clear hx0a hx0b hx0c hx0f hx0g
    obtain ⟨hx0a, hx0b, hx0c⟩ := two_facts hx0
    obtain ⟨hx0f, hx0g⟩ := two_frozen hx0
    clear hb1 hb0
    go_wp2_with fail
    go_ret2
    exact ⟨rfl, hbw1⟩
  | some q =>
    rw [h] at hS
    obtain ⟨x, y⟩ := q
    show Calls _ _ _ _ (Gives (ansB (some (x == 0 && y == 0))) w)
    have hS' : ∀ w, Calls Tryz.prog 21 #[.agg #[.string a, .string b]] w (Gives (.tuple #[.int .i64 x, .int .i64 y, .bool true]) w) := hS
    clear h hS
    by_cases hx : x = 0
    · subst hx
      rw [show ((0 : Int) == 0 && y == 0) = (y == 0) by simp]
      go_enter Tryz.func20, Tryz.ntmps20
      go_wp2_with fail
      have hb0 : Below w.heap.size w (w.alloc (.cells #[.string a, .string b] 25 (0, 0))) := nxAlloc (Below.refl _ _) _
      have hx0 := heap_alloc_at w (.cells #[.string a, .string b] 25 (0, 0))
      generalize (w.alloc (.cells #[.string a, .string b] 25 (0, 0))) = w0 at *
      obtain ⟨hx0a, hx0b, hx0c⟩ := two_facts hx0
      obtain ⟨hx0f, hx0g⟩ := two_frozen hx0
      refine (hS' _).mono ?_; rintro e w1 ⟨rfl, hb1⟩
      have hbw1 := nx hb0 hb1
      replace hx0 := heap_keep hb1 hx0
      clear hx0a hx0b hx0c hx0f hx0g
      obtain ⟨hx0a, hx0b, hx0c⟩ := two_facts hx0
      obtain ⟨hx0f, hx0g⟩ := two_frozen hx0
      clear hb1 hb0
      go_wp2_with fail
      go_ret2
      exact ⟨by first | rfl | simp [ansB], hbw1⟩
    · rw [show (x == 0 && y == 0) = false by simp [hx]]
      go_enter Tryz.func20, Tryz.ntmps20
      go_wp2_with fail
      have hb0 : Below w.heap.size w (w.alloc (.cells #[.string a, .string b] 25 (0, 0))) := nxAlloc (Below.refl _ _) _
      have hx0 := heap_alloc_at w (.cells #[.string a, .string b] 25 (0, 0))
      generalize (w.alloc (.cells #[.string a, .string b] 25 (0, 0))) = w0 at *
      obtain ⟨hx0a, hx0b, hx0c⟩ := two_facts hx0
      obtain ⟨hx0f, hx0g⟩ := two_frozen hx0
      refine (hS' _).mono ?_; rintro e w1 ⟨rfl, hb1⟩
      have hbw1 := nx hb0 hb1
      replace hx0 := heap_keep hb1 hx0
      clear hx0a hx0b hx0c hx0f hx0g
      obtain ⟨hx0a, hx0b, hx0c⟩ := two_facts hx0
      obtain ⟨hx0f, hx0g⟩ := two_frozen hx0
      clear hb1 hb0
      go_wp2_with fail
      go_ret2
      exact ⟨by first | rfl | simp [ansB], hbw1⟩

set_option maxRecDepth 100000 in
set_option maxHeartbeats 2000000 in
theorem specIsInner_any (a b : ByteArray) (w : World) (ha : a.size ≤ 9223372036854775806) (hb : b.size ≤ 9223372036854775806) :
    Calls Tryz.prog 24 #[.agg #[.string a, .string b]] w (Gives (ansB (innerO a b)) w) := by
  have hg := fun w => prGood_any a b w ha hb
  unfold innerO
  unfold endsO
  cases h : pairOf a b with
  | none =>
    rw [h] at hg
    show Calls _ _ _ _ (Gives (ansB none) w)
    clear h
    go_enter Tryz.func24, Tryz.ntmps24
    go_wp2_with fail
    have hb0 : Below w.heap.size w (w.alloc (.cells #[.string a, .string b] 25 (0, 0))) := nxAlloc (Below.refl _ _) _
    have hx0 := heap_alloc_at w (.cells #[.string a, .string b] 25 (0, 0))
    generalize (w.alloc (.cells #[.string a, .string b] 25 (0, 0))) = w0 at *
    obtain ⟨hx0a, hx0b, hx0c⟩ := two_facts hx0
    obtain ⟨hx0f, hx0g⟩ := two_frozen hx0
    refine (hg _).mono ?_; rintro e w1 ⟨rfl, hb1⟩
    have hbw1 := nx hb0 hb1
    replace hx0 := heap_keep hb1 hx0
    clear hx0a hx0b hx0c hx0f hx0g
    obtain ⟨hx0a, hx0b, hx0c⟩ := two_facts hx0
    obtain ⟨hx0f, hx0g⟩ := two_frozen hx0
    clear hb1 hb0
    go_wp2_with fail
    go_ret2
    exact ⟨rfl, hbw1⟩
  | some p =>
    rw [h] at hg
    obtain ⟨rfl, rfl, hok, hc1, hc2⟩ := pairOf_some h
    clear h
    show Calls _ _ _ _ (Gives (ansB (some ((slopes p).getD 0 0 == 0 && (slopes p).getD p.1.carets 0 == 0))) w)
    have hsl : (slopes p).length = p.1.carets + 1 := by
      have l1 := addrs_length p.1 ⟨#[]⟩
      have l2 := addrs_length p.2 ⟨#[]⟩
      have hok' : p.1.carets = p.2.carets := hok
      show (slopesL _ _).length = _
      rw [slopesL_length _ _ (by omega)]; omega
    have hM := fun w => mpSlopes_any p w hc1 hc2 hok
    generalize slopes p = ps at *
    have hM' : ∀ w, Calls Tryz.prog 54 #[.agg #[.string p.1.str, .string p.2.str]] w fun e w' => ∃ g cap : Nat, w'.cell? ⟨g, 0, none⟩ = some (.int .i64 (ps.getD 0 0)) ∧ w'.cell? ⟨g, p.1.carets, none⟩ = some (.int .i64 (ps.getD p.1.carets 0)) ∧ p.1.carets + 1 ≤ cap ∧ cap ≤ maxLen ∧ Below w.heap.size w w' ∧ e = .returned (.slice (some ⟨g, 0, none⟩) (p.1.carets + 1 : Nat) cap) := by
      intro w
      refine (hM w).mono ?_
      rintro e w' ⟨v, own, hb, rfl⟩
      rcases own.cells with ⟨_, h0⟩ | ⟨g, cap, rfl, _, hg, h1, h2, h3, _⟩
      · rw [h0] at hsl; simp at hsl
      · rw [hsl] at h1 ⊢
        exact ⟨g, cap, h3 0 (by omega), h3 p.1.carets (by omega), h1, h2, hb, rfl⟩
    generalize ps.getD 0 0 = x at *
    generalize ps.getD p.1.carets 0 = y at *
    obtain ⟨c, hcc⟩ : ∃ c, c = p.1.carets := ⟨_, rfl⟩
    rw [← hcc] at hM'
    obtain ⟨m, hm⟩ : ∃ m, m = c + 1 := ⟨_, rfl⟩
    rw [← hm] at hM'
    have hw : IntKind.i64.wrap ((m : Int) - 1) = (c : Int) := by rw [IntKind.wrap_i64] <;> omega
    have hlt : (c : Int) < (m : Int) := by omega
    have hm0 : (0 : Int) < (m : Int) := by omega
    clear hM hsl hcc hm hc1 hc2 hok
    by_cases hx : x = 0
    · subst hx
      rw [show ((0 : Int) == 0 && y == 0) = (y == 0) by simp]
      go_enter Tryz.func24, Tryz.ntmps24
      go_wp2_with fail
      have hb0 : Below w.heap.size w (w.alloc (.cells #[.string p.1.str, .string p.2.str] 25 (0, 0))) := nxAlloc (Below.refl _ _) _
      have hx0 := heap_alloc_at w (.cells #[.string p.1.str, .string p.2.str] 25 (0, 0))
      generalize (w.alloc (.cells #[.string p.1.str, .string p.2.str] 25 (0, 0))) = w0 at *
      obtain ⟨hx0a, hx0b, hx0c⟩ := two_facts hx0
      obtain ⟨hx0f, hx0g⟩ := two_frozen hx0
      refine (hg _).mono ?_; rintro e w1 ⟨rfl, hb1⟩
      have hbw1 := nx hb0 hb1
      replace hx0 := heap_keep hb1 hx0
      clear hx0a hx0b hx0c hx0f hx0g
      obtain ⟨hx0a, hx0b, hx0c⟩ := two_facts hx0
      obtain ⟨hx0f, hx0g⟩ := two_frozen hx0
      clear hb1 hb0
      go_wp2_with fail
      refine (hM' _).mono ?_; rintro e w2 ⟨g, cap, k1, k2, m1, m2, hb2, rfl⟩
      have hbw2 := nx hbw1 hb2
      go_wp2_with fail
      go_ret2
      exact ⟨by first | rfl | simp [ansB], hbw2⟩
    · rw [show (x == 0 && y == 0) = false by simp [hx]]
      go_enter Tryz.func24, Tryz.ntmps24
      go_wp2_with fail
      have hb0 : Below w.heap.size w (w.alloc (.cells #[.string p.1.str, .string p.2.str] 25 (0, 0))) := nxAlloc (Below.refl _ _) _
      have hx0 := heap_alloc_at w (.cells #[.string p.1.str, .string p.2.str] 25 (0, 0))
      generalize (w.alloc (.cells #[.string p.1.str, .string p.2.str] 25 (0, 0))) = w0 at *
      obtain ⟨hx0a, hx0b, hx0c⟩ := two_facts hx0
      obtain ⟨hx0f, hx0g⟩ := two_frozen hx0
      refine (hg _).mono ?_; rintro e w1 ⟨rfl, hb1⟩
      have hbw1 := nx hb0 hb1
      replace hx0 := heap_keep hb1 hx0
      clear hx0a hx0b hx0c hx0f hx0g
      obtain ⟨hx0a, hx0b, hx0c⟩ := two_facts hx0
      obtain ⟨hx0f, hx0g⟩ := two_frozen hx0
      clear hb1 hb0
      go_wp2_with fail
      refine (hM' _).mono ?_; rintro e w2 ⟨g, cap, k1, k2, m1, m2, hb2, rfl⟩
      have hbw2 := nx hbw1 hb2
      go_wp2_with fail
      go_ret2
      exact ⟨by first | rfl | simp [ansB], hbw2⟩

end Go.Proofs.YtjmbkieocmhmiaaGreat

/-! WIdentityPair -/
namespace Go.Proofs.YtjmbkieocmhmiaaGreat
open Go.RowKit

end Go.Proofs.YtjmbkieocmhmiaaGreat

/-! BasA -/
namespace Go.Proofs.YtjmbkieocmhmiaaGreat
end Go.Proofs.YtjmbkieocmhmiaaGreat

/-! Vl1 -/
namespace Go.Proofs.YtjmbkieocmhmiaaGreat
open Go.RowKit

set_option maxHeartbeats 4000000 in
theorem valueAt_any (x y s la lb : Nat) (w : World) (hla : la ≤ 8) (hlb : lb ≤ 8) (h1 : x ≤ s) (h2 : s ≤ 1048576) (h3 : y ≤ 1048576) :
    Calls Tryz.prog 67 #[.agg #[.int .i64 x, .int .i64 y, .int .i64 ((la : Int) - (lb : Int))], .int .i64 s] w (Gives (.int .i64 (valN x la y lb s)) w) := by
  by_cases h : lb ≤ la
  · rw [valN_up h]
    obtain ⟨d, hd⟩ : ∃ d, la - lb = d := ⟨_, rfl⟩
    have hz : (la : Int) - (lb : Int) = (d : Int) := by omega
    rw [hz, hd]
    have hd8 : d ≤ 8 := by omega
    clear hz hd h hla hlb
    have hd9 : d = 0 ∨ d = 1 ∨ d = 2 ∨ d = 3 ∨ d = 4 ∨ d = 5 ∨ d = 6 ∨ d = 7 ∨ d = 8 := by omega
    rcases hd9 with e | e | e | e | e | e | e | e | e <;>
    (subst e
     go_enter Tryz.func67, Tryz.ntmps67
     go_wp2_with fail
     go_quiet (fail)
     go_wp2_with fail
     go_ret
     exact ⟨ret_int (by omega), drewB (nxAlloc (Below.refl _ _) _) _⟩)
  · rw [valN_down (by omega)]
    obtain ⟨d, hd⟩ : ∃ d, lb - la = d := ⟨_, rfl⟩
    have hz : (la : Int) - (lb : Int) = -(d : Int) := by omega
    rw [hz, hd]
    have hd8 : d ≤ 8 := by omega
    have hd1 : 1 ≤ d := by omega
    clear hz hd h hla hlb
    have hd9 : d = 1 ∨ d = 2 ∨ d = 3 ∨ d = 4 ∨ d = 5 ∨ d = 6 ∨ d = 7 ∨ d = 8 := by omega
    rcases hd9 with e | e | e | e | e | e | e | e <;>
    (subst e
     go_enter Tryz.func67, Tryz.ntmps67
     go_wp2_with fail
     go_quiet (fail)
     go_wp2_with fail
     go_ret
     exact ⟨ret_int (by omega), drewB (nxAlloc (Below.refl _ _) _) _⟩)
end Go.Proofs.YtjmbkieocmhmiaaGreat

/-! Vl2 -/
namespace Go.Proofs.YtjmbkieocmhmiaaGreat
open Go.RowKit

/-- The value of a number of steps under a pair. -/
def valP (p : Pr) (s : Nat) : Nat := valN (stA ((p.1.addrs ⟨#[]⟩).getD (lastTo p.1.starts s) ⟨#[]⟩)) ((p.1.addrs ⟨#[]⟩).getD (lastTo p.1.starts s) ⟨#[]⟩).size (stA ((p.2.addrs ⟨#[]⟩).getD (lastTo p.1.starts s) ⟨#[]⟩)) ((p.2.addrs ⟨#[]⟩).getD (lastTo p.1.starts s) ⟨#[]⟩).size s
theorem keep_set2 {w : World} {b g o : Nat} {v u1 u2 : Value} (h : w.cell? ⟨b, o, none⟩ = some v) (hne : b < g) : ((w.setCell ⟨g, 0, none⟩ u1).setCell ⟨g, 1, none⟩ u2).cell? ⟨b, o, none⟩ = some v := by
  have hB : Below g w ((w.setCell ⟨g, 0, none⟩ u1).setCell ⟨g, 1, none⟩ u2) := ((Below.refl g w).setCell (Nat.le_refl g) u1).setCell (Nat.le_refl g) u2
  exact (hB.cell (p := ⟨b, o, none⟩) hne).trans h
/-- To what a fraction is carried. -/
def valueO (a b : ByteArray) (n d : Int) : Option (Nat × Nat) := (pairOf a b).bind fun p => if isFr n d = true then frA (valP p (stepsOf n d)) else none
theorem val_facts (p : Pr) (h1 : p.1.carets ≤ 8) (h2 : p.2.carets ≤ 8) (he : p.1.carets = p.2.carets) (s : Nat) :
    ∃ a b : ByteArray, a = (p.1.addrs ⟨#[]⟩).getD (lastTo p.1.starts s) ⟨#[]⟩ ∧ b = (p.2.addrs ⟨#[]⟩).getD (lastTo p.1.starts s) ⟨#[]⟩ ∧ lastTo p.1.starts s < p.1.carets + 1 ∧
      a.size ≤ 8 ∧ b.size ≤ 8 ∧ a.data.toList.all isBit = true ∧ b.data.toList.all isBit = true ∧ stA a ≤ s ∧ valP p s = valN (stA a) a.size (stA b) b.size s ∧
      (pcs p).getD (lastTo p.1.starts s) (0, 0, 0) = (stA a, stA b, (a.size : Int) - b.size) := by
  have hl := starts_length p.1
  have hlt := lastTo_lt p.1.starts s (by omega)
  rw [hl] at hlt
  obtain ⟨a, ea, a1, a2⟩ := addr_facts p.1 h1 hlt
  obtain ⟨b, eb, b1, b2⟩ := addr_facts p.2 h2 (k := lastTo p.1.starts s) (by omega)
  have l1 := addrs_length p.1 ⟨#[]⟩
  have l2 := addrs_length p.2 ⟨#[]⟩
  have hs := lastTo_le p.1.starts s (starts_first p.1)
  rw [starts_at p.1 hlt, ← ea] at hs
  refine ⟨a, b, ea, eb, hlt, a1, b1, a2, b2, hs, ?_, ?_⟩
  · unfold valP
    rw [← ea, ← eb]
  · rw [ea, eb]
    exact pcsL_get _ _ (by omega) _ (by omega)

set_option maxRecDepth 100000 in
set_option maxHeartbeats 4000000 in
theorem implValueOf_any (a b : ByteArray) (n d : Int) (w : World) (ha : a.size ≤ 9223372036854775806) (hb : b.size ≤ 9223372036854775806) (_l1 : -9223372036854775808 ≤ n) (_u1 : n ≤ 9223372036854775807) (_l2 : -9223372036854775808 ≤ d) (_u2 : d ≤ 9223372036854775807) :
    Calls Tryz.prog 32 #[.agg #[.string a, .string b], .agg #[.int .i64 n, .int .i64 d]] w (Gives (ansF (valueO a b n d)) w) := by
  unfold valueO
  have hg := fun w => isPair_any a b w ha hb
  have hk := fun w => isFraction_any n d w
  cases h : pairOf a b with
  | none =>
    rw [h] at hg
    show Calls _ _ _ _ (Gives (ansF none) w)
    clear h hk _l1 _u1 _l2 _u2
    go_enter Tryz.func32, Tryz.ntmps32
    go_wp2_with fail
    have hb0 : Below w.heap.size w (((w.alloc (.cells #[.string a, .string b] 25 (0, 0))).alloc (.cells #[.int .i64 n, .int .i64 d] 42 (0, 0))).alloc (.cells #[.int .i64 0, .int .i64 0] 42 (0, 0))) := nxAlloc (nxAlloc (nxAlloc (Below.refl _ _) _) _) _
    have hx0 := heap_keep (nxAlloc (Below.refl _ _) (.cells #[.int .i64 0, .int .i64 0] 42 (0, 0))) (heap_keep (nxAlloc (Below.refl _ _) (.cells #[.int .i64 n, .int .i64 d] 42 (0, 0))) (heap_alloc_at w (.cells #[.string a, .string b] 25 (0, 0))))
    have hx1 := heap_keep (nxAlloc (Below.refl _ _) (.cells #[.int .i64 0, .int .i64 0] 42 (0, 0))) (heap_alloc_at (w.alloc (.cells #[.string a, .string b] 25 (0, 0))) (.cells #[.int .i64 n, .int .i64 d] 42 (0, 0)))
    have hx2 := heap_alloc_at ((w.alloc (.cells #[.string a, .string b] 25 (0, 0))).alloc (.cells #[.int .i64 n, .int .i64 d] 42 (0, 0))) (.cells #[.int .i64 0, .int .i64 0] 42 (0, 0))
    generalize (((w.alloc (.cells #[.string a, .string b] 25 (0, 0))).alloc (.cells #[.int .i64 n, .int .i64 d] 42 (0, 0))).alloc (.cells #[.int .i64 0, .int .i64 0] 42 (0, 0))) = w0 at *
    have e1 : (w.alloc (.cells #[.string a, .string b] 25 (0, 0))).heap.size = w.heap.size + 1 := by simp
    rw [e1] at hx1
    clear e1
    have e2 : ((w.alloc (.cells #[.string a, .string b] 25 (0, 0))).alloc (.cells #[.int .i64 n, .int .i64 d] 42 (0, 0))).heap.size = w.heap.size + 1 + 1 := by simp
    rw [e2] at hx2
    clear e2
    obtain ⟨hx0a, hx0b, hx0c⟩ := two_facts hx0
    obtain ⟨hx0f, hx0g⟩ := two_frozen hx0
    obtain ⟨hx1a, hx1b, hx1c⟩ := two_facts hx1
    obtain ⟨hx1f, hx1g⟩ := two_frozen hx1
    obtain ⟨hx2a, hx2b, hx2c⟩ := two_facts hx2
    obtain ⟨hx2f, hx2g⟩ := two_frozen hx2
    refine (hg _).mono ?_; rintro e w1 ⟨rfl, hb1⟩
    have hbw1 := nx hb0 hb1
    replace hx0 := heap_keep hb1 hx0
    replace hx1 := heap_keep hb1 hx1
    replace hx2 := heap_keep hb1 hx2
    clear hx0a hx0b hx0c hx0f hx0g
    obtain ⟨hx0a, hx0b, hx0c⟩ := two_facts hx0
    obtain ⟨hx0f, hx0g⟩ := two_frozen hx0
    clear hx1a hx1b hx1c hx1f hx1g
    obtain ⟨hx1a, hx1b, hx1c⟩ := two_facts hx1
    obtain ⟨hx1f, hx1g⟩ := two_frozen hx1
    clear hx2a hx2b hx2c hx2f hx2g
    obtain ⟨hx2a, hx2b, hx2c⟩ := two_facts hx2
    obtain ⟨hx2f, hx2g⟩ := two_frozen hx2
    clear hb1 hb0
    go_wp2_with fail
    obtain ⟨q1, q2⟩ := two_cells (set_two (.int .i64 0) (.int .i64 0) hx2)
    refine bodyPost_ret (v := .tuple #[.agg #[.int .i64 0, .int .i64 0], .bool false]) (by simp [q1, q2, results, Tryz.results32, go_sem]) rfl ⟨rfl, ?_⟩
    exact (hbw1.setCell (by show w.heap.size ≤ w.heap.size + 1 + 1; omega) _).setCell (by show w.heap.size ≤ w.heap.size + 1 + 1; omega) _
  | some p =>
    rw [h] at hg
    obtain ⟨rfl, rfl, hok, hc1, hc2⟩ := pairOf_some h
    clear h
    cases k : isFr n d with
    | false =>
      rw [k] at hk
      show Calls _ _ _ _ (Gives (ansF none) w)
      clear _l1 _u1 _l2 _u2 k
      go_enter Tryz.func32, Tryz.ntmps32
      go_wp2_with fail
      have hb0 : Below w.heap.size w (((w.alloc (.cells #[.string p.1.str, .string p.2.str] 25 (0, 0))).alloc (.cells #[.int .i64 n, .int .i64 d] 42 (0, 0))).alloc (.cells #[.int .i64 0, .int .i64 0] 42 (0, 0))) := nxAlloc (nxAlloc (nxAlloc (Below.refl _ _) _) _) _
      have hx0 := heap_keep (nxAlloc (Below.refl _ _) (.cells #[.int .i64 0, .int .i64 0] 42 (0, 0))) (heap_keep (nxAlloc (Below.refl _ _) (.cells #[.int .i64 n, .int .i64 d] 42 (0, 0))) (heap_alloc_at w (.cells #[.string p.1.str, .string p.2.str] 25 (0, 0))))
      have hx1 := heap_keep (nxAlloc (Below.refl _ _) (.cells #[.int .i64 0, .int .i64 0] 42 (0, 0))) (heap_alloc_at (w.alloc (.cells #[.string p.1.str, .string p.2.str] 25 (0, 0))) (.cells #[.int .i64 n, .int .i64 d] 42 (0, 0)))
      have hx2 := heap_alloc_at ((w.alloc (.cells #[.string p.1.str, .string p.2.str] 25 (0, 0))).alloc (.cells #[.int .i64 n, .int .i64 d] 42 (0, 0))) (.cells #[.int .i64 0, .int .i64 0] 42 (0, 0))
      generalize (((w.alloc (.cells #[.string p.1.str, .string p.2.str] 25 (0, 0))).alloc (.cells #[.int .i64 n, .int .i64 d] 42 (0, 0))).alloc (.cells #[.int .i64 0, .int .i64 0] 42 (0, 0))) = w0 at *
      have e1 : (w.alloc (.cells #[.string p.1.str, .string p.2.str] 25 (0, 0))).heap.size = w.heap.size + 1 := by simp
      rw [e1] at hx1
      clear e1
      have e2 : ((w.alloc (.cells #[.string p.1.str, .string p.2.str] 25 (0, 0))).alloc (.cells #[.int .i64 n, .int .i64 d] 42 (0, 0))).heap.size = w.heap.size + 1 + 1 := by simp
      rw [e2] at hx2
      clear e2
      obtain ⟨hx0a, hx0b, hx0c⟩ := two_facts hx0
      obtain ⟨hx0f, hx0g⟩ := two_frozen hx0
      obtain ⟨hx1a, hx1b, hx1c⟩ := two_facts hx1
      obtain ⟨hx1f, hx1g⟩ := two_frozen hx1
      obtain ⟨hx2a, hx2b, hx2c⟩ := two_facts hx2
      obtain ⟨hx2f, hx2g⟩ := two_frozen hx2
      refine (hg _).mono ?_; rintro e w1 ⟨rfl, hb1⟩
      have hbw1 := nx hb0 hb1
      replace hx0 := heap_keep hb1 hx0
      replace hx1 := heap_keep hb1 hx1
      replace hx2 := heap_keep hb1 hx2
      clear hx0a hx0b hx0c hx0f hx0g
      obtain ⟨hx0a, hx0b, hx0c⟩ := two_facts hx0
      obtain ⟨hx0f, hx0g⟩ := two_frozen hx0
      clear hx1a hx1b hx1c hx1f hx1g
      obtain ⟨hx1a, hx1b, hx1c⟩ := two_facts hx1
      obtain ⟨hx1f, hx1g⟩ := two_frozen hx1
      clear hx2a hx2b hx2c hx2f hx2g
      obtain ⟨hx2a, hx2b, hx2c⟩ := two_facts hx2
      obtain ⟨hx2f, hx2g⟩ := two_frozen hx2
      clear hb1 hb0
      go_wp2_with fail
      refine (hk _).mono ?_; rintro e w2 ⟨rfl, hb2⟩
      have hbw2 := nx hbw1 hb2
      replace hx0 := heap_keep hb2 hx0
      replace hx1 := heap_keep hb2 hx1
      replace hx2 := heap_keep hb2 hx2
      clear hx0a hx0b hx0c hx0f hx0g
      obtain ⟨hx0a, hx0b, hx0c⟩ := two_facts hx0
      obtain ⟨hx0f, hx0g⟩ := two_frozen hx0
      clear hx1a hx1b hx1c hx1f hx1g
      obtain ⟨hx1a, hx1b, hx1c⟩ := two_facts hx1
      obtain ⟨hx1f, hx1g⟩ := two_frozen hx1
      clear hx2a hx2b hx2c hx2f hx2g
      obtain ⟨hx2a, hx2b, hx2c⟩ := two_facts hx2
      obtain ⟨hx2f, hx2g⟩ := two_frozen hx2
      clear hb2 hbw1
      go_wp2_with fail
      obtain ⟨q1, q2⟩ := two_cells (set_two (.int .i64 0) (.int .i64 0) hx2)
      refine bodyPost_ret (v := .tuple #[.agg #[.int .i64 0, .int .i64 0], .bool false]) (by simp [q1, q2, results, Tryz.results32, go_sem]) rfl ⟨rfl, ?_⟩
      exact (hbw2.setCell (by show w.heap.size ≤ w.heap.size + 1 + 1; omega) _).setCell (by show w.heap.size ≤ w.heap.size + 1 + 1; omega) _
    | true =>
      rw [k] at hk
      show Calls _ _ _ _ (Gives (ansF (frA (valP p (stepsOf n d)))) w)
      clear _l1 _u1 _l2 _u2
      obtain ⟨n, d, rfl, rfl, n1, d1, d2⟩ := isFr_nats k
      have hpl := pcs_len p hok
      have hps := pcs_starts p hok
      have hsl := (steps_le k).1
      have hsm := (steps_le k).2.1
      obtain ⟨a, b, ea, eb, hlt, a8, b8, ab, bb, hsa, hv, hget⟩ := val_facts p hc1 hc2 hok (stepsOf n d)
      rw [hv]
      have hsb := stA_lt (a := b) (by omega) bb
      have hVd := valN_bd (sa := stA a) (lb := b.size) hsl (Nat.le_of_lt hsb) a8
      have hs := fun w => steps_any n d w k
      have hM := fun w => leafPieces_any p w hc1 hc2 hok
      have hV := fun w => valueAt_any (stA a) (stA b) (stepsOf n d) a.size b.size w a8 b8 hsa hsl (Nat.le_of_lt hsb)
      have hF := fun w => fractionAt_any (valN (stA a) a.size (stA b) b.size (stepsOf n d)) w (by omega)
      rw [← hps] at hget
      have hpl9 : (pcs p).length ≤ 9 := by omega
      have hpl0 : 0 < (pcs p).length := by omega
      generalize valN (stA a) a.size (stA b) b.size (stepsOf n d) = v at *
      generalize stepsOf n d = s at *
      generalize pcs p = ps at *
      generalize stA a = x at *
      generalize stA b = y at *
      generalize (a.size : Int) - (b.size : Int) = z at *
      obtain ⟨m, hm⟩ : ∃ m, ps.length = m := ⟨_, rfl⟩
      have hM' : ∀ w, Calls Tryz.prog 66 #[.agg #[.string p.1.str, .string p.2.str]] w fun e w' => ∃ g cap : Nat, g < w'.heap.size ∧ m ≤ cap ∧ cap ≤ maxLen ∧ (∀ i, i < m * 3 → w'.cell? ⟨g, i, none⟩ = some (.int .i64 ((flatP ps).getD i 0))) ∧ Below w.heap.size w w' ∧ e = .returned (.slice (some ⟨g, 0, none⟩) m cap) := by
        intro w
        refine (hM w).mono ?_
        rintro e w' ⟨v, own, hb, rfl⟩
        rcases own.cells with ⟨_, h0⟩ | ⟨g, cap, rfl, _, hg, h1, h2, h3, _⟩
        · omega
        · rw [hm] at h1 h3 ⊢
          exact ⟨g, cap, hg, h1, h2, h3, hb, rfl⟩
      have hP := fun g cap w hg h1 h2 h3 => pieceAt_any g cap ps m s w hm (by omega) (by omega) hg h1 h2 h3
      rw [hget] at hP
      generalize hA : frA v = A at *
      unfold ansF at hF ⊢
      generalize fS1 A = y1 at *
      generalize fS2 A = y2 at *
      generalize A.isSome = ok at *
      clear hM hps hpl hlt k hm hpl9 hpl0 ea eb a8 b8 ab bb hsa hv hsb hVd hget hA hsl hsm
      go_enter Tryz.func32, Tryz.ntmps32
      go_wp2_with fail
      have hb0 : Below w.heap.size w (((w.alloc (.cells #[.string p.1.str, .string p.2.str] 25 (0, 0))).alloc (.cells #[.int .i64 n, .int .i64 d] 42 (0, 0))).alloc (.cells #[.int .i64 0, .int .i64 0] 42 (0, 0))) := nxAlloc (nxAlloc (nxAlloc (Below.refl _ _) _) _) _
      have hx0 := heap_keep (nxAlloc (Below.refl _ _) (.cells #[.int .i64 0, .int .i64 0] 42 (0, 0))) (heap_keep (nxAlloc (Below.refl _ _) (.cells #[.int .i64 n, .int .i64 d] 42 (0, 0))) (heap_alloc_at w (.cells #[.string p.1.str, .string p.2.str] 25 (0, 0))))
      have hx1 := heap_keep (nxAlloc (Below.refl _ _) (.cells #[.int .i64 0, .int .i64 0] 42 (0, 0))) (heap_alloc_at (w.alloc (.cells #[.string p.1.str, .string p.2.str] 25 (0, 0))) (.cells #[.int .i64 n, .int .i64 d] 42 (0, 0)))
      have hx2 := heap_alloc_at ((w.alloc (.cells #[.string p.1.str, .string p.2.str] 25 (0, 0))).alloc (.cells #[.int .i64 n, .int .i64 d] 42 (0, 0))) (.cells #[.int .i64 0, .int .i64 0] 42 (0, 0))
      generalize (((w.alloc (.cells #[.string p.1.str, .string p.2.str] 25 (0, 0))).alloc (.cells #[.int .i64 n, .int .i64 d] 42 (0, 0))).alloc (.cells #[.int .i64 0, .int .i64 0] 42 (0, 0))) = w0 at *
      have e1 : (w.alloc (.cells #[.string p.1.str, .string p.2.str] 25 (0, 0))).heap.size = w.heap.size + 1 := by simp
      rw [e1] at hx1
      clear e1
      have e2 : ((w.alloc (.cells #[.string p.1.str, .string p.2.str] 25 (0, 0))).alloc (.cells #[.int .i64 n, .int .i64 d] 42 (0, 0))).heap.size = w.heap.size + 1 + 1 := by simp
      rw [e2] at hx2
      clear e2
      obtain ⟨hx0a, hx0b, hx0c⟩ := two_facts hx0
      obtain ⟨hx0f, hx0g⟩ := two_frozen hx0
      obtain ⟨hx1a, hx1b, hx1c⟩ := two_facts hx1
      obtain ⟨hx1f, hx1g⟩ := two_frozen hx1
      obtain ⟨hx2a, hx2b, hx2c⟩ := two_facts hx2
      obtain ⟨hx2f, hx2g⟩ := two_frozen hx2
      refine (hg _).mono ?_; rintro e w1 ⟨rfl, hb1⟩
      have hbw1 := nx hb0 hb1
      replace hx0 := heap_keep hb1 hx0
      replace hx1 := heap_keep hb1 hx1
      replace hx2 := heap_keep hb1 hx2
      clear hx0a hx0b hx0c hx0f hx0g
      obtain ⟨hx0a, hx0b, hx0c⟩ := two_facts hx0
      obtain ⟨hx0f, hx0g⟩ := two_frozen hx0
      clear hx1a hx1b hx1c hx1f hx1g
      obtain ⟨hx1a, hx1b, hx1c⟩ := two_facts hx1
      obtain ⟨hx1f, hx1g⟩ := two_frozen hx1
      clear hx2a hx2b hx2c hx2f hx2g
      obtain ⟨hx2a, hx2b, hx2c⟩ := two_facts hx2
      obtain ⟨hx2f, hx2g⟩ := two_frozen hx2
      clear hb1 hb0
      go_wp2_with fail
      refine (hk _).mono ?_; rintro e w2 ⟨rfl, hb2⟩
      have hbw2 := nx hbw1 hb2
      replace hx0 := heap_keep hb2 hx0
      replace hx1 := heap_keep hb2 hx1
      replace hx2 := heap_keep hb2 hx2
      clear hx0a hx0b hx0c hx0f hx0g
      obtain ⟨hx0a, hx0b, hx0c⟩ := two_facts hx0
      obtain ⟨hx0f, hx0g⟩ := two_frozen hx0
      clear hx1a hx1b hx1c hx1f hx1g
      obtain ⟨hx1a, hx1b, hx1c⟩ := two_facts hx1
      obtain ⟨hx1f, hx1g⟩ := two_frozen hx1
      clear hx2a hx2b hx2c hx2f hx2g
      obtain ⟨hx2a, hx2b, hx2c⟩ := two_facts hx2
      obtain ⟨hx2f, hx2g⟩ := two_frozen hx2
      clear hb2 hbw1
      go_wp2_with fail
      have hz := Below.refl w2.heap.size w2
      go_region_held3 (fun w' => w'.cell? ⟨w.heap.size, 0, none⟩ = some (.string p.1.str) ∧ w'.cell? ⟨w.heap.size, 1, none⟩ = some (.string p.2.str) ∧ w'.cell? ⟨w.heap.size + 1, 0, none⟩ = some (.int .i64 n) ∧ w'.cell? ⟨w.heap.size + 1, 1, none⟩ = some (.int .i64 d))
        (first
          | exact ⟨hx0a, hx0b, hx1a, hx1b⟩
          | exact K1
          | exact K2
          | exact K3
          | exact K4
          | exact K5
          | exact K6
          | exact K7 _ _)
        (first
          | (go_at_call 66; refine (hM' _).mono ?_; rintro e w3 ⟨g, cap, hg3, m1, m2, hcl, hb3, rfl⟩; have hb3' := nx hz.drew hb3; have K1 := And.intro (keep_cell hb3' hx0a) (And.intro (keep_cell hb3' hx0b) (And.intro (keep_cell hb3' hx1a) (keep_cell hb3' hx1b))))
          | (go_at_call 57; refine (hs _).mono ?_; rintro e w4 ⟨rfl, hb4⟩; have hb4' := nx hb3' hb4; have K2 := And.intro (keep_cell hb4' hx0a) (And.intro (keep_cell hb4' hx0b) (And.intro (keep_cell hb4' hx1a) (keep_cell hb4' hx1b))); have hcl4 := fun i (hi : i < m * 3) => keep_cell hb4 (hcl i hi); have hg4 := Nat.lt_of_lt_of_le hg3 hb4.size; have hP' := hP g cap w4 hg4 m1 m2 hcl4)
          | (go_at_call 65; refine hP'.mono ?_; rintro e w5 ⟨rfl, hb5⟩; have hb5' := nx hb4' hb5; have K3 := And.intro (keep_cell hb5' hx0a) (And.intro (keep_cell hb5' hx0b) (And.intro (keep_cell hb5' hx1a) (keep_cell hb5' hx1b))))
          | (go_at_call 57; refine (hs _).mono ?_; rintro e w6 ⟨rfl, hb6⟩; have hb6' := nx hb5' hb6; have K4 := And.intro (keep_cell hb6' hx0a) (And.intro (keep_cell hb6' hx0b) (And.intro (keep_cell hb6' hx1a) (keep_cell hb6' hx1b))))
          | (go_at_call 67; refine (hV _).mono ?_; rintro e w7 ⟨rfl, hb7⟩; have hb7' := nx hb6' hb7; have K5 := And.intro (keep_cell hb7' hx0a) (And.intro (keep_cell hb7' hx0b) (And.intro (keep_cell hb7' hx1a) (keep_cell hb7' hx1b))))
          | (go_at_call 64; refine (hF _).mono ?_; rintro e w8 ⟨rfl, hb8⟩; have hb8' := nx hb7' hb8; have K6 := And.intro (keep_cell hb8' hx0a) (And.intro (keep_cell hb8' hx0b) (And.intro (keep_cell hb8' hx1a) (keep_cell hb8' hx1b))); have hx8 := heap_keep hb8' hx2; obtain ⟨sa, sb, sc⟩ := two_facts hx8; obtain ⟨sf, sg⟩ := two_frozen hx8; have K7 := fun (u1 u2 : Value) => And.intro (keep_set2 (u1 := u1) (u2 := u2) (g := w.heap.size + 2) K6.1 (by omega)) (And.intro (keep_set2 (u1 := u1) (u2 := u2) (g := w.heap.size + 2) K6.2.1 (by omega)) (And.intro (keep_set2 (u1 := u1) (u2 := u2) (g := w.heap.size + 2) K6.2.2.1 (by omega)) (keep_set2 (u1 := u1) (u2 := u2) (g := w.heap.size + 2) K6.2.2.2 (by omega))))))
      go_wp2_with fail
      have hbw8 := nx hbw2 hb8'
      replace hx2 := heap_keep hb8' hx2
      obtain ⟨q1, q2⟩ := two_cells (set_two (.int .i64 y1) (.int .i64 y2) hx2)
      refine bodyPost_ret (v := .tuple #[.agg #[.int .i64 y1, .int .i64 y2], .bool ok]) (by simp [q1, q2, results, Tryz.results32, go_sem]) rfl ⟨rfl, ?_⟩
      exact (hbw8.setCell (by show w.heap.size ≤ w.heap.size + 1 + 1; omega) _).setCell (by show w.heap.size ≤ w.heap.size + 1 + 1; omega) _
end Go.Proofs.YtjmbkieocmhmiaaGreat

/-! Vl3 -/
namespace Go.Proofs.YtjmbkieocmhmiaaGreat
open Go.RowKit

theorem wrap_nat {k : Nat} (h : k ≤ 4611686018427387904) : wrap64 (k : Int) = (k : Int) := by unfold wrap64; omega
set_option maxRecDepth 100000 in
set_option maxHeartbeats 4000000 in
theorem mpValue_any (p : Pr) (n d : Nat) (w : World) (hc1 : p.1.carets ≤ 8) (hc2 : p.2.carets ≤ 8) (hok : p.1.carets = p.2.carets) (k : isFr n d = true) :
    Calls Tryz.prog 63 #[.agg #[.string p.1.str, .string p.2.str], .agg #[.int .i64 n, .int .i64 d]] w (Gives (.agg #[.int .i64 (frOf (valP p (stepsOf n d))).1, .int .i64 (frOf (valP p (stepsOf n d))).2]) w) := by
  obtain ⟨a, b, ea, eb, hlt, a8, b8, ab, bb, hsa, hv, _⟩ := val_facts p hc1 hc2 hok (stepsOf n d)
  rw [hv]
  have hsl := (steps_le k).1
  have hsm := (steps_le k).2.1
  have hL := fun w => mpLeaf_any p.1 n d w hc1 k
  have hM1 := fun w => mpOf_any a w (by omega) ab
  have hM2 := fun w => mpOf_any b w (by omega) bb
  have l1 := addrs_length p.1 ⟨#[]⟩
  have l2 := addrs_length p.2 ⟨#[]⟩
  have hA1 := fun w => trAddresses_any p.1 ⟨#[]⟩ w (by omega) (by show 0 + p.1.carets ≤ 1000; omega)
  have hA2 := fun w => trAddresses_any p.2 ⟨#[]⟩ w (by omega) (by show 0 + p.2.carets ≤ 1000; omega)
  obtain ⟨hp0, hsh⟩ := vl_short (la := a.size) (steps_cross k) (frOf_bd a8 ab).2.2.2 (frOf_bd b8 bb).2.2.2 hsm (stA_thousand (a := a) (by omega)) (by omega : b.size ≤ 10) (by have := isFr_nats k; obtain ⟨_, _, e1, e2, _, h, _⟩ := this; omega) (frOf_bd a8 ab).2.1 (frOf_bd b8 bb).2.1
  rw [← hsh]
  have hsub := vl_sub (steps_cross k) (frOf_bd a8 ab).2.2.2 hsa
  obtain ⟨na9, da0, da9, _⟩ := frOf_bd a8 ab
  obtain ⟨nb9, db0, db9, _⟩ := frOf_bd b8 bb
  have pa := pow8 a8
  have pb := pow8 b8
  have w1' : wrap64 ((2 : Int) ^ a.size) = ((2 ^ a.size : Nat) : Int) := by
    rcases small_cases (show a.size ≤ 10 by omega) with e | e | e | e | e | e | e | e | e | e | e <;> (rw [e]; decide +kernel)
  have w2' : wrap64 ((2 : Int) ^ b.size) = ((2 ^ b.size : Nat) : Int) := by
    rcases small_cases (show b.size ≤ 10 by omega) with e | e | e | e | e | e | e | e | e | e | e <;> (rw [e]; decide +kernel)
  obtain ⟨nn, dd, en, ed, n1, d1, d2⟩ := isFr_nats k
  have nd : n ≤ d := by omega
  have d9 : d ≤ 1024 := by omega
  generalize (2 : Nat) ^ a.size = P at *
  generalize (2 : Nat) ^ b.size = Q at *
  generalize (frOf (stA a)).1 = na at *
  generalize (frOf (stA a)).2 = da at *
  generalize (frOf (stA b)).1 = nb at *
  generalize (frOf (stA b)).2 = db at *
  generalize lastTo p.1.starts (stepsOf n d) = r at *
  obtain ⟨m, hm⟩ : ∃ m, p.1.carets + 1 = m := ⟨_, rfl⟩
  rw [hm] at l1 hlt
  rw [← hok, hm] at l2
  have hm9 : m ≤ 9 := by omega
  have AF : ∀ (t : Tr) (c : ByteArray), (t.addrs ⟨#[]⟩).length = m → c = (t.addrs ⟨#[]⟩).getD r ⟨#[]⟩ → (∀ w, Calls Tryz.prog 91 #[.string t.str, .string ⟨#[]⟩] w (GivesTexts (t.addrs ⟨#[]⟩) w)) → ∀ w, Calls Tryz.prog 91 #[.string t.str, .string ⟨#[]⟩] w fun e w' => ∃ g cap : Nat, w'.cell? ⟨g, r, none⟩ = some (.string c) ∧ m ≤ cap ∧ cap ≤ maxLen ∧ Below w.heap.size w w' ∧ e = .returned (.slice (some ⟨g, 0, none⟩) m cap) := by
    intro t c hl hc h w
    refine (h w).mono ?_
    rintro e w' ⟨g, cap, own, hb, rfl⟩
    rcases own.cells with ⟨_, h0⟩ | ⟨g', cap', hv, hg0, hg, q1, q2, hcell, _⟩
    · rw [h0] at hl; simp only [List.length_nil] at hl; omega
    · obtain ⟨rfl, rfl⟩ : g' = g ∧ cap' = cap := by simpa using hv.symm
      rw [hl] at q1 hcell ⊢
      exact ⟨_, _, by rw [hc]; exact hcell r (by omega), q1, q2, hb, rfl⟩
  have hA1' := AF p.1 a l1 ea hA1
  have hA2' := AF p.2 b l2 eb hA2
  have hlt' : (r : Int) < (m : Int) := by omega
  clear hsh hv hsa hsl hsm ab bb k n1 d1 d2 en ed nn dd AF hA1 hA2 ea eb l1 l2 hm hlt
  have c1 : n * da ≤ 262144 := mul_bd (A := 1024) (B := 256) (by omega) da9 rfl
  have c2 : na * d ≤ 262144 := by omega
  have c3 : d * da ≤ 262144 := mul_bd (A := 1024) (B := 256) d9 da9 rfl
  obtain ⟨X, hX⟩ : ∃ X, n * da - na * d = X := ⟨_, rfl⟩
  obtain ⟨Y, hY⟩ : ∃ Y, d * da = Y := ⟨_, rfl⟩
  have i1 : (n : Int) * (da : Int) = ((n * da : Nat) : Int) := by simp
  have i2 : (na : Int) * (d : Int) = ((na * d : Nat) : Int) := by simp
  have i3 : (d : Int) * (da : Int) = ((d * da : Nat) : Int) := by simp
  have i4 : (n : Int) * (da : Int) - (na : Int) * (d : Int) = (X : Int) := by omega
  have i5 : (d : Int) * (da : Int) = (Y : Int) := by omega
  rw [hY] at hp0
  rw [hX, hY]
  have b1 : X * P ≤ 67108864 := mul_bd (A := 262144) (B := 256) (by omega) pa.2 rfl
  have b2 : X * P * db ≤ 17179869184 := mul_bd b1 db9 rfl
  have b3 : Y * Q ≤ 67108864 := mul_bd (A := 262144) (B := 256) (by omega) pb.2 rfl
  have b4 : nb * (Y * Q) ≤ 17179869184 := mul_bd nb9 b3 rfl
  have b5 : Y * Q * db ≤ 17179869184 := mul_bd b3 db9 rfl
  have hS := fun w => mpShort_any (X * P * db + nb * (Y * Q)) (Y * Q * db) w hp0 (by omega) (by omega)
  have hE1 : wrap64 (wrap64 (wrap64 (((n : Int) * (da : Int) - (na : Int) * (d : Int)) * (P : Int)) * (db : Int)) + wrap64 ((nb : Int) * wrap64 ((d : Int) * (da : Int) * (Q : Int)))) = ((X * P * db + nb * (Y * Q) : Nat) : Int) := by
    rw [i4, i5, ← Int.natCast_mul X P, wrap_nat (by omega), ← Int.natCast_mul (X * P) db, wrap_nat (by omega), ← Int.natCast_mul Y Q, wrap_nat (by omega), ← Int.natCast_mul nb, wrap_nat (by omega), ← Int.natCast_add, wrap_nat (by omega)]
  have hE2 : wrap64 (wrap64 ((d : Int) * (da : Int) * (Q : Int)) * (db : Int)) = ((Y * Q * db : Nat) : Int) := by
    rw [i5, ← Int.natCast_mul Y Q, wrap_nat (by omega), ← Int.natCast_mul (Y * Q) db, wrap_nat (by omega)]
  rw [← hE1, ← hE2] at hS
  generalize (shortN (X * P * db + nb * (Y * Q)) (Y * Q * db)).1 = z1 at *
  generalize (shortN (X * P * db + nb * (Y * Q)) (Y * Q * db)).2 = z2 at *
  have j1 : 0 ≤ (n : Int) * (da : Int) ∧ (n : Int) * (da : Int) ≤ 262144 := by omega
  have j2 : 0 ≤ (na : Int) * (d : Int) ∧ (na : Int) * (d : Int) ≤ 262144 := by omega
  have j3 : 0 ≤ (d : Int) * (da : Int) ∧ (d : Int) * (da : Int) ≤ 262144 := by omega
  obtain ⟨j1a, j1b⟩ := j1
  obtain ⟨j2a, j2b⟩ := j2
  obtain ⟨j3a, j3b⟩ := j3
  clear i1 i2 i3 i4 i5 b1 b2 b3 b4 b5 hE1 hE2 hp0 c1 c2 c3
  go_enter Tryz.func63, Tryz.ntmps63
  go_wp2_with fail
  have hb0 : Below w.heap.size w (((w.alloc (.cells #[.string p.1.str, .string p.2.str] 25 (0, 0))).alloc (.cells #[.int .i64 n, .int .i64 d] 42 (0, 0))).alloc (.cells #[.int .i64 0, .int .i64 0] 42 (0, 0))) := nxAlloc (nxAlloc (nxAlloc (Below.refl _ _) _) _) _
  have hx0 := heap_keep (nxAlloc (Below.refl _ _) (.cells #[.int .i64 0, .int .i64 0] 42 (0, 0))) (heap_keep (nxAlloc (Below.refl _ _) (.cells #[.int .i64 n, .int .i64 d] 42 (0, 0))) (heap_alloc_at w (.cells #[.string p.1.str, .string p.2.str] 25 (0, 0))))
  have hx1 := heap_keep (nxAlloc (Below.refl _ _) (.cells #[.int .i64 0, .int .i64 0] 42 (0, 0))) (heap_alloc_at (w.alloc (.cells #[.string p.1.str, .string p.2.str] 25 (0, 0))) (.cells #[.int .i64 n, .int .i64 d] 42 (0, 0)))
  have hx2 := heap_alloc_at ((w.alloc (.cells #[.string p.1.str, .string p.2.str] 25 (0, 0))).alloc (.cells #[.int .i64 n, .int .i64 d] 42 (0, 0))) (.cells #[.int .i64 0, .int .i64 0] 42 (0, 0))
  generalize (((w.alloc (.cells #[.string p.1.str, .string p.2.str] 25 (0, 0))).alloc (.cells #[.int .i64 n, .int .i64 d] 42 (0, 0))).alloc (.cells #[.int .i64 0, .int .i64 0] 42 (0, 0))) = w0 at *
  have e1 : (w.alloc (.cells #[.string p.1.str, .string p.2.str] 25 (0, 0))).heap.size = w.heap.size + 1 := by simp
  rw [e1] at hx1
  clear e1
  have e2 : ((w.alloc (.cells #[.string p.1.str, .string p.2.str] 25 (0, 0))).alloc (.cells #[.int .i64 n, .int .i64 d] 42 (0, 0))).heap.size = w.heap.size + 1 + 1 := by simp
  rw [e2] at hx2
  clear e2
  obtain ⟨hx0a, hx0b, hx0c⟩ := two_facts hx0
  obtain ⟨hx0f, hx0g⟩ := two_frozen hx0
  obtain ⟨hx1a, hx1b, hx1c⟩ := two_facts hx1
  obtain ⟨hx1f, hx1g⟩ := two_frozen hx1
  obtain ⟨hx2a, hx2b, hx2c⟩ := two_facts hx2
  obtain ⟨hx2f, hx2g⟩ := two_frozen hx2
  refine (hL _).mono ?_; rintro e w1 ⟨rfl, hb1⟩
  have hbw1 := nx hb0 hb1
  replace hx0 := heap_keep hb1 hx0
  replace hx1 := heap_keep hb1 hx1
  replace hx2 := heap_keep hb1 hx2
  clear hx0a hx0b hx0c hx0f hx0g
  obtain ⟨hx0a, hx0b, hx0c⟩ := two_facts hx0
  obtain ⟨hx0f, hx0g⟩ := two_frozen hx0
  clear hx1a hx1b hx1c hx1f hx1g
  obtain ⟨hx1a, hx1b, hx1c⟩ := two_facts hx1
  obtain ⟨hx1f, hx1g⟩ := two_frozen hx1
  clear hx2a hx2b hx2c hx2f hx2g
  obtain ⟨hx2a, hx2b, hx2c⟩ := two_facts hx2
  obtain ⟨hx2f, hx2g⟩ := two_frozen hx2
  clear hb1 hb0
  go_wp2_with fail
  have hz := Below.refl w1.heap.size w1
  refine wp_region_held_drew (S := (fun w' => w'.cell? ⟨w.heap.size, 0, none⟩ = some (.string p.1.str) ∧ w'.cell? ⟨w.heap.size, 1, none⟩ = some (.string p.2.str) ∧ w'.cell? ⟨w.heap.size + 1, 0, none⟩ = some (.int .i64 n) ∧ w'.cell? ⟨w.heap.size + 1, 1, none⟩ = some (.int .i64 d))) (by kernel_rfl) ⟨hx0a, hx0b, hx1a, hx1b⟩ (fun hH0 => ?_)
  refine wpAnyH_take (i := 0) (oi := ?oi1) (v := ?vv1) ?hi1 ?hn1 ?hf1 ?hr1 ?hq1 (Or.inl ⟨?hg1, ?hy1⟩) hH0 ?rest1
  case hi1 => (simp only [List.getElem?_toArray, List.getElem?_cons_zero]; rfl)
  case hn1 => kernel_rfl
  case hf1 => kernel_rfl
  case hr1 => kernel_rfl
  case hg1 => rfl
  case hy1 => (intro w hSw; (try dsimp only at hSw); go_simp; first | done | with_reducible rfl)
  case hq1 => exact fun _ _ _ h => h
  try dsimp only [Act.put]
  refine wpAnyH_take (i := 1) (oi := ?oi2) (v := ?vv2) ?hi2 ?hn2 ?hf2 ?hr2 ?hq2 (Or.inl ⟨?hg2, ?hy2⟩) hH0 ?rest2
  case hi2 => (simp only [List.getElem?_toArray, List.getElem?_cons_succ, List.getElem?_cons_zero]; rfl)
  case hn2 => kernel_rfl
  case hf2 => kernel_rfl
  case hr2 => kernel_rfl
  case hg2 => rfl
  case hy2 => (intro w hSw; (try dsimp only at hSw); go_simp; first | done | with_reducible rfl)
  case hq2 => exact fun _ _ _ h => h
  try dsimp only [Act.put]
  refine wpAnyH_take (i := 3) (oi := ?oi3) (v := ?vv3) ?hi3 ?hn3 ?hf3 ?hr3 ?hq3 (Or.inl ⟨?hg3, ?hy3⟩) hH0 ?rest3
  case hi3 => (simp only [List.getElem?_toArray, List.getElem?_cons_succ, List.getElem?_cons_zero]; rfl)
  case hn3 => kernel_rfl
  case hf3 => kernel_rfl
  case hr3 => kernel_rfl
  case hg3 => rfl
  case hy3 => (intro w hSw; (try dsimp only at hSw); go_simp; first | done | with_reducible rfl)
  case hq3 => exact fun _ _ _ h => h
  try dsimp only [Act.put]
  refine wpAnyH_take (i := 6) (oi := ?oi4) (v := ?vv4) ?hi4 ?hn4 ?hf4 ?hr4 ?hq4 (Or.inl ⟨?hg4, ?hy4⟩) hH0 ?rest4
  case hi4 => (simp only [List.getElem?_toArray, List.getElem?_cons_succ, List.getElem?_cons_zero]; rfl)
  case hn4 => kernel_rfl
  case hf4 => kernel_rfl
  case hr4 => kernel_rfl
  case hg4 => rfl
  case hy4 => (intro w hSw; (try dsimp only at hSw); go_simp; first | done | with_reducible rfl)
  case hq4 => exact fun _ _ _ h => h
  try dsimp only [Act.put]
  refine wpAnyH_take (i := 7) (oi := ?oi5) (v := ?vv5) ?hi5 ?hn5 ?hf5 ?hr5 ?hq5 (Or.inl ⟨?hg5, ?hy5⟩) hH0 ?rest5
  case hi5 => (simp only [List.getElem?_toArray, List.getElem?_cons_succ, List.getElem?_cons_zero]; rfl)
  case hn5 => kernel_rfl
  case hf5 => kernel_rfl
  case hr5 => kernel_rfl
  case hg5 => rfl
  case hy5 => (intro w hSw; (try dsimp only at hSw); go_simp; first | done | with_reducible rfl)
  case hq5 => exact fun _ _ _ h => h
  try dsimp only [Act.put]
  refine wpAnyH_take (i := 9) (oi := ?oi6) (v := ?vv6) ?hi6 ?hn6 ?hf6 ?hr6 ?hq6 (Or.inl ⟨?hg6, ?hy6⟩) hH0 ?rest6
  case hi6 => (simp only [List.getElem?_toArray, List.getElem?_cons_succ, List.getElem?_cons_zero]; rfl)
  case hn6 => kernel_rfl
  case hf6 => kernel_rfl
  case hr6 => kernel_rfl
  case hg6 => rfl
  case hy6 => (intro w hSw; (try dsimp only at hSw); go_simp; first | done | with_reducible rfl)
  case hq6 => exact fun _ _ _ h => h
  try dsimp only [Act.put]
  refine held_one 2 rfl (by kernel_rfl) (fun K hK => ?_)
  go_simp
  refine (hA1' _).mono ?_; rintro e w3 ⟨g1, cap1, hcl1, m1, m2, hb3, rfl⟩
  have hb3' := nx hz.drew hb3
  have K1 := And.intro (keep_cell hb3' hx0a) (And.intro (keep_cell hb3' hx0b) (And.intro (keep_cell hb3' hx1a) (keep_cell hb3' hx1b)))
  go_wp2_with fail
  have hH1 : (fun (w' : World) => (w'.cell? ⟨w.heap.size, 0, none⟩ = some (.string p.1.str) ∧ w'.cell? ⟨w.heap.size, 1, none⟩ = some (.string p.2.str) ∧ w'.cell? ⟨w.heap.size + 1, 0, none⟩ = some (.int .i64 n) ∧ w'.cell? ⟨w.heap.size + 1, 1, none⟩ = some (.int .i64 d)) ∧ w'.cell? ⟨g1, r, none⟩ = some (.string a)) _ := ⟨K1, hcl1⟩
  refine hK.out (fun (w' : World) => (w'.cell? ⟨w.heap.size, 0, none⟩ = some (.string p.1.str) ∧ w'.cell? ⟨w.heap.size, 1, none⟩ = some (.string p.2.str) ∧ w'.cell? ⟨w.heap.size + 1, 0, none⟩ = some (.int .i64 n) ∧ w'.cell? ⟨w.heap.size + 1, 1, none⟩ = some (.int .i64 d)) ∧ w'.cell? ⟨g1, r, none⟩ = some (.string a)) _ _ (fun _ h => h.1) hH1 ?_
  clear hK K
  try dsimp only [Act.put]
  refine wpAnyH_take (i := 4) (oi := ?oi7) (v := ?vv7) ?hi7 ?hn7 ?hf7 ?hr7 ?hq7 (Or.inl ⟨?hg7, ?hy7⟩) hH1 ?rest7
  case hi7 => (simp only [List.getElem?_toArray, List.getElem?_cons_succ, List.getElem?_cons_zero]; rfl)
  case hn7 => kernel_rfl
  case hf7 => kernel_rfl
  case hr7 => kernel_rfl
  case hg7 => rfl
  case hy7 => (intro w hSw; (try dsimp only at hSw); go_simp; first | done | with_reducible rfl)
  case hq7 => exact fun _ _ _ h => h
  try dsimp only [Act.put]
  refine wpAnyH_take (i := 5) (oi := ?oi8) (v := ?vv8) ?hi8 ?hn8 ?hf8 ?hr8 ?hq8 (Or.inl ⟨?hg8, ?hy8⟩) hH1 ?rest8
  case hi8 => (simp only [List.getElem?_toArray, List.getElem?_cons_succ, List.getElem?_cons_zero]; rfl)
  case hn8 => kernel_rfl
  case hf8 => kernel_rfl
  case hr8 => kernel_rfl
  case hg8 => rfl
  case hy8 => (intro w hSw; (try dsimp only at hSw); go_simp; first | done | with_reducible rfl)
  case hq8 => exact fun _ _ _ h => h
  try dsimp only [Act.put]
  refine held_one 8 rfl (by kernel_rfl) (fun K hK => ?_)
  go_simp
  refine (hA2' _).mono ?_; rintro e w4 ⟨g2, cap2, hcl2, m3, m4, hb4, rfl⟩
  have hb4' := nx hb3' hb4
  have hcl14 := keep_cell hb4 hcl1
  have K2 := And.intro (keep_cell hb4' hx0a) (And.intro (keep_cell hb4' hx0b) (And.intro (keep_cell hb4' hx1a) (keep_cell hb4' hx1b)))
  go_wp2_with fail
  have hH2 : (fun (w' : World) => ((w'.cell? ⟨w.heap.size, 0, none⟩ = some (.string p.1.str) ∧ w'.cell? ⟨w.heap.size, 1, none⟩ = some (.string p.2.str) ∧ w'.cell? ⟨w.heap.size + 1, 0, none⟩ = some (.int .i64 n) ∧ w'.cell? ⟨w.heap.size + 1, 1, none⟩ = some (.int .i64 d)) ∧ w'.cell? ⟨g1, r, none⟩ = some (.string a)) ∧ w'.cell? ⟨g2, r, none⟩ = some (.string b)) _ := ⟨⟨K2, hcl14⟩, hcl2⟩
  refine hK.out (fun (w' : World) => ((w'.cell? ⟨w.heap.size, 0, none⟩ = some (.string p.1.str) ∧ w'.cell? ⟨w.heap.size, 1, none⟩ = some (.string p.2.str) ∧ w'.cell? ⟨w.heap.size + 1, 0, none⟩ = some (.int .i64 n) ∧ w'.cell? ⟨w.heap.size + 1, 1, none⟩ = some (.int .i64 d)) ∧ w'.cell? ⟨g1, r, none⟩ = some (.string a)) ∧ w'.cell? ⟨g2, r, none⟩ = some (.string b)) _ _ (fun _ h => h.1) hH2 ?_
  clear hK K
  try dsimp only [Act.put]
  refine wpAnyH_take (i := 10) (oi := ?oi9) (v := ?vv9) ?hi9 ?hn9 ?hf9 ?hr9 ?hq9 (Or.inl ⟨?hg9, ?hy9⟩) hH2 ?rest9
  case hi9 => (simp only [List.getElem?_toArray, List.getElem?_cons_succ, List.getElem?_cons_zero]; rfl)
  case hn9 => kernel_rfl
  case hf9 => kernel_rfl
  case hr9 => kernel_rfl
  case hg9 => rfl
  case hy9 => (intro w hSw; (try dsimp only at hSw); go_simp; first | done | with_reducible rfl)
  case hq9 => exact fun _ _ _ h => h
  try dsimp only [Act.put]
  refine wpAnyH_take (i := 11) (oi := ?oi10) (v := ?vv10) ?hi10 ?hn10 ?hf10 ?hr10 ?hq10 (Or.inl ⟨?hg10, ?hy10⟩) hH2 ?rest10
  case hi10 => (simp only [List.getElem?_toArray, List.getElem?_cons_succ, List.getElem?_cons_zero]; rfl)
  case hn10 => kernel_rfl
  case hf10 => kernel_rfl
  case hr10 => kernel_rfl
  case hg10 => rfl
  case hy10 => (intro w hSw; (try dsimp only at hSw); go_simp; first | done | with_reducible rfl)
  case hq10 => exact fun _ _ _ h => h
  try dsimp only [Act.put]
  refine wpAnyH_take (i := 12) (oi := ?oi11) (v := ?vv11) ?hi11 ?hn11 ?hf11 ?hr11 ?hq11 (Or.inl ⟨?hg11, ?hy11⟩) hH2 ?rest11
  case hi11 => (simp only [List.getElem?_toArray, List.getElem?_cons_succ, List.getElem?_cons_zero]; rfl)
  case hn11 => kernel_rfl
  case hf11 => kernel_rfl
  case hr11 => kernel_rfl
  case hg11 => rfl
  case hy11 => (intro w hSw; (try dsimp only at hSw); go_simp; first | done | with_reducible rfl)
  case hq11 => exact fun _ _ _ h => h
  try dsimp only [Act.put]
  refine wpAnyH_take (i := 13) (oi := ?oi12) (v := ?vv12) ?hi12 ?hn12 ?hf12 ?hr12 ?hq12 (Or.inl ⟨?hg12, ?hy12⟩) hH2 ?rest12
  case hi12 => (simp only [List.getElem?_toArray, List.getElem?_cons_succ, List.getElem?_cons_zero]; rfl)
  case hn12 => kernel_rfl
  case hf12 => kernel_rfl
  case hr12 => kernel_rfl
  case hg12 => rfl
  case hy12 => (intro w hSw; (try dsimp only at hSw); go_simp; first | done | with_reducible rfl)
  case hq12 => exact fun _ _ _ h => h
  try dsimp only [Act.put]
  refine wpAnyH_done (by kernel_rfl) ?_ _
  simp only [List.setIfInBounds_toArray, List.set_cons_zero, List.set_cons_succ]
  go_wp2_with fail
  refine (hM1 _).mono ?_; rintro e w5 ⟨rfl, hb5⟩
  go_wp2_with fail
  refine (hM2 _).mono ?_; rintro e w6 ⟨rfl, hb6⟩
  clear hH0 hH1 hH2 K1 K2 hx0 hx0a hx0b hx0c hx0f hx0g hM1 hM2 hA1' hA2' hL
  have hbw6 := nx (nx (nx hbw1 hb4') hb5) hb6
  replace hx1 := heap_keep hb6 (heap_keep hb5 (heap_keep hb4' hx1))
  replace hx2 := heap_keep hb6 (heap_keep hb5 (heap_keep hb4' hx2))
  clear hb3 hb3' hb4 hb4' hb5 hb6 hbw1 hcl1 hcl2 hcl14 hx1a hx1b hx1c hx1f hx1g hx2a hx2b hx2c hx2f hx2g hlt' hm9
  go_wp2_with fail
  have hb0 : Below w.heap.size w ((w6.alloc (.cells #[.int .i64 na, .int .i64 da] 42 (0, 0))).alloc (.cells #[.int .i64 nb, .int .i64 db] 42 (0, 0))) := nxAlloc (nxAlloc hbw6 _) _
  have hx3 := heap_keep (nxAlloc (Below.refl _ _) (.cells #[.int .i64 nb, .int .i64 db] 42 (0, 0))) (heap_alloc_at w6 (.cells #[.int .i64 na, .int .i64 da] 42 (0, 0)))
  have hx4 := heap_alloc_at (w6.alloc (.cells #[.int .i64 na, .int .i64 da] 42 (0, 0))) (.cells #[.int .i64 nb, .int .i64 db] 42 (0, 0))
  replace hx1 := heap_keep (nxAlloc (Below.refl _ _) (.cells #[.int .i64 nb, .int .i64 db] 42 (0, 0))) (heap_keep (nxAlloc (Below.refl _ _) (.cells #[.int .i64 na, .int .i64 da] 42 (0, 0))) hx1)
  replace hx2 := heap_keep (nxAlloc (Below.refl _ _) (.cells #[.int .i64 nb, .int .i64 db] 42 (0, 0))) (heap_keep (nxAlloc (Below.refl _ _) (.cells #[.int .i64 na, .int .i64 da] 42 (0, 0))) hx2)
  have e4 : (w6.alloc (.cells #[.int .i64 na, .int .i64 da] 42 (0, 0))).heap.size = w6.heap.size + 1 := by simp
  rw [e4] at hx4
  generalize (w6.alloc (.cells #[.int .i64 na, .int .i64 da] 42 (0, 0))).alloc (.cells #[.int .i64 nb, .int .i64 db] 42 (0, 0)) = w7 at *
  obtain ⟨ya, yb, yc⟩ := two_facts hx1
  obtain ⟨ua, ub, uc⟩ := two_facts hx3
  obtain ⟨va, vb, vc⟩ := two_facts hx4
  go_quiet (fail)
  go_wp2_with fail
  refine (hS _).mono ?_; rintro e w8 ⟨rfl, hb8⟩
  have hbw8 := nx (drewB hb0 nq) hb8
  replace hx2 := heap_keep hb8 hx2
  obtain ⟨ra, rb, rc⟩ := two_facts hx2
  obtain ⟨rf, rg⟩ := two_frozen hx2
  go_wp2_with fail
  obtain ⟨q1, q2⟩ := two_cells (set_two (.int .i64 z1) (.int .i64 z2) hx2)
  refine bodyPost_ret (v := .agg #[.int .i64 z1, .int .i64 z2]) (by simp [q1, q2, results, Tryz.results63, go_sem]) rfl ⟨rfl, ?_⟩
  exact (hbw8.setCell (by show w.heap.size ≤ w.heap.size + 1 + 1; omega) _).setCell (by show w.heap.size ≤ w.heap.size + 1 + 1; omega) _
end Go.Proofs.YtjmbkieocmhmiaaGreat

/-! Ob4 -/
namespace Go.Proofs.YtjmbkieocmhmiaaGreat
open Go.RowKit

/-- A fraction and to what it is carried so many times. -/
def orbN (p : Pr) (x : Nat × Nat) : Nat → Option (List (Nat × Nat))
  | 0 => some [x]
  | k + 1 => (orbN p x k).bind fun l => (frA (valP p (stepsOf (l.getD k (0, 0)).1 (l.getD k (0, 0)).2))).map fun y => l ++ [y]
theorem orbN_len {p : Pr} {x : Nat × Nat} : ∀ {k : Nat} {l : List (Nat × Nat)}, orbN p x k = some l → l.length = k + 1 := by
  intro k
  induction k with
  | zero => intro l h; simp [orbN] at h; subst h; rfl
  | succ k ih =>
    intro l h
    cases e : orbN p x k with
    | none => simp [orbN, e] at h
    | some m =>
      simp only [orbN, e, Option.bind_some, Option.map_eq_some_iff] at h
      obtain ⟨y, _, rfl⟩ := h
      have := ih e
      simp; omega
theorem orbN_none {p : Pr} {x : Nat × Nat} {k : Nat} (h : orbN p x k = none) : ∀ {j : Nat}, k ≤ j → orbN p x j = none := by
  intro j hj
  induction j with
  | zero => obtain rfl : k = 0 := by omega
            exact h
  | succ j ih =>
    by_cases e : k = j + 1
    · subst e; exact h
    · simp [orbN, ih (by omega)]
theorem orbN_step {p : Pr} {x y : Nat × Nat} {k : Nat} {l : List (Nat × Nat)} (h : orbN p x k = some l) (hy : l.getD k (0, 0) = y) : orbN p x (k + 1) = (frA (valP p (stepsOf y.1 y.2))).map fun z => l ++ [z] := by
  subst hy
  simp only [orbN, h, Option.bind_some]
theorem last_snoc (l : List (Nat × Nat)) (y : Nat × Nat) {k : Nat} (h : l.length = k) : (l ++ [y]).getD k (0, 0) = y := by
  subst h
  rw [List.getD_eq_getElem?_getD, List.getElem?_append_right (Nat.le_refl _)]
  simp
def orbO (a b : ByteArray) (n d k : Int) : Option (List (Nat × Nat)) := (pairOf a b).bind fun p => if isFr n d = true ∧ 0 ≤ k ∧ k ≤ 20 then orbN p (n.toNat, d.toNat) k.toNat else none
theorem frA_cases (s : Nat) : (isFr (frOf s).1 (frOf s).2 = true ∧ frA s = some (frOf s)) ∨ (isFr (frOf s).1 (frOf s).2 = false ∧ frA s = none) := by
  unfold frA
  cases h : isFr (frOf s).1 (frOf s).2 with
  | true => exact .inl ⟨rfl, rfl⟩
  | false => exact .inr ⟨rfl, rfl⟩
theorem orb_len (a b : ByteArray) (n d k : Int) : ((orbO a b n d k).getD []).length ≤ 1000000000 := by
  unfold orbO
  cases pairOf a b with
  | none => simp
  | some p =>
    show ((if isFr n d = true ∧ 0 ≤ k ∧ k ≤ 20 then orbN p (n.toNat, d.toNat) k.toNat else none).getD []).length ≤ _
    split
    · rename_i h
      cases e : orbN p (n.toNat, d.toNat) k.toNat with
      | none => simp
      | some l => have := orbN_len e; simp; omega
    · simp

set_option maxRecDepth 100000 in
set_option maxHeartbeats 4000000 in
theorem specOrbitOf_any (a b : ByteArray) (n d k : Int) (w : World) (ha : a.size ≤ 9223372036854775806) (hb : b.size ≤ 9223372036854775806) (_l1 : -9223372036854775808 ≤ n) (_u1 : n ≤ 9223372036854775807) (_l2 : -9223372036854775808 ≤ d) (_u2 : d ≤ 9223372036854775807) (_l3 : -9223372036854775808 ≤ k) (_u3 : k ≤ 9223372036854775807) :
    Calls Tryz.prog 30 #[.agg #[.string a, .string b], .agg #[.int .i64 n, .int .i64 d], .int .i64 k] w (AnsFs (orbO a b n d k) w) := by
  obtain ⟨i0, hi, hz0, hz1, hz2⟩ := info_parts info_frac
  have hg := fun w => prGood_any a b w ha hb
  have hk := fun w => mpGood_any n d w
  unfold orbO
  cases h : pairOf a b with
  | none =>
    rw [h] at hg
    show Calls _ _ _ _ (AnsF2 [] false w)
    clear h hk _l1 _u1 _l2 _u2
    go_enter Tryz.func30, Tryz.ntmps30
    go_wp2_with fail
    have hb0 : Below w.heap.size w ((w.alloc (.cells #[.string a, .string b] 25 (0, 0))).alloc (.cells #[.int .i64 n, .int .i64 d] 42 (0, 0))) := nxAlloc (nxAlloc (Below.refl _ _) _) _
    have hx0 := heap_keep (nxAlloc (Below.refl _ _) (.cells #[.int .i64 n, .int .i64 d] 42 (0, 0))) (heap_alloc_at w (.cells #[.string a, .string b] 25 (0, 0)))
    have hx1 := heap_alloc_at (w.alloc (.cells #[.string a, .string b] 25 (0, 0))) (.cells #[.int .i64 n, .int .i64 d] 42 (0, 0))
    generalize ((w.alloc (.cells #[.string a, .string b] 25 (0, 0))).alloc (.cells #[.int .i64 n, .int .i64 d] 42 (0, 0))) = w0 at *
    have e1 : (w.alloc (.cells #[.string a, .string b] 25 (0, 0))).heap.size = w.heap.size + 1 := by simp
    rw [e1] at hx1
    clear e1
    obtain ⟨hx0a, hx0b, hx0c⟩ := two_facts hx0
    obtain ⟨hx0f, hx0g⟩ := two_frozen hx0
    obtain ⟨hx1a, hx1b, hx1c⟩ := two_facts hx1
    obtain ⟨hx1f, hx1g⟩ := two_frozen hx1
    refine (hg _).mono ?_; rintro e w1 ⟨rfl, hb1⟩
    have hbw1 := nx hb0 hb1
    replace hx0 := heap_keep hb1 hx0
    replace hx1 := heap_keep hb1 hx1
    clear hx0a hx0b hx0c hx0f hx0g
    obtain ⟨hx0a, hx0b, hx0c⟩ := two_facts hx0
    obtain ⟨hx0f, hx0g⟩ := two_frozen hx0
    clear hx1a hx1b hx1c hx1f hx1g
    obtain ⟨hx1a, hx1b, hx1c⟩ := two_facts hx1
    obtain ⟨hx1f, hx1g⟩ := two_frozen hx1
    clear hb1 hb0
    go_wp2_with fail
    go_ret2
    exact ⟨_, OwnW.nil _ _ _ _, hbw1, rfl⟩
  | some p =>
    rw [h] at hg
    obtain ⟨rfl, rfl, hok, hc1, hc2⟩ := pairOf_some h
    clear h
    cases hf : isFr n d with
    | false =>
      rw [hf] at hk
      show Calls _ _ _ _ (AnsF2 [] false w)
      clear hf _l1 _u1 _l2 _u2
      go_enter Tryz.func30, Tryz.ntmps30
      go_wp2_with fail
      have hb0 : Below w.heap.size w ((w.alloc (.cells #[.string p.1.str, .string p.2.str] 25 (0, 0))).alloc (.cells #[.int .i64 n, .int .i64 d] 42 (0, 0))) := nxAlloc (nxAlloc (Below.refl _ _) _) _
      have hx0 := heap_keep (nxAlloc (Below.refl _ _) (.cells #[.int .i64 n, .int .i64 d] 42 (0, 0))) (heap_alloc_at w (.cells #[.string p.1.str, .string p.2.str] 25 (0, 0)))
      have hx1 := heap_alloc_at (w.alloc (.cells #[.string p.1.str, .string p.2.str] 25 (0, 0))) (.cells #[.int .i64 n, .int .i64 d] 42 (0, 0))
      generalize ((w.alloc (.cells #[.string p.1.str, .string p.2.str] 25 (0, 0))).alloc (.cells #[.int .i64 n, .int .i64 d] 42 (0, 0))) = w0 at *
      have e1 : (w.alloc (.cells #[.string p.1.str, .string p.2.str] 25 (0, 0))).heap.size = w.heap.size + 1 := by simp
      rw [e1] at hx1
      clear e1
      obtain ⟨hx0a, hx0b, hx0c⟩ := two_facts hx0
      obtain ⟨hx0f, hx0g⟩ := two_frozen hx0
      obtain ⟨hx1a, hx1b, hx1c⟩ := two_facts hx1
      obtain ⟨hx1f, hx1g⟩ := two_frozen hx1
      refine (hg _).mono ?_; rintro e w1 ⟨rfl, hb1⟩
      have hbw1 := nx hb0 hb1
      replace hx0 := heap_keep hb1 hx0
      replace hx1 := heap_keep hb1 hx1
      clear hx0a hx0b hx0c hx0f hx0g
      obtain ⟨hx0a, hx0b, hx0c⟩ := two_facts hx0
      obtain ⟨hx0f, hx0g⟩ := two_frozen hx0
      clear hx1a hx1b hx1c hx1f hx1g
      obtain ⟨hx1a, hx1b, hx1c⟩ := two_facts hx1
      obtain ⟨hx1f, hx1g⟩ := two_frozen hx1
      clear hb1 hb0
      go_wp2_with fail
      refine (hk _).mono ?_; rintro e w2 ⟨rfl, hb2⟩
      have hbw2 := nx hbw1 hb2
      replace hx0 := heap_keep hb2 hx0
      replace hx1 := heap_keep hb2 hx1
      clear hx0a hx0b hx0c hx0f hx0g
      obtain ⟨hx0a, hx0b, hx0c⟩ := two_facts hx0
      obtain ⟨hx0f, hx0g⟩ := two_frozen hx0
      clear hx1a hx1b hx1c hx1f hx1g
      obtain ⟨hx1a, hx1b, hx1c⟩ := two_facts hx1
      obtain ⟨hx1f, hx1g⟩ := two_frozen hx1
      clear hb2 hbw1
      go_wp2_with fail
      go_ret2
      exact ⟨_, OwnW.nil _ _ _ _, hbw2, rfl⟩
    | true =>
      rw [hf] at hk
      by_cases hin : 0 ≤ k ∧ k ≤ 20
      rotate_left
      · have e : (if true = true ∧ 0 ≤ k ∧ k ≤ 20 then orbN p (n.toNat, d.toNat) k.toNat else none) = none := if_neg (fun h => hin h.2)
        show Calls _ _ _ _ (AnsFs (if true = true ∧ 0 ≤ k ∧ k ≤ 20 then orbN p (n.toNat, d.toNat) k.toNat else none) w)
        rw [e]
        show Calls _ _ _ _ (AnsF2 [] false w)
        have H : Hid (k < 0 ∨ 20 < k) := Lib.hid (by omega)
        clear hf _l1 _u1 _l2 _u2 e
        clear hin
        go_enter Tryz.func30, Tryz.ntmps30
        go_wp2_with fail
        have hb0 : Below w.heap.size w ((w.alloc (.cells #[.string p.1.str, .string p.2.str] 25 (0, 0))).alloc (.cells #[.int .i64 n, .int .i64 d] 42 (0, 0))) := nxAlloc (nxAlloc (Below.refl _ _) _) _
        have hx0 := heap_keep (nxAlloc (Below.refl _ _) (.cells #[.int .i64 n, .int .i64 d] 42 (0, 0))) (heap_alloc_at w (.cells #[.string p.1.str, .string p.2.str] 25 (0, 0)))
        have hx1 := heap_alloc_at (w.alloc (.cells #[.string p.1.str, .string p.2.str] 25 (0, 0))) (.cells #[.int .i64 n, .int .i64 d] 42 (0, 0))
        generalize ((w.alloc (.cells #[.string p.1.str, .string p.2.str] 25 (0, 0))).alloc (.cells #[.int .i64 n, .int .i64 d] 42 (0, 0))) = w0 at *
        have e1 : (w.alloc (.cells #[.string p.1.str, .string p.2.str] 25 (0, 0))).heap.size = w.heap.size + 1 := by simp
        rw [e1] at hx1
        clear e1
        obtain ⟨hx0a, hx0b, hx0c⟩ := two_facts hx0
        obtain ⟨hx0f, hx0g⟩ := two_frozen hx0
        obtain ⟨hx1a, hx1b, hx1c⟩ := two_facts hx1
        obtain ⟨hx1f, hx1g⟩ := two_frozen hx1
        refine (hg _).mono ?_; rintro e w1 ⟨rfl, hb1⟩
        have hbw1 := nx hb0 hb1
        replace hx0 := heap_keep hb1 hx0
        replace hx1 := heap_keep hb1 hx1
        clear hx0a hx0b hx0c hx0f hx0g
        obtain ⟨hx0a, hx0b, hx0c⟩ := two_facts hx0
        obtain ⟨hx0f, hx0g⟩ := two_frozen hx0
        clear hx1a hx1b hx1c hx1f hx1g
        obtain ⟨hx1a, hx1b, hx1c⟩ := two_facts hx1
        obtain ⟨hx1f, hx1g⟩ := two_frozen hx1
        clear hb1 hb0
        go_wp2_with fail
        refine (hk _).mono ?_; rintro e w2 ⟨rfl, hb2⟩
        have hbw2 := nx hbw1 hb2
        replace hx0 := heap_keep hb2 hx0
        replace hx1 := heap_keep hb2 hx1
        clear hx0a hx0b hx0c hx0f hx0g
        obtain ⟨hx0a, hx0b, hx0c⟩ := two_facts hx0
        obtain ⟨hx0f, hx0g⟩ := two_frozen hx0
        clear hx1a hx1b hx1c hx1f hx1g
        obtain ⟨hx1a, hx1b, hx1c⟩ := two_facts hx1
        obtain ⟨hx1f, hx1g⟩ := two_frozen hx1
        clear hb2 hbw1
        go_wp2_with fail
        refine (l1In_no k 0 20 _ H.out).mono ?_; rintro e w' ⟨rfl, rfl⟩
        go_wp2_with fail
        go_ret2
        exact ⟨_, OwnW.nil _ _ _ _, hbw2, rfl⟩
      · have e : (if true = true ∧ 0 ≤ k ∧ k ≤ 20 then orbN p (n.toNat, d.toNat) k.toNat else none) = orbN p (n.toNat, d.toNat) k.toNat := if_pos ⟨rfl, hin⟩
        show Calls _ _ _ _ (AnsFs (if true = true ∧ 0 ≤ k ∧ k ≤ 20 then orbN p (n.toNat, d.toNat) k.toNat else none) w)
        rw [e]
        clear e
        obtain ⟨m, rfl⟩ : ∃ m : Nat, k = m := ⟨k.toNat, by omega⟩
        obtain ⟨hk0, hk20⟩ := hin
        obtain ⟨n, d, rfl, rfl, n1, d1, d2⟩ := isFr_nats hf
        rw [Int.toNat_natCast, Int.toNat_natCast, Int.toNat_natCast]
        have hm20 : m ≤ 20 := by omega
        clear _l1 _u1 _l2 _u2 _l3 _u3 n1 d1 d2
        have hV := fun (x : Nat × Nat) w hx => mpValue_any p x.1 x.2 w hc1 hc2 hok hx
        have hG := fun (x : Nat × Nat) w => mpGood_any x.1 x.2 w
        generalize hR : orbN p (n, d) m = R
        go_enter Tryz.func30, Tryz.ntmps30
        go_wp2_with fail
        have hb0 : Below w.heap.size w ((w.alloc (.cells #[.string p.1.str, .string p.2.str] 25 (0, 0))).alloc (.cells #[.int .i64 n, .int .i64 d] 42 (0, 0))) := nxAlloc (nxAlloc (Below.refl _ _) _) _
        have hx0 := heap_keep (nxAlloc (Below.refl _ _) (.cells #[.int .i64 n, .int .i64 d] 42 (0, 0))) (heap_alloc_at w (.cells #[.string p.1.str, .string p.2.str] 25 (0, 0)))
        have hx1 := heap_alloc_at (w.alloc (.cells #[.string p.1.str, .string p.2.str] 25 (0, 0))) (.cells #[.int .i64 n, .int .i64 d] 42 (0, 0))
        generalize ((w.alloc (.cells #[.string p.1.str, .string p.2.str] 25 (0, 0))).alloc (.cells #[.int .i64 n, .int .i64 d] 42 (0, 0))) = w0 at *
        have e1 : (w.alloc (.cells #[.string p.1.str, .string p.2.str] 25 (0, 0))).heap.size = w.heap.size + 1 := by simp
        rw [e1] at hx1
        clear e1
        obtain ⟨hx0a, hx0b, hx0c⟩ := two_facts hx0
        obtain ⟨hx0f, hx0g⟩ := two_frozen hx0
        obtain ⟨hx1a, hx1b, hx1c⟩ := two_facts hx1
        obtain ⟨hx1f, hx1g⟩ := two_frozen hx1
        refine (hg _).mono ?_; rintro e w1 ⟨rfl, hb1⟩
        have hbw1 := nx hb0 hb1
        replace hx0 := heap_keep hb1 hx0
        replace hx1 := heap_keep hb1 hx1
        clear hx0a hx0b hx0c hx0f hx0g
        obtain ⟨hx0a, hx0b, hx0c⟩ := two_facts hx0
        obtain ⟨hx0f, hx0g⟩ := two_frozen hx0
        clear hx1a hx1b hx1c hx1f hx1g
        obtain ⟨hx1a, hx1b, hx1c⟩ := two_facts hx1
        obtain ⟨hx1f, hx1g⟩ := two_frozen hx1
        clear hb1 hb0
        go_wp2_with fail
        refine (hk _).mono ?_; rintro e w2 ⟨rfl, hb2⟩
        have hbw2 := nx hbw1 hb2
        replace hx0 := heap_keep hb2 hx0
        replace hx1 := heap_keep hb2 hx1
        clear hx0a hx0b hx0c hx0f hx0g
        obtain ⟨hx0a, hx0b, hx0c⟩ := two_facts hx0
        obtain ⟨hx0f, hx0g⟩ := two_frozen hx0
        clear hx1a hx1b hx1c hx1f hx1g
        obtain ⟨hx1a, hx1b, hx1c⟩ := two_facts hx1
        obtain ⟨hx1f, hx1g⟩ := two_frozen hx1
        clear hb2 hbw1
        have H1 := hk0
        have H2 := hk20
        go_wp2_with fail
        refine (l1In_yes (m : Int) 0 20 _ H1 H2).mono ?_; rintro e w' ⟨rfl, rfl⟩
        go_wp2_with fail
        have hs2 := hbw2.size
        have hsz0 : w.heap.size + 2 ≤ w2.heap.size := by have := lt_of_block hx1; omega
        have hbA := nxAlloc hbw2 (.cells #[.int .i64 n, .int .i64 d] 42 (0, 0))
        have ownA : OwnF (w.heap.size + 2) (w2.alloc (.cells #[.int .i64 n, .int .i64 d] 42 (0, 0))) (.slice (some ⟨w2.heap.size, 0, none⟩) 1 1) [(n, d)] := World.ownsRow_lit (base := w.heap.size + 2) (e := 42) (size := 2) w2 #[.int .i64 n, .int .i64 d] 1 hsz0 (by unfold maxLen; omega) rfl
        have hxA0 := heap_keep (nxAlloc (Below.refl w2.heap.size w2) (.cells #[.int .i64 n, .int .i64 d] 42 (0, 0))) hx0
        have hxA1 := heap_keep (nxAlloc (Below.refl w2.heap.size w2) (.cells #[.int .i64 n, .int .i64 d] 42 (0, 0))) hx1
        clear hx0 hx1 hx0a hx0b hx0c hx0f hx0g hx1a hx1b hx1c hx1f hx1g
        generalize w2.alloc (.cells #[.int .i64 n, .int .i64 d] 42 (0, 0)) = wA at *
        go_loopw [8, 9] (fun v i wr => ∃ (j : Nat) (x : Nat × Nat) (l : List (Nat × Nat)) (v0 : Value), v0 = v ∧ j ≤ m ∧ i = .int .i64 j ∧ orbN p (n, d) j = some l ∧ l.getD j (0, 0) = x ∧ isFr x.1 x.2 = true ∧ OwnF (w.heap.size + 2) wr v0 l ∧ wr.heap[w.heap.size]? = some (.cells #[.string p.1.str, .string p.2.str] 25 (0, 0)) ∧ wr.heap[w.heap.size + 1]? = some (.cells #[.int .i64 x.1, .int .i64 x.2] 42 (0, 0)) ∧ Below w.heap.size w wr) (fun _ i _ => m - (intOf i).toNat)
        case atStart => exact ⟨0, (n, d), [(n, d)], _, rfl, Nat.zero_le _, rfl, rfl, rfl, hf, ownA, hxA0, hxA1, hbA⟩
        case round =>
          obtain ⟨j, x, l, v, rfl, hj, rfl, hl, hlx, hfx, hown, hx0, hx1, hbw⟩ := hrel
          obtain ⟨hx0a, hx0b, hx0c⟩ := two_facts hx0
          obtain ⟨hx0f, hx0g⟩ := two_frozen hx0
          obtain ⟨hx1a, hx1b, hx1c⟩ := two_facts hx1
          obtain ⟨hx1f, hx1g⟩ := two_frozen hx1
          by_cases hlt : j < m
          · have hlt' : (j : Int) < (m : Int) := by omega
            have hll := orbN_len hl
            have hstep := orbN_step hl hlx
            have hsr := hbw.size
            have hs1 : w.heap.size + 1 < wr.heap.size := lt_of_block hx1
            rcases frA_cases (valP p (stepsOf x.1 x.2)) with ⟨hfy, hsy⟩ | ⟨hfy, hsy⟩
            · rw [hsy] at hstep
              clear hsy
              have HST := Lib.hid hstep
              have hGy := fun w => hG (frOf (valP p (stepsOf x.1 x.2))) w
              rw [hfy] at hGy
              have hVx := fun w => hV x w hfx
              have hgx : l.length = j + 1 := hll
              have HF := Lib.hid hfy
              clear hstep hll hlx hfy
              generalize frOf (valP p (stepsOf x.1 x.2)) = y at *
              obtain ⟨x1, x2⟩ := x
              obtain ⟨y1, y2⟩ := y
              go_wp2_with fail
              refine (hVx _).mono ?_; rintro e w5 ⟨rfl, hb5⟩
              have hbw5 := nx hbw hb5
              have hown5 := hown.keep hb5
              replace hx0 := heap_keep hb5 hx0
              replace hx1 := heap_keep hb5 hx1
              clear hx0a hx0b hx0c hx0f hx0g hx1a hx1b hx1c hx1f hx1g
              obtain ⟨hx0a, hx0b, hx0c⟩ := two_facts hx0
              obtain ⟨hx0f, hx0g⟩ := two_frozen hx0
              obtain ⟨hx1a, hx1b, hx1c⟩ := two_facts hx1
              obtain ⟨hx1f, hx1g⟩ := two_frozen hx1
              go_wp2_with fail
              have hy1 := set_two (.int .i64 y1) (.int .i64 y2) hx1
              have hB : Below (w.heap.size + 1) w5 ((w5.setCell ⟨w.heap.size + 1, 0, none⟩ (.int .i64 y1)).setCell ⟨w.heap.size + 1, 1, none⟩ (.int .i64 y2)) := ((Below.refl (w.heap.size + 1) w5).setCell (p := ⟨w.heap.size + 1, 0, none⟩) (Nat.le_refl _) (.int .i64 y1)).setCell (p := ⟨w.heap.size + 1, 1, none⟩) (Nat.le_refl _) (.int .i64 y2)
              have hy0 := (hB.block w.heap.size (by omega)).trans hx0
              have hown6 : OwnF (w.heap.size + 2) ((w5.setCell ⟨w.heap.size + 1, 0, none⟩ (.int .i64 y1)).setCell ⟨w.heap.size + 1, 1, none⟩ (.int .i64 y2)) v l := ownsRow_setCell_below (ownsRow_setCell_below hown5 (show w.heap.size + 1 < w.heap.size + 2 by omega) _) (show w.heap.size + 1 < w.heap.size + 2 by omega) _
              have hbw6 : Below w.heap.size w ((w5.setCell ⟨w.heap.size + 1, 0, none⟩ (.int .i64 y1)).setCell ⟨w.heap.size + 1, 1, none⟩ (.int .i64 y2)) := (hbw5.setCell (by show w.heap.size ≤ w.heap.size + 1; omega) _).setCell (by show w.heap.size ≤ w.heap.size + 1; omega) _
              have hs6 : w5.heap.size ≤ ((w5.setCell ⟨w.heap.size + 1, 0, none⟩ (.int .i64 y1)).setCell ⟨w.heap.size + 1, 1, none⟩ (.int .i64 y2)).heap.size := hB.size
              have hs5 := hb5.size
              clear hx0 hx1 hx0a hx0b hx0c hx0f hx0g hx1a hx1b hx1c hx1f hx1g hown5 hown hb5 hB hbw5
              generalize (w5.setCell ⟨w.heap.size + 1, 0, none⟩ (.int .i64 y1)).setCell ⟨w.heap.size + 1, 1, none⟩ (.int .i64 y2) = w6 at *
              obtain ⟨hy0a, hy0b, hy0c⟩ := two_facts hy0
              obtain ⟨hy0f, hy0g⟩ := two_frozen hy0
              obtain ⟨hy1a, hy1b, hy1c⟩ := two_facts hy1
              obtain ⟨hy1f, hy1g⟩ := two_frozen hy1
              go_wp2_with fail
              refine (hGy _).mono ?_; rintro e w7 ⟨rfl, hb7⟩
              have hbw7 := nx hbw6 hb7
              have hown7 := hown6.keep hb7
              replace hy0 := heap_keep hb7 hy0
              replace hy1 := heap_keep hb7 hy1
              have hs7 := hb7.size
              clear hy0a hy0b hy0c hy0f hy0g hy1a hy1b hy1c hy1f hy1g hown6 hb7 hbw6
              obtain ⟨hy0a, hy0b, hy0c⟩ := two_facts hy0
              obtain ⟨hy0f, hy0g⟩ := two_frozen hy0
              obtain ⟨hy1a, hy1b, hy1c⟩ := two_facts hy1
              obtain ⟨hy1f, hy1g⟩ := two_frozen hy1
              go_wp2_with (at_builtin; refine wpList_append_own _ rfl _ _ 48 rfl (w.heap.size + 2) 42 i0 (.agg #[.int .i64 0, .int .i64 0]) 2 16 Tryz.underlying48 hi hz0 hz1 hz2 rfl (by decide) _ _ _ rfl (hown7.alloc _) ⟨w7.heap.size, 0, none⟩ 1 1 [.int .i64 y1, .int .i64 y2] rfl rfl (newsK _ #[.int .i64 y1, .int .i64 y2] _) (two1 _ _) (by unfold maxLen; omega) (by omega) (by simp; omega) ?_; intro v' w9 hown' hgrow hnn)
              have hbw9 := (nxAlloc hbw7 (.cells #[.int .i64 y1, .int .i64 y2] 42 (0, 0))).grown hgrow (by simp; omega) (fun k hk => by have := ownsRow_ge hown7 k hk; omega)
              have hown1 := OwnF.snoc hown'
              have hgr := (Below.refl (w.heap.size + 2) (w7.alloc (.cells #[.int .i64 y1, .int .i64 y2] 42 (0, 0)))).grown hgrow (by simp; omega) (fun k hk => ownsRow_ge hown7 k hk)
              have hz0x := (hgr.block w.heap.size (by omega)).trans (heap_keep (nxAlloc (Below.refl w7.heap.size w7) (.cells #[.int .i64 y1, .int .i64 y2] 42 (0, 0))) hy0)
              have hz1x := (hgr.block (w.heap.size + 1) (by omega)).trans (heap_keep (nxAlloc (Below.refl w7.heap.size w7) (.cells #[.int .i64 y1, .int .i64 y2] 42 (0, 0))) hy1)
              clear hown7 hown' hgrow hbw7 hnn hgr hy0a hy0b hy0c hy0f hy0g hy1a hy1b hy1c hy1f hy1g
              go_wp2_with fail
              go_roundw
              case rel => exact ⟨j + 1, (y1, y2), l ++ [(y1, y2)], _, rfl, by omega, by go_num, HST.out, last_snoc l _ hgx, HF.out, hown1, hz0x, hz1x, hbw9⟩
              case measure => simp [intOf]; omega
            · rw [hsy] at hstep
              have hno := orbN_none (p := p) (x := (n, d)) (k := j + 1) hstep (j := m) (by omega)
              obtain rfl : R = none := hR.symm.trans hno
              clear hsy hno hR
              have HST := Lib.hid hstep
              have hGy := fun w => hG (frOf (valP p (stepsOf x.1 x.2))) w
              rw [hfy] at hGy
              have hVx := fun w => hV x w hfx
              have hgx : l.length = j + 1 := hll
              have HF := Lib.hid hfy
              clear hstep hll hlx hfy
              generalize frOf (valP p (stepsOf x.1 x.2)) = y at *
              obtain ⟨x1, x2⟩ := x
              obtain ⟨y1, y2⟩ := y
              go_wp2_with fail
              refine (hVx _).mono ?_; rintro e w5 ⟨rfl, hb5⟩
              have hbw5 := nx hbw hb5
              have hown5 := hown.keep hb5
              replace hx0 := heap_keep hb5 hx0
              replace hx1 := heap_keep hb5 hx1
              clear hx0a hx0b hx0c hx0f hx0g hx1a hx1b hx1c hx1f hx1g
              obtain ⟨hx0a, hx0b, hx0c⟩ := two_facts hx0
              obtain ⟨hx0f, hx0g⟩ := two_frozen hx0
              obtain ⟨hx1a, hx1b, hx1c⟩ := two_facts hx1
              obtain ⟨hx1f, hx1g⟩ := two_frozen hx1
              go_wp2_with fail
              have hy1 := set_two (.int .i64 y1) (.int .i64 y2) hx1
              have hB : Below (w.heap.size + 1) w5 ((w5.setCell ⟨w.heap.size + 1, 0, none⟩ (.int .i64 y1)).setCell ⟨w.heap.size + 1, 1, none⟩ (.int .i64 y2)) := ((Below.refl (w.heap.size + 1) w5).setCell (p := ⟨w.heap.size + 1, 0, none⟩) (Nat.le_refl _) (.int .i64 y1)).setCell (p := ⟨w.heap.size + 1, 1, none⟩) (Nat.le_refl _) (.int .i64 y2)
              have hy0 := (hB.block w.heap.size (by omega)).trans hx0
              have hown6 : OwnF (w.heap.size + 2) ((w5.setCell ⟨w.heap.size + 1, 0, none⟩ (.int .i64 y1)).setCell ⟨w.heap.size + 1, 1, none⟩ (.int .i64 y2)) v l := ownsRow_setCell_below (ownsRow_setCell_below hown5 (show w.heap.size + 1 < w.heap.size + 2 by omega) _) (show w.heap.size + 1 < w.heap.size + 2 by omega) _
              have hbw6 : Below w.heap.size w ((w5.setCell ⟨w.heap.size + 1, 0, none⟩ (.int .i64 y1)).setCell ⟨w.heap.size + 1, 1, none⟩ (.int .i64 y2)) := (hbw5.setCell (by show w.heap.size ≤ w.heap.size + 1; omega) _).setCell (by show w.heap.size ≤ w.heap.size + 1; omega) _
              have hs6 : w5.heap.size ≤ ((w5.setCell ⟨w.heap.size + 1, 0, none⟩ (.int .i64 y1)).setCell ⟨w.heap.size + 1, 1, none⟩ (.int .i64 y2)).heap.size := hB.size
              have hs5 := hb5.size
              clear hx0 hx1 hx0a hx0b hx0c hx0f hx0g hx1a hx1b hx1c hx1f hx1g hown5 hown hb5 hB hbw5
              generalize (w5.setCell ⟨w.heap.size + 1, 0, none⟩ (.int .i64 y1)).setCell ⟨w.heap.size + 1, 1, none⟩ (.int .i64 y2) = w6 at *
              obtain ⟨hy0a, hy0b, hy0c⟩ := two_facts hy0
              obtain ⟨hy0f, hy0g⟩ := two_frozen hy0
              obtain ⟨hy1a, hy1b, hy1c⟩ := two_facts hy1
              obtain ⟨hy1f, hy1g⟩ := two_frozen hy1
              go_wp2_with fail
              refine (hGy _).mono ?_; rintro e w7 ⟨rfl, hb7⟩
              have hbw7 := nx hbw6 hb7
              have hown7 := hown6.keep hb7
              replace hy0 := heap_keep hb7 hy0
              replace hy1 := heap_keep hb7 hy1
              have hs7 := hb7.size
              clear hy0a hy0b hy0c hy0f hy0g hy1a hy1b hy1c hy1f hy1g hown6 hb7 hbw6
              obtain ⟨hy0a, hy0b, hy0c⟩ := two_facts hy0
              obtain ⟨hy0f, hy0g⟩ := two_frozen hy0
              obtain ⟨hy1a, hy1b, hy1c⟩ := two_facts hy1
              obtain ⟨hy1f, hy1g⟩ := two_frozen hy1
              go_wp2_with fail
              go_ret2
              exact ⟨_, OwnW.nil _ _ _ _, hbw7, rfl⟩
          · obtain rfl : j = m := by omega
            obtain rfl : R = some l := hR.symm.trans hl
            clear hR
            go_wp2_with fail
            go_ret2
            exact ⟨_, OwnF.mono hown (show w.heap.size ≤ w.heap.size + 2 by omega), hbw, rfl⟩

set_option maxRecDepth 100000 in
set_option maxHeartbeats 4000000 in
theorem implOrbitOf_any (a b : ByteArray) (n d k : Int) (w : World) (ha : a.size ≤ 9223372036854775806) (hb : b.size ≤ 9223372036854775806) (_l1 : -9223372036854775808 ≤ n) (_u1 : n ≤ 9223372036854775807) (_l2 : -9223372036854775808 ≤ d) (_u2 : d ≤ 9223372036854775807) (_l3 : -9223372036854775808 ≤ k) (_u3 : k ≤ 9223372036854775807) :
    Calls Tryz.prog 29 #[.agg #[.string a, .string b], .agg #[.int .i64 n, .int .i64 d], .int .i64 k] w (AnsFs (orbO a b n d k) w) := by
  obtain ⟨i0, hi, hz0, hz1, hz2⟩ := info_parts info_frac
  have hg := fun w => isPair_any a b w ha hb
  have hk := fun w => isFraction_any n d w
  unfold orbO
  cases h : pairOf a b with
  | none =>
    rw [h] at hg
    show Calls _ _ _ _ (AnsF2 [] false w)
    clear h hk _l1 _u1 _l2 _u2
    go_enter Tryz.func29, Tryz.ntmps29
    go_wp2_with fail
    have hb0 : Below w.heap.size w ((w.alloc (.cells #[.string a, .string b] 25 (0, 0))).alloc (.cells #[.int .i64 n, .int .i64 d] 42 (0, 0))) := nxAlloc (nxAlloc (Below.refl _ _) _) _
    have hx0 := heap_keep (nxAlloc (Below.refl _ _) (.cells #[.int .i64 n, .int .i64 d] 42 (0, 0))) (heap_alloc_at w (.cells #[.string a, .string b] 25 (0, 0)))
    have hx1 := heap_alloc_at (w.alloc (.cells #[.string a, .string b] 25 (0, 0))) (.cells #[.int .i64 n, .int .i64 d] 42 (0, 0))
    generalize ((w.alloc (.cells #[.string a, .string b] 25 (0, 0))).alloc (.cells #[.int .i64 n, .int .i64 d] 42 (0, 0))) = w0 at *
    have e1 : (w.alloc (.cells #[.string a, .string b] 25 (0, 0))).heap.size = w.heap.size + 1 := by simp
    rw [e1] at hx1
    clear e1
    obtain ⟨hx0a, hx0b, hx0c⟩ := two_facts hx0
    obtain ⟨hx0f, hx0g⟩ := two_frozen hx0
    obtain ⟨hx1a, hx1b, hx1c⟩ := two_facts hx1
    obtain ⟨hx1f, hx1g⟩ := two_frozen hx1
    refine (hg _).mono ?_; rintro e w1 ⟨rfl, hb1⟩
    have hbw1 := nx hb0 hb1
    replace hx0 := heap_keep hb1 hx0
    replace hx1 := heap_keep hb1 hx1
    clear hx0a hx0b hx0c hx0f hx0g
    obtain ⟨hx0a, hx0b, hx0c⟩ := two_facts hx0
    obtain ⟨hx0f, hx0g⟩ := two_frozen hx0
    clear hx1a hx1b hx1c hx1f hx1g
    obtain ⟨hx1a, hx1b, hx1c⟩ := two_facts hx1
    obtain ⟨hx1f, hx1g⟩ := two_frozen hx1
    clear hb1 hb0
    go_wp2_with fail
    go_ret2
    exact ⟨_, OwnW.nil _ _ _ _, hbw1, rfl⟩
  | some p =>
    rw [h] at hg
    obtain ⟨rfl, rfl, hok, hc1, hc2⟩ := pairOf_some h
    clear h
    cases hf : isFr n d with
    | false =>
      rw [hf] at hk
      show Calls _ _ _ _ (AnsF2 [] false w)
      clear hf _l1 _u1 _l2 _u2
      go_enter Tryz.func29, Tryz.ntmps29
      go_wp2_with fail
      have hb0 : Below w.heap.size w ((w.alloc (.cells #[.string p.1.str, .string p.2.str] 25 (0, 0))).alloc (.cells #[.int .i64 n, .int .i64 d] 42 (0, 0))) := nxAlloc (nxAlloc (Below.refl _ _) _) _
      have hx0 := heap_keep (nxAlloc (Below.refl _ _) (.cells #[.int .i64 n, .int .i64 d] 42 (0, 0))) (heap_alloc_at w (.cells #[.string p.1.str, .string p.2.str] 25 (0, 0)))
      have hx1 := heap_alloc_at (w.alloc (.cells #[.string p.1.str, .string p.2.str] 25 (0, 0))) (.cells #[.int .i64 n, .int .i64 d] 42 (0, 0))
      generalize ((w.alloc (.cells #[.string p.1.str, .string p.2.str] 25 (0, 0))).alloc (.cells #[.int .i64 n, .int .i64 d] 42 (0, 0))) = w0 at *
      have e1 : (w.alloc (.cells #[.string p.1.str, .string p.2.str] 25 (0, 0))).heap.size = w.heap.size + 1 := by simp
      rw [e1] at hx1
      clear e1
      obtain ⟨hx0a, hx0b, hx0c⟩ := two_facts hx0
      obtain ⟨hx0f, hx0g⟩ := two_frozen hx0
      obtain ⟨hx1a, hx1b, hx1c⟩ := two_facts hx1
      obtain ⟨hx1f, hx1g⟩ := two_frozen hx1
      refine (hg _).mono ?_; rintro e w1 ⟨rfl, hb1⟩
      have hbw1 := nx hb0 hb1
      replace hx0 := heap_keep hb1 hx0
      replace hx1 := heap_keep hb1 hx1
      clear hx0a hx0b hx0c hx0f hx0g
      obtain ⟨hx0a, hx0b, hx0c⟩ := two_facts hx0
      obtain ⟨hx0f, hx0g⟩ := two_frozen hx0
      clear hx1a hx1b hx1c hx1f hx1g
      obtain ⟨hx1a, hx1b, hx1c⟩ := two_facts hx1
      obtain ⟨hx1f, hx1g⟩ := two_frozen hx1
      clear hb1 hb0
      go_wp2_with fail
      refine (hk _).mono ?_; rintro e w2 ⟨rfl, hb2⟩
      have hbw2 := nx hbw1 hb2
      replace hx0 := heap_keep hb2 hx0
      replace hx1 := heap_keep hb2 hx1
      clear hx0a hx0b hx0c hx0f hx0g
      obtain ⟨hx0a, hx0b, hx0c⟩ := two_facts hx0
      obtain ⟨hx0f, hx0g⟩ := two_frozen hx0
      clear hx1a hx1b hx1c hx1f hx1g
      obtain ⟨hx1a, hx1b, hx1c⟩ := two_facts hx1
      obtain ⟨hx1f, hx1g⟩ := two_frozen hx1
      clear hb2 hbw1
      go_wp2_with fail
      go_ret2
      exact ⟨_, OwnW.nil _ _ _ _, hbw2, rfl⟩
    | true =>
      rw [hf] at hk
      by_cases hin : 0 ≤ k ∧ k ≤ 20
      rotate_left
      · have e : (if true = true ∧ 0 ≤ k ∧ k ≤ 20 then orbN p (n.toNat, d.toNat) k.toNat else none) = none := if_neg (fun h => hin h.2)
        show Calls _ _ _ _ (AnsFs (if true = true ∧ 0 ≤ k ∧ k ≤ 20 then orbN p (n.toNat, d.toNat) k.toNat else none) w)
        rw [e]
        show Calls _ _ _ _ (AnsF2 [] false w)
        have H : Hid (k < 0 ∨ 20 < k) := Lib.hid (by omega)
        clear hf _l1 _u1 _l2 _u2 e
        clear H
        by_cases hk0 : k < 0
        · clear hin
          go_enter Tryz.func29, Tryz.ntmps29
          go_wp2_with fail
          have hb0 : Below w.heap.size w ((w.alloc (.cells #[.string p.1.str, .string p.2.str] 25 (0, 0))).alloc (.cells #[.int .i64 n, .int .i64 d] 42 (0, 0))) := nxAlloc (nxAlloc (Below.refl _ _) _) _
          have hx0 := heap_keep (nxAlloc (Below.refl _ _) (.cells #[.int .i64 n, .int .i64 d] 42 (0, 0))) (heap_alloc_at w (.cells #[.string p.1.str, .string p.2.str] 25 (0, 0)))
          have hx1 := heap_alloc_at (w.alloc (.cells #[.string p.1.str, .string p.2.str] 25 (0, 0))) (.cells #[.int .i64 n, .int .i64 d] 42 (0, 0))
          generalize ((w.alloc (.cells #[.string p.1.str, .string p.2.str] 25 (0, 0))).alloc (.cells #[.int .i64 n, .int .i64 d] 42 (0, 0))) = w0 at *
          have e1 : (w.alloc (.cells #[.string p.1.str, .string p.2.str] 25 (0, 0))).heap.size = w.heap.size + 1 := by simp
          rw [e1] at hx1
          clear e1
          obtain ⟨hx0a, hx0b, hx0c⟩ := two_facts hx0
          obtain ⟨hx0f, hx0g⟩ := two_frozen hx0
          obtain ⟨hx1a, hx1b, hx1c⟩ := two_facts hx1
          obtain ⟨hx1f, hx1g⟩ := two_frozen hx1
          refine (hg _).mono ?_; rintro e w1 ⟨rfl, hb1⟩
          have hbw1 := nx hb0 hb1
          replace hx0 := heap_keep hb1 hx0
          replace hx1 := heap_keep hb1 hx1
          clear hx0a hx0b hx0c hx0f hx0g
          obtain ⟨hx0a, hx0b, hx0c⟩ := two_facts hx0
          obtain ⟨hx0f, hx0g⟩ := two_frozen hx0
          clear hx1a hx1b hx1c hx1f hx1g
          obtain ⟨hx1a, hx1b, hx1c⟩ := two_facts hx1
          obtain ⟨hx1f, hx1g⟩ := two_frozen hx1
          clear hb1 hb0
          go_wp2_with fail
          refine (hk _).mono ?_; rintro e w2 ⟨rfl, hb2⟩
          have hbw2 := nx hbw1 hb2
          replace hx0 := heap_keep hb2 hx0
          replace hx1 := heap_keep hb2 hx1
          clear hx0a hx0b hx0c hx0f hx0g
          obtain ⟨hx0a, hx0b, hx0c⟩ := two_facts hx0
          obtain ⟨hx0f, hx0g⟩ := two_frozen hx0
          clear hx1a hx1b hx1c hx1f hx1g
          obtain ⟨hx1a, hx1b, hx1c⟩ := two_facts hx1
          obtain ⟨hx1f, hx1g⟩ := two_frozen hx1
          clear hb2 hbw1
          go_wp2_with fail
          go_ret2
          exact ⟨_, OwnW.nil _ _ _ _, hbw2, rfl⟩
        · have hk2 : 20 < k := by omega
          clear hin
          go_enter Tryz.func29, Tryz.ntmps29
          go_wp2_with fail
          have hb0 : Below w.heap.size w ((w.alloc (.cells #[.string p.1.str, .string p.2.str] 25 (0, 0))).alloc (.cells #[.int .i64 n, .int .i64 d] 42 (0, 0))) := nxAlloc (nxAlloc (Below.refl _ _) _) _
          have hx0 := heap_keep (nxAlloc (Below.refl _ _) (.cells #[.int .i64 n, .int .i64 d] 42 (0, 0))) (heap_alloc_at w (.cells #[.string p.1.str, .string p.2.str] 25 (0, 0)))
          have hx1 := heap_alloc_at (w.alloc (.cells #[.string p.1.str, .string p.2.str] 25 (0, 0))) (.cells #[.int .i64 n, .int .i64 d] 42 (0, 0))
          generalize ((w.alloc (.cells #[.string p.1.str, .string p.2.str] 25 (0, 0))).alloc (.cells #[.int .i64 n, .int .i64 d] 42 (0, 0))) = w0 at *
          have e1 : (w.alloc (.cells #[.string p.1.str, .string p.2.str] 25 (0, 0))).heap.size = w.heap.size + 1 := by simp
          rw [e1] at hx1
          clear e1
          obtain ⟨hx0a, hx0b, hx0c⟩ := two_facts hx0
          obtain ⟨hx0f, hx0g⟩ := two_frozen hx0
          obtain ⟨hx1a, hx1b, hx1c⟩ := two_facts hx1
          obtain ⟨hx1f, hx1g⟩ := two_frozen hx1
          refine (hg _).mono ?_; rintro e w1 ⟨rfl, hb1⟩
          have hbw1 := nx hb0 hb1
          replace hx0 := heap_keep hb1 hx0
          replace hx1 := heap_keep hb1 hx1
          clear hx0a hx0b hx0c hx0f hx0g
          obtain ⟨hx0a, hx0b, hx0c⟩ := two_facts hx0
          obtain ⟨hx0f, hx0g⟩ := two_frozen hx0
          clear hx1a hx1b hx1c hx1f hx1g
          obtain ⟨hx1a, hx1b, hx1c⟩ := two_facts hx1
          obtain ⟨hx1f, hx1g⟩ := two_frozen hx1
          clear hb1 hb0
          go_wp2_with fail
          refine (hk _).mono ?_; rintro e w2 ⟨rfl, hb2⟩
          have hbw2 := nx hbw1 hb2
          replace hx0 := heap_keep hb2 hx0
          replace hx1 := heap_keep hb2 hx1
          clear hx0a hx0b hx0c hx0f hx0g
          obtain ⟨hx0a, hx0b, hx0c⟩ := two_facts hx0
          obtain ⟨hx0f, hx0g⟩ := two_frozen hx0
          clear hx1a hx1b hx1c hx1f hx1g
          obtain ⟨hx1a, hx1b, hx1c⟩ := two_facts hx1
          obtain ⟨hx1f, hx1g⟩ := two_frozen hx1
          clear hb2 hbw1
          go_wp2_with fail
          go_ret2
          exact ⟨_, OwnW.nil _ _ _ _, hbw2, rfl⟩
      · have e : (if true = true ∧ 0 ≤ k ∧ k ≤ 20 then orbN p (n.toNat, d.toNat) k.toNat else none) = orbN p (n.toNat, d.toNat) k.toNat := if_pos ⟨rfl, hin⟩
        show Calls _ _ _ _ (AnsFs (if true = true ∧ 0 ≤ k ∧ k ≤ 20 then orbN p (n.toNat, d.toNat) k.toNat else none) w)
        rw [e]
        clear e
        obtain ⟨m, rfl⟩ : ∃ m : Nat, k = m := ⟨k.toNat, by omega⟩
        obtain ⟨hk0, hk20⟩ := hin
        obtain ⟨n, d, rfl, rfl, n1, d1, d2⟩ := isFr_nats hf
        rw [Int.toNat_natCast, Int.toNat_natCast, Int.toNat_natCast]
        have hm20 : m ≤ 20 := by omega
        clear _l1 _u1 _l2 _u2 _l3 _u3 n1 d1 d2
        have hV : ∀ (x : Nat × Nat) w, isFr x.1 x.2 = true → Calls Tryz.prog 32 #[.agg #[.string p.1.str, .string p.2.str], .agg #[.int .i64 x.1, .int .i64 x.2]] w (Gives (ansF (frA (valP p (stepsOf x.1 x.2)))) w) := by
          intro x w hx
          have hx2 := isFr_iff.1 hx
          have hd2 := isP2_bounds hx2.1
          have := implValueOf_any p.1.str p.2.str x.1 x.2 w ha hb (by omega) (by omega) (by omega) (by omega)
          unfold valueO at this
          rw [pairOf_str hok hc1] at this
          have e : ((some p).bind fun p => if isFr (x.1 : Int) (x.2 : Int) = true then frA (valP p (stepsOf x.1 x.2)) else none) = frA (valP p (stepsOf x.1 x.2)) := by show (if isFr (x.1 : Int) (x.2 : Int) = true then _ else none) = _; rw [if_pos hx]
          rw [e] at this
          exact this
        generalize hR : orbN p (n, d) m = R
        go_enter Tryz.func29, Tryz.ntmps29
        go_wp2_with fail
        have hb0 : Below w.heap.size w ((w.alloc (.cells #[.string p.1.str, .string p.2.str] 25 (0, 0))).alloc (.cells #[.int .i64 n, .int .i64 d] 42 (0, 0))) := nxAlloc (nxAlloc (Below.refl _ _) _) _
        have hx0 := heap_keep (nxAlloc (Below.refl _ _) (.cells #[.int .i64 n, .int .i64 d] 42 (0, 0))) (heap_alloc_at w (.cells #[.string p.1.str, .string p.2.str] 25 (0, 0)))
        have hx1 := heap_alloc_at (w.alloc (.cells #[.string p.1.str, .string p.2.str] 25 (0, 0))) (.cells #[.int .i64 n, .int .i64 d] 42 (0, 0))
        generalize ((w.alloc (.cells #[.string p.1.str, .string p.2.str] 25 (0, 0))).alloc (.cells #[.int .i64 n, .int .i64 d] 42 (0, 0))) = w0 at *
        have e1 : (w.alloc (.cells #[.string p.1.str, .string p.2.str] 25 (0, 0))).heap.size = w.heap.size + 1 := by simp
        rw [e1] at hx1
        clear e1
        obtain ⟨hx0a, hx0b, hx0c⟩ := two_facts hx0
        obtain ⟨hx0f, hx0g⟩ := two_frozen hx0
        obtain ⟨hx1a, hx1b, hx1c⟩ := two_facts hx1
        obtain ⟨hx1f, hx1g⟩ := two_frozen hx1
        refine (hg _).mono ?_; rintro e w1 ⟨rfl, hb1⟩
        have hbw1 := nx hb0 hb1
        replace hx0 := heap_keep hb1 hx0
        replace hx1 := heap_keep hb1 hx1
        clear hx0a hx0b hx0c hx0f hx0g
        obtain ⟨hx0a, hx0b, hx0c⟩ := two_facts hx0
        obtain ⟨hx0f, hx0g⟩ := two_frozen hx0
        clear hx1a hx1b hx1c hx1f hx1g
        obtain ⟨hx1a, hx1b, hx1c⟩ := two_facts hx1
        obtain ⟨hx1f, hx1g⟩ := two_frozen hx1
        clear hb1 hb0
        go_wp2_with fail
        refine (hk _).mono ?_; rintro e w2 ⟨rfl, hb2⟩
        have hbw2 := nx hbw1 hb2
        replace hx0 := heap_keep hb2 hx0
        replace hx1 := heap_keep hb2 hx1
        clear hx0a hx0b hx0c hx0f hx0g
        obtain ⟨hx0a, hx0b, hx0c⟩ := two_facts hx0
        obtain ⟨hx0f, hx0g⟩ := two_frozen hx0
        clear hx1a hx1b hx1c hx1f hx1g
        obtain ⟨hx1a, hx1b, hx1c⟩ := two_facts hx1
        obtain ⟨hx1f, hx1g⟩ := two_frozen hx1
        clear hb2 hbw1
        have H1 : ¬ (m : Int) < 0 := by omega
        have H2 : ¬ (20 : Int) < (m : Int) := by omega
        go_wp2_with fail
        have hs2 := hbw2.size
        have hsz0 : w.heap.size + 2 ≤ w2.heap.size := by have := lt_of_block hx1; omega
        have hbA := nxAlloc hbw2 (.cells #[.int .i64 n, .int .i64 d] 42 (0, 0))
        have ownA : OwnF (w.heap.size + 2) (w2.alloc (.cells #[.int .i64 n, .int .i64 d] 42 (0, 0))) (.slice (some ⟨w2.heap.size, 0, none⟩) 1 1) [(n, d)] := World.ownsRow_lit (base := w.heap.size + 2) (e := 42) (size := 2) w2 #[.int .i64 n, .int .i64 d] 1 hsz0 (by unfold maxLen; omega) rfl
        have hxA0 := heap_keep (nxAlloc (Below.refl w2.heap.size w2) (.cells #[.int .i64 n, .int .i64 d] 42 (0, 0))) hx0
        have hxA1 := heap_keep (nxAlloc (Below.refl w2.heap.size w2) (.cells #[.int .i64 n, .int .i64 d] 42 (0, 0))) hx1
        clear hx0 hx1 hx0a hx0b hx0c hx0f hx0g hx1a hx1b hx1c hx1f hx1g
        generalize w2.alloc (.cells #[.int .i64 n, .int .i64 d] 42 (0, 0)) = wA at *
        go_loopw [8, 30] (fun v i wr => ∃ (j : Nat) (x : Nat × Nat) (l : List (Nat × Nat)) (v0 : Value), v0 = v ∧ j ≤ m ∧ i = .int .i64 j ∧ orbN p (n, d) j = some l ∧ l.getD j (0, 0) = x ∧ isFr x.1 x.2 = true ∧ OwnF (w.heap.size + 2) wr v0 l ∧ wr.heap[w.heap.size]? = some (.cells #[.string p.1.str, .string p.2.str] 25 (0, 0)) ∧ wr.heap[w.heap.size + 1]? = some (.cells #[.int .i64 x.1, .int .i64 x.2] 42 (0, 0)) ∧ Below w.heap.size w wr) (fun _ i _ => m - (intOf i).toNat)
        case atStart => exact ⟨0, (n, d), [(n, d)], _, rfl, Nat.zero_le _, rfl, rfl, rfl, hf, ownA, hxA0, hxA1, hbA⟩
        case round =>
          obtain ⟨j, x, l, v, rfl, hj, rfl, hl, hlx, hfx, hown, hx0, hx1, hbw⟩ := hrel
          obtain ⟨hx0a, hx0b, hx0c⟩ := two_facts hx0
          obtain ⟨hx0f, hx0g⟩ := two_frozen hx0
          obtain ⟨hx1a, hx1b, hx1c⟩ := two_facts hx1
          obtain ⟨hx1f, hx1g⟩ := two_frozen hx1
          by_cases hlt : j < m
          · have hlt' : (j : Int) < (m : Int) := by omega
            have hll := orbN_len hl
            have hstep := orbN_step hl hlx
            have hsr := hbw.size
            have hs1 : w.heap.size + 1 < wr.heap.size := lt_of_block hx1
            have hVx := fun w => hV x w hfx
            rcases frA_cases (valP p (stepsOf x.1 x.2)) with ⟨hfy, hsy⟩ | ⟨hfy, hsy⟩
            · rw [hsy] at hstep hVx
              have HST := Lib.hid hstep
              have HF := Lib.hid hfy
              clear hsy hstep hfy
              generalize frOf (valP p (stepsOf x.1 x.2)) = y at *
              obtain ⟨y1, y2⟩ := y
              have hVy : ∀ w, Calls Tryz.prog 32 #[.agg #[.string p.1.str, .string p.2.str], .agg #[.int .i64 x.1, .int .i64 x.2]] w (Gives (.tuple #[.agg #[.int .i64 y1, .int .i64 y2], .bool true]) w) := hVx
              clear hVx
              have hVx := hVy
              clear hVy
              have hgx : l.length = j + 1 := hll
              clear hll hlx
              obtain ⟨x1, x2⟩ := x
              go_wp2_with fail
              refine (hVx _).mono ?_; rintro e w5 ⟨rfl, hb5⟩
              have hbw5 := nx hbw hb5
              have hown5 := hown.keep hb5
              replace hx0 := heap_keep hb5 hx0
              replace hx1 := heap_keep hb5 hx1
              have hs5 := hb5.size
              clear hx0a hx0b hx0c hx0f hx0g hx1a hx1b hx1c hx1f hx1g
              have hbw7 := nxAlloc hbw5 (.cells #[.int .i64 y1, .int .i64 y2] 42 (0, 0))
              have hown7 : OwnF (w.heap.size + 2) (w5.alloc (.cells #[.int .i64 y1, .int .i64 y2] 42 (0, 0))) v l := OwnF.keep hown5 (nxAlloc (Below.refl w5.heap.size w5) (.cells #[.int .i64 y1, .int .i64 y2] 42 (0, 0)))
              have hs7 : (w5.alloc (.cells #[.int .i64 y1, .int .i64 y2] 42 (0, 0))).heap.size = w5.heap.size + 1 := size_of_alloc _ _
              have hnews := newsK (w5.alloc (.cells #[.int .i64 y1, .int .i64 y2] 42 (0, 0))) #[.int .i64 y1, .int .i64 y2] 42
              rw [hs7] at hnews
              have hne : ∀ k, v.ownBlock = some k → k < w5.heap.size := fun k hk => (World.ownsRow.lt hown5 k hk).2
              clear hown hb5 hown5
              go_wp2_with (at_builtin; refine wpList_append_own _ rfl _ _ 48 rfl (w.heap.size + 2) 42 i0 (.agg #[.int .i64 0, .int .i64 0]) 2 16 Tryz.underlying48 hi hz0 hz1 hz2 rfl (by decide) _ _ _ rfl (World.ownsRow.alloc hown7 _) ⟨w5.heap.size + 1, 0, none⟩ 1 1 [.int .i64 y1, .int .i64 y2] rfl rfl hnews (two1 _ _) (by unfold maxLen; omega) (by omega) (by simp; omega) ?_; intro v' w9 hown' hgrow hnn; have hsA : ((w5.alloc (.cells #[.int .i64 y1, .int .i64 y2] 42 (0, 0))).alloc (.cells #[.int .i64 y1, .int .i64 y2] 42 (0, 0))).heap.size = w5.heap.size + 1 + 1 := (by rw [size_of_alloc, hs7]); have hgr := (Below.refl (w.heap.size + 2) ((w5.alloc (.cells #[.int .i64 y1, .int .i64 y2] 42 (0, 0))).alloc (.cells #[.int .i64 y1, .int .i64 y2] 42 (0, 0)))).grown hgrow (by omega) (fun k hk => ownsRow_ge hown7 k hk); have hz0x := (hgr.block w.heap.size (by omega)).trans (heap_keep (nxAlloc (nxAlloc (Below.refl w5.heap.size w5) (.cells #[.int .i64 y1, .int .i64 y2] 42 (0, 0))) (.cells #[.int .i64 y1, .int .i64 y2] 42 (0, 0))) hx0); have hz1x := (hgr.block (w.heap.size + 1) (by omega)).trans (heap_keep (nxAlloc (nxAlloc (Below.refl w5.heap.size w5) (.cells #[.int .i64 y1, .int .i64 y2] 42 (0, 0))) (.cells #[.int .i64 y1, .int .i64 y2] 42 (0, 0))) hx1); have hz2x := (hgrow.block w5.heap.size (by omega) (fun e => by first | exact absurd (hne _ e.symm) (Nat.lt_irrefl _) | exact absurd (hne _ e) (Nat.lt_irrefl _))).trans (heap_keep (nxAlloc (Below.refl _ _) (.cells #[.int .i64 y1, .int .i64 y2] 42 (0, 0))) (heap_alloc_at w5 (.cells #[.int .i64 y1, .int .i64 y2] 42 (0, 0)))); obtain ⟨hz0a, hz0b, hz0c⟩ := two_facts hz0x; obtain ⟨hz1a, hz1b, hz1c⟩ := two_facts hz1x; obtain ⟨hz1f, hz1g⟩ := two_frozen hz1x; obtain ⟨hz2a, hz2b, hz2c⟩ := two_facts hz2x)
              have hbw9 := (nxAlloc hbw7 (.cells #[.int .i64 y1, .int .i64 y2] 42 (0, 0))).grown hgrow (by omega) (fun k hk => by have := ownsRow_ge hown7 k hk; omega)
              have hown1 := OwnF.snoc hown'
              have hy1 := set_two (.int .i64 y1) (.int .i64 y2) hz1x
              have hB : Below (w.heap.size + 1) w9 ((w9.setCell ⟨w.heap.size + 1, 0, none⟩ (.int .i64 y1)).setCell ⟨w.heap.size + 1, 1, none⟩ (.int .i64 y2)) := ((Below.refl (w.heap.size + 1) w9).setCell (p := ⟨w.heap.size + 1, 0, none⟩) (Nat.le_refl _) (.int .i64 y1)).setCell (p := ⟨w.heap.size + 1, 1, none⟩) (Nat.le_refl _) (.int .i64 y2)
              have hy0 := (hB.block w.heap.size (by omega)).trans hz0x
              have hown6 : OwnF (w.heap.size + 2) ((w9.setCell ⟨w.heap.size + 1, 0, none⟩ (.int .i64 y1)).setCell ⟨w.heap.size + 1, 1, none⟩ (.int .i64 y2)) _ (l ++ [(y1, y2)]) := ownsRow_setCell_below (ownsRow_setCell_below hown1 (a := ⟨w.heap.size + 1, 0, none⟩) (show w.heap.size + 1 < w.heap.size + 2 by omega) (.int .i64 y1)) (a := ⟨w.heap.size + 1, 1, none⟩) (show w.heap.size + 1 < w.heap.size + 2 by omega) (.int .i64 y2)
              have hbw6 : Below w.heap.size w ((w9.setCell ⟨w.heap.size + 1, 0, none⟩ (.int .i64 y1)).setCell ⟨w.heap.size + 1, 1, none⟩ (.int .i64 y2)) := (hbw9.setCell (p := ⟨w.heap.size + 1, 0, none⟩) (by show w.heap.size ≤ w.heap.size + 1; omega) (.int .i64 y1)).setCell (p := ⟨w.heap.size + 1, 1, none⟩) (by show w.heap.size ≤ w.heap.size + 1; omega) (.int .i64 y2)
              go_roundw
              case rel => exact ⟨j + 1, (y1, y2), l ++ [(y1, y2)], _, rfl, by omega, by go_num, HST.out, last_snoc l _ hgx, HF.out, hown6, hy0, hy1, hbw6⟩
              case measure => simp [intOf]; omega
            · rw [hsy] at hstep hVx
              have hno := orbN_none (p := p) (x := (n, d)) (k := j + 1) hstep (j := m) (by omega)
              obtain rfl : R = none := hR.symm.trans hno
              have hVy : ∀ w, Calls Tryz.prog 32 #[.agg #[.string p.1.str, .string p.2.str], .agg #[.int .i64 x.1, .int .i64 x.2]] w (Gives (.tuple #[.agg #[.int .i64 0, .int .i64 0], .bool false]) w) := hVx
              clear hVx hsy hno
              have hVx := hVy
              clear hVy hstep
              have hgx : l.length = j + 1 := hll
              clear hll hlx
              obtain ⟨x1, x2⟩ := x
              go_wp2_with fail
              refine (hVx _).mono ?_; rintro e w5 ⟨rfl, hb5⟩
              have hbw5 := nx hbw hb5
              have hown5 := hown.keep hb5
              replace hx0 := heap_keep hb5 hx0
              replace hx1 := heap_keep hb5 hx1
              have hs5 := hb5.size
              clear hx0a hx0b hx0c hx0f hx0g hx1a hx1b hx1c hx1f hx1g
              go_wp2_with fail
              have hbw7 := nxAlloc hbw5 (.cells #[.int .i64 0, .int .i64 0] 42 (0, 0))
              have hown7 := OwnF.keep hown5 (nxAlloc (Below.refl w5.heap.size w5) (.cells #[.int .i64 0, .int .i64 0] 42 (0, 0)))
              have hy0 := heap_keep (nxAlloc (Below.refl w5.heap.size w5) (.cells #[.int .i64 0, .int .i64 0] 42 (0, 0))) hx0
              have hy1 := heap_keep (nxAlloc (Below.refl w5.heap.size w5) (.cells #[.int .i64 0, .int .i64 0] 42 (0, 0))) hx1
              have hy2 := heap_alloc_at w5 (.cells #[.int .i64 0, .int .i64 0] 42 (0, 0))
              have hs7 : (w5.alloc (.cells #[.int .i64 0, .int .i64 0] 42 (0, 0))).heap.size = w5.heap.size + 1 := size_of_alloc _ _
              generalize hw7 : w5.alloc (.cells #[.int .i64 0, .int .i64 0] 42 (0, 0)) = w7 at *
              clear hx0 hx1 hown5 hown hb5 hw7
              obtain ⟨hy0a, hy0b, hy0c⟩ := two_facts hy0
              obtain ⟨hy0f, hy0g⟩ := two_frozen hy0
              obtain ⟨hy1a, hy1b, hy1c⟩ := two_facts hy1
              obtain ⟨hy1f, hy1g⟩ := two_frozen hy1
              obtain ⟨hy2a, hy2b, hy2c⟩ := two_facts hy2
              obtain ⟨hy2f, hy2g⟩ := two_frozen hy2
              go_ret2
              exact ⟨_, OwnW.nil _ _ _ _, hbw7, rfl⟩
          · obtain rfl : j = m := by omega
            obtain rfl : R = some l := hR.symm.trans hl
            clear hR
            go_wp2_with fail
            go_ret2
            exact ⟨_, OwnF.mono hown (show w.heap.size ≤ w.heap.size + 2 by omega), hbw, rfl⟩
end Go.Proofs.YtjmbkieocmhmiaaGreat

/-! Bk1 -/
namespace Go.Proofs.YtjmbkieocmhmiaaGreat
open Go.RowKit

/-- The places where a list changes. -/
def brkI (sl : List Int) (n : Nat) : List Nat := (List.range n).filter fun k => decide (0 < k) && decide (sl.getD k 0 ≠ sl.getD (k - 1) 0)
theorem brkI_one (sl : List Int) : brkI sl 1 = [] := by simp [brkI, List.range_succ]
theorem brkI_succ (sl : List Int) (j : Nat) : brkI sl (j + 1 + 1) = brkI sl (j + 1) ++ (if sl.getD (j + 1) 0 = sl.getD j 0 then [] else [j + 1]) := by
  unfold brkI
  rw [List.range_succ, List.filter_append]
  congr 1
  by_cases h : sl.getD (j + 1) 0 = sl.getD j 0
  · rw [if_pos h, List.filter_cons_of_neg (by simp only [Nat.add_sub_cancel]; rw [h]; simp)]; rfl
  · rw [if_neg h, List.filter_cons_of_pos (by simp only [Nat.add_sub_cancel]; simp only [Bool.and_eq_true, decide_eq_true_eq]; exact ⟨by omega, h⟩)]; rfl
theorem brkI_lt (sl : List Int) (n : Nat) : ∀ k ∈ brkI sl n, k < n := by
  intro k hk
  unfold brkI at hk
  rw [List.mem_filter, List.mem_range] at hk
  exact hk.1
theorem brkI_len (sl : List Int) (n : Nat) : (brkI sl n).length ≤ n := by
  have := List.length_filter_le (fun k => decide (0 < k) && decide (sl.getD k 0 ≠ sl.getD (k - 1) 0)) (List.range n)
  rw [List.length_range] at this
  exact this
def toI (l : List Nat) : List Int := l.map fun (k : Nat) => (k : Int)

end Go.Proofs.YtjmbkieocmhmiaaGreat

/-! Bk2 -/
namespace Go.Proofs.YtjmbkieocmhmiaaGreat
open Go.RowKit

/-- The pieces that begin at a break. -/
def brkP (ps : List (Nat × Nat × Int)) : List (Nat × Nat × Int) := (brkI (ps.map fun x => x.2.2) ps.length).map fun k => ps.getD k (0, 0, 0)

/-- Fractions of steps. -/
def fracs (sel : Nat × Nat × Int → Nat) (ps : List (Nat × Nat × Int)) : List (Nat × Nat) := ps.map fun x => frOf (sel x)

theorem start_any' (x y z : Int) (w : World) : Calls Tryz.prog 97 #[.agg #[.int .i64 x, .int .i64 y, .int .i64 z]] w (Gives (.int .i64 x) w) := by
  go_enter Tryz.func97, Tryz.ntmps97
  go_wp2_with fail
  go_ret
  exact ⟨rfl, nxAlloc (Below.refl _ _) _⟩
end Go.Proofs.YtjmbkieocmhmiaaGreat

/-! Bk3 -/
namespace Go.Proofs.YtjmbkieocmhmiaaGreat
open Go.RowKit

/-- Where the leaves of a tree begin at which the slopes of a pair change. -/
def frAt (t : Tr) (p : Pr) : List (Nat × Nat) := (brkI (slopes p) (slopes p).length).map fun k => (frs (t.addrs ⟨#[]⟩)).getD k (0, 0)
theorem slopes_len (p : Pr) (he : p.1.carets = p.2.carets) : (slopes p).length = p.1.carets + 1 := by
  have l1 := addrs_length p.1 ⟨#[]⟩
  have l2 := addrs_length p.2 ⟨#[]⟩
  have := slopesL_length (p.1.addrs ⟨#[]⟩) (p.2.addrs ⟨#[]⟩) (by omega)
  show (slopesL (p.1.addrs ⟨#[]⟩) (p.2.addrs ⟨#[]⟩)).length = _
  omega
theorem frAt_len (t : Tr) (p : Pr) (he : p.1.carets = p.2.carets) : (frAt t p).length ≤ p.1.carets + 1 := by
  have := slopes_len p he
  have h := brkI_len (slopes p) (slopes p).length
  unfold frAt
  rw [List.length_map]
  omega
theorem pcsB_len (p : Pr) : (pcs p).length = (slopes p).length := by rw [← slopes_pcs, List.length_map]
theorem pcs_get (p : Pr) (he : p.1.carets = p.2.carets) {k : Nat} (hk : k < (slopes p).length) : ((pcs p).getD k (0, 0, 0)).1 = stA ((p.1.addrs ⟨#[]⟩).getD k ⟨#[]⟩) ∧ ((pcs p).getD k (0, 0, 0)).2.1 = stA ((p.2.addrs ⟨#[]⟩).getD k ⟨#[]⟩) := by
  have l1 := addrs_length p.1 ⟨#[]⟩
  have l2 := addrs_length p.2 ⟨#[]⟩
  have hl := slopes_len p he
  have := pcsL_get (p.1.addrs ⟨#[]⟩) (p.2.addrs ⟨#[]⟩) (by omega) k (by omega)
  unfold pcs
  rw [this]
  exact ⟨rfl, rfl⟩
theorem frs_get (l : List ByteArray) (k : Nat) (h : k < l.length) : (frs l).getD k (0, 0) = frOf (stA (l.getD k ⟨#[]⟩)) := by
  simp [frs, h]
theorem brk_start (p : Pr) (he : p.1.carets = p.2.carets) : fracs (fun x => x.1) (brkP (pcs p)) = frAt p.1 p := by
  unfold fracs brkP frAt
  rw [slopes_pcs, List.map_map, pcsB_len]
  apply List.map_congr_left
  intro k hk
  have hk' := brkI_lt _ _ k hk
  have l1 := addrs_length p.1 ⟨#[]⟩
  have hl := slopes_len p he
  show frOf ((pcs p).getD k (0, 0, 0)).1 = _
  rw [(pcs_get p he hk').1, frs_get _ _ (by omega)]
theorem brk_target (p : Pr) (he : p.1.carets = p.2.carets) : fracs (fun x => x.2.1) (brkP (pcs p)) = frAt p.2 p := by
  unfold fracs brkP frAt
  rw [slopes_pcs, List.map_map, pcsB_len]
  apply List.map_congr_left
  intro k hk
  have hk' := brkI_lt _ _ k hk
  have l1 := addrs_length p.2 ⟨#[]⟩
  have hl := slopes_len p he
  show frOf ((pcs p).getD k (0, 0, 0)).2.1 = _
  rw [(pcs_get p he hk').2, frs_get _ _ (by omega)]
theorem stA_ok {a : ByteArray} (h : okAd a) : stA a ≤ 1048576 ∧ stA a % 1024 = 0 :=
  ⟨Nat.le_of_lt (stA_lt (by have := h.1; omega) h.2), stA_thousand h.1⟩
theorem brk_ok (p : Pr) (h1 : p.1.carets ≤ 8) (h2 : p.2.carets ≤ 8) (he : p.1.carets = p.2.carets) : ∀ x ∈ brkP (pcs p), (x.1 ≤ 1048576 ∧ x.1 % 1024 = 0) ∧ (x.2.1 ≤ 1048576 ∧ x.2.1 % 1024 = 0) := by
  intro x hx
  unfold brkP at hx
  rw [List.mem_map] at hx
  obtain ⟨k, hk, rfl⟩ := hx
  have hk' := brkI_lt _ _ k hk
  rw [pcsB_len] at hk'
  have l1 := addrs_length p.1 ⟨#[]⟩
  have l2 := addrs_length p.2 ⟨#[]⟩
  have hl := slopes_len p he
  rw [(pcs_get p he hk').1, (pcs_get p he hk').2]
  have m1 : (p.1.addrs ⟨#[]⟩).getD k ⟨#[]⟩ ∈ p.1.addrs ⟨#[]⟩ := by simp [show k < (p.1.addrs ⟨#[]⟩).length by omega]
  have m2 : (p.2.addrs ⟨#[]⟩).getD k ⟨#[]⟩ ∈ p.2.addrs ⟨#[]⟩ := by simp [show k < (p.2.addrs ⟨#[]⟩).length by omega]
  exact ⟨stA_ok (addrs_ok p.1 h1 _ m1), stA_ok (addrs_ok p.2 h2 _ m2)⟩
theorem brkP_len (p : Pr) (he : p.1.carets = p.2.carets) : (brkP (pcs p)).length ≤ p.1.carets + 1 := by
  unfold brkP
  rw [List.length_map, pcsB_len, slopes_pcs]
  have := brkI_len (slopes p) (slopes p).length
  have := slopes_len p he
  omega
/-- A slice of pieces that the call has made, and a bool. -/
def AnsP2 (xs : List (Nat × Nat × Int)) (ok : Bool) (w : World) (e : Ending) (w' : World) : Prop :=
  ∃ v, OwnP w.heap.size w' v xs ∧ Below w.heap.size w w' ∧ e = .returned (.tuple #[v, .bool ok])
def brkQ (o : Option Pr) : List (Nat × Nat × Int) := match o with | some p => brkP (pcs p) | none => []
end Go.Proofs.YtjmbkieocmhmiaaGreat
