/- Walks: impl.leafPieces: the pieces of a pair, a slice of structs. -/
import Derived.Test.YtbmegkphmifokaaFs1
import Derived.Test.YtbmegkphmifokaaRowW
import Derived.Test.YtbmegkphmifokaaAddr
import Derived.Test.YtbmegkphmifokaaFt2
import Derived.Test.YtbmegkphmifokaaTreeO
import Derived.Deep.AppendLies
namespace Go.Proofs.Ytbmegkphmifokaa
open Go.RowKit

theorem info_piece : (Try.prog.info? 78).map (fun i => (i.zero, i.size, i.bytes)) = some (some (.agg #[.int .i64 0, .int .i64 0, .int .i64 0]), 3, 24) := by kernel_rfl
theorem three1 (a b c : Int) : ∀ u ∈ [Value.int .i64 a, Value.int .i64 b, Value.int .i64 c], u.oneCell' = true := by
  intro u hu
  simp at hu
  rcases hu with rfl | rfl | rfl <;> rfl
/-- Where the pieces of a pair begin, to what this is carried, and the slope. -/
def pcsL : List ByteArray → List ByteArray → List (Nat × Nat × Int)
  | a :: l, b :: m => (stA a, stA b, (a.size : Int) - b.size) :: pcsL l m
  | _, _ => []
def flatP : List (Nat × Nat × Int) → List Int
  | [] => []
  | x :: l => (x.1 : Int) :: (x.2.1 : Int) :: x.2.2 :: flatP l
theorem flatP_length (l : List (Nat × Nat × Int)) : (flatP l).length = l.length * 3 := by
  induction l with
  | nil => rfl
  | cons x l ih => simp [flatP, ih]; omega
theorem flatP_append (l m : List (Nat × Nat × Int)) : flatP (l ++ m) = flatP l ++ flatP m := by
  induction l with
  | nil => rfl
  | cons x l ih => simp [flatP, ih]
theorem flatP_get (l : List (Nat × Nat × Int)) : ∀ k, k < l.length → (flatP l).getD (k * 3) 0 = ((l.getD k (0, 0, 0)).1 : Int) ∧ (flatP l).getD (k * 3 + 1) 0 = ((l.getD k (0, 0, 0)).2.1 : Int) ∧ (flatP l).getD (k * 3 + 2) 0 = (l.getD k (0, 0, 0)).2.2 := by
  induction l with
  | nil => intro k hk; simp at hk
  | cons x l ih =>
    intro k hk
    match k with
    | 0 => exact ⟨rfl, rfl, rfl⟩
    | k + 1 =>
      have := ih k (by simpa using hk)
      rw [show (k + 1) * 3 = k * 3 + 3 by omega]
      exact this
theorem pcsL_length : ∀ (l m : List ByteArray), l.length = m.length → (pcsL l m).length = l.length := by
  intro l
  induction l with
  | nil => intro m h; cases m <;> rfl
  | cons a l ih => intro m h; match m, h with
    | b :: m, h => simp [pcsL, ih m (by simpa using h)]
theorem pcsL_get : ∀ (l m : List ByteArray), l.length = m.length → ∀ k, k < l.length → (pcsL l m).getD k (0, 0, 0) = (stA (l.getD k ⟨#[]⟩), stA (m.getD k ⟨#[]⟩), ((l.getD k ⟨#[]⟩).size : Int) - (m.getD k ⟨#[]⟩).size) := by
  intro l
  induction l with
  | nil => intro m h k hk; simp at hk
  | cons a l ih => intro m h k hk; match m, h with
    | b :: m, h =>
      match k with
      | 0 => rfl
      | k + 1 => exact ih m (by simpa using h) k (by simpa using hk)
def pcs (p : Pr) : List (Nat × Nat × Int) := pcsL (p.1.addrs ⟨#[]⟩) (p.2.addrs ⟨#[]⟩)
/-- v is a slice of pieces that the call has made. -/
def OwnP (base : Nat) (w : World) (v : Value) (xs : List (Nat × Nat × Int)) : Prop := OwnW 78 3 base w v xs.length (flatP xs)
theorem OwnP.keep {base : Nat} {w w' : World} {v : Value} {xs : List (Nat × Nat × Int)} (h : OwnP base w v xs) (hb : Below w.heap.size w w') : OwnP base w' v xs := OwnW.keep h hb
theorem OwnP.mono {base base' : Nat} {w : World} {v : Value} {xs : List (Nat × Nat × Int)} (h : OwnP base w v xs) (hb : base' ≤ base) : OwnP base' w v xs := OwnW.mono h hb
theorem OwnP.cells {base : Nat} {w : World} {v : Value} {xs : List (Nat × Nat × Int)} (h : OwnP base w v xs) : CellsW 3 base w v xs.length (flatP xs) := OwnW.cells h
theorem OwnP.snoc {base : Nat} {w : World} {v : Value} {xs : List (Nat × Nat × Int)} {a b : Nat} {c : Int} (h : w.ownsRow base 78 3 v (xs.length + 1) ((flatP xs).map (Value.int .i64) ++ [Value.int .i64 a, Value.int .i64 b, Value.int .i64 c])) : OwnP base w v (xs ++ [(a, b, c)]) := by
  unfold OwnP OwnW
  rw [List.length_append, flatP_append, List.map_append]
  exact h
def GivesP (xs : List (Nat × Nat × Int)) (w : World) (e : Ending) (w' : World) : Prop :=
  ∃ v, OwnP w.heap.size w' v xs ∧ Below w.heap.size w w' ∧ e = .returned v

theorem size_of_alloc (w : World) (o : Obj) : (w.alloc o).heap.size = w.heap.size + 1 := by simp
set_option maxRecDepth 100000 in
set_option maxHeartbeats 4000000 in
theorem leafPieces_any (p : Pr) (w : World) (h1 : p.1.carets ≤ 8) (h2 : p.2.carets ≤ 8) (he : p.1.carets = p.2.carets) :
    Calls Try.prog 61 #[.agg #[.string p.1.str, .string p.2.str]] w (GivesP (pcs p) w) := by
  obtain ⟨i0, hi, hz0, hz1, hz2⟩ := info_parts info_piece
  have T1 := fun w => treeOf_any p.1 w (by omega)
  have T2 := fun w => treeOf_any p.2 w (by omega)
  have A1 := fun b w h => addressesFrom_any p.1 b ⟨#[]⟩ w h (by omega) (by show 0 + p.1.carets ≤ 1000; omega)
  have A2 := fun b w h => addressesFrom_any p.2 b ⟨#[]⟩ w h (by omega) (by show 0 + p.2.carets ≤ 1000; omega)
  have l1 := addrs_length p.1 ⟨#[]⟩
  have l2 := addrs_length p.2 ⟨#[]⟩
  have o1 := addrs_ok p.1 h1
  have o2 := addrs_ok p.2 h2
  unfold pcs
  generalize p.1.addrs ⟨#[]⟩ = xs at *
  generalize p.2.addrs ⟨#[]⟩ = ys at *
  obtain ⟨n, hn⟩ : ∃ n, n = xs.length := ⟨_, rfl⟩
  have hny : ys.length = n := by omega
  have hn9 : n ≤ 9 := by omega
  have hn0 : 0 < n := by omega
  have hxy : xs.length = ys.length := by omega
  have pl := pcsL_length xs ys hxy
  have pg := pcsL_get xs ys hxy
  have hO : Hid (∀ k, k < n → okAd (xs.getD k ⟨#[]⟩) ∧ okAd (ys.getD k ⟨#[]⟩)) := by
    intro k hk
    have hk1 : k < xs.length := by omega
    have hk2 : k < ys.length := by omega
    exact ⟨o1 _ (by simp [hk1]), o2 _ (by simp [hk2])⟩
  have A1' : ∀ b w, NodeAt w p.1 b → Calls Try.prog 79 #[.pointer (some ⟨b, 0, none⟩), .string ⟨#[]⟩] w fun e w' => ∃ g cap : Nat, OwnS w.heap.size w' (.slice (some ⟨g, 0, none⟩) n cap) xs ∧ Below w.heap.size w w' ∧ e = .returned (.slice (some ⟨g, 0, none⟩) n cap) := by
    intro b w h
    have := A1 b w h
    unfold GivesTexts at this
    rw [← hn] at this
    exact this
  have A2' : ∀ b w, NodeAt w p.2 b → Calls Try.prog 79 #[.pointer (some ⟨b, 0, none⟩), .string ⟨#[]⟩] w fun e w' => ∃ g cap : Nat, OwnS w.heap.size w' (.slice (some ⟨g, 0, none⟩) n cap) ys ∧ Below w.heap.size w w' ∧ e = .returned (.slice (some ⟨g, 0, none⟩) n cap) := by
    intro b w h
    have := A2 b w h
    unfold GivesTexts at this
    rw [hny] at this
    exact this
  clear A1 A2
  rw [← hn] at pl pg
  have hX := hn.symm
  clear hn
  generalize pcsL xs ys = ps at *
  have PG := Lib.hid pg
  have PL := Lib.hid pl
  have HX := Lib.hid hX
  have HY := Lib.hid hny
  clear pg pl o1 o2 hxy l1 l2 hX hny
  go_enter Try.func61, Try.ntmps61
  go_wp2_with fail
  have hb0 : Below w.heap.size w (w.alloc (.cells #[.string p.1.str, .string p.2.str] 45 (0, 0))) := nxAlloc (Below.refl _ _) _
  have hx0 := heap_alloc_at w (.cells #[.string p.1.str, .string p.2.str] 45 (0, 0))
  generalize (w.alloc (.cells #[.string p.1.str, .string p.2.str] 45 (0, 0))) = w0 at *
  obtain ⟨hx0a, hx0b, hx0c⟩ := two_facts hx0
  obtain ⟨hx0f, hx0g⟩ := two_frozen hx0
  have hz0' := Below.refl w0.heap.size w0
  go_region_held3 (fun w' => w'.cell? ⟨w.heap.size, 0, none⟩ = some (.string p.1.str) ∧ w'.cell? ⟨w.heap.size, 1, none⟩ = some (.string p.2.str))
    (first
      | exact ⟨hx0a, hx0b⟩
      | exact ⟨B1, B2⟩
      | exact ⟨C1, C2⟩
      | exact ⟨D1, D2⟩
      | exact ⟨E1, E2⟩)
    (first
      | (go_at_call 84; (with_reducible refine (T1 _).mono ?_); rintro e w1 ⟨b1, hn1, hb1, rfl⟩; have hb1' := nx hz0'.drew hb1; have B1 := keep_cell hb1' hx0a; have B2 := keep_cell hb1' hx0b)
      | (go_at_call_of 79 (some (⟨b1, 0, none⟩ : Addr)); refine (A1' b1 _ ?_).mono ?_; exact hn1; rintro e w2 ⟨g1, cap1, own1, hb2, rfl⟩; have hb2' := nx hb1' hb2; have C1 := keep_cell hb2' hx0a; have C2 := keep_cell hb2' hx0b)
      | (go_at_call 84; (with_reducible refine (T2 _).mono ?_); rintro e w3 ⟨b2, hn2, hb3, rfl⟩; have hb3' := nx hb2' hb3; have D1 := keep_cell hb3' hx0a; have D2 := keep_cell hb3' hx0b)
      | (go_at_call_of 79 (some (⟨b2, 0, none⟩ : Addr)); refine (A2' b2 _ ?_).mono ?_; exact hn2; rintro e w4 ⟨g2, cap2, own2, hb4, rfl⟩; have hb4' := nx hb3' hb4; have E1 := keep_cell hb4' hx0a; have E2 := keep_cell hb4' hx0b))
  have hbw4 := nx hb0 hb4'
  have own1' := own1.keep (nx hb3 hb4)
  clear hx0 hx0a hx0b hx0c hx0f hx0g B1 B2 C1 C2 D1 D2 E1 E2 hb0 hb1 hb2 hb3 hb4 hb1' hb2' hb3' hb4' hn1 hn2 own1 T1 T2 A1' A2' hz0'
  rcases own1'.cells with ⟨h0, _⟩ | ⟨g1', cap1', hv1, _, hg1, hc1, hc2, hcell1, _⟩
  · simp at h0
  rcases own2.cells with ⟨h0, _⟩ | ⟨g2', cap2', hv2, _, hg2, hc3, hc4, hcell2, _⟩
  · simp at h0
  simp only [Value.slice.injEq, Option.some.injEq, Addr.mk.injEq, and_true] at hv1 hv2
  obtain ⟨rfl, e1, rfl⟩ := hv1
  obtain ⟨rfl, e2, rfl⟩ := hv2
  clear e1 e2
  have HC1 := Lib.hid hcell1
  have HC2 := Lib.hid hcell2
  unfold maxLen at hc2 hc4
  clear hcell1 hcell2 own1' own2
  go_wp2_with fail
  go_loopw [5, 17] (fun v i wr => ∃ (k : Nat) (v0 : Value), v0 = v ∧ k ≤ n ∧ i = .int .i64 k ∧ OwnP w4.heap.size wr v0 (ps.take k) ∧ Below w4.heap.size w4 wr ∧ Below w.heap.size w wr) (fun _ i _ => n - (intOf i).toNat)
  case atStart => exact ⟨0, _, rfl, Nat.zero_le _, rfl, OwnW.nil _ _ _ _, Below.refl _ _, hbw4⟩
  case round =>
    obtain ⟨k, v, rfl, hk, rfl, hown, hbw, hbww⟩ := hrel
    by_cases hlt : k < n
    · have hlt' : (k : Int) < (n : Int) := by omega
      have hX := HX.out
      have hY := HY.out
      have d1 := HC1.out k (by omega)
      have d2 := HC2.out k (by omega)
      obtain ⟨ok1, ok2⟩ := hO.out k hlt
      have hpl := PL.out
      have hnext : ps.take (k + 1) = ps.take k ++ [ps.getD k (0, 0, 0)] := by
        have : k < ps.length := by omega
        rw [List.take_succ_eq_append_getElem this]; simp [this]
      have hlen : (ps.take k).length = k := by simp; omega
      rw [PG.out k (by omega)] at hnext
      generalize ps.take k = qs at hown hlen hnext
      generalize xs.getD k ⟨#[]⟩ = a at *
      generalize ys.getD k ⟨#[]⟩ = b at *
      have hS1 := fun w => startOf_any a w ok1.1 ok1.2
      have hS2 := fun w => startOf_any b w ok2.1 ok2.2
      have sa := ok1.1
      have sb := ok2.1
      have hi3 : IntKind.i64.wrap ((a.size : Int) - (b.size : Int)) = (a.size : Int) - (b.size : Int) := by rw [IntKind.wrap_i64] <;> omega
      generalize hx : stA a = x at *
      generalize hy : stA b = y at *
      have HN := Lib.hid hnext
      have hq9 : qs.length ≤ 9 := by omega
      clear hnext hX hY ok1 ok2 hpl hx hy hlen
      have c1 := (hbw.cell (p := ⟨g1, k, none⟩) hg1).trans d1
      have c2 := (hbw.cell (p := ⟨g2, k, none⟩) hg2).trans d2
      have hz := Below.refl wr.heap.size wr
      have hsw := hbw4.size
      have hm9 : qs.length + 1 ≤ maxLen := by unfold maxLen; omega
      have hb9 : (qs.length + 1) * 24 ≤ 140737488355328 := by omega
      go_wp2_with fail
      go_region_held3 (fun w' => w'.cell? ⟨g1, k, none⟩ = some (.string a) ∧ w'.cell? ⟨g2, k, none⟩ = some (.string b))
        (first
          | exact ⟨c1, c2⟩
          | exact ⟨B1, B2⟩
          | exact ⟨C1, C2⟩
          | exact ⟨D1 _, D2 _⟩
          | exact ⟨E1, E2⟩)
        (first
          | (go_at_call 52; (with_reducible refine (hS1 _).mono ?_); rintro e w5 ⟨rfl, hb5⟩; have hb5' := nx hz.drew hb5; have B1 := keep_cell hb5' c1; have B2 := keep_cell hb5' c2)
          | (go_at_call 52; (with_reducible refine (hS2 _).mono ?_); rintro e w6 ⟨rfl, hb6⟩; have hb6' := nx hb5' hb6; have C1 := keep_cell hb6' c1; have C2 := keep_cell hb6' c2; have D1 := fun o => keep_cell (nxAlloc hb6' o) c1; have D2 := fun o => keep_cell (nxAlloc hb6' o) c2; have hown6 := hown.keep hb6'; have hb46 := nx hbw hb6'; have hbw6 := nx hbww hb6'; have hnews := newsK w6 #[.int .i64 x, .int .i64 y, .int .i64 ((a.size : Int) - (b.size : Int))] 78; have hown7 := World.ownsRow.alloc hown6 (.cells #[.int .i64 x, .int .i64 y, .int .i64 ((a.size : Int) - (b.size : Int))] 78 (0, 0)); have hs46 := hb46.size; have hbs := Nat.le_trans hs46 (Nat.le_trans (Nat.le_succ _) (Nat.le_of_eq (size_of_alloc w6 (.cells #[.int .i64 x, .int .i64 y, .int .i64 ((a.size : Int) - (b.size : Int))] 78 (0, 0))).symm)); have hsz7 := size_of_alloc w6 (.cells #[.int .i64 x, .int .i64 y, .int .i64 ((a.size : Int) - (b.size : Int))] 78 (0, 0)))
          | (refine step_append_lies _ (by rfl) _ _ _ (by rfl) w4.heap.size 78 i0 _ 3 24 Try.underlying80 hi hz0 hz1 hz2 rfl (by omega) v qs.length ((flatP qs).map (Value.int .i64)) (by rfl) hown7 ⟨w6.heap.size, 0, none⟩ 1 1 [.int .i64 x, .int .i64 y, .int .i64 ((a.size : Int) - (b.size : Int))] (by rfl) (by rfl) hnews (three1 _ _ _) (by omega) hm9 hb9 hbs (w6.heap.size + 1) hsz7 ?_; intro gg cap9 w9 hown' hgrow hat hlt9; have hbw9 := (nxAlloc hb46 _).grown hgrow hbs (fun k hk => ownsRow_ge hown7 k hk); have E1 := (hbw9.cell (p := ⟨g1, k, none⟩) hg1).trans d1; have E2 := (hbw9.cell (p := ⟨g2, k, none⟩) hg2).trans d2))
      have hbw9w := (nxAlloc hbw6 _).grown hgrow (Nat.le_trans hsw hbs) (fun k hk => Nat.le_trans hsw (ownsRow_ge hown7 k hk))
      have hown1 := OwnP.snoc hown'
      go_wp2_with fail
      go_roundw
      case rel =>
        rw [← HN.out] at hown1
        first
          | exact ⟨k + 1, _, rfl, by omega, by go_num, hown1, hbw9, hbw9w⟩
          | ((repeat apply Exists.intro); exact ⟨⟨k + 1, _, rfl, by omega, by go_num, hown1, hbw9, hbw9w⟩, rfl⟩)
      case measure => simp [intOf]; omega
    · obtain rfl : k = n := by omega
      have hpl := PL.out
      rw [List.take_of_length_le (by omega)] at hown
      go_wp2_with fail
      go_ret
      exact ⟨_, hown.mono hbw4.size, hbww, rfl⟩
end Go.Proofs.Ytbmegkphmifokaa
