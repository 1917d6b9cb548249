/- FnExactBreakValues: for every input the law returns true and leaves its arguments as they were. No conditions. -/
import Derived.Test.YtdhjchibhlcchaaMgBreakValues1
import Derived.ProofKit
import Derived.OpenShut
import Derived.ShutString
import Derived.ChangeOld
import Derived.Below
import Derived.Lib.SmallJoins
/-! Ft1 -/
namespace Go.Proofs.Ytdhjchibhlcchaa
open Go.RowKit

set_option maxHeartbeats 2000000 in
theorem heldFractionS_any (b1 : Nat) (v1 : Value) (n : Nat) (k : Int) (w : World) (hk0 : 0 ≤ k) (hk1 : k ≤ 1000000000) (hn9 : n ≤ 1000000000) (h1 : CellsW 2 b1 w v1 n (marks k (n * 2))) :
    Calls Try.prog 23 #[v1, .int .i64 k] w (Gives (.int .i64 (k + (n * 2 : Nat))) w) := by
  rcases h1 with ⟨rfl, hn⟩ | ⟨g, cap, rfl, hb1, hg1, hc1, hm1, hx1, _⟩
  · subst hn
    go_enter Try.func23, Try.ntmps23
    go_wp2_with fail
    go_loopw [1, 5] (fun v i wr => v = .int .i64 k ∧ i = .int .i64 0 ∧ wr = w) (fun _ _ _ => 0)
    case atStart => exact ⟨rfl, rfl, rfl⟩
    case round =>
      obtain ⟨rfl, rfl, rfl⟩ := hrel
      go_wp2_with fail
      go_ret
      exact ⟨ret_int (by simp), Below.refl _ _⟩
  · have HX1 := Lib.hid hx1
    clear hx1
    go_enter Try.func23, Try.ntmps23
    go_wp2_with fail
    go_loopw [1, 5] (fun v i wr => ∃ j : Nat, j ≤ n ∧ i = .int .i64 j ∧ v = .int .i64 (k + (j * 2 : Nat)) ∧ Below w.heap.size w wr) (fun _ i _ => n - (intOf i).toNat)
    case atStart => exact ⟨0, Nat.zero_le _, rfl, by simp, Below.refl _ _⟩
    case round =>
      obtain ⟨j, hj, rfl, rfl, hbw⟩ := hrel
      by_cases hlt : j < n
      · have hlt' : (j : Int) < (n : Int) := by omega
        have c1 := (hbw.cell (p := ⟨g, j * 2, none⟩) hg1).trans (HX1.out (j * 2) (by omega))
        have c2 := (hbw.cell (p := ⟨g, j * 2 + 1, none⟩) hg1).trans (HX1.out (j * 2 + 1) (by omega))
        rw [marks_getD k (by omega)] at c1 c2
        go_wp2_with fail
        go_roundw
        case rel => exact ⟨j + 1, by omega, by go_num, by go_num, hbw⟩
        case measure => simp [intOf]; omega
      · obtain rfl : j = n := by omega
        go_wp2_with fail
        go_ret
        exact ⟨rfl, hbw⟩

set_option maxHeartbeats 2000000 in
theorem eqFractionS_any (b1 b2 : Nat) (v1 v2 : Value) (xs : List (Nat × Nat)) (w : World) (h1 : CellsW 2 b1 w v1 xs.length (flatF xs)) (h2 : CellsW 2 b2 w v2 xs.length (flatF xs)) :
    Calls Try.prog 21 #[v1, v2] w (Gives (.bool true) w) := by
  rcases h1 with ⟨rfl, hn⟩ | ⟨g, cap, rfl, hb1, hg1, hc1, hm1, hx1, _⟩
  · rcases h2 with ⟨rfl, _⟩ | ⟨g, cap, rfl, hb1, hg1, hc1, hm1, hx1, _⟩
    all_goals
      simp only [hn] at *
      go_enter Try.func21, Try.ntmps21
      go_wp2_with fail
      go_loopw [5] (fun i wr => i = .int .i64 0 ∧ wr = w) (fun _ _ => 0)
      case atStart => exact ⟨rfl, rfl⟩
      case round =>
        obtain ⟨rfl, rfl⟩ := hrel
        go_wp2_with fail
        go_ret
        exact ⟨rfl, Below.refl _ _⟩
  · rcases h2 with ⟨rfl, hn⟩ | ⟨g2, cap2, rfl, hb2, hg2, hc2, hm2, hx2, _⟩
    · simp only [hn] at *
      go_enter Try.func21, Try.ntmps21
      go_wp2_with fail
      go_loopw [5] (fun i wr => i = .int .i64 0 ∧ wr = w) (fun _ _ => 0)
      case atStart => exact ⟨rfl, rfl⟩
      case round =>
        obtain ⟨rfl, rfl⟩ := hrel
        go_wp2_with fail
        go_ret
        exact ⟨rfl, Below.refl _ _⟩
    · have HX1 := Lib.hid hx1
      have HX2 := Lib.hid hx2
      unfold maxLen at hm1 hm2
      clear hx1 hx2
      go_enter Try.func21, Try.ntmps21
      go_wp2_with fail
      go_loopw [5] (fun i wr => ∃ k : Nat, k ≤ xs.length ∧ i = .int .i64 k ∧ Below w.heap.size w wr) (fun i _ => xs.length - (intOf i).toNat)
      case atStart => exact ⟨0, Nat.zero_le _, rfl, Below.refl _ _⟩
      case round =>
        obtain ⟨k, hk, rfl, hbw⟩ := hrel
        by_cases hlt : k < xs.length
        · have hlt' : (k : Int) < (xs.length : Int) := by omega
          have c1 := (hbw.cell (p := ⟨g, k * 2, none⟩) hg1).trans (HX1.out (k * 2) (by omega))
          have c2 := (hbw.cell (p := ⟨g, k * 2 + 1, none⟩) hg1).trans (HX1.out (k * 2 + 1) (by omega))
          have c3 := (hbw.cell (p := ⟨g2, k * 2, none⟩) hg2).trans (HX2.out (k * 2) (by omega))
          have c4 := (hbw.cell (p := ⟨g2, k * 2 + 1, none⟩) hg2).trans (HX2.out (k * 2 + 1) (by omega))
          rw [(flatF_get xs k hlt).1] at c1 c3
          rw [(flatF_get xs k hlt).2] at c2 c4
          generalize (xs.getD k (0, 0)).1 = x at *
          generalize (xs.getD k (0, 0)).2 = y at *
          have hgr : g < wr.heap.size := Nat.lt_of_lt_of_le hg1 hbw.size
          have hgr2 : g2 < wr.heap.size := Nat.lt_of_lt_of_le hg2 hbw.size
          have hE := fun w => eqFraction_same (x : Int) (y : Int) w
          go_wp2_with fail
          refine wp_region_cls (by kernel_rfl) (by kernel_rfl) ?_
          repeat (
            refine wpQuiet_step (fun K hK => ?_)
            go_simp
            first
              | (refine hK _ ?_; clear hK K)
              | (refine ⟨_, fun _ _ => rfl, hK _ ?_⟩; clear hK K)
              | (apply Exists.intro
                 refine ⟨fun w' hw' => ?_, hK _ ?_⟩
                 · first
                     | (go_at_call 18; exact hw'.call (hE _))
                     | (rw [hw'.cell hgr c1]; dsimp only [Result.andThen]; rw [hw'.cell hgr c2]; exact ⟨rfl, rfl⟩)
                     | (rw [hw'.cell hgr2 c3]; dsimp only [Result.andThen]; rw [hw'.cell hgr2 c4]; exact ⟨rfl, rfl⟩)
                 clear hK K))
          refine wpQuiet_nil ?_
          intro w' hw'
          have hbw2 := nx hbw hw'
          go_wp2_with fail
          go_roundw
          case rel => exact ⟨k + 1, by omega, by go_num, hbw2⟩
          case measure => simp [intOf]; omega
        · obtain rfl : k = xs.length := by omega
          go_wp2_with fail
          go_ret
          exact ⟨rfl, hbw⟩

theorem OwnW.set {e : TypeId} {c base : Nat} {w : World} {g cap n : Nat} {L : List Int} (h : OwnW e c base w (.slice (some ⟨g, 0, none⟩) n cap) n L) (j : Nat) (m : Int) :
    OwnW e c base (w.setCell ⟨g, j, none⟩ (.int .i64 m)) (.slice (some ⟨g, 0, none⟩) n cap) n (L.set j m) := by
  unfold OwnW at *
  rw [List.map_set]
  exact (World.ownsRow.stored h j _).1
/-- A call that hands back a number, and leaves the slice v with other numbers. -/
def MarkedW (e0 : TypeId) (c base : Nat) (r : Int) (v : Value) (n : Nat) (L : List Int) (w : World) (e : Ending) (w' : World) : Prop := e = .returned (.int .i64 r) ∧ OwnW e0 c base w' v n L ∧ Below base w w'

set_option maxHeartbeats 2000000 in
theorem markFractionS_any (base : Nat) (v : Value) (xs : List (Nat × Nat)) (k : Int) (w : World) (hk0 : 0 ≤ k) (hk1 : k ≤ 1000000000) (hn9 : xs.length ≤ 1000000000) (h : OwnF base w v xs) :
    Calls Try.prog 22 #[v, .int .i64 k] w (MarkedW 26 2 base (k + (xs.length * 2 : Nat)) v xs.length (marks k (xs.length * 2)) w) := by
  have hb0 := Below.refl base w
  have hL := flatF_length xs
  unfold OwnF at h
  generalize flatF xs = L at *
  generalize xs.length = n at *
  rcases h.cells with ⟨rfl, rfl⟩ | ⟨g, cap, rfl, hb1, hg1, hc1, hm1, hx1, hf1⟩
  · have H := Lib.hid h
    have HL := Lib.hid hL
    clear h hL
    go_enter Try.func22, Try.ntmps22
    go_wp2_with fail
    go_loopw [1, 5] (fun v i wr => v = .int .i64 k ∧ i = .int .i64 0 ∧ wr = w) (fun _ _ _ => 0)
    case atStart => exact ⟨rfl, rfl, rfl⟩
    case round =>
      obtain ⟨rfl, rfl, rfl⟩ := hrel
      go_wp2_with fail
      go_ret
      refine ⟨ret_int (by simp), ?_, hb0⟩
      have hl : L = [] := List.length_eq_zero_iff.1 (by have := HL.out; omega)
      have := H.out
      rw [hl] at this
      exact this
  · unfold maxLen at hm1
    clear hx1 hf1 hg1
    have HL := Lib.hid hL
    have H := Lib.hid h
    clear h hL
    go_enter Try.func22, Try.ntmps22
    go_wp2_with fail
    go_loopw [1, 5] (fun v i wr => ∃ j : Nat, j ≤ n ∧ i = .int .i64 j ∧ v = .int .i64 (k + (j * 2 : Nat)) ∧ OwnW 26 2 base wr (.slice (some ⟨g, 0, none⟩) n cap) n (marks k (j * 2) ++ L.drop (j * 2)) ∧ Below base w wr) (fun _ i _ => n - (intOf i).toNat)
    case atStart => exact ⟨0, Nat.zero_le _, rfl, by simp, H.out, hb0⟩
    case round =>
      obtain ⟨j, hj, rfl, rfl, hown, hbw⟩ := hrel
      by_cases hlt : j < n
      · have hlt' : (j : Int) < (n : Int) := by omega
        rcases hown.cells with ⟨h0, _⟩ | ⟨g', cap', h0, hb1', hg1, hc1', hm1', hx1, hf1⟩
        · simp at h0
        simp only [Value.slice.injEq, Option.some.injEq, Addr.mk.injEq, and_true, true_and] at h0
        obtain ⟨rfl, rfl⟩ := h0
        have c1 := hx1 (j * 2) (by omega)
        have c2 := hx1 (j * 2 + 1) (by omega)
        have f1 := hf1 (j * 2)
        have f2 := hf1 (j * 2 + 1)
        have HO := Lib.hid hown
        clear hx1 hf1 hown
        generalize (marks k (j * 2) ++ L.drop (j * 2)).getD (j * 2) 0 = y1 at *
        generalize (marks k (j * 2) ++ L.drop (j * 2)).getD (j * 2 + 1) 0 = y2 at *
        go_wp2_with fail
        go_roundw
        case rel =>
          refine ⟨j + 1, by omega, by go_num, by go_num, ?_, (hbw.setCell hb1 _).setCell hb1 _⟩
          have o1 := (HO.out.set (j * 2) (k + (j * 2 : Nat))).set (j * 2 + 1) (k + (j * 2 + 1 : Nat))
          have hL := HL.out
          rw [marks_set k L (j * 2) (by omega), marks_set k L (j * 2 + 1) (by omega)] at o1
          rw [show (j + 1) * 2 = j * 2 + 1 + 1 by omega]
          have e1 : k + ((j * 2 : Nat) : Int) = k + (j : Int) * 2 := by omega
          have e2 : k + ((j * 2 + 1 : Nat) : Int) = k + (j : Int) * 2 + 1 := by omega
          rw [e1, e2] at o1
          exact o1
        case measure => simp [intOf]; omega
      · obtain rfl : j = n := by omega
        go_wp2_with fail
        go_ret
        refine ⟨rfl, ?_, hbw⟩
        have hL := HL.out
        rw [List.drop_of_length_le (by omega), List.append_nil] at hown
        exact hown
end Go.Proofs.Ytdhjchibhlcchaa

/-! WBreakValues -/
namespace Go.Proofs.Ytdhjchibhlcchaa
open Go.RowKit

def BreakValues_o (a b : ByteArray) : Option (List (Nat × Nat)) := (pairOf a b).bind fun p => some (frAt p.2 p)
theorem BreakValues_len (a b : ByteArray) : ((BreakValues_o a b).getD []).length ≤ 1000000000 := by
  unfold BreakValues_o
  cases h : pairOf a b with
  | none => simp
  | some p =>
    obtain ⟨_, _, hok, hc1, hc2⟩ := pairOf_some h
    have := frAt_len p.2 p hok
    show (frAt p.2 p).length ≤ 1000000000
    omega
set_option maxRecDepth 100000 in
set_option maxHeartbeats 1000000 in
theorem specBreakValues_any (a b : ByteArray) (w : World) (ha : a.size ≤ 9223372036854775806) (hb : b.size ≤ 9223372036854775806) :
    Calls Try.prog 24 #[.agg #[.string a, .string b]] w (AnsFs (BreakValues_o a b) w) := by
  unfold BreakValues_o
  have hg := fun w => prGood_any a b w ha hb
  cases h : pairOf a b with
  | none =>
    rw [h] at hg
    clear h
    go_enter Try.func24, Try.ntmps24
    go_wp2_with fail
    have hb0 : Below w.heap.size w (w.alloc (.cells #[.string a, .string b] 34 (0, 0))) := nxAlloc (Below.refl _ _) _
    have hx0 := heap_alloc_at w (.cells #[.string a, .string b] 34 (0, 0))
    generalize (w.alloc (.cells #[.string a, .string b] 34 (0, 0))) = w0 at *
    obtain ⟨hx0a, hx0b, hx0c⟩ := two_facts hx0
    obtain ⟨hx0f, hx0g⟩ := two_frozen hx0
    refine (hg _).mono ?_; rintro e w1 ⟨rfl, hb1⟩
    have hbw1 := nx hb0 hb1
    replace hx0 := heap_keep hb1 hx0
    clear hx0a hx0b hx0c hx0f hx0g
    obtain ⟨hx0a, hx0b, hx0c⟩ := two_facts hx0
    obtain ⟨hx0f, hx0g⟩ := two_frozen hx0
    clear hb1 hb0
    go_wp2_with fail
    go_ret2
    exact ⟨_, OwnW.nil _ _ _ _, hbw1, rfl⟩
  | some p =>
    rw [h] at hg
    obtain ⟨rfl, rfl, hok, hc1, hc2⟩ := pairOf_some h
    have hM := fun w => mpBreaks_any p w hc1 hc2 hok
    have hl := slopes_len p hok
    have hok' : p.1.carets = p.2.carets := hok
    have hL : ∀ k ∈ brkI (slopes p) (slopes p).length, k < p.2.carets + 1 := fun k hk => by have := brkI_lt _ _ k hk; omega
    have hL9 : (brkI (slopes p) (slopes p).length).length ≤ 9 := by have := brkI_len (slopes p) (slopes p).length; omega
    have hA := fun b0 v w hc => mpAt_any p.2 b0 v (brkI (slopes p) (slopes p).length) w hc2 hc hL hL9
    clear h hL hL9 hl
    show Calls _ _ _ _ (AnsF2 (frAt p.2 p) true w)
    change ∀ b0 v w, _ → Calls _ _ _ _ (GivesF (frAt p.2 p) w) at hA
    generalize frAt p.2 p = fs at *
    generalize brkI (slopes p) (slopes p).length = L at *
    go_enter Try.func24, Try.ntmps24
    go_wp2_with fail
    have hb0 : Below w.heap.size w (w.alloc (.cells #[.string p.1.str, .string p.2.str] 34 (0, 0))) := nxAlloc (Below.refl _ _) _
    have hx0 := heap_alloc_at w (.cells #[.string p.1.str, .string p.2.str] 34 (0, 0))
    generalize (w.alloc (.cells #[.string p.1.str, .string p.2.str] 34 (0, 0))) = w0 at *
    obtain ⟨hx0a, hx0b, hx0c⟩ := two_facts hx0
    obtain ⟨hx0f, hx0g⟩ := two_frozen hx0
    refine (hg _).mono ?_; rintro e w1 ⟨rfl, hb1⟩
    have hbw1 := nx hb0 hb1
    replace hx0 := heap_keep hb1 hx0
    clear hx0a hx0b hx0c hx0f hx0g
    obtain ⟨hx0a, hx0b, hx0c⟩ := two_facts hx0
    obtain ⟨hx0f, hx0g⟩ := two_frozen hx0
    clear hb1 hb0
    go_wp2_with fail
    have hz := Below.refl w1.heap.size w1
    go_region_held3 (fun w' => w'.cell? ⟨w.heap.size, 0, none⟩ = some (.string p.1.str) ∧ w'.cell? ⟨w.heap.size, 1, none⟩ = some (.string p.2.str))
      (first
        | exact ⟨hx0a, hx0b⟩
        | exact K1
        | exact K2)
      (first
        | (go_at_call 52; refine (hM _).mono ?_; rintro e w3 ⟨v, own, hb3, rfl⟩; have hb3' := nx hz.drew hb3; have K1 := And.intro (keep_cell hb3' hx0a) (keep_cell hb3' hx0b); have hA2 := hA _ v w3 own.cells)
        | (go_at_call 51; refine hA2.mono ?_; rintro e w4 ⟨v4, own4, hb4, rfl⟩; have hb4' := nx hb3' hb4; have K2 := And.intro (keep_cell hb4' hx0a) (keep_cell hb4' hx0b)))
    go_wp2_with fail
    go_ret2
    exact ⟨_, own4.mono (nx hbw1 hb3').size, nx hbw1 hb4', rfl⟩

theorem call_target (args : Array Value) (w : World) : (callFunc 56 args).run Try.prog w = .ok (.enter 56 args) w := by kernel_rfl
set_option maxRecDepth 100000 in
set_option maxHeartbeats 1000000 in
theorem implBreakValues_any (a b : ByteArray) (w : World) (ha : a.size ≤ 9223372036854775806) (hb : b.size ≤ 9223372036854775806) :
    Calls Try.prog 25 #[.agg #[.string a, .string b]] w (AnsFs (BreakValues_o a b) w) := by
  have hB := fun w => implbreaksOf_any a b w ha hb
  have hx : ∃ ps ok, brkQ (pairOf a b) = ps ∧ (pairOf a b).isSome = ok ∧ BreakValues_o a b = (if ok then some (fracs (fun x => x.2.1) ps) else none) ∧ (ok = false → ps = []) ∧ ps.length ≤ 1000 ∧ ∀ x ∈ ps, x.2.1 ≤ 1048576 ∧ x.2.1 % 1024 = 0 := by
    refine ⟨_, _, rfl, rfl, ?_⟩
    unfold BreakValues_o
    cases h : pairOf a b with
    | none => exact ⟨rfl, fun _ => rfl, by simp [brkQ], by simp [brkQ]⟩
    | some p =>
      obtain ⟨_, _, hok, hc1, hc2⟩ := pairOf_some h
      refine ⟨?_, by simp, by have := brkP_len p hok; show (brkP (pcs p)).length ≤ 1000; omega, fun x hx => (brk_ok p hc1 hc2 hok x hx).2⟩
      show some (frAt p.2 p) = some (fracs (fun x => x.2.1) (brkP (pcs p)))
      rw [brk_target p hok]
  obtain ⟨ps, ok, h0, h1, h2, h3, h4, h5⟩ := hx
  rw [h0, h1] at hB
  rw [h2]
  have e : AnsFs (if ok then some (fracs (fun x => x.2.1) ps) else none) w = AnsF2 (fracs (fun x => x.2.1) ps) ok w := by
    cases ok with
    | false => obtain rfl := h3 rfl; rfl
    | true => rfl
  rw [e]
  have H5 := Lib.hid h5
  clear h0 h1 h2 h3 e h5
  go_enter Try.func25, Try.ntmps25
  go_wp2_with fail
  have hb0 : Below w.heap.size w (w.alloc (.cells #[.string a, .string b] 34 (0, 0))) := nxAlloc (Below.refl _ _) _
  have hx0 := heap_alloc_at w (.cells #[.string a, .string b] 34 (0, 0))
  generalize (w.alloc (.cells #[.string a, .string b] 34 (0, 0))) = w0 at *
  obtain ⟨hx0a, hx0b, hx0c⟩ := two_facts hx0
  obtain ⟨hx0f, hx0g⟩ := two_frozen hx0
  refine (hB _).mono ?_; rintro e w1 ⟨v, own, hb1, rfl⟩
  have hF := fractionsOf_target _ v ps w1 own.cells h4 H5.out
  have hbw1 := nx hb0 hb1
  clear own hx0 hx0a hx0b hx0c hx0f hx0g
  go_wp2_with fail
  refine hF.mono ?_; rintro e w2 ⟨v2, own2, hb2, rfl⟩
  go_wp2_with fail
  go_ret2
  exact ⟨_, own2.mono hbw1.size, nx hbw1 hb2, rfl⟩

set_option maxRecDepth 100000 in
set_option maxHeartbeats 1000000 in
theorem fnExactBreakValues_walk (a : ByteArray) (ha : a.size ≤ maxLen) (b : ByteArray) (hb : b.size ≤ maxLen) (w : World) :
    Calls Try.prog 6 #[.agg #[.string a, .string b]] w fun e w' => e = .returned (.bool true) ∧ Below w.heap.size w w' := by
  unfold maxLen at ha hb
  have hsz := fun w => szPair_any a b w (by omega) (by omega) 1048576 (by omega) (by omega)
  by_cases hz : (a.size : Int) + b.size ≤ 1048576
  rotate_left
  · simp only [if_neg hz] at hsz
    go_enter Try.func6, Try.ntmps6
    go_wp2_with fail
    have hb0 : Below w.heap.size w (w.alloc (.cells #[.string a, .string b] 30 (0, 0))) := nxAlloc (Below.refl _ _) _
    have hx := heap_alloc_at w (.cells #[.string a, .string b] 30 (0, 0))
    generalize w.alloc (.cells #[.string a, .string b] 30 (0, 0)) = w0 at *
    obtain ⟨ka, kb, kc⟩ := two_facts hx
    refine (hsz _).mono ?_; rintro e w1 ⟨rfl, hb1⟩
    go_wp2_with fail
    go_ret
    exact ⟨rfl, nx hb0 hb1⟩
  simp only [if_pos hz] at hsz
  have hS := fun w => specBreakValues_any a b w (by omega) (by omega)
  have hI := fun w => implBreakValues_any a b w (by omega) (by omega)
  have hn9 := BreakValues_len a b
  obtain ⟨o, ho⟩ : ∃ o, o = BreakValues_o a b := ⟨_, rfl⟩
  rw [← ho] at hn9
  simp only [← ho] at hS hI
  clear ho
  obtain ⟨xs, ok, hx9, hk9⟩ : ∃ xs ok, xs = o.getD [] ∧ ok = o.isSome := ⟨_, _, rfl, rfl⟩
  have hS' : ∀ w, Calls Try.prog 24 #[.agg #[.string a, .string b]] w (AnsF2 xs ok w) := by rw [hx9, hk9]; exact hS
  have hI' : ∀ w, Calls Try.prog 25 #[.agg #[.string a, .string b]] w (AnsF2 xs ok w) := by rw [hx9, hk9]; exact hI
  rw [← hx9] at hn9
  clear hS hI hx9 hk9 o
  go_enter Try.func6, Try.ntmps6
  go_wp2_with fail
  have hb0 : Below w.heap.size w (w.alloc (.cells #[.string a, .string b] 30 (0, 0))) := nxAlloc (Below.refl _ _) _
  have hx := heap_alloc_at w (.cells #[.string a, .string b] 30 (0, 0))
  generalize w.alloc (.cells #[.string a, .string b] 30 (0, 0)) = w0 at *
  obtain ⟨ka, kb, kc⟩ := two_facts hx
  refine (hsz _).mono ?_; rintro e w1 ⟨rfl, hb1⟩
  have hbw1 := nx hb0 hb1
  replace hx := heap_keep hb1 hx
  clear ka kb kc
  obtain ⟨ka, kb, kc⟩ := two_facts hx
  go_wp2_with fail
  refine (toPair_any a b _).mono ?_; rintro e w2 ⟨rfl, hb2⟩
  have hbw2 := nx hbw1 hb2
  replace hx := heap_keep hb2 hx
  clear ka kb kc
  obtain ⟨ka, kb, kc⟩ := two_facts hx
  go_wp2_with fail
  refine (hS' _).mono ?_; rintro e w3 ⟨v0, own0, hb3, rfl⟩
  have hbw3 := nx hbw2 hb3
  replace hx := heap_keep hb3 hx
  clear ka kb kc
  obtain ⟨ka, kb, kc⟩ := two_facts hx
  go_wp2_with fail
  refine (toPair_any a b _).mono ?_; rintro e w4 ⟨rfl, hb4⟩
  have hbw4 := nx hbw3 hb4
  replace hx := heap_keep hb4 hx
  clear ka kb kc
  obtain ⟨ka, kb, kc⟩ := two_facts hx
  replace own0 := own0.keep hb4
  go_wp2_with fail
  have own04 := own0
  have hx4 := hx
  refine (hI' _).mono ?_; rintro e w5 ⟨v1, own1, hb5, rfl⟩
  have hbw5 := nx hbw4 hb5
  replace hx := heap_keep hb5 hx
  clear ka kb kc
  obtain ⟨ka, kb, kc⟩ := two_facts hx
  replace own0 := own0.keep hb5
  go_wp2_with fail
  refine (eqFractionS_any _ _ v1 v0 xs _ own1.cells own0.cells).mono ?_; rintro e w6 ⟨rfl, hb6⟩
  have hbw6 := nx hbw5 hb6
  replace hx := heap_keep hb6 hx
  clear ka kb kc
  obtain ⟨ka, kb, kc⟩ := two_facts hx
  replace own0 := own0.keep hb6
  replace own1 := own1.keep hb6
  go_wp2_with fail
  refine (markFractionS_any w4.heap.size v1 xs 1 _ (by omega) (by omega) hn9 own1).mono ?_; rintro e w7 ⟨rfl, own7, hb7⟩
  have hb47 : Below w4.heap.size w4 w7 := (hb5.trans (hb6.mono hb5.size)).trans hb7
  have hbw7 := nx hbw4 hb47
  clear own0 own1
  have own0 := own04.keep hb47
  clear hx ka kb kc
  have hx := heap_keep hb47 hx4
  clear hx4
  obtain ⟨ka, kb, kc⟩ := two_facts hx
  clear own04 hb47 hb7
  go_wp2_with fail
  refine (heldFractionS_any w4.heap.size v1 xs.length 1 _ (by omega) (by omega) hn9 own7.cells).mono ?_; rintro e w8 ⟨rfl, hb8⟩
  have hbw8 := nx hbw7 hb8
  replace hx := heap_keep hb8 hx
  clear ka kb kc
  obtain ⟨ka, kb, kc⟩ := two_facts hx
  replace own0 := own0.keep hb8
  replace own7 := own7.keep hb8
  go_wp2_with fail
  refine (toPair_any a b _).mono ?_; rintro e w9 ⟨rfl, hb9⟩
  have hbw9 := nx hbw8 hb9
  replace hx := heap_keep hb9 hx
  clear ka kb kc
  obtain ⟨ka, kb, kc⟩ := two_facts hx
  replace own0 := own0.keep hb9
  replace own7 := own7.keep hb9
  go_wp2_with fail
  refine (hI' _).mono ?_; rintro e w10 ⟨v2, own2, hb10, rfl⟩
  have hbw10 := nx hbw9 hb10
  replace hx := heap_keep hb10 hx
  clear ka kb kc
  obtain ⟨ka, kb, kc⟩ := two_facts hx
  replace own0 := own0.keep hb10
  replace own7 := own7.keep hb10
  go_wp2_with fail
  refine (eqFractionS_any _ _ v2 v0 xs _ own2.cells own0.cells).mono ?_; rintro e w11 ⟨rfl, hb11⟩
  have hbw11 := nx hbw10 hb11
  replace hx := heap_keep hb11 hx
  clear ka kb kc
  obtain ⟨ka, kb, kc⟩ := two_facts hx
  replace own7 := own7.keep hb11
  go_wp2_with fail
  refine (heldFractionS_any w4.heap.size v1 xs.length 1 _ (by omega) (by omega) hn9 own7.cells).mono ?_; rintro e w12 ⟨rfl, hb12⟩
  have hbw12 := nx hbw11 hb12
  replace hx := heap_keep hb12 hx
  clear ka kb kc
  obtain ⟨ka, kb, kc⟩ := two_facts hx
  go_wp2_with fail
  go_ret
  exact ⟨rfl, hbw12⟩
end Go.Proofs.Ytdhjchibhlcchaa

/-! LFnExactBreakValues -/
namespace Go.Proofs.Ytdhjchibhlcchaa.fnExactBreakValues
open Go.ChangeShapes Go.WideShapes Go.ChangeAt Go.RowKit
open Go.ChangeMaps (open_string shut_string)
open Go.Joins (open_agg2 shut_agg2)
set_option linter.unusedVariables false

theorem cellsPair : Try.prog.cellsOf 30 = 2 := by kernel_rfl
theorem own : ownKnob Try.prog.godebug = none := by kernel_rfl
theorem laidOut : laidOutB Try.prog = true := by kernel_rfl

set_option maxRecDepth 100000 in
theorem lifted (os : Os) (started : os.Started) (H : Type) (enc : TypeId × Value → H) :
    ReturnsInHanded {} Try.checked os 6 .any (Rows.fnExactBreakValuesSpec.pre6 enc Try.prog Try.f6 Rows.fnExactBreakValuesRow.domain false) (Rows.fnExactBreakValuesSpec.post enc Try.prog Try.f6 false true false false) := by
  refine returnsInHanded_of_change (C := Try.checked) own started (by kernel_rfl) Try.func6
    (ChangeSpec.witness6 (enc := enc) (C := Try.checked) false ⟨#[], #[.agg #[.string ByteArray.empty, .string ByteArray.empty]], []⟩ 8 (by kernel_rfl) (by kernel_rfl) (by kernel_rfl) (by kernel_rfl)) ?_
  intro W base args ds gs before hval0 hW hcnd _
  have hval : ∀ (j : Nat) t v, Try.f6.params[j]? = some t → args[j]? = some v → Value.okWide Try.prog W .any base t v := hval0
  have hW' := hW
  obtain ⟨p, q, hA0, hV, rfl, hfz, hnd⟩ := hW
  have hA : DataW.TrodAll enc Try.prog W 0 (fun _ => true) true Try.f6.params.toList args.toList ds p := hA0
  rw [Try.params6] at hA hval
  obtain ⟨v0, vs0, d0, ds0, p0, q0, hargs, rfl, rfl, h0, r0⟩ := trodAll_cons hA
  obtain ⟨rfl, rfl, rfl⟩ := trodAll_nil r0
  obtain rfl : args = #[v0] := by cases args; simp_all
  obtain ⟨rfl, rfl⟩ := trodVars_none hV
  obtain ⟨c0a, c0b, y0a, y0b, m0, rfl, rfl, rfl, hy0a, hy0b⟩ := open_agg2 Try.underlying30 (by kernel_rfl) cellsPair (hval 0 30 v0 rfl rfl) h0
  obtain ⟨a0a, e0a, rfl, w0a⟩ := DataW.trod_string Try.underlying9 hy0a
  obtain ⟨a0b, e0b, rfl, w0b⟩ := DataW.trod_string Try.underlying9 hy0b
  simp at e0a e0b
  subst e0a e0b
  clear hA0 hval0
  simp only [List.append_nil] at hW'
  refine (fnExactBreakValues_walk a0a w0a a0b w0b W).mono fun e W' ⟨he, bel⟩ => ?_
  subst he
  exact ⟨_, rfl, _, _, _, [], _, [], hW', trodAll_mk1 (shut_bool Try.underlying4 _), (trodAll_cons_mk (shut_agg2 (y0 := (.lit (.string a0a.data.toList), [])) (y1 := (.lit (.string a0b.data.toList), [])) Try.underlying30 (by kernel_rfl) cellsPair (Go.Deep.shut_string_cell Try.underlying9 w0a) (Go.Deep.shut_string_cell Try.underlying9 w0b)) trodAll_mk0), rfl, bel.frame _, fun h => by cases h⟩

theorem over : Rows.fnExactBreakValuesRow.holds Try.pinned (OpenSpec.ofChange Rows.fnExactBreakValuesSpec) :=
  OpenClaim.holds_of_wide 6 Try.f6 rfl rfl rfl rfl rfl rfl rfl ⟨rfl, rfl, rfl, rfl, rfl⟩ rfl rfl rfl rfl rfl (by kernel_rfl) Try.func6 (by kernel_rfl)
    (of_decide_eq_true (by kernel_rfl)) (by unfold Func.isWrapper; first | (rw [if_pos (by decide +kernel)]; kernel_rfl) | (rw [if_neg (by decide +kernel)]; exact ⟨rfl, rfl⟩))
    (fun os started H enc _ => lifted os started H enc)

theorem proved : Rows.FnExactBreakValuesSaid := over
#print axioms proved
end Go.Proofs.Ytdhjchibhlcchaa.fnExactBreakValues
