/- FnExactSlopesBeside: for every input the law returns true and leaves its arguments as they were. No conditions. -/
import Derived.Test.YtgjdppegkoepfaaMgSlopesBeside1
import Derived.OwnWalk
import Derived.ProofKit
import Derived.OpenShut
import Derived.ShutString
import Derived.ChangeOld
import Derived.Below
import Derived.Lib.SmallJoins
import Derived.ChangeSame
/-! Ob1 -/
namespace Go.Proofs.Ytgjdppegkoepfaa
open Go.RowKit

/-- Two numbers and whether there are any. -/
def ans3 (o : Option (Int × Int)) : Value := .tuple #[.int .i64 (o.getD (0, 0)).1, .int .i64 (o.getD (0, 0)).2, .bool o.isSome]
/-- The slope of the piece on which a number is. -/
def slAt (ps : List (Nat × Nat × Int)) (s : Nat) : Int := (ps.getD (lastTo (ps.map fun x => x.1) s) (0, 0, 0)).2.2
set_option maxHeartbeats 2000000 in
theorem leftSlope_any (g cap : Nat) (ps : List (Nat × Nat × Int)) (n s : Nat) (w : World) (hn : ps.length = n) (hn0 : 0 < n) (hn9 : n ≤ 1000) (hg : g < w.heap.size) (hc1 : n ≤ cap) (hc2 : cap ≤ maxLen)
    (hcell : ∀ i, i < n * 3 → w.cell? ⟨g, i, none⟩ = some (.int .i64 ((flatP ps).getD i 0))) :
    Calls Try.prog 65 #[.int .i64 s, .slice (some ⟨g, 0, none⟩) n cap] w (Gives (.int .i64 (slAt ps s)) w) := by
  have hP := pieceAt_any g cap ps n s w hn hn0 hn9 hg hc1 hc2 hcell
  unfold slAt
  generalize ps.getD (lastTo (ps.map fun x => x.1) s) (0, 0, 0) = q at *
  generalize q.1 = x at *
  generalize q.2.1 = y at *
  generalize q.2.2 = z at *
  have hfld : ∀ w, (Instr.field 107 (.agg #[.int .i64 (x : Int), .int .i64 (y : Int), .int .i64 z]) 2).run Try.prog w = .ok (.int .i64 z) w := fun _ => by kernel_rfl
  clear hcell hn hn0 hn9 hg hc1 hc2
  go_enter Try.func65, Try.ntmps65
  go_wp2_with fail
  refine hP.mono ?_; rintro e w1 ⟨rfl, hb1⟩
  go_wp2_with fail
  go_ret
  exact ⟨rfl, hb1⟩
set_option maxHeartbeats 2000000 in
theorem rightSlope_any (g cap : Nat) (ps : List (Nat × Nat × Int)) (n s : Nat) (w : World) (hn : ps.length = n) (hn0 : 0 < n) (hn9 : n ≤ 1000) (hg : g < w.heap.size) (hc1 : n ≤ cap) (hc2 : cap ≤ maxLen)
    (hcell : ∀ i, i < n * 3 → w.cell? ⟨g, i, none⟩ = some (.int .i64 ((flatP ps).getD i 0))) (hs : 1 ≤ s) (hs2 : s ≤ 1048576) :
    Calls Try.prog 189 #[.int .i64 s, .slice (some ⟨g, 0, none⟩) n cap] w (Gives (.int .i64 (slAt ps (s - 1))) w) := by
  have hP := pieceAt_any g cap ps n (s - 1) w hn hn0 hn9 hg hc1 hc2 hcell
  have hw : IntKind.i64.wrap ((s : Int) - 1) = ((s - 1 : Nat) : Int) := by rw [IntKind.wrap_i64] <;> omega
  unfold slAt
  generalize ps.getD (lastTo (ps.map fun x => x.1) (s - 1)) (0, 0, 0) = q at *
  generalize q.1 = x at *
  generalize q.2.1 = y at *
  generalize q.2.2 = z at *
  have hfld : ∀ w, (Instr.field 107 (.agg #[.int .i64 (x : Int), .int .i64 (y : Int), .int .i64 z]) 2).run Try.prog w = .ok (.int .i64 z) w := fun _ => by kernel_rfl
  clear hcell hn hn0 hn9 hg hc1 hc2
  go_enter Try.func189, Try.ntmps189
  go_wp2_with fail
  refine hP.mono ?_; rintro e w1 ⟨rfl, hb1⟩
  go_wp2_with fail
  go_ret
  exact ⟨rfl, hb1⟩
/-- The pieces of a pair as a slice that the call has made. -/
theorem leafPieces_cells (p : Pr) (w : World) (h1 : p.1.carets ≤ 8) (h2 : p.2.carets ≤ 8) (he : p.1.carets = p.2.carets) :
    Calls Try.prog 62 #[.agg #[.string p.1.str, .string p.2.str]] w fun e w' => ∃ g cap : Nat, g < w'.heap.size ∧ p.1.carets + 1 ≤ cap ∧ cap ≤ maxLen ∧ (∀ i, i < (p.1.carets + 1) * 3 → w'.cell? ⟨g, i, none⟩ = some (.int .i64 ((flatP (pcs p)).getD i 0))) ∧ Below w.heap.size w w' ∧ e = .returned (.slice (some ⟨g, 0, none⟩) (p.1.carets + 1 : Nat) cap) := by
  have hpl := pcs_len p he
  refine (leafPieces_any p w h1 h2 he).mono ?_
  rintro e w' ⟨v, own, hb, rfl⟩
  rcases own.cells with ⟨_, h0⟩ | ⟨g, cap, rfl, _, hg, h1, h2, h3, _⟩
  · omega
  · rw [hpl] at h1 h3 ⊢
    exact ⟨g, cap, hg, h1, h2, h3, hb, rfl⟩
/-- One of both ends, as the program has it. -/
def endV : Bool → Nat → Value
  | true, s => .iface 63 (.int .i64 s)
  | false, s => .iface 64 (.int .i64 s)
def endF : Bool → FuncId
  | true => 65
  | false => 189
def endT : Bool → TypeId
  | true => 63
  | false => 64
def endS (ps : List (Nat × Nat × Int)) : Bool → Nat → Int
  | true, s => slAt ps s
  | false, s => slAt ps (s - 1)
theorem endV_eq (k : Bool) (s : Nat) : endV k s = .iface (endT k) (.int .i64 s) := by cases k <;> rfl
set_option maxRecDepth 100000 in
theorem nilAhead_end (k : Bool) (s : Int) : ∀ (m : Nat) (w : World), (nilAhead (m + 1) (endT k) (.int .i64 s) "loop.example/g01161/impl.slopeInside").run Try.prog w = .ok (some false) w := by
  cases k with
  | true => exact fun m w => by kernel_rfl
  | false => exact fun m w => by kernel_rfl
set_option maxRecDepth 100000 in
theorem method_end (k : Bool) (s : Int) : ∀ (m : Nat) (w : World), (method (m + 1) (endT k) (.int .i64 s) "loop.example/g01161/impl.slopeInside").run Try.prog w = .ok (endF k, .int .i64 s) w := by
  cases k with
  | true => exact fun m w => by kernel_rfl
  | false => exact fun m w => by kernel_rfl
set_option maxRecDepth 100000 in
theorem call_end (k : Bool) : ∀ (args : Array Value) (w : World), (callFunc (endF k) args).run Try.prog w = .ok (.enter (endF k) args) w := by
  cases k with
  | true => exact fun m w => by kernel_rfl
  | false => exact fun m w => by kernel_rfl
theorem endSlope_any (k : Bool) (g cap : Nat) (ps : List (Nat × Nat × Int)) (n s : Nat) (w : World) (hn : ps.length = n) (hn0 : 0 < n) (hn9 : n ≤ 1000) (hg : g < w.heap.size) (hc1 : n ≤ cap) (hc2 : cap ≤ maxLen)
    (hcell : ∀ i, i < n * 3 → w.cell? ⟨g, i, none⟩ = some (.int .i64 ((flatP ps).getD i 0))) (hs : k = false → 1 ≤ s) (hs2 : s ≤ 1048576) :
    Calls Try.prog (endF k) #[.int .i64 s, .slice (some ⟨g, 0, none⟩) n cap] w (Gives (.int .i64 (endS ps k s)) w) := by
  cases k with
  | true => exact leftSlope_any g cap ps n s w hn hn0 hn9 hg hc1 hc2 hcell
  | false => exact rightSlope_any g cap ps n s w hn hn0 hn9 hg hc1 hc2 hcell (hs rfl) hs2
/-- The slopes beside two ends. -/
def slopesO (a b : ByteArray) (j : Bool) (s : Nat) (k : Bool) (t : Nat) : Option (Int × Int) := (pairOf a b).map fun p => (endS (pcs p) j s, endS (pcs p) k t)
set_option maxRecDepth 100000 in
set_option maxHeartbeats 4000000 in
theorem slopesAt_any (a b : ByteArray) (j : Bool) (s : Nat) (k : Bool) (t : Nat) (w : World) (ha : a.size ≤ 9223372036854775806) (hb : b.size ≤ 9223372036854775806) (hs : j = false → 1 ≤ s) (hs2 : s ≤ 1048576) (ht : k = false → 1 ≤ t) (ht2 : t ≤ 1048576) :
    Calls Try.prog 48 #[.agg #[.string a, .string b], endV j s, endV k t] w (Gives (ans3 (slopesO a b j s k t)) w) := by
  unfold slopesO
  have hg := fun w => isPair_any a b w ha hb
  rw [endV_eq, endV_eq]
  cases h : pairOf a b with
  | none =>
    rw [h] at hg
    show Calls _ _ _ _ (Gives (ans3 none) w)
    clear h hs hs2 ht ht2
    go_enter Try.func48, Try.ntmps48
    go_wp2_with fail
    have hb0 : Below w.heap.size w (w.alloc (.cells #[.string a, .string b] 27 (0, 0))) := nxAlloc (Below.refl _ _) _
    have hx0 := heap_alloc_at w (.cells #[.string a, .string b] 27 (0, 0))
    generalize (w.alloc (.cells #[.string a, .string b] 27 (0, 0))) = w0 at *
    obtain ⟨hx0a, hx0b, hx0c⟩ := two_facts hx0
    obtain ⟨hx0f, hx0g⟩ := two_frozen hx0
    refine (hg _).mono ?_; rintro e w1 ⟨rfl, hb1⟩
    have hbw1 := nx hb0 hb1
    replace hx0 := heap_keep hb1 hx0
    clear hx0a hx0b hx0c hx0f hx0g
    obtain ⟨hx0a, hx0b, hx0c⟩ := two_facts hx0
    obtain ⟨hx0f, hx0g⟩ := two_frozen hx0
    clear hb1 hb0
    go_wp2_with fail
    go_ret3
    exact ⟨rfl, hbw1⟩
  | some p =>
    rw [h] at hg
    obtain ⟨rfl, rfl, hok, hc1, hc2⟩ := pairOf_some h
    clear h
    show Calls _ _ _ _ (Gives (ans3 (some (endS (pcs p) j s, endS (pcs p) k t))) w)
    have hM := fun w => leafPieces_cells p w hc1 hc2 hok
    have hpl := pcs_len p hok
    have E1 := fun g cap w h1 h2 h3 h4 => endSlope_any j g cap (pcs p) (p.1.carets + 1) s w hpl (by omega) (by omega) h1 h2 h3 h4 hs hs2
    have E2 := fun g cap w h1 h2 h3 h4 => endSlope_any k g cap (pcs p) (p.1.carets + 1) t w hpl (by omega) (by omega) h1 h2 h3 h4 ht ht2
    have nj := nilAhead_end j s
    have mj := method_end j s
    have cj := call_end j
    have nk := nilAhead_end k t
    have mk := method_end k t
    have ck := call_end k
    generalize endS (pcs p) j s = x at *
    generalize endS (pcs p) k t = y at *
    generalize pcs p = ps at *
    have hm0 : 0 < p.1.carets + 1 := by omega
    generalize p.1.carets + 1 = m at *
    clear hs hs2 ht ht2 hpl
    go_enter Try.func48, Try.ntmps48
    go_wp2_with fail
    have hb0 : Below w.heap.size w (w.alloc (.cells #[.string p.1.str, .string p.2.str] 27 (0, 0))) := nxAlloc (Below.refl _ _) _
    have hx0 := heap_alloc_at w (.cells #[.string p.1.str, .string p.2.str] 27 (0, 0))
    generalize (w.alloc (.cells #[.string p.1.str, .string p.2.str] 27 (0, 0))) = w0 at *
    obtain ⟨hx0a, hx0b, hx0c⟩ := two_facts hx0
    obtain ⟨hx0f, hx0g⟩ := two_frozen hx0
    refine (hg _).mono ?_; rintro e w1 ⟨rfl, hb1⟩
    have hbw1 := nx hb0 hb1
    replace hx0 := heap_keep hb1 hx0
    clear hx0a hx0b hx0c hx0f hx0g
    obtain ⟨hx0a, hx0b, hx0c⟩ := two_facts hx0
    obtain ⟨hx0f, hx0g⟩ := two_frozen hx0
    clear hb1 hb0
    go_wp2_with fail
    refine (hM _).mono ?_; rintro e w2 ⟨g, cap, hg2, m1, m2, hcl, hb2, rfl⟩
    have hbw2 := nx hbw1 hb2
    have HC := Lib.hid hcl
    clear hcl hM hg
    go_wp2_with fail
    refine (E1 g cap _ hg2 m1 m2 HC.out).mono ?_; rintro e w3 ⟨rfl, hb3⟩
    have hbw3 := nx hbw2 hb3
    go_wp2_with fail
    refine (E2 g cap _ (Nat.lt_of_lt_of_le hg2 hb3.size) m1 m2 (fun i hi => keep_cell hb3 (HC.out i hi))).mono ?_; rintro e w4 ⟨rfl, hb4⟩
    have hbw4 := nx hbw3 hb4
    go_wp2_with fail
    go_ret3
    exact ⟨rfl, hbw4⟩
end Go.Proofs.Ytgjdppegkoepfaa

/-! Ob2 -/
namespace Go.Proofs.Ytgjdppegkoepfaa
open Go.RowKit

/-- The slopes at both ends. -/
def endsO (a b : ByteArray) : Option (Int × Int) := (pairOf a b).map fun p => ((slopes p).getD 0 0, (slopes p).getD p.1.carets 0)
theorem slAt_slopes (p : Pr) (he : p.1.carets = p.2.carets) (s : Nat) : slAt (pcs p) s = (slopes p).getD (lastTo p.1.starts s) 0 := by
  unfold slAt
  rw [pcs_starts p he]
  have hl := lastTo_lt p.1.starts s (by rw [starts_length]; omega)
  rw [starts_length] at hl
  exact (slopes_get p (by rw [pcs_len p he]; exact hl)).symm
theorem ends_slopes (a b : ByteArray) : slopesO a b true 0 false 1048576 = endsO a b := by
  unfold slopesO endsO
  cases h : pairOf a b with
  | none => rfl
  | some p =>
    obtain ⟨rfl, rfl, hok, hc1, hc2⟩ := pairOf_some h
    show some (slAt (pcs p) 0, slAt (pcs p) (1048576 - 1)) = some _
    rw [slAt_slopes p hok, slAt_slopes p hok, pick_zero p.1 (by omega), pick_last p.1 (by omega)]
set_option maxHeartbeats 2000000 in
theorem implEndSlopes_any (a b : ByteArray) (w : World) (ha : a.size ≤ 9223372036854775806) (hb : b.size ≤ 9223372036854775806) :
    Calls Try.prog 16 #[.agg #[.string a, .string b]] w (Gives (ans3 (endsO a b)) w) := by
  have hS : ∀ w, Calls Try.prog 48 #[.agg #[.string a, .string b], .iface 63 (.int .i64 0), .iface 64 (.int .i64 1048576)] w (Gives (ans3 (endsO a b)) w) := by
    intro w
    have := slopesAt_any a b true 0 false 1048576 w ha hb (fun h => by simp at h) (by omega) (fun _ => by omega) (by omega)
    rw [ends_slopes] at this
    exact this
  unfold ans3 at *
  generalize (endsO a b).isSome = ok at *
  generalize ((endsO a b).getD (0, 0)).1 = x at *
  generalize ((endsO a b).getD (0, 0)).2 = y at *
  go_enter Try.func16, Try.ntmps16
  go_wp2_with fail
  have hb0 : Below w.heap.size w (w.alloc (.cells #[.string a, .string b] 27 (0, 0))) := nxAlloc (Below.refl _ _) _
  have hx0 := heap_alloc_at w (.cells #[.string a, .string b] 27 (0, 0))
  generalize (w.alloc (.cells #[.string a, .string b] 27 (0, 0))) = w0 at *
  obtain ⟨hx0a, hx0b, hx0c⟩ := two_facts hx0
  obtain ⟨hx0f, hx0g⟩ := two_frozen hx0
  refine (hS _).mono ?_; rintro e w1 ⟨rfl, hb1⟩
  have hbw1 := nx hb0 hb1
  replace hx0 := heap_keep hb1 hx0
  clear hx0a hx0b hx0c hx0f hx0g
  obtain ⟨hx0a, hx0b, hx0c⟩ := two_facts hx0
  obtain ⟨hx0f, hx0g⟩ := two_frozen hx0
  clear hb1 hb0
  go_wp2_with fail
  go_ret3
  exact ⟨rfl, hbw1⟩

set_option maxRecDepth 100000 in
set_option maxHeartbeats 2000000 in
theorem specEndSlopes_any (a b : ByteArray) (w : World) (ha : a.size ≤ 9223372036854775806) (hb : b.size ≤ 9223372036854775806) :
    Calls Try.prog 14 #[.agg #[.string a, .string b]] w (Gives (ans3 (endsO a b)) w) := by
  have hg := fun w => prGood_any a b w ha hb
  unfold endsO
  cases h : pairOf a b with
  | none =>
    rw [h] at hg
    show Calls _ _ _ _ (Gives (ans3 none) w)
    clear h
    go_enter Try.func14, Try.ntmps14
    go_wp2_with fail
    have hb0 : Below w.heap.size w (w.alloc (.cells #[.string a, .string b] 27 (0, 0))) := nxAlloc (Below.refl _ _) _
    have hx0 := heap_alloc_at w (.cells #[.string a, .string b] 27 (0, 0))
    generalize (w.alloc (.cells #[.string a, .string b] 27 (0, 0))) = w0 at *
    obtain ⟨hx0a, hx0b, hx0c⟩ := two_facts hx0
    obtain ⟨hx0f, hx0g⟩ := two_frozen hx0
    refine (hg _).mono ?_; rintro e w1 ⟨rfl, hb1⟩
    have hbw1 := nx hb0 hb1
    replace hx0 := heap_keep hb1 hx0
    clear hx0a hx0b hx0c hx0f hx0g
    obtain ⟨hx0a, hx0b, hx0c⟩ := two_facts hx0
    obtain ⟨hx0f, hx0g⟩ := two_frozen hx0
    clear hb1 hb0
    go_wp2_with fail
    go_ret3
    exact ⟨rfl, hbw1⟩
  | some p =>
    rw [h] at hg
    obtain ⟨rfl, rfl, hok, hc1, hc2⟩ := pairOf_some h
    clear h
    show Calls _ _ _ _ (Gives (ans3 (some ((slopes p).getD 0 0, (slopes p).getD p.1.carets 0))) w)
    have hsl : (slopes p).length = p.1.carets + 1 := by
      have l1 := addrs_length p.1 ⟨#[]⟩
      have l2 := addrs_length p.2 ⟨#[]⟩
      have hok' : p.1.carets = p.2.carets := hok
      show (slopesL _ _).length = _
      rw [slopesL_length _ _ (by omega)]; omega
    have hM := fun w => mpSlopes_any p w hc1 hc2 hok
    generalize slopes p = ps at *
    have hM' : ∀ w, Calls Try.prog 47 #[.agg #[.string p.1.str, .string p.2.str]] w fun e w' => ∃ g cap : Nat, w'.cell? ⟨g, 0, none⟩ = some (.int .i64 (ps.getD 0 0)) ∧ w'.cell? ⟨g, p.1.carets, none⟩ = some (.int .i64 (ps.getD p.1.carets 0)) ∧ p.1.carets + 1 ≤ cap ∧ cap ≤ maxLen ∧ Below w.heap.size w w' ∧ e = .returned (.slice (some ⟨g, 0, none⟩) (p.1.carets + 1 : Nat) cap) := by
      intro w
      refine (hM w).mono ?_
      rintro e w' ⟨v, own, hb, rfl⟩
      rcases own.cells with ⟨_, h0⟩ | ⟨g, cap, rfl, _, hg, h1, h2, h3, _⟩
      · rw [h0] at hsl; simp at hsl
      · rw [hsl] at h1 ⊢
        exact ⟨g, cap, h3 0 (by omega), h3 p.1.carets (by omega), h1, h2, hb, rfl⟩
    generalize ps.getD 0 0 = x at *
    generalize ps.getD p.1.carets 0 = y at *
    obtain ⟨c, hcc⟩ : ∃ c, c = p.1.carets := ⟨_, rfl⟩
    rw [← hcc] at hM'
    obtain ⟨m, hm⟩ : ∃ m, m = c + 1 := ⟨_, rfl⟩
    rw [← hm] at hM'
    have hw : IntKind.i64.wrap ((m : Int) - 1) = (c : Int) := by rw [IntKind.wrap_i64] <;> omega
    have hlt : (c : Int) < (m : Int) := by omega
    have hm0 : (0 : Int) < (m : Int) := by omega
    clear hM hsl hcc hm hc1 hc2 hok
    go_enter Try.func14, Try.ntmps14
    go_wp2_with fail
    have hb0 : Below w.heap.size w (w.alloc (.cells #[.string p.1.str, .string p.2.str] 27 (0, 0))) := nxAlloc (Below.refl _ _) _
    have hx0 := heap_alloc_at w (.cells #[.string p.1.str, .string p.2.str] 27 (0, 0))
    generalize (w.alloc (.cells #[.string p.1.str, .string p.2.str] 27 (0, 0))) = w0 at *
    obtain ⟨hx0a, hx0b, hx0c⟩ := two_facts hx0
    obtain ⟨hx0f, hx0g⟩ := two_frozen hx0
    refine (hg _).mono ?_; rintro e w1 ⟨rfl, hb1⟩
    have hbw1 := nx hb0 hb1
    replace hx0 := heap_keep hb1 hx0
    clear hx0a hx0b hx0c hx0f hx0g
    obtain ⟨hx0a, hx0b, hx0c⟩ := two_facts hx0
    obtain ⟨hx0f, hx0g⟩ := two_frozen hx0
    clear hb1 hb0
    go_wp2_with fail
    refine (hM' _).mono ?_; rintro e w2 ⟨g, cap, k1, k2, m1, m2, hb2, rfl⟩
    have hbw2 := nx hbw1 hb2
    go_wp2_with fail
    go_quiet (fail)
    go_wp2_with fail
    go_ret3
    exact ⟨rfl, drewB hbw2 _⟩
end Go.Proofs.Ytgjdppegkoepfaa

/-! Br1 -/
namespace Go.Proofs.Ytgjdppegkoepfaa
open Go.RowKit

/-- The places where a list changes. -/
def brkI (sl : List Int) (n : Nat) : List Nat := (List.range n).filter fun k => decide (0 < k) && decide (sl.getD k 0 ≠ sl.getD (k - 1) 0)
theorem brkI_one (sl : List Int) : brkI sl 1 = [] := by simp [brkI, List.range_succ]
theorem brkI_succ (sl : List Int) (j : Nat) : brkI sl (j + 1 + 1) = brkI sl (j + 1) ++ (if sl.getD (j + 1) 0 = sl.getD j 0 then [] else [j + 1]) := by
  unfold brkI
  rw [List.range_succ, List.filter_append]
  congr 1
  by_cases h : sl.getD (j + 1) 0 = sl.getD j 0
  · rw [if_pos h, List.filter_cons_of_neg (by simp only [Nat.add_sub_cancel]; rw [h]; simp)]; rfl
  · rw [if_neg h, List.filter_cons_of_pos (by simp only [Nat.add_sub_cancel]; simp only [Bool.and_eq_true, decide_eq_true_eq]; exact ⟨by omega, h⟩)]; rfl
theorem brkI_lt (sl : List Int) (n : Nat) : ∀ k ∈ brkI sl n, k < n := by
  intro k hk
  unfold brkI at hk
  rw [List.mem_filter, List.mem_range] at hk
  exact hk.1
theorem brkI_len (sl : List Int) (n : Nat) : (brkI sl n).length ≤ n := by
  have := List.length_filter_le (fun k => decide (0 < k) && decide (sl.getD k 0 ≠ sl.getD (k - 1) 0)) (List.range n)
  rw [List.length_range] at this
  exact this
def toI (l : List Nat) : List Int := l.map fun (k : Nat) => (k : Int)

set_option maxRecDepth 100000 in
set_option maxHeartbeats 4000000 in
theorem mpBreaks_any (p : Pr) (w : World) (h1 : p.1.carets ≤ 8) (h2 : p.2.carets ≤ 8) (he : p.1.carets = p.2.carets) :
    Calls Try.prog 109 #[.agg #[.string p.1.str, .string p.2.str]] w (GivesInts (toI (brkI (slopes p) (slopes p).length)) w) := by
  obtain ⟨i0, hi, hz0, hz1, hz2⟩ := info_parts info_int
  have hM := fun w => mpSlopes_any p w h1 h2 he
  have l1 := addrs_length p.1 ⟨#[]⟩
  have l2 := addrs_length p.2 ⟨#[]⟩
  have pl : (slopes p).length = p.1.carets + 1 := by
    have := slopesL_length (p.1.addrs ⟨#[]⟩) (p.2.addrs ⟨#[]⟩) (by omega)
    show (slopesL (p.1.addrs ⟨#[]⟩) (p.2.addrs ⟨#[]⟩)).length = _
    omega
  generalize slopes p = ps at *
  obtain ⟨m, hm⟩ : ∃ m, ps.length = m := ⟨_, rfl⟩
  have hm9 : m ≤ 9 := by omega
  have hm0 : 0 < m := by omega
  rw [hm]
  clear l1 l2 pl
  go_enter Try.func109, Try.ntmps109
  go_wp2_with fail
  have hb0 : Below w.heap.size w (w.alloc (.cells #[.string p.1.str, .string p.2.str] 27 (0, 0))) := nxAlloc (Below.refl _ _) _
  have hx0 := heap_alloc_at w (.cells #[.string p.1.str, .string p.2.str] 27 (0, 0))
  generalize (w.alloc (.cells #[.string p.1.str, .string p.2.str] 27 (0, 0))) = w0 at *
  obtain ⟨hx0a, hx0b, hx0c⟩ := two_facts hx0
  obtain ⟨hx0f, hx0g⟩ := two_frozen hx0
  refine (hM _).mono ?_; rintro e w2 ⟨v, own, hb2, rfl⟩
  have hbw2 := nx hb0 hb2
  clear hx0 hx0a hx0b hx0c hx0f hx0g hM hb2 hb0
  rcases own.cells with ⟨_, h0⟩ | ⟨g, cap, rfl, _, hg1, hc3, hc4, hcell, _⟩
  · rw [h0] at hm; simp at hm; omega
  · unfold maxLen at hc4
    rw [hm] at hc3 hcell ⊢
    have HC := Lib.hid hcell
    clear hcell own hm
    go_wp2_with fail
    go_loopw [3, 5] (fun v i wr => ∃ j : Nat, j + 1 ≤ m ∧ i = .int .i64 (j + 1 : Nat) ∧ OwnI w2.heap.size wr v (toI (brkI ps (j + 1))) ∧ Below w2.heap.size w2 wr) (fun _ i _ => m - (intOf i).toNat)
    case atStart => exact ⟨0, by omega, rfl, by rw [brkI_one]; exact OwnI.nil _ _, Below.refl _ _⟩
    case round =>
      obtain ⟨j, hj, rfl, hown, hbw⟩ := hrel
      by_cases hlt : j + 1 < m
      · have hlt' : (j : Int) + 1 < (m : Int) := by omega
        have hlt2 : (j : Int) < (m : Int) := by omega
        have c1 := (hbw.cell (p := ⟨g, j + 1, none⟩) hg1).trans (HC.out (j + 1) (by omega))
        have c2 := (hbw.cell (p := ⟨g, j, none⟩) hg1).trans (HC.out j (by omega))
        have hnext := brkI_succ ps j
        have hlen := brkI_len ps (j + 1)
        generalize ps.getD (j + 1) 0 = x at *
        generalize ps.getD j 0 = y at *
        by_cases hxy : x = y
        · have hxy' : (x != y) = false := by simp [hxy]
          rw [if_pos hxy, List.append_nil] at hnext
          have HN := Lib.hid hnext
          clear hnext hxy hlen
          go_wp2_with fail
          go_quiet (fail)
          go_wp2_with fail
          go_roundw
          case rel => exact ⟨j + 1, by omega, by go_num, by rw [HN.out]; exact hown.keep (drewB (Below.refl _ _) _), drewB hbw _⟩
          case measure => simp [intOf]; omega
        · have hxy' : (x != y) = true := by simp [hxy]
          rw [if_neg hxy] at hnext
          obtain ⟨qs, hqs⟩ : ∃ qs, qs = toI (brkI ps (j + 1)) := ⟨_, rfl⟩
          have hnext2 : toI (brkI ps (j + 1 + 1)) = qs ++ [((j + 1 : Nat) : Int)] := by rw [hnext, hqs]; simp [toI]
          have hq9 : qs.length ≤ 9 := by rw [hqs]; simp [toI]; omega
          rw [← hqs] at hown
          have HN := Lib.hid hnext2
          clear hnext hxy hlen hqs hnext2
          go_wp2_with fail
          go_quiet (fail)
          have hownd := hown.keep (drewB (Below.refl wr.heap.size wr) nq)
          have hbwd := drewB hbw nq
          have hszd := hbwd.size
          generalize wr.drewN nq = wd at *
          clear hown hbw
          go_wp2_with (at_builtin; refine wpList_append_own _ rfl _ _ 37 rfl w2.heap.size 3 i0 (.int .i64 0) 1 8 Try.underlying37 hi hz0 hz1 hz2 rfl (by decide) _ _ _ rfl (hownd.alloc _) ⟨wd.heap.size, 0, none⟩ 1 1 [.int .i64 ((j + 1 : Nat) : Int)] rfl rfl (new1 _ _ _) (one1 _) (by unfold maxLen; omega) (by omega) (size_al hbwd _) ?_; intro v' w3 hown' hgrow hnn)
          have hbw' := below_app hbwd hownd (Nat.le_refl _) hgrow
          have hown1 := OwnI.snoc hown'
          clear hownd hown' hgrow hbwd hnn
          go_wp2_with fail
          go_roundw
          case rel => exact ⟨j + 1, by omega, by go_num, by rw [HN.out]; exact hown1, hbw'⟩
          case measure => simp [intOf]; omega
      · obtain rfl : m = j + 1 := by omega
        go_wp2_with fail
        go_ret
        exact ⟨_, hown.mono hbw2.size, nx hbw2 hbw, rfl⟩

set_option maxRecDepth 100000 in
set_option maxHeartbeats 4000000 in
theorem mpAt_any (t : Tr) (b0 : Nat) (v : Value) (L : List Nat) (w : World) (h : t.carets ≤ 8) (hc : CellsI b0 w v (toI L)) (hL : ∀ k ∈ L, k < t.carets + 1) (hn9 : L.length ≤ 9) :
    Calls Try.prog 110 #[.string t.str, v] w (GivesF (L.map fun k => (frs (t.addrs ⟨#[]⟩)).getD k (0, 0)) w) := by
  obtain ⟨i0, hi, hz0, hz1, hz2⟩ := info_parts info_frac
  have hM := fun w => mpStarts_any t w h
  have hl := addrs_length t ⟨#[]⟩
  have hfl : (frs (t.addrs ⟨#[]⟩)).length = t.carets + 1 := by simp [frs, hl]
  generalize frs (t.addrs ⟨#[]⟩) = fs at *
  obtain ⟨m, hm⟩ : ∃ m, t.carets + 1 = m := ⟨_, rfl⟩
  have hm0 : 0 < m := by omega
  have hm9 : m ≤ 9 := by omega
  rw [hm] at hL hfl
  have HL := Lib.hid hL
  clear hl hm hL
  have hcl : ∀ w', Below w.heap.size w w' → CellsI b0 w' v (toI L) := by
    intro w' hb
    rcases hc with ⟨h1, h2⟩ | ⟨g, cap, h1, h2, h3, h4, h5, h6, h7⟩
    · exact .inl ⟨h1, h2⟩
    · exact .inr ⟨g, cap, h1, h2, Nat.lt_of_lt_of_le h3 hb.size, h4, h5, fun i hi => (hb.cell (p := ⟨g, i, none⟩) h3).trans (h6 i hi), fun i => (hb.frozen (p := ⟨g, i, none⟩) h3).trans (h7 i)⟩
  have HCL := Lib.hid hcl
  clear hcl
  have hlI : (toI L).length = L.length := by simp [toI]
  rcases hc with ⟨rfl, h2⟩ | ⟨gl, capl, rfl, hb1, hgl, hcl1, hcl2, hxl, _⟩
  · have h0 : L = [] := by cases L with
      | nil => rfl
      | cons a l => simp [toI] at h2
    subst h0
    clear h2 hlI HCL
    go_enter Try.func110, Try.ntmps110
    go_wp2_with fail
    refine (hM _).mono ?_; rintro e w2 ⟨vs, own, hb2, rfl⟩
    clear own
    go_wp2_with fail
    go_loopw [5, 13] (fun v i wr => v = .slice none 0 0 ∧ i = .int .i64 0 ∧ wr = w2) (fun _ _ _ => 0)
    case atStart => exact ⟨rfl, rfl, rfl⟩
    case round =>
      obtain ⟨rfl, rfl, rfl⟩ := hrel
      go_wp2_with fail
      go_ret
      exact ⟨_, OwnW.nil _ _ _ _, hb2, rfl⟩
  · have HXL := Lib.hid hxl
    unfold maxLen at hcl2
    rw [hlI] at hcl1 HXL ⊢
    clear hxl HCL hlI
    go_enter Try.func110, Try.ntmps110
    go_wp2_with fail
    refine (hM _).mono ?_; rintro e w2 ⟨vs, own, hb2, rfl⟩
    rcases own.cells with ⟨_, h0⟩ | ⟨g, cap, rfl, _, hg1, hc3, hc4, hcell, _⟩
    · rw [h0] at hfl; omega
    · unfold maxLen at hc4
      rw [hfl] at hc3 hcell ⊢
      have HC := Lib.hid hcell
      have hgl2 := Nat.lt_of_lt_of_le hgl hb2.size
      clear hcell own hM
      go_wp2_with fail
      go_loopw [5, 13] (fun v i wr => ∃ j : Nat, j ≤ L.length ∧ i = .int .i64 j ∧ OwnF w2.heap.size wr v ((L.take j).map fun k => fs.getD k (0, 0)) ∧ Below w2.heap.size w2 wr) (fun _ i _ => L.length - (intOf i).toNat)
      case atStart => exact ⟨0, Nat.zero_le _, rfl, OwnW.nil _ _ _ _, Below.refl _ _⟩
      case round =>
        obtain ⟨j, hj, rfl, hown, hbw⟩ := hrel
        by_cases hlt : j < L.length
        · have hlt' : (j : Int) < (L.length : Int) := by omega
          have e1 : (toI L).getD j 0 = ((L.getD j 0 : Nat) : Int) := by simp [toI, hlt]
          have c1 := (hbw.cell (p := ⟨gl, j, none⟩) hgl2).trans ((hb2.cell (p := ⟨gl, j, none⟩) hgl).trans (HXL.out j hlt))
          rw [e1] at c1
          have hkm := HL.out (L.getD j 0) (by rw [List.getD_eq_getElem?_getD, List.getElem?_eq_getElem hlt]; exact List.getElem_mem hlt)
          have hnext : (L.take (j + 1)).map (fun k => fs.getD k (0, 0)) = (L.take j).map (fun k => fs.getD k (0, 0)) ++ [((fs.getD (L.getD j 0) (0, 0)).1, (fs.getD (L.getD j 0) (0, 0)).2)] := by
            rw [List.take_succ_eq_append_getElem hlt, List.map_append]; simp [hlt]
          have hlen : ((L.take j).map (fun k => fs.getD k (0, 0))).length = j := by simp; omega
          generalize (L.take j).map (fun k => fs.getD k (0, 0)) = qs at hown hlen hnext
          generalize L.getD j 0 = k at *
          have fg := flatF_get fs k (by omega)
          have c2 := (hbw.cell (p := ⟨g, k * 2, none⟩) hg1).trans (HC.out (k * 2) (by omega))
          have c3 := (hbw.cell (p := ⟨g, k * 2 + 1, none⟩) hg1).trans (HC.out (k * 2 + 1) (by omega))
          rw [fg.1] at c2
          rw [fg.2] at c3
          generalize (fs.getD k (0, 0)).1 = x at *
          generalize (fs.getD k (0, 0)).2 = y at *
          have hkm' : (k : Int) < (m : Int) := by omega
          have HN := Lib.hid hnext
          have hq9 : qs.length ≤ 9 := by omega
          have hs3 := hbw.size
          clear hnext hlen fg e1 hfl
          go_wp2_with (at_builtin; refine wpList_append_own _ rfl _ _ 48 rfl w2.heap.size 45 i0 (.agg #[.int .i64 0, .int .i64 0]) 2 16 Try.underlying48 hi hz0 hz1 hz2 rfl (by decide) _ _ _ rfl (hown.alloc _) ⟨wr.heap.size, 0, none⟩ 1 1 [.int .i64 x, .int .i64 y] rfl rfl (newsK _ #[.int .i64 x, .int .i64 y] _) (two1 _ _) (by unfold maxLen; omega) (by omega) (by simp; omega) ?_; intro v' w9 hown' hgrow hnn)
          have hbw9 := (nxAlloc hbw _).grown hgrow (by simp; omega) (fun k hk => ownsRow_ge hown k hk)
          have hown1 := OwnF.snoc hown'
          clear hown hown' hgrow hbw hnn
          go_wp2_with fail
          go_roundw
          case rel => exact ⟨j + 1, by omega, by go_num, by rw [HN.out]; exact hown1, hbw9⟩
          case measure => simp [intOf]; omega
        · obtain rfl : j = L.length := by omega
          rw [List.take_of_length_le (Nat.le_refl _)] at hown
          go_wp2_with fail
          go_ret
          exact ⟨_, hown.mono hb2.size, nx hb2 hbw, rfl⟩
end Go.Proofs.Ytgjdppegkoepfaa

/-! Br2 -/
namespace Go.Proofs.Ytgjdppegkoepfaa
open Go.RowKit

/-- The pieces that begin at a break. -/
def brkP (ps : List (Nat × Nat × Int)) : List (Nat × Nat × Int) := (brkI (ps.map fun x => x.2.2) ps.length).map fun k => ps.getD k (0, 0, 0)

/-- Fractions of steps. -/
def fracs (sel : Nat × Nat × Int → Nat) (ps : List (Nat × Nat × Int)) : List (Nat × Nat) := ps.map fun x => frOf (sel x)

theorem start_any' (x y z : Int) (w : World) : Calls Try.prog 126 #[.agg #[.int .i64 x, .int .i64 y, .int .i64 z]] w (Gives (.int .i64 x) w) := by
  go_enter Try.func126, Try.ntmps126
  go_wp2_with fail
  go_ret
  exact ⟨rfl, nxAlloc (Below.refl _ _) _⟩
end Go.Proofs.Ytgjdppegkoepfaa

/-! Br3 -/
namespace Go.Proofs.Ytgjdppegkoepfaa
open Go.RowKit

/-- Where the leaves of a tree begin at which the slopes of a pair change. -/
def frAt (t : Tr) (p : Pr) : List (Nat × Nat) := (brkI (slopes p) (slopes p).length).map fun k => (frs (t.addrs ⟨#[]⟩)).getD k (0, 0)
theorem slopes_len (p : Pr) (he : p.1.carets = p.2.carets) : (slopes p).length = p.1.carets + 1 := by
  have l1 := addrs_length p.1 ⟨#[]⟩
  have l2 := addrs_length p.2 ⟨#[]⟩
  have := slopesL_length (p.1.addrs ⟨#[]⟩) (p.2.addrs ⟨#[]⟩) (by omega)
  show (slopesL (p.1.addrs ⟨#[]⟩) (p.2.addrs ⟨#[]⟩)).length = _
  omega
theorem frAt_len (t : Tr) (p : Pr) (he : p.1.carets = p.2.carets) : (frAt t p).length ≤ p.1.carets + 1 := by
  have := slopes_len p he
  have h := brkI_len (slopes p) (slopes p).length
  unfold frAt
  rw [List.length_map]
  omega
theorem pcsB_len (p : Pr) : (pcs p).length = (slopes p).length := by rw [← slopes_pcs, List.length_map]
theorem pcs_get (p : Pr) (he : p.1.carets = p.2.carets) {k : Nat} (hk : k < (slopes p).length) : ((pcs p).getD k (0, 0, 0)).1 = stA ((p.1.addrs ⟨#[]⟩).getD k ⟨#[]⟩) ∧ ((pcs p).getD k (0, 0, 0)).2.1 = stA ((p.2.addrs ⟨#[]⟩).getD k ⟨#[]⟩) := by
  have l1 := addrs_length p.1 ⟨#[]⟩
  have l2 := addrs_length p.2 ⟨#[]⟩
  have hl := slopes_len p he
  have := pcsL_get (p.1.addrs ⟨#[]⟩) (p.2.addrs ⟨#[]⟩) (by omega) k (by omega)
  unfold pcs
  rw [this]
  exact ⟨rfl, rfl⟩
theorem frs_get (l : List ByteArray) (k : Nat) (h : k < l.length) : (frs l).getD k (0, 0) = frOf (stA (l.getD k ⟨#[]⟩)) := by
  simp [frs, h]
theorem brk_start (p : Pr) (he : p.1.carets = p.2.carets) : fracs (fun x => x.1) (brkP (pcs p)) = frAt p.1 p := by
  unfold fracs brkP frAt
  rw [slopes_pcs, List.map_map, pcsB_len]
  apply List.map_congr_left
  intro k hk
  have hk' := brkI_lt _ _ k hk
  have l1 := addrs_length p.1 ⟨#[]⟩
  have hl := slopes_len p he
  show frOf ((pcs p).getD k (0, 0, 0)).1 = _
  rw [(pcs_get p he hk').1, frs_get _ _ (by omega)]
theorem brk_target (p : Pr) (he : p.1.carets = p.2.carets) : fracs (fun x => x.2.1) (brkP (pcs p)) = frAt p.2 p := by
  unfold fracs brkP frAt
  rw [slopes_pcs, List.map_map, pcsB_len]
  apply List.map_congr_left
  intro k hk
  have hk' := brkI_lt _ _ k hk
  have l1 := addrs_length p.2 ⟨#[]⟩
  have hl := slopes_len p he
  show frOf ((pcs p).getD k (0, 0, 0)).2.1 = _
  rw [(pcs_get p he hk').2, frs_get _ _ (by omega)]
theorem stA_ok {a : ByteArray} (h : okAd a) : stA a ≤ 1048576 ∧ stA a % 1024 = 0 :=
  ⟨Nat.le_of_lt (stA_lt (by have := h.1; omega) h.2), stA_thousand h.1⟩
theorem brk_ok (p : Pr) (h1 : p.1.carets ≤ 8) (h2 : p.2.carets ≤ 8) (he : p.1.carets = p.2.carets) : ∀ x ∈ brkP (pcs p), (x.1 ≤ 1048576 ∧ x.1 % 1024 = 0) ∧ (x.2.1 ≤ 1048576 ∧ x.2.1 % 1024 = 0) := by
  intro x hx
  unfold brkP at hx
  rw [List.mem_map] at hx
  obtain ⟨k, hk, rfl⟩ := hx
  have hk' := brkI_lt _ _ k hk
  rw [pcsB_len] at hk'
  have l1 := addrs_length p.1 ⟨#[]⟩
  have l2 := addrs_length p.2 ⟨#[]⟩
  have hl := slopes_len p he
  rw [(pcs_get p he hk').1, (pcs_get p he hk').2]
  have m1 : (p.1.addrs ⟨#[]⟩).getD k ⟨#[]⟩ ∈ p.1.addrs ⟨#[]⟩ := by simp [show k < (p.1.addrs ⟨#[]⟩).length by omega]
  have m2 : (p.2.addrs ⟨#[]⟩).getD k ⟨#[]⟩ ∈ p.2.addrs ⟨#[]⟩ := by simp [show k < (p.2.addrs ⟨#[]⟩).length by omega]
  exact ⟨stA_ok (addrs_ok p.1 h1 _ m1), stA_ok (addrs_ok p.2 h2 _ m2)⟩
theorem brkP_len (p : Pr) (he : p.1.carets = p.2.carets) : (brkP (pcs p)).length ≤ p.1.carets + 1 := by
  unfold brkP
  rw [List.length_map, pcsB_len, slopes_pcs]
  have := brkI_len (slopes p) (slopes p).length
  have := slopes_len p he
  omega
/-- A slice of pieces that the call has made, and a bool. -/
def AnsP2 (xs : List (Nat × Nat × Int)) (ok : Bool) (w : World) (e : Ending) (w' : World) : Prop :=
  ∃ v, OwnP w.heap.size w' v xs ∧ Below w.heap.size w w' ∧ e = .returned (.tuple #[v, .bool ok])
def brkQ (o : Option Pr) : List (Nat × Nat × Int) := match o with | some p => brkP (pcs p) | none => []
end Go.Proofs.Ytgjdppegkoepfaa

/-! WSlopesBeside -/
namespace Go.Proofs.Ytgjdppegkoepfaa
open Go.RowKit

/-- Is there a fraction between 0 and 1? -/
def isIn (n d : Int) : Bool := isFr n d && decide (1 < d)
set_option maxHeartbeats 2000000 in
theorem isInside_any (n d : Int) (w : World) : Calls Try.prog 69 #[.agg #[.int .i64 n, .int .i64 d]] w (Gives (.bool (isIn n d)) w) := by
  have hk := fun w => isFraction_any n d w
  unfold isIn
  cases k : isFr n d with
  | false =>
    rw [k] at hk
    rw [Bool.false_and]
    clear k
    go_enter Try.func69, Try.ntmps69
    go_wp2_with fail
    have hb0 : Below w.heap.size w (w.alloc (.cells #[.int .i64 n, .int .i64 d] 45 (0, 0))) := nxAlloc (Below.refl _ _) _
    have hx0 := heap_alloc_at w (.cells #[.int .i64 n, .int .i64 d] 45 (0, 0))
    generalize (w.alloc (.cells #[.int .i64 n, .int .i64 d] 45 (0, 0))) = w0 at *
    obtain ⟨hx0a, hx0b, hx0c⟩ := two_facts hx0
    obtain ⟨hx0f, hx0g⟩ := two_frozen hx0
    refine (hk _).mono ?_; rintro e w1 ⟨rfl, hb1⟩
    have hbw1 := nx hb0 hb1
    replace hx0 := heap_keep hb1 hx0
    clear hx0a hx0b hx0c hx0f hx0g
    obtain ⟨hx0a, hx0b, hx0c⟩ := two_facts hx0
    obtain ⟨hx0f, hx0g⟩ := two_frozen hx0
    clear hb1 hb0
    go_wp2_with fail
    go_ret
    exact ⟨rfl, hbw1⟩
  | true =>
    rw [k] at hk
    rw [Bool.true_and]
    clear k
    go_enter Try.func69, Try.ntmps69
    go_wp2_with fail
    have hb0 : Below w.heap.size w (w.alloc (.cells #[.int .i64 n, .int .i64 d] 45 (0, 0))) := nxAlloc (Below.refl _ _) _
    have hx0 := heap_alloc_at w (.cells #[.int .i64 n, .int .i64 d] 45 (0, 0))
    generalize (w.alloc (.cells #[.int .i64 n, .int .i64 d] 45 (0, 0))) = w0 at *
    obtain ⟨hx0a, hx0b, hx0c⟩ := two_facts hx0
    obtain ⟨hx0f, hx0g⟩ := two_frozen hx0
    refine (hk _).mono ?_; rintro e w1 ⟨rfl, hb1⟩
    have hbw1 := nx hb0 hb1
    replace hx0 := heap_keep hb1 hx0
    clear hx0a hx0b hx0c hx0f hx0g
    obtain ⟨hx0a, hx0b, hx0c⟩ := two_facts hx0
    obtain ⟨hx0f, hx0g⟩ := two_frozen hx0
    clear hb1 hb0
    go_wp2_with fail
    go_ret
    exact ⟨rfl, hbw1⟩

theorem isIn_nats {n d : Int} (h : isIn n d = true) : isFr n d = true ∧ 1 < d ∧ 1 ≤ stepsOf n d ∧ stepsOf n d ≤ 1048576 := by
  unfold isIn at h
  rw [Bool.and_eq_true, decide_eq_true_eq] at h
  obtain ⟨h1, h2⟩ := h
  refine ⟨h1, h2, ?_, (steps_le h1).1⟩
  obtain ⟨f1, f2, f3, f4⟩ := isFr_iff.1 h1
  have hd := isP2_bounds f1
  have e := (steps_le h1).2.2
  have hn : 1 ≤ n := by omega
  have hq : 1 ≤ 1048576 / d := by
    have : 1 * d ≤ 1048576 := by omega
    exact (Int.le_ediv_iff_mul_le (by omega)).2 this
  have : 1 * 1 ≤ n * (1048576 / d) := Int.mul_le_mul hn hq (by omega) (by omega)
  omega
/-- The slopes on both sides of a fraction between 0 and 1. -/
def besideP (p : Pr) (s : Nat) : Int × Int := (if p.1.starts.getD (lastTo p.1.starts s) 0 = s then (slopes p).getD (lastTo p.1.starts s - 1) 0 else (slopes p).getD (lastTo p.1.starts s) 0, (slopes p).getD (lastTo p.1.starts s) 0)
def besideO (a b : ByteArray) (n d : Int) : Option (Int × Int) := if isIn n d = true then (pairOf a b).map fun p => besideP p (stepsOf n d) else none
theorem beside_slopes (a b : ByteArray) {s : Nat} (hs : 0 < s) : slopesO a b false s true s = (pairOf a b).map fun p => besideP p s := by
  unfold slopesO
  cases h : pairOf a b with
  | none => rfl
  | some p =>
    obtain ⟨rfl, rfl, hok, hc1, hc2⟩ := pairOf_some h
    show some (slAt (pcs p) (s - 1), slAt (pcs p) s) = some (besideP p s)
    rw [slAt_slopes p hok, slAt_slopes p hok, pick_left p.1 (by omega) hs]
    unfold besideP
    split <;> rfl

set_option maxRecDepth 100000 in
set_option maxHeartbeats 4000000 in
theorem implSlopesBeside_any (a b : ByteArray) (n d : Int) (w : World) (ha : a.size ≤ 9223372036854775806) (hb : b.size ≤ 9223372036854775806) (_l1 : -9223372036854775808 ≤ n) (_u1 : n ≤ 9223372036854775807) (_l2 : -9223372036854775808 ≤ d) (_u2 : d ≤ 9223372036854775807) :
    Calls Try.prog 33 #[.agg #[.string a, .string b], .agg #[.int .i64 n, .int .i64 d]] w (Gives (ans3 (besideO a b n d)) w) := by
  have hk := fun w => isInside_any n d w
  unfold besideO
  cases k : isIn n d with
  | false =>
    rw [k] at hk
    show Calls _ _ _ _ (Gives (ans3 none) w)
    clear k _l1 _u1 _l2 _u2
    go_enter Try.func33, Try.ntmps33
    go_wp2_with fail
    have hb0 : Below w.heap.size w ((w.alloc (.cells #[.string a, .string b] 27 (0, 0))).alloc (.cells #[.int .i64 n, .int .i64 d] 45 (0, 0))) := nxAlloc (nxAlloc (Below.refl _ _) _) _
    have hx0 := heap_keep (nxAlloc (Below.refl _ _) (.cells #[.int .i64 n, .int .i64 d] 45 (0, 0))) (heap_alloc_at w (.cells #[.string a, .string b] 27 (0, 0)))
    have hx1 := heap_alloc_at (w.alloc (.cells #[.string a, .string b] 27 (0, 0))) (.cells #[.int .i64 n, .int .i64 d] 45 (0, 0))
    generalize ((w.alloc (.cells #[.string a, .string b] 27 (0, 0))).alloc (.cells #[.int .i64 n, .int .i64 d] 45 (0, 0))) = w0 at *
    have e1 : (w.alloc (.cells #[.string a, .string b] 27 (0, 0))).heap.size = w.heap.size + 1 := by simp
    rw [e1] at hx1
    clear e1
    obtain ⟨hx0a, hx0b, hx0c⟩ := two_facts hx0
    obtain ⟨hx0f, hx0g⟩ := two_frozen hx0
    obtain ⟨hx1a, hx1b, hx1c⟩ := two_facts hx1
    obtain ⟨hx1f, hx1g⟩ := two_frozen hx1
    refine (hk _).mono ?_; rintro e w1 ⟨rfl, hb1⟩
    have hbw1 := nx hb0 hb1
    replace hx0 := heap_keep hb1 hx0
    replace hx1 := heap_keep hb1 hx1
    clear hx0a hx0b hx0c hx0f hx0g
    obtain ⟨hx0a, hx0b, hx0c⟩ := two_facts hx0
    obtain ⟨hx0f, hx0g⟩ := two_frozen hx0
    clear hx1a hx1b hx1c hx1f hx1g
    obtain ⟨hx1a, hx1b, hx1c⟩ := two_facts hx1
    obtain ⟨hx1f, hx1g⟩ := two_frozen hx1
    clear hb1 hb0
    go_wp2_with fail
    go_ret3
    exact ⟨rfl, hbw1⟩
  | true =>
    rw [k] at hk
    obtain ⟨k1, k2, k3, k4⟩ := isIn_nats k
    obtain ⟨n, d, rfl, rfl, n1, d1, d2⟩ := isFr_nats k1
    show Calls _ _ _ _ (Gives (ans3 ((pairOf a b).map fun p => besideP p (stepsOf n d))) w)
    rw [← beside_slopes a b (by omega)]
    have hs := fun w => steps_any n d w k1
    have hS := fun w => slopesAt_any a b false (stepsOf n d) true (stepsOf n d) w ha hb (fun _ => k3) k4 (fun h => by simp at h) k4
    unfold ans3 at *
    generalize slopesO a b false (stepsOf n d) true (stepsOf n d) = A at *
    generalize (A.getD (0, 0)).1 = x at *
    generalize (A.getD (0, 0)).2 = y at *
    generalize A.isSome = ok at *
    generalize stepsOf n d = s at *
    have hS' : ∀ w, Calls Try.prog 48 #[.agg #[.string a, .string b], .iface 64 (.int .i64 s), .iface 63 (.int .i64 s)] w (Gives (.tuple #[.int .i64 x, .int .i64 y, .bool ok]) w) := hS
    clear hS k k1 k2 k3 k4 _l1 _u1 _l2 _u2 n1 d1 d2
    go_enter Try.func33, Try.ntmps33
    go_wp2_with fail
    have hb0 : Below w.heap.size w ((w.alloc (.cells #[.string a, .string b] 27 (0, 0))).alloc (.cells #[.int .i64 n, .int .i64 d] 45 (0, 0))) := nxAlloc (nxAlloc (Below.refl _ _) _) _
    have hx0 := heap_keep (nxAlloc (Below.refl _ _) (.cells #[.int .i64 n, .int .i64 d] 45 (0, 0))) (heap_alloc_at w (.cells #[.string a, .string b] 27 (0, 0)))
    have hx1 := heap_alloc_at (w.alloc (.cells #[.string a, .string b] 27 (0, 0))) (.cells #[.int .i64 n, .int .i64 d] 45 (0, 0))
    generalize ((w.alloc (.cells #[.string a, .string b] 27 (0, 0))).alloc (.cells #[.int .i64 n, .int .i64 d] 45 (0, 0))) = w0 at *
    have e1 : (w.alloc (.cells #[.string a, .string b] 27 (0, 0))).heap.size = w.heap.size + 1 := by simp
    rw [e1] at hx1
    clear e1
    obtain ⟨hx0a, hx0b, hx0c⟩ := two_facts hx0
    obtain ⟨hx0f, hx0g⟩ := two_frozen hx0
    obtain ⟨hx1a, hx1b, hx1c⟩ := two_facts hx1
    obtain ⟨hx1f, hx1g⟩ := two_frozen hx1
    refine (hk _).mono ?_; rintro e w1 ⟨rfl, hb1⟩
    have hbw1 := nx hb0 hb1
    replace hx0 := heap_keep hb1 hx0
    replace hx1 := heap_keep hb1 hx1
    clear hx0a hx0b hx0c hx0f hx0g
    obtain ⟨hx0a, hx0b, hx0c⟩ := two_facts hx0
    obtain ⟨hx0f, hx0g⟩ := two_frozen hx0
    clear hx1a hx1b hx1c hx1f hx1g
    obtain ⟨hx1a, hx1b, hx1c⟩ := two_facts hx1
    obtain ⟨hx1f, hx1g⟩ := two_frozen hx1
    clear hb1 hb0
    go_wp2_with fail
    have hz := Below.refl w1.heap.size w1
    go_region_held3 (fun w' => w'.cell? ⟨w.heap.size, 0, none⟩ = some (.string a) ∧ w'.cell? ⟨w.heap.size, 1, none⟩ = some (.string b) ∧ w'.cell? ⟨w.heap.size + 1, 0, none⟩ = some (.int .i64 n) ∧ w'.cell? ⟨w.heap.size + 1, 1, none⟩ = some (.int .i64 d))
      (first
        | exact ⟨hx0a, hx0b, hx1a, hx1b⟩
        | exact K1
        | exact K2
        | exact K3)
      (first
        | (go_at_call 70; refine (hs _).mono ?_; rintro e w2 ⟨rfl, hb2⟩; have hb2' := nx hz.drew hb2; have K1 := And.intro (keep_cell hb2' hx0a) (And.intro (keep_cell hb2' hx0b) (And.intro (keep_cell hb2' hx1a) (keep_cell hb2' hx1b))))
        | (go_at_call 70; refine (hs _).mono ?_; rintro e w3 ⟨rfl, hb3⟩; have hb3' := nx hb2' hb3; have K2 := And.intro (keep_cell hb3' hx0a) (And.intro (keep_cell hb3' hx0b) (And.intro (keep_cell hb3' hx1a) (keep_cell hb3' hx1b))))
        | (go_at_call 48; refine (hS' _).mono ?_; rintro e w4 ⟨rfl, hb4⟩; have hb4' := nx hb3' hb4; have K3 := And.intro (keep_cell hb4' hx0a) (And.intro (keep_cell hb4' hx0b) (And.intro (keep_cell hb4' hx1a) (keep_cell hb4' hx1b)))))
    go_wp2_with fail
    go_ret3
    exact ⟨rfl, nx hbw1 hb4'⟩

set_option maxRecDepth 100000 in
set_option maxHeartbeats 4000000 in
theorem specSlopesBeside_any (a b : ByteArray) (n d : Int) (w : World) (ha : a.size ≤ 9223372036854775806) (hb : b.size ≤ 9223372036854775806) (_l1 : -9223372036854775808 ≤ n) (_u1 : n ≤ 9223372036854775807) (_l2 : -9223372036854775808 ≤ d) (_u2 : d ≤ 9223372036854775807) :
    Calls Try.prog 31 #[.agg #[.string a, .string b], .agg #[.int .i64 n, .int .i64 d]] w (Gives (ans3 (besideO a b n d)) w) := by
  have hg := fun w => prGood_any a b w ha hb
  have hk := fun w => mpGood_any n d w
  unfold besideO isIn
  cases h : pairOf a b with
  | none =>
    rw [h] at hg
    have e : (if (isFr n d && decide (1 < d)) = true then (none : Option Pr).map (fun p => besideP p (stepsOf n d)) else none) = none := by split <;> rfl
    rw [e]
    clear h hk e _l1 _u1 _l2 _u2
    go_enter Try.func31, Try.ntmps31
    go_wp2_with fail
    have hb0 : Below w.heap.size w ((w.alloc (.cells #[.string a, .string b] 27 (0, 0))).alloc (.cells #[.int .i64 n, .int .i64 d] 45 (0, 0))) := nxAlloc (nxAlloc (Below.refl _ _) _) _
    have hx0 := heap_keep (nxAlloc (Below.refl _ _) (.cells #[.int .i64 n, .int .i64 d] 45 (0, 0))) (heap_alloc_at w (.cells #[.string a, .string b] 27 (0, 0)))
    have hx1 := heap_alloc_at (w.alloc (.cells #[.string a, .string b] 27 (0, 0))) (.cells #[.int .i64 n, .int .i64 d] 45 (0, 0))
    generalize ((w.alloc (.cells #[.string a, .string b] 27 (0, 0))).alloc (.cells #[.int .i64 n, .int .i64 d] 45 (0, 0))) = w0 at *
    have e1 : (w.alloc (.cells #[.string a, .string b] 27 (0, 0))).heap.size = w.heap.size + 1 := by simp
    rw [e1] at hx1
    clear e1
    obtain ⟨hx0a, hx0b, hx0c⟩ := two_facts hx0
    obtain ⟨hx0f, hx0g⟩ := two_frozen hx0
    obtain ⟨hx1a, hx1b, hx1c⟩ := two_facts hx1
    obtain ⟨hx1f, hx1g⟩ := two_frozen hx1
    refine (hg _).mono ?_; rintro e w1 ⟨rfl, hb1⟩
    have hbw1 := nx hb0 hb1
    replace hx0 := heap_keep hb1 hx0
    replace hx1 := heap_keep hb1 hx1
    clear hx0a hx0b hx0c hx0f hx0g
    obtain ⟨hx0a, hx0b, hx0c⟩ := two_facts hx0
    obtain ⟨hx0f, hx0g⟩ := two_frozen hx0
    clear hx1a hx1b hx1c hx1f hx1g
    obtain ⟨hx1a, hx1b, hx1c⟩ := two_facts hx1
    obtain ⟨hx1f, hx1g⟩ := two_frozen hx1
    clear hb1 hb0
    go_wp2_with fail
    go_ret3
    exact ⟨rfl, hbw1⟩
  | some p =>
    rw [h] at hg
    obtain ⟨rfl, rfl, hok, hc1, hc2⟩ := pairOf_some h
    clear h
    cases k : isFr n d with
    | false =>
      rw [k] at hk
      show Calls _ _ _ _ (Gives (ans3 none) w)
      clear k _l1 _u1 _l2 _u2
      go_enter Try.func31, Try.ntmps31
      go_wp2_with fail
      have hb0 : Below w.heap.size w ((w.alloc (.cells #[.string p.1.str, .string p.2.str] 27 (0, 0))).alloc (.cells #[.int .i64 n, .int .i64 d] 45 (0, 0))) := nxAlloc (nxAlloc (Below.refl _ _) _) _
      have hx0 := heap_keep (nxAlloc (Below.refl _ _) (.cells #[.int .i64 n, .int .i64 d] 45 (0, 0))) (heap_alloc_at w (.cells #[.string p.1.str, .string p.2.str] 27 (0, 0)))
      have hx1 := heap_alloc_at (w.alloc (.cells #[.string p.1.str, .string p.2.str] 27 (0, 0))) (.cells #[.int .i64 n, .int .i64 d] 45 (0, 0))
      generalize ((w.alloc (.cells #[.string p.1.str, .string p.2.str] 27 (0, 0))).alloc (.cells #[.int .i64 n, .int .i64 d] 45 (0, 0))) = w0 at *
      have e1 : (w.alloc (.cells #[.string p.1.str, .string p.2.str] 27 (0, 0))).heap.size = w.heap.size + 1 := by simp
      rw [e1] at hx1
      clear e1
      obtain ⟨hx0a, hx0b, hx0c⟩ := two_facts hx0
      obtain ⟨hx0f, hx0g⟩ := two_frozen hx0
      obtain ⟨hx1a, hx1b, hx1c⟩ := two_facts hx1
      obtain ⟨hx1f, hx1g⟩ := two_frozen hx1
      refine (hg _).mono ?_; rintro e w1 ⟨rfl, hb1⟩
      have hbw1 := nx hb0 hb1
      replace hx0 := heap_keep hb1 hx0
      replace hx1 := heap_keep hb1 hx1
      clear hx0a hx0b hx0c hx0f hx0g
      obtain ⟨hx0a, hx0b, hx0c⟩ := two_facts hx0
      obtain ⟨hx0f, hx0g⟩ := two_frozen hx0
      clear hx1a hx1b hx1c hx1f hx1g
      obtain ⟨hx1a, hx1b, hx1c⟩ := two_facts hx1
      obtain ⟨hx1f, hx1g⟩ := two_frozen hx1
      clear hb1 hb0
      go_wp2_with fail
      refine (hk _).mono ?_; rintro e w2 ⟨rfl, hb2⟩
      have hbw2 := nx hbw1 hb2
      replace hx0 := heap_keep hb2 hx0
      replace hx1 := heap_keep hb2 hx1
      clear hx0a hx0b hx0c hx0f hx0g
      obtain ⟨hx0a, hx0b, hx0c⟩ := two_facts hx0
      obtain ⟨hx0f, hx0g⟩ := two_frozen hx0
      clear hx1a hx1b hx1c hx1f hx1g
      obtain ⟨hx1a, hx1b, hx1c⟩ := two_facts hx1
      obtain ⟨hx1f, hx1g⟩ := two_frozen hx1
      clear hb2 hbw1
      go_wp2_with fail
      go_ret3
      exact ⟨rfl, hbw2⟩
    | true =>
      rw [k] at hk
      obtain ⟨n, d, rfl, rfl, n1, d1, d2⟩ := isFr_nats k
      by_cases hd : d = 1
      · subst hd
        show Calls _ _ _ _ (Gives (ans3 none) w)
        clear k _l1 _u1 _l2 _u2
        go_enter Try.func31, Try.ntmps31
        go_wp2_with fail
        have hb0 : Below w.heap.size w ((w.alloc (.cells #[.string p.1.str, .string p.2.str] 27 (0, 0))).alloc (.cells #[.int .i64 n, .int .i64 (1 : Nat)] 45 (0, 0))) := nxAlloc (nxAlloc (Below.refl _ _) _) _
        have hx0 := heap_keep (nxAlloc (Below.refl _ _) (.cells #[.int .i64 n, .int .i64 (1 : Nat)] 45 (0, 0))) (heap_alloc_at w (.cells #[.string p.1.str, .string p.2.str] 27 (0, 0)))
        have hx1 := heap_alloc_at (w.alloc (.cells #[.string p.1.str, .string p.2.str] 27 (0, 0))) (.cells #[.int .i64 n, .int .i64 (1 : Nat)] 45 (0, 0))
        generalize ((w.alloc (.cells #[.string p.1.str, .string p.2.str] 27 (0, 0))).alloc (.cells #[.int .i64 n, .int .i64 (1 : Nat)] 45 (0, 0))) = w0 at *
        have e1 : (w.alloc (.cells #[.string p.1.str, .string p.2.str] 27 (0, 0))).heap.size = w.heap.size + 1 := by simp
        rw [e1] at hx1
        clear e1
        obtain ⟨hx0a, hx0b, hx0c⟩ := two_facts hx0
        obtain ⟨hx0f, hx0g⟩ := two_frozen hx0
        obtain ⟨hx1a, hx1b, hx1c⟩ := two_facts hx1
        obtain ⟨hx1f, hx1g⟩ := two_frozen hx1
        refine (hg _).mono ?_; rintro e w1 ⟨rfl, hb1⟩
        have hbw1 := nx hb0 hb1
        replace hx0 := heap_keep hb1 hx0
        replace hx1 := heap_keep hb1 hx1
        clear hx0a hx0b hx0c hx0f hx0g
        obtain ⟨hx0a, hx0b, hx0c⟩ := two_facts hx0
        obtain ⟨hx0f, hx0g⟩ := two_frozen hx0
        clear hx1a hx1b hx1c hx1f hx1g
        obtain ⟨hx1a, hx1b, hx1c⟩ := two_facts hx1
        obtain ⟨hx1f, hx1g⟩ := two_frozen hx1
        clear hb1 hb0
        go_wp2_with fail
        refine (hk _).mono ?_; rintro e w2 ⟨rfl, hb2⟩
        have hbw2 := nx hbw1 hb2
        replace hx0 := heap_keep hb2 hx0
        replace hx1 := heap_keep hb2 hx1
        clear hx0a hx0b hx0c hx0f hx0g
        obtain ⟨hx0a, hx0b, hx0c⟩ := two_facts hx0
        obtain ⟨hx0f, hx0g⟩ := two_frozen hx0
        clear hx1a hx1b hx1c hx1f hx1g
        obtain ⟨hx1a, hx1b, hx1c⟩ := two_facts hx1
        obtain ⟨hx1f, hx1g⟩ := two_frozen hx1
        clear hb2 hbw1
        go_wp2_with fail
        go_ret3
        exact ⟨rfl, hbw2⟩
      · have e : decide ((1 : Int) < (d : Int)) = true := by simp; omega
        rw [e]
        show Calls _ _ _ _ (Gives (ans3 (some (besideP p (stepsOf n d)))) w)
        have hd1 : ¬ (d : Int) = 1 := by omega
        have hsn := frOf_steps k
        have hpos : 1 ≤ stepsOf n d := (isIn_nats (n := n) (d := d) (by unfold isIn; rw [k, e]; rfl)).2.2.1
        have hL := fun w => mpLeaf_any p.1 n d w hc1 k
        have hM := fun w => mpSlopes_any p w hc1 hc2 hok
        have hT := fun w => mpStarts_any p.1 w hc1
        have hlt := lastTo_lt p.1.starts (stepsOf n d) (by rw [starts_length]; omega)
        rw [starts_length] at hlt
        have hst := starts_at p.1 hlt
        have hfr := frs_get (p.1.addrs ⟨#[]⟩) (lastTo p.1.starts (stepsOf n d)) (by rw [addrs_length]; exact hlt)
        rw [← hst] at hfr
        have hfl : (frs (p.1.addrs ⟨#[]⟩)).length = p.1.carets + 1 := by simp [frs, addrs_length]
        have hsl : (slopes p).length = p.1.carets + 1 := by rw [← slopes_pcs, List.length_map, pcs_len p hok]
        have hr0 : p.1.starts.getD (lastTo p.1.starts (stepsOf n d)) 0 = stepsOf n d → 1 ≤ lastTo p.1.starts (stepsOf n d) := by
          intro hx
          rcases Nat.eq_zero_or_pos (lastTo p.1.starts (stepsOf n d)) with z | z
          · rw [z, starts_first] at hx; omega
          · exact z
        unfold besideP
        generalize lastTo p.1.starts (stepsOf n d) = r at *
        have hcase : (p.1.starts.getD r 0 = stepsOf n d ∧ frOf (p.1.starts.getD r 0) = (n, d)) ∨ (¬ p.1.starts.getD r 0 = stepsOf n d ∧ (((frOf (p.1.starts.getD r 0)).1 = n ∧ ¬ (frOf (p.1.starts.getD r 0)).2 = d) ∨ ¬ (frOf (p.1.starts.getD r 0)).1 = n)) := by
          by_cases hx : p.1.starts.getD r 0 = stepsOf n d
          · exact .inl ⟨hx, by rw [hx, hsn]⟩
          · refine .inr ⟨hx, ?_⟩
            by_cases h1 : (frOf (p.1.starts.getD r 0)).1 = n
            · refine .inl ⟨h1, fun h2 => hx (frOf_inj1 ?_)⟩
              rw [hsn]; exact Prod.ext h1 h2
            · exact .inr h1
        generalize frOf (p.1.starts.getD r 0) = q at *
        have hT' : ∀ w, Calls Try.prog 68 #[.string p.1.str] w fun e w' => ∃ g cap : Nat, w'.cell? ⟨g, r * 2, none⟩ = some (.int .i64 q.1) ∧ w'.cell? ⟨g, r * 2 + 1, none⟩ = some (.int .i64 q.2) ∧ p.1.carets + 1 ≤ cap ∧ cap ≤ maxLen ∧ Below w.heap.size w w' ∧ e = .returned (.slice (some ⟨g, 0, none⟩) (p.1.carets + 1 : Nat) cap) := by
          intro w
          refine (hT w).mono ?_
          rintro e w' ⟨v, own, hb, rfl⟩
          rcases own.cells with ⟨_, h0⟩ | ⟨g, cap, rfl, _, hg, h1, h2, h3, _⟩
          · omega
          · have fg := flatF_get (frs (p.1.addrs ⟨#[]⟩)) r (by omega)
            rw [hfr] at fg
            have c1 := h3 (r * 2) (by omega)
            have c2 := h3 (r * 2 + 1) (by omega)
            rw [fg.1] at c1
            rw [fg.2] at c2
            rw [hfl] at h1 ⊢
            exact ⟨g, cap, c1, c2, h1, h2, hb, rfl⟩
        have hM' : ∀ w, Calls Try.prog 47 #[.agg #[.string p.1.str, .string p.2.str]] w fun e w' => ∃ g cap : Nat, g < w'.heap.size ∧ (∀ i, i < p.1.carets + 1 → w'.cell? ⟨g, i, none⟩ = some (.int .i64 ((slopes p).getD i 0))) ∧ p.1.carets + 1 ≤ cap ∧ cap ≤ maxLen ∧ Below w.heap.size w w' ∧ e = .returned (.slice (some ⟨g, 0, none⟩) (p.1.carets + 1 : Nat) cap) := by
          intro w
          refine (hM w).mono ?_
          rintro e w' ⟨v, own, hb, rfl⟩
          rcases own.cells with ⟨_, h0⟩ | ⟨g, cap, rfl, _, hg, h1, h2, h3, _⟩
          · rw [h0] at hsl; simp at hsl
          · rw [hsl] at h1 h3 ⊢
            exact ⟨g, cap, hg, h3, h1, h2, hb, rfl⟩
        generalize slopes p = ps at *
        obtain ⟨m, hm⟩ : ∃ m, m = p.1.carets + 1 := ⟨_, rfl⟩
        rw [← hm] at hM' hT' hlt
        generalize stepsOf n d = s at *
        have hlt' : (r : Int) < (m : Int) := by omega
        have hm9 : m ≤ 9 := by omega
        clear hM hT hsl hfl hfr hst hsn k e hm hpos d1 d2 n1 _l1 _u1 _l2 _u2
        obtain ⟨q1, q2⟩ := q
        rcases hcase with ⟨hx, hq⟩ | ⟨hx, hq⟩
        · rw [if_pos hx]
          obtain ⟨rfl, rfl⟩ : n = q1 ∧ d = q2 := by simpa [eq_comm] using hq
          have hr1 := hr0 hx
          have hw : IntKind.i64.wrap ((r : Int) - 1) = ((r - 1 : Nat) : Int) := by rw [IntKind.wrap_i64] <;> omega
          have hlt2 : ((r - 1 : Nat) : Int) < (m : Int) := by omega
          clear hq hx hr0 hm9
          go_enter Try.func31, Try.ntmps31
          go_wp2_with fail
          have hb0 : Below w.heap.size w ((w.alloc (.cells #[.string p.1.str, .string p.2.str] 27 (0, 0))).alloc (.cells #[.int .i64 n, .int .i64 d] 45 (0, 0))) := nxAlloc (nxAlloc (Below.refl _ _) _) _
          have hx0 := heap_keep (nxAlloc (Below.refl _ _) (.cells #[.int .i64 n, .int .i64 d] 45 (0, 0))) (heap_alloc_at w (.cells #[.string p.1.str, .string p.2.str] 27 (0, 0)))
          have hx1 := heap_alloc_at (w.alloc (.cells #[.string p.1.str, .string p.2.str] 27 (0, 0))) (.cells #[.int .i64 n, .int .i64 d] 45 (0, 0))
          generalize ((w.alloc (.cells #[.string p.1.str, .string p.2.str] 27 (0, 0))).alloc (.cells #[.int .i64 n, .int .i64 d] 45 (0, 0))) = w0 at *
          have e1 : (w.alloc (.cells #[.string p.1.str, .string p.2.str] 27 (0, 0))).heap.size = w.heap.size + 1 := by simp
          rw [e1] at hx1
          clear e1
          obtain ⟨hx0a, hx0b, hx0c⟩ := two_facts hx0
          obtain ⟨hx0f, hx0g⟩ := two_frozen hx0
          obtain ⟨hx1a, hx1b, hx1c⟩ := two_facts hx1
          obtain ⟨hx1f, hx1g⟩ := two_frozen hx1
          refine (hg _).mono ?_; rintro e w1 ⟨rfl, hb1⟩
          have hbw1 := nx hb0 hb1
          replace hx0 := heap_keep hb1 hx0
          replace hx1 := heap_keep hb1 hx1
          clear hx0a hx0b hx0c hx0f hx0g
          obtain ⟨hx0a, hx0b, hx0c⟩ := two_facts hx0
          obtain ⟨hx0f, hx0g⟩ := two_frozen hx0
          clear hx1a hx1b hx1c hx1f hx1g
          obtain ⟨hx1a, hx1b, hx1c⟩ := two_facts hx1
          obtain ⟨hx1f, hx1g⟩ := two_frozen hx1
          clear hb1 hb0
          go_wp2_with fail
          refine (hk _).mono ?_; rintro e w2 ⟨rfl, hb2⟩
          have hbw2 := nx hbw1 hb2
          replace hx0 := heap_keep hb2 hx0
          replace hx1 := heap_keep hb2 hx1
          clear hx0a hx0b hx0c hx0f hx0g
          obtain ⟨hx0a, hx0b, hx0c⟩ := two_facts hx0
          obtain ⟨hx0f, hx0g⟩ := two_frozen hx0
          clear hx1a hx1b hx1c hx1f hx1g
          obtain ⟨hx1a, hx1b, hx1c⟩ := two_facts hx1
          obtain ⟨hx1f, hx1g⟩ := two_frozen hx1
          clear hb2 hbw1
          go_wp2_with fail
          refine (hM' _).mono ?_; rintro e w3 ⟨g, cap, hg3, hcl, m1, m2, hb3, rfl⟩
          have hbw3 := nx hbw2 hb3
          have cr := hcl r hlt
          have cs := hcl (r - 1) (by omega)
          clear hcl
          replace hx0 := heap_keep hb3 hx0
          replace hx1 := heap_keep hb3 hx1
          clear hx0a hx0b hx0c hx0f hx0g
          obtain ⟨hx0a, hx0b, hx0c⟩ := two_facts hx0
          obtain ⟨hx0f, hx0g⟩ := two_frozen hx0
          clear hx1a hx1b hx1c hx1f hx1g
          obtain ⟨hx1a, hx1b, hx1c⟩ := two_facts hx1
          obtain ⟨hx1f, hx1g⟩ := two_frozen hx1
          clear hb3 hbw2
          go_wp2_with fail
          refine (hL _).mono ?_; rintro e w4 ⟨rfl, hb4⟩
          have hbw4 := nx hbw3 hb4
          replace cr := keep_cell hb4 cr
          replace cs := keep_cell hb4 cs
          replace hx0 := heap_keep hb4 hx0
          replace hx1 := heap_keep hb4 hx1
          clear hx0a hx0b hx0c hx0f hx0g
          obtain ⟨hx0a, hx0b, hx0c⟩ := two_facts hx0
          obtain ⟨hx0f, hx0g⟩ := two_frozen hx0
          clear hx1a hx1b hx1c hx1f hx1g
          obtain ⟨hx1a, hx1b, hx1c⟩ := two_facts hx1
          obtain ⟨hx1f, hx1g⟩ := two_frozen hx1
          clear hb4 hbw3
          go_wp2_with fail
          have hz := Below.refl w4.heap.size w4
          go_region_with (first
              | (go_at_call 68; refine (hT' _).mono ?_; rintro e w5 ⟨g2, cap2, e1, e2, m3, m4, hb5, rfl⟩; have hb5' := nx hz.drew hb5; obtain ⟨ka2, ka3⟩ := And.intro (keep_cell hb5' hx1a) (keep_cell hb5' hx1b); have cr5 := keep_cell hb5' cr; have cs5 := keep_cell hb5' cs))
          all_goals go_wp2_with fail
          all_goals go_quiet (fail)
          all_goals go_wp2_with fail
          all_goals go_ret3
          all_goals exact ⟨rfl, drewB (nx hbw4 hb5') _⟩
        · rw [if_neg hx]
          clear hr0 hx hm9
          rcases hq with ⟨hq1, hq2⟩ | hq1
          · obtain rfl : n = q1 := hq1.symm
            have hq2' : ¬ (q2 : Int) = (d : Int) := by simpa using (fun h => hq2 (Int.ofNat_inj.1 h))
            clear hq2
            go_enter Try.func31, Try.ntmps31
            go_wp2_with fail
            have hb0 : Below w.heap.size w ((w.alloc (.cells #[.string p.1.str, .string p.2.str] 27 (0, 0))).alloc (.cells #[.int .i64 n, .int .i64 d] 45 (0, 0))) := nxAlloc (nxAlloc (Below.refl _ _) _) _
            have hx0 := heap_keep (nxAlloc (Below.refl _ _) (.cells #[.int .i64 n, .int .i64 d] 45 (0, 0))) (heap_alloc_at w (.cells #[.string p.1.str, .string p.2.str] 27 (0, 0)))
            have hx1 := heap_alloc_at (w.alloc (.cells #[.string p.1.str, .string p.2.str] 27 (0, 0))) (.cells #[.int .i64 n, .int .i64 d] 45 (0, 0))
            generalize ((w.alloc (.cells #[.string p.1.str, .string p.2.str] 27 (0, 0))).alloc (.cells #[.int .i64 n, .int .i64 d] 45 (0, 0))) = w0 at *
            have e1 : (w.alloc (.cells #[.string p.1.str, .string p.2.str] 27 (0, 0))).heap.size = w.heap.size + 1 := by simp
            rw [e1] at hx1
            clear e1
            obtain ⟨hx0a, hx0b, hx0c⟩ := two_facts hx0
            obtain ⟨hx0f, hx0g⟩ := two_frozen hx0
            obtain ⟨hx1a, hx1b, hx1c⟩ := two_facts hx1
            obtain ⟨hx1f, hx1g⟩ := two_frozen hx1
            refine (hg _).mono ?_; rintro e w1 ⟨rfl, hb1⟩
            have hbw1 := nx hb0 hb1
            replace hx0 := heap_keep hb1 hx0
            replace hx1 := heap_keep hb1 hx1
            clear hx0a hx0b hx0c hx0f hx0g
            obtain ⟨hx0a, hx0b, hx0c⟩ := two_facts hx0
            obtain ⟨hx0f, hx0g⟩ := two_frozen hx0
            clear hx1a hx1b hx1c hx1f hx1g
            obtain ⟨hx1a, hx1b, hx1c⟩ := two_facts hx1
            obtain ⟨hx1f, hx1g⟩ := two_frozen hx1
            clear hb1 hb0
            go_wp2_with fail
            refine (hk _).mono ?_; rintro e w2 ⟨rfl, hb2⟩
            have hbw2 := nx hbw1 hb2
            replace hx0 := heap_keep hb2 hx0
            replace hx1 := heap_keep hb2 hx1
            clear hx0a hx0b hx0c hx0f hx0g
            obtain ⟨hx0a, hx0b, hx0c⟩ := two_facts hx0
            obtain ⟨hx0f, hx0g⟩ := two_frozen hx0
            clear hx1a hx1b hx1c hx1f hx1g
            obtain ⟨hx1a, hx1b, hx1c⟩ := two_facts hx1
            obtain ⟨hx1f, hx1g⟩ := two_frozen hx1
            clear hb2 hbw1
            go_wp2_with fail
            refine (hM' _).mono ?_; rintro e w3 ⟨g, cap, hg3, hcl, m1, m2, hb3, rfl⟩
            have hbw3 := nx hbw2 hb3
            have cr := hcl r hlt
            clear hcl
            replace hx0 := heap_keep hb3 hx0
            replace hx1 := heap_keep hb3 hx1
            clear hx0a hx0b hx0c hx0f hx0g
            obtain ⟨hx0a, hx0b, hx0c⟩ := two_facts hx0
            obtain ⟨hx0f, hx0g⟩ := two_frozen hx0
            clear hx1a hx1b hx1c hx1f hx1g
            obtain ⟨hx1a, hx1b, hx1c⟩ := two_facts hx1
            obtain ⟨hx1f, hx1g⟩ := two_frozen hx1
            clear hb3 hbw2
            go_wp2_with fail
            refine (hL _).mono ?_; rintro e w4 ⟨rfl, hb4⟩
            have hbw4 := nx hbw3 hb4
            replace cr := keep_cell hb4 cr
            replace hx0 := heap_keep hb4 hx0
            replace hx1 := heap_keep hb4 hx1
            clear hx0a hx0b hx0c hx0f hx0g
            obtain ⟨hx0a, hx0b, hx0c⟩ := two_facts hx0
            obtain ⟨hx0f, hx0g⟩ := two_frozen hx0
            clear hx1a hx1b hx1c hx1f hx1g
            obtain ⟨hx1a, hx1b, hx1c⟩ := two_facts hx1
            obtain ⟨hx1f, hx1g⟩ := two_frozen hx1
            clear hb4 hbw3
            go_wp2_with fail
            have hz := Below.refl w4.heap.size w4
            go_region_with (first
                | (go_at_call 68; refine (hT' _).mono ?_; rintro e w5 ⟨g2, cap2, e1, e2, m3, m4, hb5, rfl⟩; have hb5' := nx hz.drew hb5; obtain ⟨ka2, ka3⟩ := And.intro (keep_cell hb5' hx1a) (keep_cell hb5' hx1b); have cr5 := keep_cell hb5' cr))
            all_goals go_wp2_with fail
            all_goals go_quiet (fail)
            all_goals go_wp2_with fail
            all_goals go_ret3
            all_goals exact ⟨rfl, drewB (nx hbw4 hb5') _⟩
          · have hq1' : ¬ (q1 : Int) = (n : Int) := by simpa using (fun h => hq1 (Int.ofNat_inj.1 h))
            clear hq1
            go_enter Try.func31, Try.ntmps31
            go_wp2_with fail
            have hb0 : Below w.heap.size w ((w.alloc (.cells #[.string p.1.str, .string p.2.str] 27 (0, 0))).alloc (.cells #[.int .i64 n, .int .i64 d] 45 (0, 0))) := nxAlloc (nxAlloc (Below.refl _ _) _) _
            have hx0 := heap_keep (nxAlloc (Below.refl _ _) (.cells #[.int .i64 n, .int .i64 d] 45 (0, 0))) (heap_alloc_at w (.cells #[.string p.1.str, .string p.2.str] 27 (0, 0)))
            have hx1 := heap_alloc_at (w.alloc (.cells #[.string p.1.str, .string p.2.str] 27 (0, 0))) (.cells #[.int .i64 n, .int .i64 d] 45 (0, 0))
            generalize ((w.alloc (.cells #[.string p.1.str, .string p.2.str] 27 (0, 0))).alloc (.cells #[.int .i64 n, .int .i64 d] 45 (0, 0))) = w0 at *
            have e1 : (w.alloc (.cells #[.string p.1.str, .string p.2.str] 27 (0, 0))).heap.size = w.heap.size + 1 := by simp
            rw [e1] at hx1
            clear e1
            obtain ⟨hx0a, hx0b, hx0c⟩ := two_facts hx0
            obtain ⟨hx0f, hx0g⟩ := two_frozen hx0
            obtain ⟨hx1a, hx1b, hx1c⟩ := two_facts hx1
            obtain ⟨hx1f, hx1g⟩ := two_frozen hx1
            refine (hg _).mono ?_; rintro e w1 ⟨rfl, hb1⟩
            have hbw1 := nx hb0 hb1
            replace hx0 := heap_keep hb1 hx0
            replace hx1 := heap_keep hb1 hx1
            clear hx0a hx0b hx0c hx0f hx0g
            obtain ⟨hx0a, hx0b, hx0c⟩ := two_facts hx0
            obtain ⟨hx0f, hx0g⟩ := two_frozen hx0
            clear hx1a hx1b hx1c hx1f hx1g
            obtain ⟨hx1a, hx1b, hx1c⟩ := two_facts hx1
            obtain ⟨hx1f, hx1g⟩ := two_frozen hx1
            clear hb1 hb0
            go_wp2_with fail
            refine (hk _).mono ?_; rintro e w2 ⟨rfl, hb2⟩
            have hbw2 := nx hbw1 hb2
            replace hx0 := heap_keep hb2 hx0
            replace hx1 := heap_keep hb2 hx1
            clear hx0a hx0b hx0c hx0f hx0g
            obtain ⟨hx0a, hx0b, hx0c⟩ := two_facts hx0
            obtain ⟨hx0f, hx0g⟩ := two_frozen hx0
            clear hx1a hx1b hx1c hx1f hx1g
            obtain ⟨hx1a, hx1b, hx1c⟩ := two_facts hx1
            obtain ⟨hx1f, hx1g⟩ := two_frozen hx1
            clear hb2 hbw1
            go_wp2_with fail
            refine (hM' _).mono ?_; rintro e w3 ⟨g, cap, hg3, hcl, m1, m2, hb3, rfl⟩
            have hbw3 := nx hbw2 hb3
            have cr := hcl r hlt
            clear hcl
            replace hx0 := heap_keep hb3 hx0
            replace hx1 := heap_keep hb3 hx1
            clear hx0a hx0b hx0c hx0f hx0g
            obtain ⟨hx0a, hx0b, hx0c⟩ := two_facts hx0
            obtain ⟨hx0f, hx0g⟩ := two_frozen hx0
            clear hx1a hx1b hx1c hx1f hx1g
            obtain ⟨hx1a, hx1b, hx1c⟩ := two_facts hx1
            obtain ⟨hx1f, hx1g⟩ := two_frozen hx1
            clear hb3 hbw2
            go_wp2_with fail
            refine (hL _).mono ?_; rintro e w4 ⟨rfl, hb4⟩
            have hbw4 := nx hbw3 hb4
            replace cr := keep_cell hb4 cr
            replace hx0 := heap_keep hb4 hx0
            replace hx1 := heap_keep hb4 hx1
            clear hx0a hx0b hx0c hx0f hx0g
            obtain ⟨hx0a, hx0b, hx0c⟩ := two_facts hx0
            obtain ⟨hx0f, hx0g⟩ := two_frozen hx0
            clear hx1a hx1b hx1c hx1f hx1g
            obtain ⟨hx1a, hx1b, hx1c⟩ := two_facts hx1
            obtain ⟨hx1f, hx1g⟩ := two_frozen hx1
            clear hb4 hbw3
            go_wp2_with fail
            have hz := Below.refl w4.heap.size w4
            go_region_with (first
                | (go_at_call 68; refine (hT' _).mono ?_; rintro e w5 ⟨g2, cap2, e1, e2, m3, m4, hb5, rfl⟩; have hb5' := nx hz.drew hb5; obtain ⟨ka2, ka3⟩ := And.intro (keep_cell hb5' hx1a) (keep_cell hb5' hx1b); have cr5 := keep_cell hb5' cr))
            all_goals go_wp2_with fail
            all_goals go_quiet (fail)
            all_goals go_wp2_with fail
            all_goals go_ret3
            all_goals exact ⟨rfl, drewB (nx hbw4 hb5') _⟩

set_option maxRecDepth 100000 in
set_option maxHeartbeats 1000000 in
theorem fnExactSlopesBeside_walk (a0 : ByteArray) (ha0 : a0.size ≤ maxLen) (b0 : ByteArray) (hb0 : b0.size ≤ maxLen) (n1 : Int) (hn1 : (Lit.int .i64 n1).wf = true) (d1 : Int) (hd1 : (Lit.int .i64 d1).wf = true) (w : World) :
    Calls Try.prog 8 #[.agg #[.string a0, .string b0], .agg #[.int .i64 n1, .int .i64 d1]] w fun e w' => e = .returned (.bool true) ∧ Below w.heap.size w w' := by
  unfold maxLen at ha0 hb0
  obtain ⟨lon1, hin1⟩ := i64_bounds hn1
  obtain ⟨lod1, hid1⟩ := i64_bounds hd1
  have hsz0 := fun w => szPair_any a0 b0 w (by omega) (by omega) 1048576 (by omega) (by omega)
  by_cases hz0 : (a0.size : Int) + b0.size ≤ 1048576
  rotate_left
  · simp only [if_neg hz0] at hsz0
    go_enter Try.func8, Try.ntmps8
    go_wp2_with fail
    have hb0 : Below w.heap.size w ((w.alloc (.cells #[.string a0, .string b0] 23 (0, 0))).alloc (.cells #[.int .i64 n1, .int .i64 d1] 43 (0, 0))) := nxAlloc (nxAlloc (Below.refl _ _) _) _
    have hx0 := heap_keep (nxAlloc (Below.refl _ _) (.cells #[.int .i64 n1, .int .i64 d1] 43 (0, 0))) (heap_alloc_at w (.cells #[.string a0, .string b0] 23 (0, 0)))
    have hx1 := heap_alloc_at (w.alloc (.cells #[.string a0, .string b0] 23 (0, 0))) (.cells #[.int .i64 n1, .int .i64 d1] 43 (0, 0))
    generalize ((w.alloc (.cells #[.string a0, .string b0] 23 (0, 0))).alloc (.cells #[.int .i64 n1, .int .i64 d1] 43 (0, 0))) = w0 at *
    have e1 : (w.alloc (.cells #[.string a0, .string b0] 23 (0, 0))).heap.size = w.heap.size + 1 := by simp
    rw [e1] at hx1
    clear e1
    obtain ⟨ka0, kb0, kc0⟩ := two_facts hx0
    obtain ⟨ka1, kb1, kc1⟩ := two_facts hx1
    refine (hsz0 _).mono ?_; rintro e w1 ⟨rfl, hb1⟩
    have hbw1 := nx hb0 hb1
    replace hx0 := heap_keep hb1 hx0
    clear ka0 kb0 kc0
    obtain ⟨ka0, kb0, kc0⟩ := two_facts hx0
    replace hx1 := heap_keep hb1 hx1
    clear ka1 kb1 kc1
    obtain ⟨ka1, kb1, kc1⟩ := two_facts hx1
    clear hb1 hb0
    go_wp2_with fail
    go_ret
    exact ⟨rfl, hbw1⟩
  simp only [if_pos hz0] at hsz0
  have hS := fun w => specSlopesBeside_any a0 b0 n1 d1 w (by omega) (by omega) lon1 hin1 lod1 hid1
  have hI := fun w => implSlopesBeside_any a0 b0 n1 d1 w (by omega) (by omega) lon1 hin1 lod1 hid1
  have hS' : ∀ w, Calls Try.prog 31 #[.agg #[.string a0, .string b0], .agg #[.int .i64 n1, .int .i64 d1]] w (Gives (ans3 (besideO a0 b0 n1 d1)) w) := hS
  have hI' : ∀ w, Calls Try.prog 33 #[.agg #[.string a0, .string b0], .agg #[.int .i64 n1, .int .i64 d1]] w (Gives (ans3 (besideO a0 b0 n1 d1)) w) := hI
  clear hS hI
  generalize (besideO a0 b0 n1 d1) = o at hS' hI'
  unfold ans3 at hS' hI'
  go_enter Try.func8, Try.ntmps8
  go_wp2_with fail
  have hb0 : Below w.heap.size w ((w.alloc (.cells #[.string a0, .string b0] 23 (0, 0))).alloc (.cells #[.int .i64 n1, .int .i64 d1] 43 (0, 0))) := nxAlloc (nxAlloc (Below.refl _ _) _) _
  have hx0 := heap_keep (nxAlloc (Below.refl _ _) (.cells #[.int .i64 n1, .int .i64 d1] 43 (0, 0))) (heap_alloc_at w (.cells #[.string a0, .string b0] 23 (0, 0)))
  have hx1 := heap_alloc_at (w.alloc (.cells #[.string a0, .string b0] 23 (0, 0))) (.cells #[.int .i64 n1, .int .i64 d1] 43 (0, 0))
  generalize ((w.alloc (.cells #[.string a0, .string b0] 23 (0, 0))).alloc (.cells #[.int .i64 n1, .int .i64 d1] 43 (0, 0))) = w0 at *
  have e1 : (w.alloc (.cells #[.string a0, .string b0] 23 (0, 0))).heap.size = w.heap.size + 1 := by simp
  rw [e1] at hx1
  clear e1
  obtain ⟨ka0, kb0, kc0⟩ := two_facts hx0
  obtain ⟨ka1, kb1, kc1⟩ := two_facts hx1
  refine (hsz0 _).mono ?_; rintro e w1 ⟨rfl, hb1⟩
  have hbw1 := nx hb0 hb1
  replace hx0 := heap_keep hb1 hx0
  clear ka0 kb0 kc0
  obtain ⟨ka0, kb0, kc0⟩ := two_facts hx0
  replace hx1 := heap_keep hb1 hx1
  clear ka1 kb1 kc1
  obtain ⟨ka1, kb1, kc1⟩ := two_facts hx1
  clear hb1 hb0
  go_wp2_with fail
  refine wp_region_cls (by kernel_rfl) (by kernel_rfl) ?_
  repeat (
    refine wpQuiet_step (fun K hK => ?_)
    go_simp
    first
      | (refine hK _ ?_; clear hK K)
      | (refine ⟨_, fun _ _ => rfl, hK _ ?_⟩; clear hK K)
      | (apply Exists.intro
         refine ⟨fun w' hw' => ?_, hK _ ?_⟩
         · first
             | (go_at_call 15; exact hw'.call (toPair_any a0 b0 _))
             | (go_at_call 32; exact hw'.call (toFraction_any n1 d1 _))
             | (go_at_call 31; exact hw'.call (hS' _))
             | (rw [hw'.cell kc0 ka0]; dsimp only [Result.andThen]; rw [hw'.cell kc0 kb0]; exact ⟨rfl, rfl⟩)
             | (rw [hw'.cell kc1 ka1]; dsimp only [Result.andThen]; rw [hw'.cell kc1 kb1]; exact ⟨rfl, rfl⟩)
         clear hK K))
  refine wpQuiet_nil ?_
  intro w' hw'
  have hbw2 := nx hbw1 hw'
  replace hx0 := heap_keep hw' hx0
  clear ka0 kb0 kc0
  obtain ⟨ka0, kb0, kc0⟩ := two_facts hx0
  replace hx1 := heap_keep hw' hx1
  clear ka1 kb1 kc1
  obtain ⟨ka1, kb1, kc1⟩ := two_facts hx1
  clear hw' hbw1
  generalize w' = w2 at *
  go_wp2_with fail
  refine wp_region_cls (by kernel_rfl) (by kernel_rfl) ?_
  repeat (
    refine wpQuiet_step (fun K hK => ?_)
    go_simp
    first
      | (refine hK _ ?_; clear hK K)
      | (refine ⟨_, fun _ _ => rfl, hK _ ?_⟩; clear hK K)
      | (apply Exists.intro
         refine ⟨fun w' hw' => ?_, hK _ ?_⟩
         · first
             | (go_at_call 15; exact hw'.call (toPair_any a0 b0 _))
             | (go_at_call 32; exact hw'.call (toFraction_any n1 d1 _))
             | (go_at_call 33; exact hw'.call (hI' _))
             | (rw [hw'.cell kc0 ka0]; dsimp only [Result.andThen]; rw [hw'.cell kc0 kb0]; exact ⟨rfl, rfl⟩)
             | (rw [hw'.cell kc1 ka1]; dsimp only [Result.andThen]; rw [hw'.cell kc1 kb1]; exact ⟨rfl, rfl⟩)
         clear hK K))
  refine wpQuiet_nil ?_
  intro w' hw'
  have hbw3 := nx hbw2 hw'
  replace hx0 := heap_keep hw' hx0
  clear ka0 kb0 kc0
  obtain ⟨ka0, kb0, kc0⟩ := two_facts hx0
  replace hx1 := heap_keep hw' hx1
  clear ka1 kb1 kc1
  obtain ⟨ka1, kb1, kc1⟩ := two_facts hx1
  clear hw' hbw2
  generalize w' = w3 at *
  go_wp2_with fail
  go_ret
  exact ⟨rfl, hbw3⟩
end Go.Proofs.Ytgjdppegkoepfaa

/-! LFnExactSlopesBeside -/
namespace Go.Proofs.Ytgjdppegkoepfaa.fnExactSlopesBeside
open Go.ChangeShapes Go.WideShapes Go.ChangeAt Go.RowKit
open Go.ChangeMaps (open_string shut_string)
open Go.Joins (open_agg2 shut_agg2)
set_option linter.unusedVariables false

theorem cellsPair : Try.prog.cellsOf 23 = 2 := by kernel_rfl
theorem cellsFrac : Try.prog.cellsOf 43 = 2 := by kernel_rfl
theorem own : ownKnob Try.prog.godebug = none := by kernel_rfl
theorem laidOut : laidOutB Try.prog = true := by kernel_rfl

set_option maxRecDepth 100000 in
theorem lifted (os : Os) (started : os.Started) (H : Type) (enc : TypeId × Value → H) :
    ReturnsInHanded {} Try.checked os 8 .any (Rows.fnExactSlopesBesideSpec.pre6 enc Try.prog Try.f8 Rows.fnExactSlopesBesideRow.domain false) (Rows.fnExactSlopesBesideSpec.post enc Try.prog Try.f8 false true false false) := by
  refine returnsInHanded_of_change (C := Try.checked) own started (by kernel_rfl) Try.func8
    (ChangeSpec.witness6 (enc := enc) (C := Try.checked) false ⟨#[], #[.agg #[.string ByteArray.empty, .string ByteArray.empty], .agg #[.int .i64 0, .int .i64 0]], []⟩ 8 (by kernel_rfl) (by kernel_rfl) (by kernel_rfl) (by kernel_rfl)) ?_
  intro W base args ds gs before hval0 hW hcnd _
  have hval : ∀ (j : Nat) t v, Try.f8.params[j]? = some t → args[j]? = some v → Value.okWide Try.prog W .any base t v := hval0
  have hW' := hW
  obtain ⟨p, q, hA0, hV, rfl, hfz, hnd⟩ := hW
  have hA : DataW.TrodAll enc Try.prog W 0 (fun _ => true) true Try.f8.params.toList args.toList ds p := hA0
  rw [Try.params8] at hA hval
  obtain ⟨v0, vs0, d0, ds0, p0, q0, hargs, rfl, rfl, h0, r0⟩ := trodAll_cons hA
  obtain ⟨v1, vs1, d1, ds1, p1, q1, rfl, rfl, rfl, h1, r1⟩ := trodAll_cons r0
  obtain ⟨rfl, rfl, rfl⟩ := trodAll_nil r1
  obtain rfl : args = #[v0, v1] := by cases args; simp_all
  obtain ⟨rfl, rfl⟩ := trodVars_none hV
  obtain ⟨c0a, c0b, y0a, y0b, m0, rfl, rfl, rfl, hy0a, hy0b⟩ := open_agg2 Try.underlying23 (by kernel_rfl) cellsPair (hval 0 23 v0 rfl rfl) h0
  obtain ⟨a0a, e0a, rfl, w0a⟩ := DataW.trod_string Try.underlying9 hy0a
  obtain ⟨a0b, e0b, rfl, w0b⟩ := DataW.trod_string Try.underlying9 hy0b
  simp at e0a e0b
  subst e0a e0b
  obtain ⟨c1a, c1b, y1a, y1b, m1, rfl, rfl, rfl, hy1a, hy1b⟩ := open_agg2 Try.underlying43 (by kernel_rfl) cellsFrac (hval 1 43 v1 rfl rfl) h1
  obtain ⟨a1a, e1a, rfl, w1a⟩ := DataW.trod_int Try.underlying3 hy1a
  obtain ⟨a1b, e1b, rfl, w1b⟩ := DataW.trod_int Try.underlying3 hy1b
  simp at e1a e1b
  subst e1a e1b
  clear hA0 hval0
  simp only [List.append_nil] at hW'
  refine (fnExactSlopesBeside_walk a0a w0a a0b w0b a1a w1a a1b w1b W).mono fun e W' ⟨he, bel⟩ => ?_
  subst he
  exact ⟨_, rfl, _, _, _, [], _, [], hW', trodAll_mk1 (shut_bool Try.underlying4 _), (trodAll_cons_mk (shut_agg2 (y0 := (.lit (.string a0a.data.toList), [])) (y1 := (.lit (.string a0b.data.toList), [])) Try.underlying23 (by kernel_rfl) cellsPair (Go.Deep.shut_string_cell Try.underlying9 w0a) (Go.Deep.shut_string_cell Try.underlying9 w0b)) (trodAll_cons_mk (shut_agg2 (y0 := (.lit (.int .i64 a1a), [])) (y1 := (.lit (.int .i64 a1b), [])) Try.underlying43 (by kernel_rfl) cellsFrac ⟨1, trod_int_mk 0 Try.underlying3 w1a⟩ ⟨1, trod_int_mk 0 Try.underlying3 w1b⟩) trodAll_mk0)), rfl, bel.frame _, fun h => by cases h⟩

theorem over : Rows.fnExactSlopesBesideRow.holds Try.pinned (OpenSpec.ofChange Rows.fnExactSlopesBesideSpec) :=
  OpenClaim.holds_of_wide 8 Try.f8 rfl rfl rfl rfl rfl rfl rfl ⟨rfl, rfl, rfl, rfl, rfl⟩ rfl rfl rfl rfl rfl (by kernel_rfl) Try.func8 (by kernel_rfl)
    (of_decide_eq_true (by kernel_rfl)) (by unfold Func.isWrapper; first | (rw [if_pos (by decide +kernel)]; kernel_rfl) | (rw [if_neg (by decide +kernel)]; exact ⟨rfl, rfl⟩))
    (fun os started H enc _ => lifted os started H enc)

theorem proved : Rows.FnExactSlopesBesideSaid := over
#print axioms proved
end Go.Proofs.Ytgjdppegkoepfaa.fnExactSlopesBeside
