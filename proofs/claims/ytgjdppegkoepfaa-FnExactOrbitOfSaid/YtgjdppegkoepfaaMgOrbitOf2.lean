/- FnExactOrbitOf: for every input the law returns true and leaves its arguments as they were. No conditions. -/
import Derived.Test.YtgjdppegkoepfaaMgOrbitOf1
import Derived.OwnWalk
import Derived.Deep.RegionHeld3
import Derived.Laws.OwnMore
import Derived.ProofKit
import Derived.OpenShut
import Derived.ShutString
import Derived.ChangeOld
import Derived.Below
import Derived.Lib.SmallJoins
import Derived.ChangeSame
/-! Ob1 -/
namespace Go.Proofs.Ytgjdppegkoepfaa
open Go.RowKit

/-- Two numbers and whether there are any. -/
def ans3 (o : Option (Int × Int)) : Value := .tuple #[.int .i64 (o.getD (0, 0)).1, .int .i64 (o.getD (0, 0)).2, .bool o.isSome]
/-- The slope of the piece on which a number is. -/
def slAt (ps : List (Nat × Nat × Int)) (s : Nat) : Int := (ps.getD (lastTo (ps.map fun x => x.1) s) (0, 0, 0)).2.2
set_option maxHeartbeats 2000000 in
theorem leftSlope_any (g cap : Nat) (ps : List (Nat × Nat × Int)) (n s : Nat) (w : World) (hn : ps.length = n) (hn0 : 0 < n) (hn9 : n ≤ 1000) (hg : g < w.heap.size) (hc1 : n ≤ cap) (hc2 : cap ≤ maxLen)
    (hcell : ∀ i, i < n * 3 → w.cell? ⟨g, i, none⟩ = some (.int .i64 ((flatP ps).getD i 0))) :
    Calls Try.prog 65 #[.int .i64 s, .slice (some ⟨g, 0, none⟩) n cap] w (Gives (.int .i64 (slAt ps s)) w) := by
  have hP := pieceAt_any g cap ps n s w hn hn0 hn9 hg hc1 hc2 hcell
  unfold slAt
  generalize ps.getD (lastTo (ps.map fun x => x.1) s) (0, 0, 0) = q at *
  generalize q.1 = x at *
  generalize q.2.1 = y at *
  generalize q.2.2 = z at *
  have hfld : ∀ w, (Instr.field 107 (.agg #[.int .i64 (x : Int), .int .i64 (y : Int), .int .i64 z]) 2).run Try.prog w = .ok (.int .i64 z) w := fun _ => by kernel_rfl
  clear hcell hn hn0 hn9 hg hc1 hc2
  go_enter Try.func65, Try.ntmps65
  go_wp2_with fail
  refine hP.mono ?_; rintro e w1 ⟨rfl, hb1⟩
  go_wp2_with fail
  go_ret
  exact ⟨rfl, hb1⟩
set_option maxHeartbeats 2000000 in
theorem rightSlope_any (g cap : Nat) (ps : List (Nat × Nat × Int)) (n s : Nat) (w : World) (hn : ps.length = n) (hn0 : 0 < n) (hn9 : n ≤ 1000) (hg : g < w.heap.size) (hc1 : n ≤ cap) (hc2 : cap ≤ maxLen)
    (hcell : ∀ i, i < n * 3 → w.cell? ⟨g, i, none⟩ = some (.int .i64 ((flatP ps).getD i 0))) (hs : 1 ≤ s) (hs2 : s ≤ 1048576) :
    Calls Try.prog 189 #[.int .i64 s, .slice (some ⟨g, 0, none⟩) n cap] w (Gives (.int .i64 (slAt ps (s - 1))) w) := by
  have hP := pieceAt_any g cap ps n (s - 1) w hn hn0 hn9 hg hc1 hc2 hcell
  have hw : IntKind.i64.wrap ((s : Int) - 1) = ((s - 1 : Nat) : Int) := by rw [IntKind.wrap_i64] <;> omega
  unfold slAt
  generalize ps.getD (lastTo (ps.map fun x => x.1) (s - 1)) (0, 0, 0) = q at *
  generalize q.1 = x at *
  generalize q.2.1 = y at *
  generalize q.2.2 = z at *
  have hfld : ∀ w, (Instr.field 107 (.agg #[.int .i64 (x : Int), .int .i64 (y : Int), .int .i64 z]) 2).run Try.prog w = .ok (.int .i64 z) w := fun _ => by kernel_rfl
  clear hcell hn hn0 hn9 hg hc1 hc2
  go_enter Try.func189, Try.ntmps189
  go_wp2_with fail
  refine hP.mono ?_; rintro e w1 ⟨rfl, hb1⟩
  go_wp2_with fail
  go_ret
  exact ⟨rfl, hb1⟩
/-- The pieces of a pair as a slice that the call has made. -/
theorem leafPieces_cells (p : Pr) (w : World) (h1 : p.1.carets ≤ 8) (h2 : p.2.carets ≤ 8) (he : p.1.carets = p.2.carets) :
    Calls Try.prog 62 #[.agg #[.string p.1.str, .string p.2.str]] w fun e w' => ∃ g cap : Nat, g < w'.heap.size ∧ p.1.carets + 1 ≤ cap ∧ cap ≤ maxLen ∧ (∀ i, i < (p.1.carets + 1) * 3 → w'.cell? ⟨g, i, none⟩ = some (.int .i64 ((flatP (pcs p)).getD i 0))) ∧ Below w.heap.size w w' ∧ e = .returned (.slice (some ⟨g, 0, none⟩) (p.1.carets + 1 : Nat) cap) := by
  have hpl := pcs_len p he
  refine (leafPieces_any p w h1 h2 he).mono ?_
  rintro e w' ⟨v, own, hb, rfl⟩
  rcases own.cells with ⟨_, h0⟩ | ⟨g, cap, rfl, _, hg, h1, h2, h3, _⟩
  · omega
  · rw [hpl] at h1 h3 ⊢
    exact ⟨g, cap, hg, h1, h2, h3, hb, rfl⟩
/-- One of both ends, as the program has it. -/
def endV : Bool → Nat → Value
  | true, s => .iface 63 (.int .i64 s)
  | false, s => .iface 64 (.int .i64 s)
def endF : Bool → FuncId
  | true => 65
  | false => 189
def endT : Bool → TypeId
  | true => 63
  | false => 64
def endS (ps : List (Nat × Nat × Int)) : Bool → Nat → Int
  | true, s => slAt ps s
  | false, s => slAt ps (s - 1)
theorem endV_eq (k : Bool) (s : Nat) : endV k s = .iface (endT k) (.int .i64 s) := by cases k <;> rfl
set_option maxRecDepth 100000 in
theorem nilAhead_end (k : Bool) (s : Int) : ∀ (m : Nat) (w : World), (nilAhead (m + 1) (endT k) (.int .i64 s) "loop.example/g01161/impl.slopeInside").run Try.prog w = .ok (some false) w := by
  cases k with
  | true => exact fun m w => by kernel_rfl
  | false => exact fun m w => by kernel_rfl
set_option maxRecDepth 100000 in
theorem method_end (k : Bool) (s : Int) : ∀ (m : Nat) (w : World), (method (m + 1) (endT k) (.int .i64 s) "loop.example/g01161/impl.slopeInside").run Try.prog w = .ok (endF k, .int .i64 s) w := by
  cases k with
  | true => exact fun m w => by kernel_rfl
  | false => exact fun m w => by kernel_rfl
set_option maxRecDepth 100000 in
theorem call_end (k : Bool) : ∀ (args : Array Value) (w : World), (callFunc (endF k) args).run Try.prog w = .ok (.enter (endF k) args) w := by
  cases k with
  | true => exact fun m w => by kernel_rfl
  | false => exact fun m w => by kernel_rfl
theorem endSlope_any (k : Bool) (g cap : Nat) (ps : List (Nat × Nat × Int)) (n s : Nat) (w : World) (hn : ps.length = n) (hn0 : 0 < n) (hn9 : n ≤ 1000) (hg : g < w.heap.size) (hc1 : n ≤ cap) (hc2 : cap ≤ maxLen)
    (hcell : ∀ i, i < n * 3 → w.cell? ⟨g, i, none⟩ = some (.int .i64 ((flatP ps).getD i 0))) (hs : k = false → 1 ≤ s) (hs2 : s ≤ 1048576) :
    Calls Try.prog (endF k) #[.int .i64 s, .slice (some ⟨g, 0, none⟩) n cap] w (Gives (.int .i64 (endS ps k s)) w) := by
  cases k with
  | true => exact leftSlope_any g cap ps n s w hn hn0 hn9 hg hc1 hc2 hcell
  | false => exact rightSlope_any g cap ps n s w hn hn0 hn9 hg hc1 hc2 hcell (hs rfl) hs2
/-- The slopes beside two ends. -/
def slopesO (a b : ByteArray) (j : Bool) (s : Nat) (k : Bool) (t : Nat) : Option (Int × Int) := (pairOf a b).map fun p => (endS (pcs p) j s, endS (pcs p) k t)
set_option maxRecDepth 100000 in
set_option maxHeartbeats 4000000 in
theorem slopesAt_any (a b : ByteArray) (j : Bool) (s : Nat) (k : Bool) (t : Nat) (w : World) (ha : a.size ≤ 9223372036854775806) (hb : b.size ≤ 9223372036854775806) (hs : j = false → 1 ≤ s) (hs2 : s ≤ 1048576) (ht : k = false → 1 ≤ t) (ht2 : t ≤ 1048576) :
    Calls Try.prog 48 #[.agg #[.string a, .string b], endV j s, endV k t] w (Gives (ans3 (slopesO a b j s k t)) w) := by
  unfold slopesO
  have hg := fun w => isPair_any a b w ha hb
  rw [endV_eq, endV_eq]
  cases h : pairOf a b with
  | none =>
    rw [h] at hg
    show Calls _ _ _ _ (Gives (ans3 none) w)
    clear h hs hs2 ht ht2
    go_enter Try.func48, Try.ntmps48
    go_wp2_with fail
    have hb0 : Below w.heap.size w (w.alloc (.cells #[.string a, .string b] 27 (0, 0))) := nxAlloc (Below.refl _ _) _
    have hx0 := heap_alloc_at w (.cells #[.string a, .string b] 27 (0, 0))
    generalize (w.alloc (.cells #[.string a, .string b] 27 (0, 0))) = w0 at *
    obtain ⟨hx0a, hx0b, hx0c⟩ := two_facts hx0
    obtain ⟨hx0f, hx0g⟩ := two_frozen hx0
    refine (hg _).mono ?_; rintro e w1 ⟨rfl, hb1⟩
    have hbw1 := nx hb0 hb1
    replace hx0 := heap_keep hb1 hx0
    clear hx0a hx0b hx0c hx0f hx0g
    obtain ⟨hx0a, hx0b, hx0c⟩ := two_facts hx0
    obtain ⟨hx0f, hx0g⟩ := two_frozen hx0
    clear hb1 hb0
    go_wp2_with fail
    go_ret3
    exact ⟨rfl, hbw1⟩
  | some p =>
    rw [h] at hg
    obtain ⟨rfl, rfl, hok, hc1, hc2⟩ := pairOf_some h
    clear h
    show Calls _ _ _ _ (Gives (ans3 (some (endS (pcs p) j s, endS (pcs p) k t))) w)
    have hM := fun w => leafPieces_cells p w hc1 hc2 hok
    have hpl := pcs_len p hok
    have E1 := fun g cap w h1 h2 h3 h4 => endSlope_any j g cap (pcs p) (p.1.carets + 1) s w hpl (by omega) (by omega) h1 h2 h3 h4 hs hs2
    have E2 := fun g cap w h1 h2 h3 h4 => endSlope_any k g cap (pcs p) (p.1.carets + 1) t w hpl (by omega) (by omega) h1 h2 h3 h4 ht ht2
    have nj := nilAhead_end j s
    have mj := method_end j s
    have cj := call_end j
    have nk := nilAhead_end k t
    have mk := method_end k t
    have ck := call_end k
    generalize endS (pcs p) j s = x at *
    generalize endS (pcs p) k t = y at *
    generalize pcs p = ps at *
    have hm0 : 0 < p.1.carets + 1 := by omega
    generalize p.1.carets + 1 = m at *
    clear hs hs2 ht ht2 hpl
    go_enter Try.func48, Try.ntmps48
    go_wp2_with fail
    have hb0 : Below w.heap.size w (w.alloc (.cells #[.string p.1.str, .string p.2.str] 27 (0, 0))) := nxAlloc (Below.refl _ _) _
    have hx0 := heap_alloc_at w (.cells #[.string p.1.str, .string p.2.str] 27 (0, 0))
    generalize (w.alloc (.cells #[.string p.1.str, .string p.2.str] 27 (0, 0))) = w0 at *
    obtain ⟨hx0a, hx0b, hx0c⟩ := two_facts hx0
    obtain ⟨hx0f, hx0g⟩ := two_frozen hx0
    refine (hg _).mono ?_; rintro e w1 ⟨rfl, hb1⟩
    have hbw1 := nx hb0 hb1
    replace hx0 := heap_keep hb1 hx0
    clear hx0a hx0b hx0c hx0f hx0g
    obtain ⟨hx0a, hx0b, hx0c⟩ := two_facts hx0
    obtain ⟨hx0f, hx0g⟩ := two_frozen hx0
    clear hb1 hb0
    go_wp2_with fail
    refine (hM _).mono ?_; rintro e w2 ⟨g, cap, hg2, m1, m2, hcl, hb2, rfl⟩
    have hbw2 := nx hbw1 hb2
    have HC := Lib.hid hcl
    clear hcl hM hg
    go_wp2_with fail
    refine (E1 g cap _ hg2 m1 m2 HC.out).mono ?_; rintro e w3 ⟨rfl, hb3⟩
    have hbw3 := nx hbw2 hb3
    go_wp2_with fail
    refine (E2 g cap _ (Nat.lt_of_lt_of_le hg2 hb3.size) m1 m2 (fun i hi => keep_cell hb3 (HC.out i hi))).mono ?_; rintro e w4 ⟨rfl, hb4⟩
    have hbw4 := nx hbw3 hb4
    go_wp2_with fail
    go_ret3
    exact ⟨rfl, hbw4⟩
end Go.Proofs.Ytgjdppegkoepfaa

/-! Vl1 -/
namespace Go.Proofs.Ytgjdppegkoepfaa
open Go.RowKit

set_option maxHeartbeats 4000000 in
theorem valueAt_any (x y s la lb : Nat) (w : World) (hla : la ≤ 8) (hlb : lb ≤ 8) (h1 : x ≤ s) (h2 : s ≤ 1048576) (h3 : y ≤ 1048576) :
    Calls Try.prog 102 #[.agg #[.int .i64 x, .int .i64 y, .int .i64 ((la : Int) - (lb : Int))], .int .i64 s] w (Gives (.int .i64 (valN x la y lb s)) w) := by
  by_cases h : lb ≤ la
  · rw [valN_up h]
    obtain ⟨d, hd⟩ : ∃ d, la - lb = d := ⟨_, rfl⟩
    have hz : (la : Int) - (lb : Int) = (d : Int) := by omega
    rw [hz, hd]
    have hd8 : d ≤ 8 := by omega
    clear hz hd h hla hlb
    have hd9 : d = 0 ∨ d = 1 ∨ d = 2 ∨ d = 3 ∨ d = 4 ∨ d = 5 ∨ d = 6 ∨ d = 7 ∨ d = 8 := by omega
    rcases hd9 with e | e | e | e | e | e | e | e | e <;>
    (subst e
     go_enter Try.func102, Try.ntmps102
     go_wp2_with fail
     go_quiet (fail)
     go_wp2_with fail
     go_ret
     exact ⟨ret_int (by omega), drewB (nxAlloc (Below.refl _ _) _) _⟩)
  · rw [valN_down (by omega)]
    obtain ⟨d, hd⟩ : ∃ d, lb - la = d := ⟨_, rfl⟩
    have hz : (la : Int) - (lb : Int) = -(d : Int) := by omega
    rw [hz, hd]
    have hd8 : d ≤ 8 := by omega
    have hd1 : 1 ≤ d := by omega
    clear hz hd h hla hlb
    have hd9 : d = 1 ∨ d = 2 ∨ d = 3 ∨ d = 4 ∨ d = 5 ∨ d = 6 ∨ d = 7 ∨ d = 8 := by omega
    rcases hd9 with e | e | e | e | e | e | e | e <;>
    (subst e
     go_enter Try.func102, Try.ntmps102
     go_wp2_with fail
     go_quiet (fail)
     go_wp2_with fail
     go_ret
     exact ⟨ret_int (by omega), drewB (nxAlloc (Below.refl _ _) _) _⟩)
end Go.Proofs.Ytgjdppegkoepfaa

/-! Vl2 -/
namespace Go.Proofs.Ytgjdppegkoepfaa
open Go.RowKit

/-- The value of a number of steps under a pair. -/
def valP (p : Pr) (s : Nat) : Nat := valN (stA ((p.1.addrs ⟨#[]⟩).getD (lastTo p.1.starts s) ⟨#[]⟩)) ((p.1.addrs ⟨#[]⟩).getD (lastTo p.1.starts s) ⟨#[]⟩).size (stA ((p.2.addrs ⟨#[]⟩).getD (lastTo p.1.starts s) ⟨#[]⟩)) ((p.2.addrs ⟨#[]⟩).getD (lastTo p.1.starts s) ⟨#[]⟩).size s
theorem keep_set2 {w : World} {b g o : Nat} {v u1 u2 : Value} (h : w.cell? ⟨b, o, none⟩ = some v) (hne : b < g) : ((w.setCell ⟨g, 0, none⟩ u1).setCell ⟨g, 1, none⟩ u2).cell? ⟨b, o, none⟩ = some v := by
  have hB : Below g w ((w.setCell ⟨g, 0, none⟩ u1).setCell ⟨g, 1, none⟩ u2) := ((Below.refl g w).setCell (Nat.le_refl g) u1).setCell (Nat.le_refl g) u2
  exact (hB.cell (p := ⟨b, o, none⟩) hne).trans h
/-- To what a fraction is carried. -/
def valueO (a b : ByteArray) (n d : Int) : Option (Nat × Nat) := (pairOf a b).bind fun p => if isFr n d = true then frA (valP p (stepsOf n d)) else none
theorem val_facts (p : Pr) (h1 : p.1.carets ≤ 8) (h2 : p.2.carets ≤ 8) (he : p.1.carets = p.2.carets) (s : Nat) :
    ∃ a b : ByteArray, a = (p.1.addrs ⟨#[]⟩).getD (lastTo p.1.starts s) ⟨#[]⟩ ∧ b = (p.2.addrs ⟨#[]⟩).getD (lastTo p.1.starts s) ⟨#[]⟩ ∧ lastTo p.1.starts s < p.1.carets + 1 ∧
      a.size ≤ 8 ∧ b.size ≤ 8 ∧ a.data.toList.all isBit = true ∧ b.data.toList.all isBit = true ∧ stA a ≤ s ∧ valP p s = valN (stA a) a.size (stA b) b.size s ∧
      (pcs p).getD (lastTo p.1.starts s) (0, 0, 0) = (stA a, stA b, (a.size : Int) - b.size) := by
  have hl := starts_length p.1
  have hlt := lastTo_lt p.1.starts s (by omega)
  rw [hl] at hlt
  obtain ⟨a, ea, a1, a2⟩ := addr_facts p.1 h1 hlt
  obtain ⟨b, eb, b1, b2⟩ := addr_facts p.2 h2 (k := lastTo p.1.starts s) (by omega)
  have l1 := addrs_length p.1 ⟨#[]⟩
  have l2 := addrs_length p.2 ⟨#[]⟩
  have hs := lastTo_le p.1.starts s (starts_first p.1)
  rw [starts_at p.1 hlt, ← ea] at hs
  refine ⟨a, b, ea, eb, hlt, a1, b1, a2, b2, hs, ?_, ?_⟩
  · unfold valP
    rw [← ea, ← eb]
  · rw [ea, eb]
    exact pcsL_get _ _ (by omega) _ (by omega)

set_option maxRecDepth 100000 in
set_option maxHeartbeats 4000000 in
theorem implValueOf_any (a b : ByteArray) (n d : Int) (w : World) (ha : a.size ≤ 9223372036854775806) (hb : b.size ≤ 9223372036854775806) (_l1 : -9223372036854775808 ≤ n) (_u1 : n ≤ 9223372036854775807) (_l2 : -9223372036854775808 ≤ d) (_u2 : d ≤ 9223372036854775807) :
    Calls Try.prog 74 #[.agg #[.string a, .string b], .agg #[.int .i64 n, .int .i64 d]] w (Gives (ansF (valueO a b n d)) w) := by
  unfold valueO
  have hg := fun w => isPair_any a b w ha hb
  have hk := fun w => isFraction_any n d w
  cases h : pairOf a b with
  | none =>
    rw [h] at hg
    show Calls _ _ _ _ (Gives (ansF none) w)
    clear h hk _l1 _u1 _l2 _u2
    go_enter Try.func74, Try.ntmps74
    go_wp2_with fail
    have hb0 : Below w.heap.size w (((w.alloc (.cells #[.string a, .string b] 27 (0, 0))).alloc (.cells #[.int .i64 n, .int .i64 d] 45 (0, 0))).alloc (.cells #[.int .i64 0, .int .i64 0] 45 (0, 0))) := nxAlloc (nxAlloc (nxAlloc (Below.refl _ _) _) _) _
    have hx0 := heap_keep (nxAlloc (Below.refl _ _) (.cells #[.int .i64 0, .int .i64 0] 45 (0, 0))) (heap_keep (nxAlloc (Below.refl _ _) (.cells #[.int .i64 n, .int .i64 d] 45 (0, 0))) (heap_alloc_at w (.cells #[.string a, .string b] 27 (0, 0))))
    have hx1 := heap_keep (nxAlloc (Below.refl _ _) (.cells #[.int .i64 0, .int .i64 0] 45 (0, 0))) (heap_alloc_at (w.alloc (.cells #[.string a, .string b] 27 (0, 0))) (.cells #[.int .i64 n, .int .i64 d] 45 (0, 0)))
    have hx2 := heap_alloc_at ((w.alloc (.cells #[.string a, .string b] 27 (0, 0))).alloc (.cells #[.int .i64 n, .int .i64 d] 45 (0, 0))) (.cells #[.int .i64 0, .int .i64 0] 45 (0, 0))
    generalize (((w.alloc (.cells #[.string a, .string b] 27 (0, 0))).alloc (.cells #[.int .i64 n, .int .i64 d] 45 (0, 0))).alloc (.cells #[.int .i64 0, .int .i64 0] 45 (0, 0))) = w0 at *
    have e1 : (w.alloc (.cells #[.string a, .string b] 27 (0, 0))).heap.size = w.heap.size + 1 := by simp
    rw [e1] at hx1
    clear e1
    have e2 : ((w.alloc (.cells #[.string a, .string b] 27 (0, 0))).alloc (.cells #[.int .i64 n, .int .i64 d] 45 (0, 0))).heap.size = w.heap.size + 1 + 1 := by simp
    rw [e2] at hx2
    clear e2
    obtain ⟨hx0a, hx0b, hx0c⟩ := two_facts hx0
    obtain ⟨hx0f, hx0g⟩ := two_frozen hx0
    obtain ⟨hx1a, hx1b, hx1c⟩ := two_facts hx1
    obtain ⟨hx1f, hx1g⟩ := two_frozen hx1
    obtain ⟨hx2a, hx2b, hx2c⟩ := two_facts hx2
    obtain ⟨hx2f, hx2g⟩ := two_frozen hx2
    refine (hg _).mono ?_; rintro e w1 ⟨rfl, hb1⟩
    have hbw1 := nx hb0 hb1
    replace hx0 := heap_keep hb1 hx0
    replace hx1 := heap_keep hb1 hx1
    replace hx2 := heap_keep hb1 hx2
    clear hx0a hx0b hx0c hx0f hx0g
    obtain ⟨hx0a, hx0b, hx0c⟩ := two_facts hx0
    obtain ⟨hx0f, hx0g⟩ := two_frozen hx0
    clear hx1a hx1b hx1c hx1f hx1g
    obtain ⟨hx1a, hx1b, hx1c⟩ := two_facts hx1
    obtain ⟨hx1f, hx1g⟩ := two_frozen hx1
    clear hx2a hx2b hx2c hx2f hx2g
    obtain ⟨hx2a, hx2b, hx2c⟩ := two_facts hx2
    obtain ⟨hx2f, hx2g⟩ := two_frozen hx2
    clear hb1 hb0
    go_wp2_with fail
    obtain ⟨q1, q2⟩ := two_cells (set_two (.int .i64 0) (.int .i64 0) hx2)
    refine bodyPost_ret (v := .tuple #[.agg #[.int .i64 0, .int .i64 0], .bool false]) (by simp [q1, q2, results, Try.results74, go_sem]) rfl ⟨rfl, ?_⟩
    exact (hbw1.setCell (by show w.heap.size ≤ w.heap.size + 1 + 1; omega) _).setCell (by show w.heap.size ≤ w.heap.size + 1 + 1; omega) _
  | some p =>
    rw [h] at hg
    obtain ⟨rfl, rfl, hok, hc1, hc2⟩ := pairOf_some h
    clear h
    cases k : isFr n d with
    | false =>
      rw [k] at hk
      show Calls _ _ _ _ (Gives (ansF none) w)
      clear _l1 _u1 _l2 _u2 k
      go_enter Try.func74, Try.ntmps74
      go_wp2_with fail
      have hb0 : Below w.heap.size w (((w.alloc (.cells #[.string p.1.str, .string p.2.str] 27 (0, 0))).alloc (.cells #[.int .i64 n, .int .i64 d] 45 (0, 0))).alloc (.cells #[.int .i64 0, .int .i64 0] 45 (0, 0))) := nxAlloc (nxAlloc (nxAlloc (Below.refl _ _) _) _) _
      have hx0 := heap_keep (nxAlloc (Below.refl _ _) (.cells #[.int .i64 0, .int .i64 0] 45 (0, 0))) (heap_keep (nxAlloc (Below.refl _ _) (.cells #[.int .i64 n, .int .i64 d] 45 (0, 0))) (heap_alloc_at w (.cells #[.string p.1.str, .string p.2.str] 27 (0, 0))))
      have hx1 := heap_keep (nxAlloc (Below.refl _ _) (.cells #[.int .i64 0, .int .i64 0] 45 (0, 0))) (heap_alloc_at (w.alloc (.cells #[.string p.1.str, .string p.2.str] 27 (0, 0))) (.cells #[.int .i64 n, .int .i64 d] 45 (0, 0)))
      have hx2 := heap_alloc_at ((w.alloc (.cells #[.string p.1.str, .string p.2.str] 27 (0, 0))).alloc (.cells #[.int .i64 n, .int .i64 d] 45 (0, 0))) (.cells #[.int .i64 0, .int .i64 0] 45 (0, 0))
      generalize (((w.alloc (.cells #[.string p.1.str, .string p.2.str] 27 (0, 0))).alloc (.cells #[.int .i64 n, .int .i64 d] 45 (0, 0))).alloc (.cells #[.int .i64 0, .int .i64 0] 45 (0, 0))) = w0 at *
      have e1 : (w.alloc (.cells #[.string p.1.str, .string p.2.str] 27 (0, 0))).heap.size = w.heap.size + 1 := by simp
      rw [e1] at hx1
      clear e1
      have e2 : ((w.alloc (.cells #[.string p.1.str, .string p.2.str] 27 (0, 0))).alloc (.cells #[.int .i64 n, .int .i64 d] 45 (0, 0))).heap.size = w.heap.size + 1 + 1 := by simp
      rw [e2] at hx2
      clear e2
      obtain ⟨hx0a, hx0b, hx0c⟩ := two_facts hx0
      obtain ⟨hx0f, hx0g⟩ := two_frozen hx0
      obtain ⟨hx1a, hx1b, hx1c⟩ := two_facts hx1
      obtain ⟨hx1f, hx1g⟩ := two_frozen hx1
      obtain ⟨hx2a, hx2b, hx2c⟩ := two_facts hx2
      obtain ⟨hx2f, hx2g⟩ := two_frozen hx2
      refine (hg _).mono ?_; rintro e w1 ⟨rfl, hb1⟩
      have hbw1 := nx hb0 hb1
      replace hx0 := heap_keep hb1 hx0
      replace hx1 := heap_keep hb1 hx1
      replace hx2 := heap_keep hb1 hx2
      clear hx0a hx0b hx0c hx0f hx0g
      obtain ⟨hx0a, hx0b, hx0c⟩ := two_facts hx0
      obtain ⟨hx0f, hx0g⟩ := two_frozen hx0
      clear hx1a hx1b hx1c hx1f hx1g
      obtain ⟨hx1a, hx1b, hx1c⟩ := two_facts hx1
      obtain ⟨hx1f, hx1g⟩ := two_frozen hx1
      clear hx2a hx2b hx2c hx2f hx2g
      obtain ⟨hx2a, hx2b, hx2c⟩ := two_facts hx2
      obtain ⟨hx2f, hx2g⟩ := two_frozen hx2
      clear hb1 hb0
      go_wp2_with fail
      refine (hk _).mono ?_; rintro e w2 ⟨rfl, hb2⟩
      have hbw2 := nx hbw1 hb2
      replace hx0 := heap_keep hb2 hx0
      replace hx1 := heap_keep hb2 hx1
      replace hx2 := heap_keep hb2 hx2
      clear hx0a hx0b hx0c hx0f hx0g
      obtain ⟨hx0a, hx0b, hx0c⟩ := two_facts hx0
      obtain ⟨hx0f, hx0g⟩ := two_frozen hx0
      clear hx1a hx1b hx1c hx1f hx1g
      obtain ⟨hx1a, hx1b, hx1c⟩ := two_facts hx1
      obtain ⟨hx1f, hx1g⟩ := two_frozen hx1
      clear hx2a hx2b hx2c hx2f hx2g
      obtain ⟨hx2a, hx2b, hx2c⟩ := two_facts hx2
      obtain ⟨hx2f, hx2g⟩ := two_frozen hx2
      clear hb2 hbw1
      go_wp2_with fail
      obtain ⟨q1, q2⟩ := two_cells (set_two (.int .i64 0) (.int .i64 0) hx2)
      refine bodyPost_ret (v := .tuple #[.agg #[.int .i64 0, .int .i64 0], .bool false]) (by simp [q1, q2, results, Try.results74, go_sem]) rfl ⟨rfl, ?_⟩
      exact (hbw2.setCell (by show w.heap.size ≤ w.heap.size + 1 + 1; omega) _).setCell (by show w.heap.size ≤ w.heap.size + 1 + 1; omega) _
    | true =>
      rw [k] at hk
      show Calls _ _ _ _ (Gives (ansF (frA (valP p (stepsOf n d)))) w)
      clear _l1 _u1 _l2 _u2
      obtain ⟨n, d, rfl, rfl, n1, d1, d2⟩ := isFr_nats k
      have hpl := pcs_len p hok
      have hps := pcs_starts p hok
      have hsl := (steps_le k).1
      have hsm := (steps_le k).2.1
      obtain ⟨a, b, ea, eb, hlt, a8, b8, ab, bb, hsa, hv, hget⟩ := val_facts p hc1 hc2 hok (stepsOf n d)
      rw [hv]
      have hsb := stA_lt (a := b) (by omega) bb
      have hVd := valN_bd (sa := stA a) (lb := b.size) hsl (Nat.le_of_lt hsb) a8
      have hs := fun w => steps_any n d w k
      have hM := fun w => leafPieces_any p w hc1 hc2 hok
      have hV := fun w => valueAt_any (stA a) (stA b) (stepsOf n d) a.size b.size w a8 b8 hsa hsl (Nat.le_of_lt hsb)
      have hF := fun w => fractionAt_any (valN (stA a) a.size (stA b) b.size (stepsOf n d)) w (by omega)
      rw [← hps] at hget
      have hpl9 : (pcs p).length ≤ 9 := by omega
      have hpl0 : 0 < (pcs p).length := by omega
      generalize valN (stA a) a.size (stA b) b.size (stepsOf n d) = v at *
      generalize stepsOf n d = s at *
      generalize pcs p = ps at *
      generalize stA a = x at *
      generalize stA b = y at *
      generalize (a.size : Int) - (b.size : Int) = z at *
      obtain ⟨m, hm⟩ : ∃ m, ps.length = m := ⟨_, rfl⟩
      have hM' : ∀ w, Calls Try.prog 62 #[.agg #[.string p.1.str, .string p.2.str]] w fun e w' => ∃ g cap : Nat, g < w'.heap.size ∧ m ≤ cap ∧ cap ≤ maxLen ∧ (∀ i, i < m * 3 → w'.cell? ⟨g, i, none⟩ = some (.int .i64 ((flatP ps).getD i 0))) ∧ Below w.heap.size w w' ∧ e = .returned (.slice (some ⟨g, 0, none⟩) m cap) := by
        intro w
        refine (hM w).mono ?_
        rintro e w' ⟨v, own, hb, rfl⟩
        rcases own.cells with ⟨_, h0⟩ | ⟨g, cap, rfl, _, hg, h1, h2, h3, _⟩
        · omega
        · rw [hm] at h1 h3 ⊢
          exact ⟨g, cap, hg, h1, h2, h3, hb, rfl⟩
      have hP := fun g cap w hg h1 h2 h3 => pieceAt_any g cap ps m s w hm (by omega) (by omega) hg h1 h2 h3
      rw [hget] at hP
      generalize hA : frA v = A at *
      unfold ansF at hF ⊢
      generalize fS1 A = y1 at *
      generalize fS2 A = y2 at *
      generalize A.isSome = ok at *
      clear hM hps hpl hlt k hm hpl9 hpl0 ea eb a8 b8 ab bb hsa hv hsb hVd hget hA hsl hsm
      go_enter Try.func74, Try.ntmps74
      go_wp2_with fail
      have hb0 : Below w.heap.size w (((w.alloc (.cells #[.string p.1.str, .string p.2.str] 27 (0, 0))).alloc (.cells #[.int .i64 n, .int .i64 d] 45 (0, 0))).alloc (.cells #[.int .i64 0, .int .i64 0] 45 (0, 0))) := nxAlloc (nxAlloc (nxAlloc (Below.refl _ _) _) _) _
      have hx0 := heap_keep (nxAlloc (Below.refl _ _) (.cells #[.int .i64 0, .int .i64 0] 45 (0, 0))) (heap_keep (nxAlloc (Below.refl _ _) (.cells #[.int .i64 n, .int .i64 d] 45 (0, 0))) (heap_alloc_at w (.cells #[.string p.1.str, .string p.2.str] 27 (0, 0))))
      have hx1 := heap_keep (nxAlloc (Below.refl _ _) (.cells #[.int .i64 0, .int .i64 0] 45 (0, 0))) (heap_alloc_at (w.alloc (.cells #[.string p.1.str, .string p.2.str] 27 (0, 0))) (.cells #[.int .i64 n, .int .i64 d] 45 (0, 0)))
      have hx2 := heap_alloc_at ((w.alloc (.cells #[.string p.1.str, .string p.2.str] 27 (0, 0))).alloc (.cells #[.int .i64 n, .int .i64 d] 45 (0, 0))) (.cells #[.int .i64 0, .int .i64 0] 45 (0, 0))
      generalize (((w.alloc (.cells #[.string p.1.str, .string p.2.str] 27 (0, 0))).alloc (.cells #[.int .i64 n, .int .i64 d] 45 (0, 0))).alloc (.cells #[.int .i64 0, .int .i64 0] 45 (0, 0))) = w0 at *
      have e1 : (w.alloc (.cells #[.string p.1.str, .string p.2.str] 27 (0, 0))).heap.size = w.heap.size + 1 := by simp
      rw [e1] at hx1
      clear e1
      have e2 : ((w.alloc (.cells #[.string p.1.str, .string p.2.str] 27 (0, 0))).alloc (.cells #[.int .i64 n, .int .i64 d] 45 (0, 0))).heap.size = w.heap.size + 1 + 1 := by simp
      rw [e2] at hx2
      clear e2
      obtain ⟨hx0a, hx0b, hx0c⟩ := two_facts hx0
      obtain ⟨hx0f, hx0g⟩ := two_frozen hx0
      obtain ⟨hx1a, hx1b, hx1c⟩ := two_facts hx1
      obtain ⟨hx1f, hx1g⟩ := two_frozen hx1
      obtain ⟨hx2a, hx2b, hx2c⟩ := two_facts hx2
      obtain ⟨hx2f, hx2g⟩ := two_frozen hx2
      refine (hg _).mono ?_; rintro e w1 ⟨rfl, hb1⟩
      have hbw1 := nx hb0 hb1
      replace hx0 := heap_keep hb1 hx0
      replace hx1 := heap_keep hb1 hx1
      replace hx2 := heap_keep hb1 hx2
      clear hx0a hx0b hx0c hx0f hx0g
      obtain ⟨hx0a, hx0b, hx0c⟩ := two_facts hx0
      obtain ⟨hx0f, hx0g⟩ := two_frozen hx0
      clear hx1a hx1b hx1c hx1f hx1g
      obtain ⟨hx1a, hx1b, hx1c⟩ := two_facts hx1
      obtain ⟨hx1f, hx1g⟩ := two_frozen hx1
      clear hx2a hx2b hx2c hx2f hx2g
      obtain ⟨hx2a, hx2b, hx2c⟩ := two_facts hx2
      obtain ⟨hx2f, hx2g⟩ := two_frozen hx2
      clear hb1 hb0
      go_wp2_with fail
      refine (hk _).mono ?_; rintro e w2 ⟨rfl, hb2⟩
      have hbw2 := nx hbw1 hb2
      replace hx0 := heap_keep hb2 hx0
      replace hx1 := heap_keep hb2 hx1
      replace hx2 := heap_keep hb2 hx2
      clear hx0a hx0b hx0c hx0f hx0g
      obtain ⟨hx0a, hx0b, hx0c⟩ := two_facts hx0
      obtain ⟨hx0f, hx0g⟩ := two_frozen hx0
      clear hx1a hx1b hx1c hx1f hx1g
      obtain ⟨hx1a, hx1b, hx1c⟩ := two_facts hx1
      obtain ⟨hx1f, hx1g⟩ := two_frozen hx1
      clear hx2a hx2b hx2c hx2f hx2g
      obtain ⟨hx2a, hx2b, hx2c⟩ := two_facts hx2
      obtain ⟨hx2f, hx2g⟩ := two_frozen hx2
      clear hb2 hbw1
      go_wp2_with fail
      have hz := Below.refl w2.heap.size w2
      go_region_held3 (fun w' => w'.cell? ⟨w.heap.size, 0, none⟩ = some (.string p.1.str) ∧ w'.cell? ⟨w.heap.size, 1, none⟩ = some (.string p.2.str) ∧ w'.cell? ⟨w.heap.size + 1, 0, none⟩ = some (.int .i64 n) ∧ w'.cell? ⟨w.heap.size + 1, 1, none⟩ = some (.int .i64 d))
        (first
          | exact ⟨hx0a, hx0b, hx1a, hx1b⟩
          | exact K1
          | exact K2
          | exact K3
          | exact K4
          | exact K5
          | exact K6
          | exact K7 _ _)
        (first
          | (go_at_call 62; refine (hM' _).mono ?_; rintro e w3 ⟨g, cap, hg3, m1, m2, hcl, hb3, rfl⟩; have hb3' := nx hz.drew hb3; have K1 := And.intro (keep_cell hb3' hx0a) (And.intro (keep_cell hb3' hx0b) (And.intro (keep_cell hb3' hx1a) (keep_cell hb3' hx1b))))
          | (go_at_call 70; refine (hs _).mono ?_; rintro e w4 ⟨rfl, hb4⟩; have hb4' := nx hb3' hb4; have K2 := And.intro (keep_cell hb4' hx0a) (And.intro (keep_cell hb4' hx0b) (And.intro (keep_cell hb4' hx1a) (keep_cell hb4' hx1b))); have hcl4 := fun i (hi : i < m * 3) => keep_cell hb4 (hcl i hi); have hg4 := Nat.lt_of_lt_of_le hg3 hb4.size; have hP' := hP g cap w4 hg4 m1 m2 hcl4)
          | (go_at_call 99; refine hP'.mono ?_; rintro e w5 ⟨rfl, hb5⟩; have hb5' := nx hb4' hb5; have K3 := And.intro (keep_cell hb5' hx0a) (And.intro (keep_cell hb5' hx0b) (And.intro (keep_cell hb5' hx1a) (keep_cell hb5' hx1b))))
          | (go_at_call 70; refine (hs _).mono ?_; rintro e w6 ⟨rfl, hb6⟩; have hb6' := nx hb5' hb6; have K4 := And.intro (keep_cell hb6' hx0a) (And.intro (keep_cell hb6' hx0b) (And.intro (keep_cell hb6' hx1a) (keep_cell hb6' hx1b))))
          | (go_at_call 102; refine (hV _).mono ?_; rintro e w7 ⟨rfl, hb7⟩; have hb7' := nx hb6' hb7; have K5 := And.intro (keep_cell hb7' hx0a) (And.intro (keep_cell hb7' hx0b) (And.intro (keep_cell hb7' hx1a) (keep_cell hb7' hx1b))))
          | (go_at_call 101; refine (hF _).mono ?_; rintro e w8 ⟨rfl, hb8⟩; have hb8' := nx hb7' hb8; have K6 := And.intro (keep_cell hb8' hx0a) (And.intro (keep_cell hb8' hx0b) (And.intro (keep_cell hb8' hx1a) (keep_cell hb8' hx1b))); have hx8 := heap_keep hb8' hx2; obtain ⟨sa, sb, sc⟩ := two_facts hx8; obtain ⟨sf, sg⟩ := two_frozen hx8; have K7 := fun (u1 u2 : Value) => And.intro (keep_set2 (u1 := u1) (u2 := u2) (g := w.heap.size + 2) K6.1 (by omega)) (And.intro (keep_set2 (u1 := u1) (u2 := u2) (g := w.heap.size + 2) K6.2.1 (by omega)) (And.intro (keep_set2 (u1 := u1) (u2 := u2) (g := w.heap.size + 2) K6.2.2.1 (by omega)) (keep_set2 (u1 := u1) (u2 := u2) (g := w.heap.size + 2) K6.2.2.2 (by omega))))))
      go_wp2_with fail
      have hbw8 := nx hbw2 hb8'
      replace hx2 := heap_keep hb8' hx2
      obtain ⟨q1, q2⟩ := two_cells (set_two (.int .i64 y1) (.int .i64 y2) hx2)
      refine bodyPost_ret (v := .tuple #[.agg #[.int .i64 y1, .int .i64 y2], .bool ok]) (by simp [q1, q2, results, Try.results74, go_sem]) rfl ⟨rfl, ?_⟩
      exact (hbw8.setCell (by show w.heap.size ≤ w.heap.size + 1 + 1; omega) _).setCell (by show w.heap.size ≤ w.heap.size + 1 + 1; omega) _
end Go.Proofs.Ytgjdppegkoepfaa

/-! HeldW -/
namespace Go.Proofs.Ytgjdppegkoepfaa
open Go.RowKit

section
variable {P : Program} {ops : Array Oper} {Q : Exit → Act → World → Prop} {md : Region.Mode}

theorem held_mono {S S' : World → Prop} (hSS : ∀ w, S' w → S w) : ∀ (fuel : Nat) (listed : Array Bool) (a : Act) (w : World),
    wpAnyH P md ops Q S' fuel listed a w → wpAnyH P md ops Q S fuel listed a w
  | 0, _, _, _, h => h
  | fuel + 1, _, _, _, h => ⟨h.1, fun i hi => wpOp_mono (fun a' w' h' => ⟨hSS _ h'.1, held_mono hSS fuel _ a' w' h'.2⟩) (h.2 i hi)⟩

/-- One operation alone may come up; behind it the condition may be another one. -/
theorem held_one {S : World → Prop} {fuel : Nat} {listed : Array Bool} {a : Act} {w : World} (i : Nat) {o : Oper} (ho : ops[i]? = some o) (hr : Region.ready md ops listed = [i])
    (h : ∀ K' : Act → World → Prop, Shut (∀ (S' : World → Prop) a w, (∀ w, S' w → S w) → S' w → wpAnyH P md ops Q S' fuel (listed.setIfInBounds i true) a w → K' a w) → if Region.wanted o (yielded ops a.tmps) = true then Oper.wp P o a w K' Q else K' (a.put o.dst undef) w) :
    wpAnyH P md ops Q S (fuel + 1) listed a w :=
  wpAnyH_ready hr (by simp) (AllReadyH.cons ho (fun K hK => h K (fun _ a w hSS hS hW => hK.out a w (hSS _ hS) (fun _ => held_mono hSS _ _ _ _ hW))) AllReadyH.nil)
/-- Two operations may come up, whichever first. -/
theorem held_two {S : World → Prop} {fuel : Nat} {listed : Array Bool} {a : Act} {w : World} (i j : Nat) {oi oj : Oper} (hoi : ops[i]? = some oi) (hoj : ops[j]? = some oj) (hr : Region.ready md ops listed = [i, j])
    (h : ∀ K' : Act → World → Prop, Shut (∀ (S' : World → Prop) a w, (∀ w, S' w → S w) → S' w → wpAnyH P md ops Q S' fuel (listed.setIfInBounds i true) a w → K' a w) → if Region.wanted oi (yielded ops a.tmps) = true then Oper.wp P oi a w K' Q else K' (a.put oi.dst undef) w)
    (k : ∀ K' : Act → World → Prop, Shut (∀ (S' : World → Prop) a w, (∀ w, S' w → S w) → S' w → wpAnyH P md ops Q S' fuel (listed.setIfInBounds j true) a w → K' a w) → if Region.wanted oj (yielded ops a.tmps) = true then Oper.wp P oj a w K' Q else K' (a.put oj.dst undef) w) :
    wpAnyH P md ops Q S (fuel + 1) listed a w :=
  wpAnyH_ready hr (by simp) (AllReadyH.cons hoi (fun K hK => h K (fun _ a w hSS hS hW => hK.out a w (hSS _ hS) (fun _ => held_mono hSS _ _ _ _ hW)))
    (AllReadyH.cons hoj (fun K hK => k K (fun _ a w hSS hS hW => hK.out a w (hSS _ hS) (fun _ => held_mono hSS _ _ _ _ hW))) AllReadyH.nil))
end
end Go.Proofs.Ytgjdppegkoepfaa

/-! Vl3 -/
namespace Go.Proofs.Ytgjdppegkoepfaa
open Go.RowKit

theorem wrap_nat {k : Nat} (h : k ≤ 4611686018427387904) : wrap64 (k : Int) = (k : Int) := by unfold wrap64; omega
set_option maxRecDepth 100000 in
set_option maxHeartbeats 4000000 in
theorem mpValue_any (p : Pr) (n d : Nat) (w : World) (hc1 : p.1.carets ≤ 8) (hc2 : p.2.carets ≤ 8) (hok : p.1.carets = p.2.carets) (k : isFr n d = true) :
    Calls Try.prog 72 #[.agg #[.string p.1.str, .string p.2.str], .agg #[.int .i64 n, .int .i64 d]] w (Gives (.agg #[.int .i64 (frOf (valP p (stepsOf n d))).1, .int .i64 (frOf (valP p (stepsOf n d))).2]) w) := by
  obtain ⟨a, b, ea, eb, hlt, a8, b8, ab, bb, hsa, hv, _⟩ := val_facts p hc1 hc2 hok (stepsOf n d)
  rw [hv]
  have hsl := (steps_le k).1
  have hsm := (steps_le k).2.1
  have hL := fun w => mpLeaf_any p.1 n d w hc1 k
  have hM1 := fun w => mpOf_any a w (by omega) ab
  have hM2 := fun w => mpOf_any b w (by omega) bb
  have l1 := addrs_length p.1 ⟨#[]⟩
  have l2 := addrs_length p.2 ⟨#[]⟩
  have hA1 := fun w => trAddresses_any p.1 ⟨#[]⟩ w (by omega) (by show 0 + p.1.carets ≤ 1000; omega)
  have hA2 := fun w => trAddresses_any p.2 ⟨#[]⟩ w (by omega) (by show 0 + p.2.carets ≤ 1000; omega)
  obtain ⟨hp0, hsh⟩ := vl_short (la := a.size) (steps_cross k) (frOf_bd a8 ab).2.2.2 (frOf_bd b8 bb).2.2.2 hsm (stA_thousand (a := a) (by omega)) (by omega : b.size ≤ 10) (by have := isFr_nats k; obtain ⟨_, _, e1, e2, _, h, _⟩ := this; omega) (frOf_bd a8 ab).2.1 (frOf_bd b8 bb).2.1
  rw [← hsh]
  have hsub := vl_sub (steps_cross k) (frOf_bd a8 ab).2.2.2 hsa
  obtain ⟨na9, da0, da9, _⟩ := frOf_bd a8 ab
  obtain ⟨nb9, db0, db9, _⟩ := frOf_bd b8 bb
  have pa := pow8 a8
  have pb := pow8 b8
  have w1' : wrap64 ((2 : Int) ^ a.size) = ((2 ^ a.size : Nat) : Int) := by
    rcases small_cases (show a.size ≤ 10 by omega) with e | e | e | e | e | e | e | e | e | e | e <;> (rw [e]; decide +kernel)
  have w2' : wrap64 ((2 : Int) ^ b.size) = ((2 ^ b.size : Nat) : Int) := by
    rcases small_cases (show b.size ≤ 10 by omega) with e | e | e | e | e | e | e | e | e | e | e <;> (rw [e]; decide +kernel)
  obtain ⟨nn, dd, en, ed, n1, d1, d2⟩ := isFr_nats k
  have nd : n ≤ d := by omega
  have d9 : d ≤ 1024 := by omega
  generalize (2 : Nat) ^ a.size = P at *
  generalize (2 : Nat) ^ b.size = Q at *
  generalize (frOf (stA a)).1 = na at *
  generalize (frOf (stA a)).2 = da at *
  generalize (frOf (stA b)).1 = nb at *
  generalize (frOf (stA b)).2 = db at *
  generalize lastTo p.1.starts (stepsOf n d) = r at *
  obtain ⟨m, hm⟩ : ∃ m, p.1.carets + 1 = m := ⟨_, rfl⟩
  rw [hm] at l1 hlt
  rw [← hok, hm] at l2
  have hm9 : m ≤ 9 := by omega
  have AF : ∀ (t : Tr) (c : ByteArray), (t.addrs ⟨#[]⟩).length = m → c = (t.addrs ⟨#[]⟩).getD r ⟨#[]⟩ → (∀ w, Calls Try.prog 58 #[.string t.str, .string ⟨#[]⟩] w (GivesTexts (t.addrs ⟨#[]⟩) w)) → ∀ w, Calls Try.prog 58 #[.string t.str, .string ⟨#[]⟩] w fun e w' => ∃ g cap : Nat, w'.cell? ⟨g, r, none⟩ = some (.string c) ∧ m ≤ cap ∧ cap ≤ maxLen ∧ Below w.heap.size w w' ∧ e = .returned (.slice (some ⟨g, 0, none⟩) m cap) := by
    intro t c hl hc h w
    refine (h w).mono ?_
    rintro e w' ⟨g, cap, own, hb, rfl⟩
    rcases own.cells with ⟨_, h0⟩ | ⟨g', cap', hv, hg0, hg, q1, q2, hcell, _⟩
    · rw [h0] at hl; simp only [List.length_nil] at hl; omega
    · obtain ⟨rfl, rfl⟩ : g' = g ∧ cap' = cap := by simpa using hv.symm
      rw [hl] at q1 hcell ⊢
      exact ⟨_, _, by rw [hc]; exact hcell r (by omega), q1, q2, hb, rfl⟩
  have hA1' := AF p.1 a l1 ea hA1
  have hA2' := AF p.2 b l2 eb hA2
  have hlt' : (r : Int) < (m : Int) := by omega
  clear hsh hv hsa hsl hsm ab bb k n1 d1 d2 en ed nn dd AF hA1 hA2 ea eb l1 l2 hm hlt
  have c1 : n * da ≤ 262144 := mul_bd (A := 1024) (B := 256) (by omega) da9 rfl
  have c2 : na * d ≤ 262144 := by omega
  have c3 : d * da ≤ 262144 := mul_bd (A := 1024) (B := 256) d9 da9 rfl
  obtain ⟨X, hX⟩ : ∃ X, n * da - na * d = X := ⟨_, rfl⟩
  obtain ⟨Y, hY⟩ : ∃ Y, d * da = Y := ⟨_, rfl⟩
  have i1 : (n : Int) * (da : Int) = ((n * da : Nat) : Int) := by simp
  have i2 : (na : Int) * (d : Int) = ((na * d : Nat) : Int) := by simp
  have i3 : (d : Int) * (da : Int) = ((d * da : Nat) : Int) := by simp
  have i4 : (n : Int) * (da : Int) - (na : Int) * (d : Int) = (X : Int) := by omega
  have i5 : (d : Int) * (da : Int) = (Y : Int) := by omega
  rw [hY] at hp0
  rw [hX, hY]
  have b1 : X * P ≤ 67108864 := mul_bd (A := 262144) (B := 256) (by omega) pa.2 rfl
  have b2 : X * P * db ≤ 17179869184 := mul_bd b1 db9 rfl
  have b3 : Y * Q ≤ 67108864 := mul_bd (A := 262144) (B := 256) (by omega) pb.2 rfl
  have b4 : nb * (Y * Q) ≤ 17179869184 := mul_bd nb9 b3 rfl
  have b5 : Y * Q * db ≤ 17179869184 := mul_bd b3 db9 rfl
  have hS := fun w => mpShort_any (X * P * db + nb * (Y * Q)) (Y * Q * db) w hp0 (by omega) (by omega)
  have hE1 : wrap64 (wrap64 (wrap64 (((n : Int) * (da : Int) - (na : Int) * (d : Int)) * (P : Int)) * (db : Int)) + wrap64 ((nb : Int) * wrap64 ((d : Int) * (da : Int) * (Q : Int)))) = ((X * P * db + nb * (Y * Q) : Nat) : Int) := by
    rw [i4, i5, ← Int.natCast_mul X P, wrap_nat (by omega), ← Int.natCast_mul (X * P) db, wrap_nat (by omega), ← Int.natCast_mul Y Q, wrap_nat (by omega), ← Int.natCast_mul nb, wrap_nat (by omega), ← Int.natCast_add, wrap_nat (by omega)]
  have hE2 : wrap64 (wrap64 ((d : Int) * (da : Int) * (Q : Int)) * (db : Int)) = ((Y * Q * db : Nat) : Int) := by
    rw [i5, ← Int.natCast_mul Y Q, wrap_nat (by omega), ← Int.natCast_mul (Y * Q) db, wrap_nat (by omega)]
  rw [← hE1, ← hE2] at hS
  generalize (shortN (X * P * db + nb * (Y * Q)) (Y * Q * db)).1 = z1 at *
  generalize (shortN (X * P * db + nb * (Y * Q)) (Y * Q * db)).2 = z2 at *
  have j1 : 0 ≤ (n : Int) * (da : Int) ∧ (n : Int) * (da : Int) ≤ 262144 := by omega
  have j2 : 0 ≤ (na : Int) * (d : Int) ∧ (na : Int) * (d : Int) ≤ 262144 := by omega
  have j3 : 0 ≤ (d : Int) * (da : Int) ∧ (d : Int) * (da : Int) ≤ 262144 := by omega
  obtain ⟨j1a, j1b⟩ := j1
  obtain ⟨j2a, j2b⟩ := j2
  obtain ⟨j3a, j3b⟩ := j3
  clear i1 i2 i3 i4 i5 b1 b2 b3 b4 b5 hE1 hE2 hp0 c1 c2 c3
  go_enter Try.func72, Try.ntmps72
  go_wp2_with fail
  have hb0 : Below w.heap.size w (((w.alloc (.cells #[.string p.1.str, .string p.2.str] 27 (0, 0))).alloc (.cells #[.int .i64 n, .int .i64 d] 45 (0, 0))).alloc (.cells #[.int .i64 0, .int .i64 0] 45 (0, 0))) := nxAlloc (nxAlloc (nxAlloc (Below.refl _ _) _) _) _
  have hx0 := heap_keep (nxAlloc (Below.refl _ _) (.cells #[.int .i64 0, .int .i64 0] 45 (0, 0))) (heap_keep (nxAlloc (Below.refl _ _) (.cells #[.int .i64 n, .int .i64 d] 45 (0, 0))) (heap_alloc_at w (.cells #[.string p.1.str, .string p.2.str] 27 (0, 0))))
  have hx1 := heap_keep (nxAlloc (Below.refl _ _) (.cells #[.int .i64 0, .int .i64 0] 45 (0, 0))) (heap_alloc_at (w.alloc (.cells #[.string p.1.str, .string p.2.str] 27 (0, 0))) (.cells #[.int .i64 n, .int .i64 d] 45 (0, 0)))
  have hx2 := heap_alloc_at ((w.alloc (.cells #[.string p.1.str, .string p.2.str] 27 (0, 0))).alloc (.cells #[.int .i64 n, .int .i64 d] 45 (0, 0))) (.cells #[.int .i64 0, .int .i64 0] 45 (0, 0))
  generalize (((w.alloc (.cells #[.string p.1.str, .string p.2.str] 27 (0, 0))).alloc (.cells #[.int .i64 n, .int .i64 d] 45 (0, 0))).alloc (.cells #[.int .i64 0, .int .i64 0] 45 (0, 0))) = w0 at *
  have e1 : (w.alloc (.cells #[.string p.1.str, .string p.2.str] 27 (0, 0))).heap.size = w.heap.size + 1 := by simp
  rw [e1] at hx1
  clear e1
  have e2 : ((w.alloc (.cells #[.string p.1.str, .string p.2.str] 27 (0, 0))).alloc (.cells #[.int .i64 n, .int .i64 d] 45 (0, 0))).heap.size = w.heap.size + 1 + 1 := by simp
  rw [e2] at hx2
  clear e2
  obtain ⟨hx0a, hx0b, hx0c⟩ := two_facts hx0
  obtain ⟨hx0f, hx0g⟩ := two_frozen hx0
  obtain ⟨hx1a, hx1b, hx1c⟩ := two_facts hx1
  obtain ⟨hx1f, hx1g⟩ := two_frozen hx1
  obtain ⟨hx2a, hx2b, hx2c⟩ := two_facts hx2
  obtain ⟨hx2f, hx2g⟩ := two_frozen hx2
  refine (hL _).mono ?_; rintro e w1 ⟨rfl, hb1⟩
  have hbw1 := nx hb0 hb1
  replace hx0 := heap_keep hb1 hx0
  replace hx1 := heap_keep hb1 hx1
  replace hx2 := heap_keep hb1 hx2
  clear hx0a hx0b hx0c hx0f hx0g
  obtain ⟨hx0a, hx0b, hx0c⟩ := two_facts hx0
  obtain ⟨hx0f, hx0g⟩ := two_frozen hx0
  clear hx1a hx1b hx1c hx1f hx1g
  obtain ⟨hx1a, hx1b, hx1c⟩ := two_facts hx1
  obtain ⟨hx1f, hx1g⟩ := two_frozen hx1
  clear hx2a hx2b hx2c hx2f hx2g
  obtain ⟨hx2a, hx2b, hx2c⟩ := two_facts hx2
  obtain ⟨hx2f, hx2g⟩ := two_frozen hx2
  clear hb1 hb0
  go_wp2_with fail
  have hz := Below.refl w1.heap.size w1
  refine wp_region_held_drew (S := (fun w' => w'.cell? ⟨w.heap.size, 0, none⟩ = some (.string p.1.str) ∧ w'.cell? ⟨w.heap.size, 1, none⟩ = some (.string p.2.str) ∧ w'.cell? ⟨w.heap.size + 1, 0, none⟩ = some (.int .i64 n) ∧ w'.cell? ⟨w.heap.size + 1, 1, none⟩ = some (.int .i64 d))) (by kernel_rfl) ⟨hx0a, hx0b, hx1a, hx1b⟩ (fun hH0 => ?_)
  refine wpAnyH_take (i := 0) (oi := ?oi1) (v := ?vv1) ?hi1 ?hn1 ?hf1 ?hr1 ?hq1 (Or.inl ⟨?hg1, ?hy1⟩) hH0 ?rest1
  case hi1 => (simp only [List.getElem?_toArray, List.getElem?_cons_zero]; rfl)
  case hn1 => kernel_rfl
  case hf1 => kernel_rfl
  case hr1 => kernel_rfl
  case hg1 => rfl
  case hy1 => (intro w hSw; (try dsimp only at hSw); go_simp; first | done | with_reducible rfl)
  case hq1 => exact fun _ _ _ h => h
  try dsimp only [Act.put]
  refine wpAnyH_take (i := 1) (oi := ?oi2) (v := ?vv2) ?hi2 ?hn2 ?hf2 ?hr2 ?hq2 (Or.inl ⟨?hg2, ?hy2⟩) hH0 ?rest2
  case hi2 => (simp only [List.getElem?_toArray, List.getElem?_cons_succ, List.getElem?_cons_zero]; rfl)
  case hn2 => kernel_rfl
  case hf2 => kernel_rfl
  case hr2 => kernel_rfl
  case hg2 => rfl
  case hy2 => (intro w hSw; (try dsimp only at hSw); go_simp; first | done | with_reducible rfl)
  case hq2 => exact fun _ _ _ h => h
  try dsimp only [Act.put]
  refine wpAnyH_take (i := 3) (oi := ?oi3) (v := ?vv3) ?hi3 ?hn3 ?hf3 ?hr3 ?hq3 (Or.inl ⟨?hg3, ?hy3⟩) hH0 ?rest3
  case hi3 => (simp only [List.getElem?_toArray, List.getElem?_cons_succ, List.getElem?_cons_zero]; rfl)
  case hn3 => kernel_rfl
  case hf3 => kernel_rfl
  case hr3 => kernel_rfl
  case hg3 => rfl
  case hy3 => (intro w hSw; (try dsimp only at hSw); go_simp; first | done | with_reducible rfl)
  case hq3 => exact fun _ _ _ h => h
  try dsimp only [Act.put]
  refine wpAnyH_take (i := 6) (oi := ?oi4) (v := ?vv4) ?hi4 ?hn4 ?hf4 ?hr4 ?hq4 (Or.inl ⟨?hg4, ?hy4⟩) hH0 ?rest4
  case hi4 => (simp only [List.getElem?_toArray, List.getElem?_cons_succ, List.getElem?_cons_zero]; rfl)
  case hn4 => kernel_rfl
  case hf4 => kernel_rfl
  case hr4 => kernel_rfl
  case hg4 => rfl
  case hy4 => (intro w hSw; (try dsimp only at hSw); go_simp; first | done | with_reducible rfl)
  case hq4 => exact fun _ _ _ h => h
  try dsimp only [Act.put]
  refine wpAnyH_take (i := 7) (oi := ?oi5) (v := ?vv5) ?hi5 ?hn5 ?hf5 ?hr5 ?hq5 (Or.inl ⟨?hg5, ?hy5⟩) hH0 ?rest5
  case hi5 => (simp only [List.getElem?_toArray, List.getElem?_cons_succ, List.getElem?_cons_zero]; rfl)
  case hn5 => kernel_rfl
  case hf5 => kernel_rfl
  case hr5 => kernel_rfl
  case hg5 => rfl
  case hy5 => (intro w hSw; (try dsimp only at hSw); go_simp; first | done | with_reducible rfl)
  case hq5 => exact fun _ _ _ h => h
  try dsimp only [Act.put]
  refine wpAnyH_take (i := 9) (oi := ?oi6) (v := ?vv6) ?hi6 ?hn6 ?hf6 ?hr6 ?hq6 (Or.inl ⟨?hg6, ?hy6⟩) hH0 ?rest6
  case hi6 => (simp only [List.getElem?_toArray, List.getElem?_cons_succ, List.getElem?_cons_zero]; rfl)
  case hn6 => kernel_rfl
  case hf6 => kernel_rfl
  case hr6 => kernel_rfl
  case hg6 => rfl
  case hy6 => (intro w hSw; (try dsimp only at hSw); go_simp; first | done | with_reducible rfl)
  case hq6 => exact fun _ _ _ h => h
  try dsimp only [Act.put]
  refine held_one 2 rfl (by kernel_rfl) (fun K hK => ?_)
  go_simp
  refine (hA1' _).mono ?_; rintro e w3 ⟨g1, cap1, hcl1, m1, m2, hb3, rfl⟩
  have hb3' := nx hz.drew hb3
  have K1 := And.intro (keep_cell hb3' hx0a) (And.intro (keep_cell hb3' hx0b) (And.intro (keep_cell hb3' hx1a) (keep_cell hb3' hx1b)))
  go_wp2_with fail
  have hH1 : (fun (w' : World) => (w'.cell? ⟨w.heap.size, 0, none⟩ = some (.string p.1.str) ∧ w'.cell? ⟨w.heap.size, 1, none⟩ = some (.string p.2.str) ∧ w'.cell? ⟨w.heap.size + 1, 0, none⟩ = some (.int .i64 n) ∧ w'.cell? ⟨w.heap.size + 1, 1, none⟩ = some (.int .i64 d)) ∧ w'.cell? ⟨g1, r, none⟩ = some (.string a)) _ := ⟨K1, hcl1⟩
  refine hK.out (fun (w' : World) => (w'.cell? ⟨w.heap.size, 0, none⟩ = some (.string p.1.str) ∧ w'.cell? ⟨w.heap.size, 1, none⟩ = some (.string p.2.str) ∧ w'.cell? ⟨w.heap.size + 1, 0, none⟩ = some (.int .i64 n) ∧ w'.cell? ⟨w.heap.size + 1, 1, none⟩ = some (.int .i64 d)) ∧ w'.cell? ⟨g1, r, none⟩ = some (.string a)) _ _ (fun _ h => h.1) hH1 ?_
  clear hK K
  try dsimp only [Act.put]
  refine wpAnyH_take (i := 4) (oi := ?oi7) (v := ?vv7) ?hi7 ?hn7 ?hf7 ?hr7 ?hq7 (Or.inl ⟨?hg7, ?hy7⟩) hH1 ?rest7
  case hi7 => (simp only [List.getElem?_toArray, List.getElem?_cons_succ, List.getElem?_cons_zero]; rfl)
  case hn7 => kernel_rfl
  case hf7 => kernel_rfl
  case hr7 => kernel_rfl
  case hg7 => rfl
  case hy7 => (intro w hSw; (try dsimp only at hSw); go_simp; first | done | with_reducible rfl)
  case hq7 => exact fun _ _ _ h => h
  try dsimp only [Act.put]
  refine wpAnyH_take (i := 5) (oi := ?oi8) (v := ?vv8) ?hi8 ?hn8 ?hf8 ?hr8 ?hq8 (Or.inl ⟨?hg8, ?hy8⟩) hH1 ?rest8
  case hi8 => (simp only [List.getElem?_toArray, List.getElem?_cons_succ, List.getElem?_cons_zero]; rfl)
  case hn8 => kernel_rfl
  case hf8 => kernel_rfl
  case hr8 => kernel_rfl
  case hg8 => rfl
  case hy8 => (intro w hSw; (try dsimp only at hSw); go_simp; first | done | with_reducible rfl)
  case hq8 => exact fun _ _ _ h => h
  try dsimp only [Act.put]
  refine held_one 8 rfl (by kernel_rfl) (fun K hK => ?_)
  go_simp
  refine (hA2' _).mono ?_; rintro e w4 ⟨g2, cap2, hcl2, m3, m4, hb4, rfl⟩
  have hb4' := nx hb3' hb4
  have hcl14 := keep_cell hb4 hcl1
  have K2 := And.intro (keep_cell hb4' hx0a) (And.intro (keep_cell hb4' hx0b) (And.intro (keep_cell hb4' hx1a) (keep_cell hb4' hx1b)))
  go_wp2_with fail
  have hH2 : (fun (w' : World) => ((w'.cell? ⟨w.heap.size, 0, none⟩ = some (.string p.1.str) ∧ w'.cell? ⟨w.heap.size, 1, none⟩ = some (.string p.2.str) ∧ w'.cell? ⟨w.heap.size + 1, 0, none⟩ = some (.int .i64 n) ∧ w'.cell? ⟨w.heap.size + 1, 1, none⟩ = some (.int .i64 d)) ∧ w'.cell? ⟨g1, r, none⟩ = some (.string a)) ∧ w'.cell? ⟨g2, r, none⟩ = some (.string b)) _ := ⟨⟨K2, hcl14⟩, hcl2⟩
  refine hK.out (fun (w' : World) => ((w'.cell? ⟨w.heap.size, 0, none⟩ = some (.string p.1.str) ∧ w'.cell? ⟨w.heap.size, 1, none⟩ = some (.string p.2.str) ∧ w'.cell? ⟨w.heap.size + 1, 0, none⟩ = some (.int .i64 n) ∧ w'.cell? ⟨w.heap.size + 1, 1, none⟩ = some (.int .i64 d)) ∧ w'.cell? ⟨g1, r, none⟩ = some (.string a)) ∧ w'.cell? ⟨g2, r, none⟩ = some (.string b)) _ _ (fun _ h => h.1) hH2 ?_
  clear hK K
  try dsimp only [Act.put]
  refine wpAnyH_take (i := 10) (oi := ?oi9) (v := ?vv9) ?hi9 ?hn9 ?hf9 ?hr9 ?hq9 (Or.inl ⟨?hg9, ?hy9⟩) hH2 ?rest9
  case hi9 => (simp only [List.getElem?_toArray, List.getElem?_cons_succ, List.getElem?_cons_zero]; rfl)
  case hn9 => kernel_rfl
  case hf9 => kernel_rfl
  case hr9 => kernel_rfl
  case hg9 => rfl
  case hy9 => (intro w hSw; (try dsimp only at hSw); go_simp; first | done | with_reducible rfl)
  case hq9 => exact fun _ _ _ h => h
  try dsimp only [Act.put]
  refine wpAnyH_take (i := 11) (oi := ?oi10) (v := ?vv10) ?hi10 ?hn10 ?hf10 ?hr10 ?hq10 (Or.inl ⟨?hg10, ?hy10⟩) hH2 ?rest10
  case hi10 => (simp only [List.getElem?_toArray, List.getElem?_cons_succ, List.getElem?_cons_zero]; rfl)
  case hn10 => kernel_rfl
  case hf10 => kernel_rfl
  case hr10 => kernel_rfl
  case hg10 => rfl
  case hy10 => (intro w hSw; (try dsimp only at hSw); go_simp; first | done | with_reducible rfl)
  case hq10 => exact fun _ _ _ h => h
  try dsimp only [Act.put]
  refine wpAnyH_take (i := 12) (oi := ?oi11) (v := ?vv11) ?hi11 ?hn11 ?hf11 ?hr11 ?hq11 (Or.inl ⟨?hg11, ?hy11⟩) hH2 ?rest11
  case hi11 => (simp only [List.getElem?_toArray, List.getElem?_cons_succ, List.getElem?_cons_zero]; rfl)
  case hn11 => kernel_rfl
  case hf11 => kernel_rfl
  case hr11 => kernel_rfl
  case hg11 => rfl
  case hy11 => (intro w hSw; (try dsimp only at hSw); go_simp; first | done | with_reducible rfl)
  case hq11 => exact fun _ _ _ h => h
  try dsimp only [Act.put]
  refine wpAnyH_take (i := 13) (oi := ?oi12) (v := ?vv12) ?hi12 ?hn12 ?hf12 ?hr12 ?hq12 (Or.inl ⟨?hg12, ?hy12⟩) hH2 ?rest12
  case hi12 => (simp only [List.getElem?_toArray, List.getElem?_cons_succ, List.getElem?_cons_zero]; rfl)
  case hn12 => kernel_rfl
  case hf12 => kernel_rfl
  case hr12 => kernel_rfl
  case hg12 => rfl
  case hy12 => (intro w hSw; (try dsimp only at hSw); go_simp; first | done | with_reducible rfl)
  case hq12 => exact fun _ _ _ h => h
  try dsimp only [Act.put]
  refine wpAnyH_done (by kernel_rfl) ?_ _
  simp only [List.setIfInBounds_toArray, List.set_cons_zero, List.set_cons_succ]
  go_wp2_with fail
  refine (hM1 _).mono ?_; rintro e w5 ⟨rfl, hb5⟩
  go_wp2_with fail
  refine (hM2 _).mono ?_; rintro e w6 ⟨rfl, hb6⟩
  clear hH0 hH1 hH2 K1 K2 hx0 hx0a hx0b hx0c hx0f hx0g hM1 hM2 hA1' hA2' hL
  have hbw6 := nx (nx (nx hbw1 hb4') hb5) hb6
  replace hx1 := heap_keep hb6 (heap_keep hb5 (heap_keep hb4' hx1))
  replace hx2 := heap_keep hb6 (heap_keep hb5 (heap_keep hb4' hx2))
  clear hb3 hb3' hb4 hb4' hb5 hb6 hbw1 hcl1 hcl2 hcl14 hx1a hx1b hx1c hx1f hx1g hx2a hx2b hx2c hx2f hx2g hlt' hm9
  go_wp2_with fail
  have hb0 : Below w.heap.size w ((w6.alloc (.cells #[.int .i64 na, .int .i64 da] 45 (0, 0))).alloc (.cells #[.int .i64 nb, .int .i64 db] 45 (0, 0))) := nxAlloc (nxAlloc hbw6 _) _
  have hx3 := heap_keep (nxAlloc (Below.refl _ _) (.cells #[.int .i64 nb, .int .i64 db] 45 (0, 0))) (heap_alloc_at w6 (.cells #[.int .i64 na, .int .i64 da] 45 (0, 0)))
  have hx4 := heap_alloc_at (w6.alloc (.cells #[.int .i64 na, .int .i64 da] 45 (0, 0))) (.cells #[.int .i64 nb, .int .i64 db] 45 (0, 0))
  replace hx1 := heap_keep (nxAlloc (Below.refl _ _) (.cells #[.int .i64 nb, .int .i64 db] 45 (0, 0))) (heap_keep (nxAlloc (Below.refl _ _) (.cells #[.int .i64 na, .int .i64 da] 45 (0, 0))) hx1)
  replace hx2 := heap_keep (nxAlloc (Below.refl _ _) (.cells #[.int .i64 nb, .int .i64 db] 45 (0, 0))) (heap_keep (nxAlloc (Below.refl _ _) (.cells #[.int .i64 na, .int .i64 da] 45 (0, 0))) hx2)
  have e4 : (w6.alloc (.cells #[.int .i64 na, .int .i64 da] 45 (0, 0))).heap.size = w6.heap.size + 1 := by simp
  rw [e4] at hx4
  generalize (w6.alloc (.cells #[.int .i64 na, .int .i64 da] 45 (0, 0))).alloc (.cells #[.int .i64 nb, .int .i64 db] 45 (0, 0)) = w7 at *
  obtain ⟨ya, yb, yc⟩ := two_facts hx1
  obtain ⟨ua, ub, uc⟩ := two_facts hx3
  obtain ⟨va, vb, vc⟩ := two_facts hx4
  go_quiet (fail)
  go_wp2_with fail
  refine (hS _).mono ?_; rintro e w8 ⟨rfl, hb8⟩
  have hbw8 := nx (drewB hb0 nq) hb8
  replace hx2 := heap_keep hb8 hx2
  obtain ⟨ra, rb, rc⟩ := two_facts hx2
  obtain ⟨rf, rg⟩ := two_frozen hx2
  go_wp2_with fail
  obtain ⟨q1, q2⟩ := two_cells (set_two (.int .i64 z1) (.int .i64 z2) hx2)
  refine bodyPost_ret (v := .agg #[.int .i64 z1, .int .i64 z2]) (by simp [q1, q2, results, Try.results72, go_sem]) rfl ⟨rfl, ?_⟩
  exact (hbw8.setCell (by show w.heap.size ≤ w.heap.size + 1 + 1; omega) _).setCell (by show w.heap.size ≤ w.heap.size + 1 + 1; omega) _
end Go.Proofs.Ytgjdppegkoepfaa

/-! Ob4 -/
namespace Go.Proofs.Ytgjdppegkoepfaa
open Go.RowKit

/-- A fraction and to what it is carried so many times. -/
def orbN (p : Pr) (x : Nat × Nat) : Nat → Option (List (Nat × Nat))
  | 0 => some [x]
  | k + 1 => (orbN p x k).bind fun l => (frA (valP p (stepsOf (l.getD k (0, 0)).1 (l.getD k (0, 0)).2))).map fun y => l ++ [y]
theorem orbN_len {p : Pr} {x : Nat × Nat} : ∀ {k : Nat} {l : List (Nat × Nat)}, orbN p x k = some l → l.length = k + 1 := by
  intro k
  induction k with
  | zero => intro l h; simp [orbN] at h; subst h; rfl
  | succ k ih =>
    intro l h
    cases e : orbN p x k with
    | none => simp [orbN, e] at h
    | some m =>
      simp only [orbN, e, Option.bind_some, Option.map_eq_some_iff] at h
      obtain ⟨y, _, rfl⟩ := h
      have := ih e
      simp; omega
theorem orbN_none {p : Pr} {x : Nat × Nat} {k : Nat} (h : orbN p x k = none) : ∀ {j : Nat}, k ≤ j → orbN p x j = none := by
  intro j hj
  induction j with
  | zero => obtain rfl : k = 0 := by omega
            exact h
  | succ j ih =>
    by_cases e : k = j + 1
    · subst e; exact h
    · simp [orbN, ih (by omega)]
theorem orbN_step {p : Pr} {x y : Nat × Nat} {k : Nat} {l : List (Nat × Nat)} (h : orbN p x k = some l) (hy : l.getD k (0, 0) = y) : orbN p x (k + 1) = (frA (valP p (stepsOf y.1 y.2))).map fun z => l ++ [z] := by
  subst hy
  simp only [orbN, h, Option.bind_some]
theorem last_snoc (l : List (Nat × Nat)) (y : Nat × Nat) {k : Nat} (h : l.length = k) : (l ++ [y]).getD k (0, 0) = y := by
  subst h
  rw [List.getD_eq_getElem?_getD, List.getElem?_append_right (Nat.le_refl _)]
  simp
def orbO (a b : ByteArray) (n d k : Int) : Option (List (Nat × Nat)) := (pairOf a b).bind fun p => if isFr n d = true ∧ 0 ≤ k ∧ k ≤ 20 then orbN p (n.toNat, d.toNat) k.toNat else none
theorem frA_cases (s : Nat) : (isFr (frOf s).1 (frOf s).2 = true ∧ frA s = some (frOf s)) ∨ (isFr (frOf s).1 (frOf s).2 = false ∧ frA s = none) := by
  unfold frA
  cases h : isFr (frOf s).1 (frOf s).2 with
  | true => exact .inl ⟨rfl, rfl⟩
  | false => exact .inr ⟨rfl, rfl⟩
theorem orb_len (a b : ByteArray) (n d k : Int) : ((orbO a b n d k).getD []).length ≤ 1000000000 := by
  unfold orbO
  cases pairOf a b with
  | none => simp
  | some p =>
    show ((if isFr n d = true ∧ 0 ≤ k ∧ k ≤ 20 then orbN p (n.toNat, d.toNat) k.toNat else none).getD []).length ≤ _
    split
    · rename_i h
      cases e : orbN p (n.toNat, d.toNat) k.toNat with
      | none => simp
      | some l => have := orbN_len e; simp; omega
    · simp

set_option maxRecDepth 100000 in
set_option maxHeartbeats 4000000 in
theorem specOrbitOf_any (a b : ByteArray) (n d k : Int) (w : World) (ha : a.size ≤ 9223372036854775806) (hb : b.size ≤ 9223372036854775806) (_l1 : -9223372036854775808 ≤ n) (_u1 : n ≤ 9223372036854775807) (_l2 : -9223372036854775808 ≤ d) (_u2 : d ≤ 9223372036854775807) (_l3 : -9223372036854775808 ≤ k) (_u3 : k ≤ 9223372036854775807) :
    Calls Try.prog 34 #[.agg #[.string a, .string b], .agg #[.int .i64 n, .int .i64 d], .int .i64 k] w (AnsFs (orbO a b n d k) w) := by
  obtain ⟨i0, hi, hz0, hz1, hz2⟩ := info_parts info_frac
  have hg := fun w => prGood_any a b w ha hb
  have hk := fun w => mpGood_any n d w
  unfold orbO
  cases h : pairOf a b with
  | none =>
    rw [h] at hg
    show Calls _ _ _ _ (AnsF2 [] false w)
    clear h hk _l1 _u1 _l2 _u2
    go_enter Try.func34, Try.ntmps34
    go_wp2_with fail
    have hb0 : Below w.heap.size w ((w.alloc (.cells #[.string a, .string b] 27 (0, 0))).alloc (.cells #[.int .i64 n, .int .i64 d] 45 (0, 0))) := nxAlloc (nxAlloc (Below.refl _ _) _) _
    have hx0 := heap_keep (nxAlloc (Below.refl _ _) (.cells #[.int .i64 n, .int .i64 d] 45 (0, 0))) (heap_alloc_at w (.cells #[.string a, .string b] 27 (0, 0)))
    have hx1 := heap_alloc_at (w.alloc (.cells #[.string a, .string b] 27 (0, 0))) (.cells #[.int .i64 n, .int .i64 d] 45 (0, 0))
    generalize ((w.alloc (.cells #[.string a, .string b] 27 (0, 0))).alloc (.cells #[.int .i64 n, .int .i64 d] 45 (0, 0))) = w0 at *
    have e1 : (w.alloc (.cells #[.string a, .string b] 27 (0, 0))).heap.size = w.heap.size + 1 := by simp
    rw [e1] at hx1
    clear e1
    obtain ⟨hx0a, hx0b, hx0c⟩ := two_facts hx0
    obtain ⟨hx0f, hx0g⟩ := two_frozen hx0
    obtain ⟨hx1a, hx1b, hx1c⟩ := two_facts hx1
    obtain ⟨hx1f, hx1g⟩ := two_frozen hx1
    refine (hg _).mono ?_; rintro e w1 ⟨rfl, hb1⟩
    have hbw1 := nx hb0 hb1
    replace hx0 := heap_keep hb1 hx0
    replace hx1 := heap_keep hb1 hx1
    clear hx0a hx0b hx0c hx0f hx0g
    obtain ⟨hx0a, hx0b, hx0c⟩ := two_facts hx0
    obtain ⟨hx0f, hx0g⟩ := two_frozen hx0
    clear hx1a hx1b hx1c hx1f hx1g
    obtain ⟨hx1a, hx1b, hx1c⟩ := two_facts hx1
    obtain ⟨hx1f, hx1g⟩ := two_frozen hx1
    clear hb1 hb0
    go_wp2_with fail
    go_ret2
    exact ⟨_, OwnW.nil _ _ _ _, hbw1, rfl⟩
  | some p =>
    rw [h] at hg
    obtain ⟨rfl, rfl, hok, hc1, hc2⟩ := pairOf_some h
    clear h
    cases hf : isFr n d with
    | false =>
      rw [hf] at hk
      show Calls _ _ _ _ (AnsF2 [] false w)
      clear hf _l1 _u1 _l2 _u2
      go_enter Try.func34, Try.ntmps34
      go_wp2_with fail
      have hb0 : Below w.heap.size w ((w.alloc (.cells #[.string p.1.str, .string p.2.str] 27 (0, 0))).alloc (.cells #[.int .i64 n, .int .i64 d] 45 (0, 0))) := nxAlloc (nxAlloc (Below.refl _ _) _) _
      have hx0 := heap_keep (nxAlloc (Below.refl _ _) (.cells #[.int .i64 n, .int .i64 d] 45 (0, 0))) (heap_alloc_at w (.cells #[.string p.1.str, .string p.2.str] 27 (0, 0)))
      have hx1 := heap_alloc_at (w.alloc (.cells #[.string p.1.str, .string p.2.str] 27 (0, 0))) (.cells #[.int .i64 n, .int .i64 d] 45 (0, 0))
      generalize ((w.alloc (.cells #[.string p.1.str, .string p.2.str] 27 (0, 0))).alloc (.cells #[.int .i64 n, .int .i64 d] 45 (0, 0))) = w0 at *
      have e1 : (w.alloc (.cells #[.string p.1.str, .string p.2.str] 27 (0, 0))).heap.size = w.heap.size + 1 := by simp
      rw [e1] at hx1
      clear e1
      obtain ⟨hx0a, hx0b, hx0c⟩ := two_facts hx0
      obtain ⟨hx0f, hx0g⟩ := two_frozen hx0
      obtain ⟨hx1a, hx1b, hx1c⟩ := two_facts hx1
      obtain ⟨hx1f, hx1g⟩ := two_frozen hx1
      refine (hg _).mono ?_; rintro e w1 ⟨rfl, hb1⟩
      have hbw1 := nx hb0 hb1
      replace hx0 := heap_keep hb1 hx0
      replace hx1 := heap_keep hb1 hx1
      clear hx0a hx0b hx0c hx0f hx0g
      obtain ⟨hx0a, hx0b, hx0c⟩ := two_facts hx0
      obtain ⟨hx0f, hx0g⟩ := two_frozen hx0
      clear hx1a hx1b hx1c hx1f hx1g
      obtain ⟨hx1a, hx1b, hx1c⟩ := two_facts hx1
      obtain ⟨hx1f, hx1g⟩ := two_frozen hx1
      clear hb1 hb0
      go_wp2_with fail
      refine (hk _).mono ?_; rintro e w2 ⟨rfl, hb2⟩
      have hbw2 := nx hbw1 hb2
      replace hx0 := heap_keep hb2 hx0
      replace hx1 := heap_keep hb2 hx1
      clear hx0a hx0b hx0c hx0f hx0g
      obtain ⟨hx0a, hx0b, hx0c⟩ := two_facts hx0
      obtain ⟨hx0f, hx0g⟩ := two_frozen hx0
      clear hx1a hx1b hx1c hx1f hx1g
      obtain ⟨hx1a, hx1b, hx1c⟩ := two_facts hx1
      obtain ⟨hx1f, hx1g⟩ := two_frozen hx1
      clear hb2 hbw1
      go_wp2_with fail
      go_ret2
      exact ⟨_, OwnW.nil _ _ _ _, hbw2, rfl⟩
    | true =>
      rw [hf] at hk
      by_cases hin : 0 ≤ k ∧ k ≤ 20
      rotate_left
      · have e : (if true = true ∧ 0 ≤ k ∧ k ≤ 20 then orbN p (n.toNat, d.toNat) k.toNat else none) = none := if_neg (fun h => hin h.2)
        show Calls _ _ _ _ (AnsFs (if true = true ∧ 0 ≤ k ∧ k ≤ 20 then orbN p (n.toNat, d.toNat) k.toNat else none) w)
        rw [e]
        show Calls _ _ _ _ (AnsF2 [] false w)
        have H : Hid (k < 0 ∨ 20 < k) := Lib.hid (by omega)
        clear hf _l1 _u1 _l2 _u2 e
        clear hin
        go_enter Try.func34, Try.ntmps34
        go_wp2_with fail
        have hb0 : Below w.heap.size w ((w.alloc (.cells #[.string p.1.str, .string p.2.str] 27 (0, 0))).alloc (.cells #[.int .i64 n, .int .i64 d] 45 (0, 0))) := nxAlloc (nxAlloc (Below.refl _ _) _) _
        have hx0 := heap_keep (nxAlloc (Below.refl _ _) (.cells #[.int .i64 n, .int .i64 d] 45 (0, 0))) (heap_alloc_at w (.cells #[.string p.1.str, .string p.2.str] 27 (0, 0)))
        have hx1 := heap_alloc_at (w.alloc (.cells #[.string p.1.str, .string p.2.str] 27 (0, 0))) (.cells #[.int .i64 n, .int .i64 d] 45 (0, 0))
        generalize ((w.alloc (.cells #[.string p.1.str, .string p.2.str] 27 (0, 0))).alloc (.cells #[.int .i64 n, .int .i64 d] 45 (0, 0))) = w0 at *
        have e1 : (w.alloc (.cells #[.string p.1.str, .string p.2.str] 27 (0, 0))).heap.size = w.heap.size + 1 := by simp
        rw [e1] at hx1
        clear e1
        obtain ⟨hx0a, hx0b, hx0c⟩ := two_facts hx0
        obtain ⟨hx0f, hx0g⟩ := two_frozen hx0
        obtain ⟨hx1a, hx1b, hx1c⟩ := two_facts hx1
        obtain ⟨hx1f, hx1g⟩ := two_frozen hx1
        refine (hg _).mono ?_; rintro e w1 ⟨rfl, hb1⟩
        have hbw1 := nx hb0 hb1
        replace hx0 := heap_keep hb1 hx0
        replace hx1 := heap_keep hb1 hx1
        clear hx0a hx0b hx0c hx0f hx0g
        obtain ⟨hx0a, hx0b, hx0c⟩ := two_facts hx0
        obtain ⟨hx0f, hx0g⟩ := two_frozen hx0
        clear hx1a hx1b hx1c hx1f hx1g
        obtain ⟨hx1a, hx1b, hx1c⟩ := two_facts hx1
        obtain ⟨hx1f, hx1g⟩ := two_frozen hx1
        clear hb1 hb0
        go_wp2_with fail
        refine (hk _).mono ?_; rintro e w2 ⟨rfl, hb2⟩
        have hbw2 := nx hbw1 hb2
        replace hx0 := heap_keep hb2 hx0
        replace hx1 := heap_keep hb2 hx1
        clear hx0a hx0b hx0c hx0f hx0g
        obtain ⟨hx0a, hx0b, hx0c⟩ := two_facts hx0
        obtain ⟨hx0f, hx0g⟩ := two_frozen hx0
        clear hx1a hx1b hx1c hx1f hx1g
        obtain ⟨hx1a, hx1b, hx1c⟩ := two_facts hx1
        obtain ⟨hx1f, hx1g⟩ := two_frozen hx1
        clear hb2 hbw1
        go_wp2_with fail
        refine (l1In_no k 0 20 _ H.out).mono ?_; rintro e w' ⟨rfl, rfl⟩
        go_wp2_with fail
        go_ret2
        exact ⟨_, OwnW.nil _ _ _ _, hbw2, rfl⟩
      · have e : (if true = true ∧ 0 ≤ k ∧ k ≤ 20 then orbN p (n.toNat, d.toNat) k.toNat else none) = orbN p (n.toNat, d.toNat) k.toNat := if_pos ⟨rfl, hin⟩
        show Calls _ _ _ _ (AnsFs (if true = true ∧ 0 ≤ k ∧ k ≤ 20 then orbN p (n.toNat, d.toNat) k.toNat else none) w)
        rw [e]
        clear e
        obtain ⟨m, rfl⟩ : ∃ m : Nat, k = m := ⟨k.toNat, by omega⟩
        obtain ⟨hk0, hk20⟩ := hin
        obtain ⟨n, d, rfl, rfl, n1, d1, d2⟩ := isFr_nats hf
        rw [Int.toNat_natCast, Int.toNat_natCast, Int.toNat_natCast]
        have hm20 : m ≤ 20 := by omega
        clear _l1 _u1 _l2 _u2 _l3 _u3 n1 d1 d2
        have hV := fun (x : Nat × Nat) w hx => mpValue_any p x.1 x.2 w hc1 hc2 hok hx
        have hG := fun (x : Nat × Nat) w => mpGood_any x.1 x.2 w
        generalize hR : orbN p (n, d) m = R
        go_enter Try.func34, Try.ntmps34
        go_wp2_with fail
        have hb0 : Below w.heap.size w ((w.alloc (.cells #[.string p.1.str, .string p.2.str] 27 (0, 0))).alloc (.cells #[.int .i64 n, .int .i64 d] 45 (0, 0))) := nxAlloc (nxAlloc (Below.refl _ _) _) _
        have hx0 := heap_keep (nxAlloc (Below.refl _ _) (.cells #[.int .i64 n, .int .i64 d] 45 (0, 0))) (heap_alloc_at w (.cells #[.string p.1.str, .string p.2.str] 27 (0, 0)))
        have hx1 := heap_alloc_at (w.alloc (.cells #[.string p.1.str, .string p.2.str] 27 (0, 0))) (.cells #[.int .i64 n, .int .i64 d] 45 (0, 0))
        generalize ((w.alloc (.cells #[.string p.1.str, .string p.2.str] 27 (0, 0))).alloc (.cells #[.int .i64 n, .int .i64 d] 45 (0, 0))) = w0 at *
        have e1 : (w.alloc (.cells #[.string p.1.str, .string p.2.str] 27 (0, 0))).heap.size = w.heap.size + 1 := by simp
        rw [e1] at hx1
        clear e1
        obtain ⟨hx0a, hx0b, hx0c⟩ := two_facts hx0
        obtain ⟨hx0f, hx0g⟩ := two_frozen hx0
        obtain ⟨hx1a, hx1b, hx1c⟩ := two_facts hx1
        obtain ⟨hx1f, hx1g⟩ := two_frozen hx1
        refine (hg _).mono ?_; rintro e w1 ⟨rfl, hb1⟩
        have hbw1 := nx hb0 hb1
        replace hx0 := heap_keep hb1 hx0
        replace hx1 := heap_keep hb1 hx1
        clear hx0a hx0b hx0c hx0f hx0g
        obtain ⟨hx0a, hx0b, hx0c⟩ := two_facts hx0
        obtain ⟨hx0f, hx0g⟩ := two_frozen hx0
        clear hx1a hx1b hx1c hx1f hx1g
        obtain ⟨hx1a, hx1b, hx1c⟩ := two_facts hx1
        obtain ⟨hx1f, hx1g⟩ := two_frozen hx1
        clear hb1 hb0
        go_wp2_with fail
        refine (hk _).mono ?_; rintro e w2 ⟨rfl, hb2⟩
        have hbw2 := nx hbw1 hb2
        replace hx0 := heap_keep hb2 hx0
        replace hx1 := heap_keep hb2 hx1
        clear hx0a hx0b hx0c hx0f hx0g
        obtain ⟨hx0a, hx0b, hx0c⟩ := two_facts hx0
        obtain ⟨hx0f, hx0g⟩ := two_frozen hx0
        clear hx1a hx1b hx1c hx1f hx1g
        obtain ⟨hx1a, hx1b, hx1c⟩ := two_facts hx1
        obtain ⟨hx1f, hx1g⟩ := two_frozen hx1
        clear hb2 hbw1
        have H1 := hk0
        have H2 := hk20
        go_wp2_with fail
        refine (l1In_yes (m : Int) 0 20 _ H1 H2).mono ?_; rintro e w' ⟨rfl, rfl⟩
        go_wp2_with fail
        have hs2 := hbw2.size
        have hsz0 : w.heap.size + 2 ≤ w2.heap.size := by have := lt_of_block hx1; omega
        have hbA := nxAlloc hbw2 (.cells #[.int .i64 n, .int .i64 d] 45 (0, 0))
        have ownA : OwnF (w.heap.size + 2) (w2.alloc (.cells #[.int .i64 n, .int .i64 d] 45 (0, 0))) (.slice (some ⟨w2.heap.size, 0, none⟩) 1 1) [(n, d)] := World.ownsRow_lit (base := w.heap.size + 2) (e := 45) (size := 2) w2 #[.int .i64 n, .int .i64 d] 1 hsz0 (by unfold maxLen; omega) rfl
        have hxA0 := heap_keep (nxAlloc (Below.refl w2.heap.size w2) (.cells #[.int .i64 n, .int .i64 d] 45 (0, 0))) hx0
        have hxA1 := heap_keep (nxAlloc (Below.refl w2.heap.size w2) (.cells #[.int .i64 n, .int .i64 d] 45 (0, 0))) hx1
        clear hx0 hx1 hx0a hx0b hx0c hx0f hx0g hx1a hx1b hx1c hx1f hx1g
        generalize w2.alloc (.cells #[.int .i64 n, .int .i64 d] 45 (0, 0)) = wA at *
        go_loopw [8, 9] (fun v i wr => ∃ (j : Nat) (x : Nat × Nat) (l : List (Nat × Nat)) (v0 : Value), v0 = v ∧ j ≤ m ∧ i = .int .i64 j ∧ orbN p (n, d) j = some l ∧ l.getD j (0, 0) = x ∧ isFr x.1 x.2 = true ∧ OwnF (w.heap.size + 2) wr v0 l ∧ wr.heap[w.heap.size]? = some (.cells #[.string p.1.str, .string p.2.str] 27 (0, 0)) ∧ wr.heap[w.heap.size + 1]? = some (.cells #[.int .i64 x.1, .int .i64 x.2] 45 (0, 0)) ∧ Below w.heap.size w wr) (fun _ i _ => m - (intOf i).toNat)
        case atStart => exact ⟨0, (n, d), [(n, d)], _, rfl, Nat.zero_le _, rfl, rfl, rfl, hf, ownA, hxA0, hxA1, hbA⟩
        case round =>
          obtain ⟨j, x, l, v, rfl, hj, rfl, hl, hlx, hfx, hown, hx0, hx1, hbw⟩ := hrel
          obtain ⟨hx0a, hx0b, hx0c⟩ := two_facts hx0
          obtain ⟨hx0f, hx0g⟩ := two_frozen hx0
          obtain ⟨hx1a, hx1b, hx1c⟩ := two_facts hx1
          obtain ⟨hx1f, hx1g⟩ := two_frozen hx1
          by_cases hlt : j < m
          · have hlt' : (j : Int) < (m : Int) := by omega
            have hll := orbN_len hl
            have hstep := orbN_step hl hlx
            have hsr := hbw.size
            have hs1 : w.heap.size + 1 < wr.heap.size := lt_of_block hx1
            rcases frA_cases (valP p (stepsOf x.1 x.2)) with ⟨hfy, hsy⟩ | ⟨hfy, hsy⟩
            · rw [hsy] at hstep
              clear hsy
              have HST := Lib.hid hstep
              have hGy := fun w => hG (frOf (valP p (stepsOf x.1 x.2))) w
              rw [hfy] at hGy
              have hVx := fun w => hV x w hfx
              have hgx : l.length = j + 1 := hll
              have HF := Lib.hid hfy
              clear hstep hll hlx hfy
              generalize frOf (valP p (stepsOf x.1 x.2)) = y at *
              obtain ⟨x1, x2⟩ := x
              obtain ⟨y1, y2⟩ := y
              go_wp2_with fail
              refine (hVx _).mono ?_; rintro e w5 ⟨rfl, hb5⟩
              have hbw5 := nx hbw hb5
              have hown5 := hown.keep hb5
              replace hx0 := heap_keep hb5 hx0
              replace hx1 := heap_keep hb5 hx1
              clear hx0a hx0b hx0c hx0f hx0g hx1a hx1b hx1c hx1f hx1g
              obtain ⟨hx0a, hx0b, hx0c⟩ := two_facts hx0
              obtain ⟨hx0f, hx0g⟩ := two_frozen hx0
              obtain ⟨hx1a, hx1b, hx1c⟩ := two_facts hx1
              obtain ⟨hx1f, hx1g⟩ := two_frozen hx1
              go_wp2_with fail
              have hy1 := set_two (.int .i64 y1) (.int .i64 y2) hx1
              have hB : Below (w.heap.size + 1) w5 ((w5.setCell ⟨w.heap.size + 1, 0, none⟩ (.int .i64 y1)).setCell ⟨w.heap.size + 1, 1, none⟩ (.int .i64 y2)) := ((Below.refl (w.heap.size + 1) w5).setCell (p := ⟨w.heap.size + 1, 0, none⟩) (Nat.le_refl _) (.int .i64 y1)).setCell (p := ⟨w.heap.size + 1, 1, none⟩) (Nat.le_refl _) (.int .i64 y2)
              have hy0 := (hB.block w.heap.size (by omega)).trans hx0
              have hown6 : OwnF (w.heap.size + 2) ((w5.setCell ⟨w.heap.size + 1, 0, none⟩ (.int .i64 y1)).setCell ⟨w.heap.size + 1, 1, none⟩ (.int .i64 y2)) v l := ownsRow_setCell_below (ownsRow_setCell_below hown5 (show w.heap.size + 1 < w.heap.size + 2 by omega) _) (show w.heap.size + 1 < w.heap.size + 2 by omega) _
              have hbw6 : Below w.heap.size w ((w5.setCell ⟨w.heap.size + 1, 0, none⟩ (.int .i64 y1)).setCell ⟨w.heap.size + 1, 1, none⟩ (.int .i64 y2)) := (hbw5.setCell (by show w.heap.size ≤ w.heap.size + 1; omega) _).setCell (by show w.heap.size ≤ w.heap.size + 1; omega) _
              have hs6 : w5.heap.size ≤ ((w5.setCell ⟨w.heap.size + 1, 0, none⟩ (.int .i64 y1)).setCell ⟨w.heap.size + 1, 1, none⟩ (.int .i64 y2)).heap.size := hB.size
              have hs5 := hb5.size
              clear hx0 hx1 hx0a hx0b hx0c hx0f hx0g hx1a hx1b hx1c hx1f hx1g hown5 hown hb5 hB hbw5
              generalize (w5.setCell ⟨w.heap.size + 1, 0, none⟩ (.int .i64 y1)).setCell ⟨w.heap.size + 1, 1, none⟩ (.int .i64 y2) = w6 at *
              obtain ⟨hy0a, hy0b, hy0c⟩ := two_facts hy0
              obtain ⟨hy0f, hy0g⟩ := two_frozen hy0
              obtain ⟨hy1a, hy1b, hy1c⟩ := two_facts hy1
              obtain ⟨hy1f, hy1g⟩ := two_frozen hy1
              go_wp2_with fail
              refine (hGy _).mono ?_; rintro e w7 ⟨rfl, hb7⟩
              have hbw7 := nx hbw6 hb7
              have hown7 := hown6.keep hb7
              replace hy0 := heap_keep hb7 hy0
              replace hy1 := heap_keep hb7 hy1
              have hs7 := hb7.size
              clear hy0a hy0b hy0c hy0f hy0g hy1a hy1b hy1c hy1f hy1g hown6 hb7 hbw6
              obtain ⟨hy0a, hy0b, hy0c⟩ := two_facts hy0
              obtain ⟨hy0f, hy0g⟩ := two_frozen hy0
              obtain ⟨hy1a, hy1b, hy1c⟩ := two_facts hy1
              obtain ⟨hy1f, hy1g⟩ := two_frozen hy1
              go_wp2_with (at_builtin; refine wpList_append_own _ rfl _ _ 48 rfl (w.heap.size + 2) 45 i0 (.agg #[.int .i64 0, .int .i64 0]) 2 16 Try.underlying48 hi hz0 hz1 hz2 rfl (by decide) _ _ _ rfl (hown7.alloc _) ⟨w7.heap.size, 0, none⟩ 1 1 [.int .i64 y1, .int .i64 y2] rfl rfl (newsK _ #[.int .i64 y1, .int .i64 y2] _) (two1 _ _) (by unfold maxLen; omega) (by omega) (by simp; omega) ?_; intro v' w9 hown' hgrow hnn)
              have hbw9 := (nxAlloc hbw7 (.cells #[.int .i64 y1, .int .i64 y2] 45 (0, 0))).grown hgrow (by simp; omega) (fun k hk => by have := ownsRow_ge hown7 k hk; omega)
              have hown1 := OwnF.snoc hown'
              have hgr := (Below.refl (w.heap.size + 2) (w7.alloc (.cells #[.int .i64 y1, .int .i64 y2] 45 (0, 0)))).grown hgrow (by simp; omega) (fun k hk => ownsRow_ge hown7 k hk)
              have hz0x := (hgr.block w.heap.size (by omega)).trans (heap_keep (nxAlloc (Below.refl w7.heap.size w7) (.cells #[.int .i64 y1, .int .i64 y2] 45 (0, 0))) hy0)
              have hz1x := (hgr.block (w.heap.size + 1) (by omega)).trans (heap_keep (nxAlloc (Below.refl w7.heap.size w7) (.cells #[.int .i64 y1, .int .i64 y2] 45 (0, 0))) hy1)
              clear hown7 hown' hgrow hbw7 hnn hgr hy0a hy0b hy0c hy0f hy0g hy1a hy1b hy1c hy1f hy1g
              go_wp2_with fail
              go_roundw
              case rel => exact ⟨j + 1, (y1, y2), l ++ [(y1, y2)], _, rfl, by omega, by go_num, HST.out, last_snoc l _ hgx, HF.out, hown1, hz0x, hz1x, hbw9⟩
              case measure => simp [intOf]; omega
            · rw [hsy] at hstep
              have hno := orbN_none (p := p) (x := (n, d)) (k := j + 1) hstep (j := m) (by omega)
              obtain rfl : R = none := hR.symm.trans hno
              clear hsy hno hR
              have HST := Lib.hid hstep
              have hGy := fun w => hG (frOf (valP p (stepsOf x.1 x.2))) w
              rw [hfy] at hGy
              have hVx := fun w => hV x w hfx
              have hgx : l.length = j + 1 := hll
              have HF := Lib.hid hfy
              clear hstep hll hlx hfy
              generalize frOf (valP p (stepsOf x.1 x.2)) = y at *
              obtain ⟨x1, x2⟩ := x
              obtain ⟨y1, y2⟩ := y
              go_wp2_with fail
              refine (hVx _).mono ?_; rintro e w5 ⟨rfl, hb5⟩
              have hbw5 := nx hbw hb5
              have hown5 := hown.keep hb5
              replace hx0 := heap_keep hb5 hx0
              replace hx1 := heap_keep hb5 hx1
              clear hx0a hx0b hx0c hx0f hx0g hx1a hx1b hx1c hx1f hx1g
              obtain ⟨hx0a, hx0b, hx0c⟩ := two_facts hx0
              obtain ⟨hx0f, hx0g⟩ := two_frozen hx0
              obtain ⟨hx1a, hx1b, hx1c⟩ := two_facts hx1
              obtain ⟨hx1f, hx1g⟩ := two_frozen hx1
              go_wp2_with fail
              have hy1 := set_two (.int .i64 y1) (.int .i64 y2) hx1
              have hB : Below (w.heap.size + 1) w5 ((w5.setCell ⟨w.heap.size + 1, 0, none⟩ (.int .i64 y1)).setCell ⟨w.heap.size + 1, 1, none⟩ (.int .i64 y2)) := ((Below.refl (w.heap.size + 1) w5).setCell (p := ⟨w.heap.size + 1, 0, none⟩) (Nat.le_refl _) (.int .i64 y1)).setCell (p := ⟨w.heap.size + 1, 1, none⟩) (Nat.le_refl _) (.int .i64 y2)
              have hy0 := (hB.block w.heap.size (by omega)).trans hx0
              have hown6 : OwnF (w.heap.size + 2) ((w5.setCell ⟨w.heap.size + 1, 0, none⟩ (.int .i64 y1)).setCell ⟨w.heap.size + 1, 1, none⟩ (.int .i64 y2)) v l := ownsRow_setCell_below (ownsRow_setCell_below hown5 (show w.heap.size + 1 < w.heap.size + 2 by omega) _) (show w.heap.size + 1 < w.heap.size + 2 by omega) _
              have hbw6 : Below w.heap.size w ((w5.setCell ⟨w.heap.size + 1, 0, none⟩ (.int .i64 y1)).setCell ⟨w.heap.size + 1, 1, none⟩ (.int .i64 y2)) := (hbw5.setCell (by show w.heap.size ≤ w.heap.size + 1; omega) _).setCell (by show w.heap.size ≤ w.heap.size + 1; omega) _
              have hs6 : w5.heap.size ≤ ((w5.setCell ⟨w.heap.size + 1, 0, none⟩ (.int .i64 y1)).setCell ⟨w.heap.size + 1, 1, none⟩ (.int .i64 y2)).heap.size := hB.size
              have hs5 := hb5.size
              clear hx0 hx1 hx0a hx0b hx0c hx0f hx0g hx1a hx1b hx1c hx1f hx1g hown5 hown hb5 hB hbw5
              generalize (w5.setCell ⟨w.heap.size + 1, 0, none⟩ (.int .i64 y1)).setCell ⟨w.heap.size + 1, 1, none⟩ (.int .i64 y2) = w6 at *
              obtain ⟨hy0a, hy0b, hy0c⟩ := two_facts hy0
              obtain ⟨hy0f, hy0g⟩ := two_frozen hy0
              obtain ⟨hy1a, hy1b, hy1c⟩ := two_facts hy1
              obtain ⟨hy1f, hy1g⟩ := two_frozen hy1
              go_wp2_with fail
              refine (hGy _).mono ?_; rintro e w7 ⟨rfl, hb7⟩
              have hbw7 := nx hbw6 hb7
              have hown7 := hown6.keep hb7
              replace hy0 := heap_keep hb7 hy0
              replace hy1 := heap_keep hb7 hy1
              have hs7 := hb7.size
              clear hy0a hy0b hy0c hy0f hy0g hy1a hy1b hy1c hy1f hy1g hown6 hb7 hbw6
              obtain ⟨hy0a, hy0b, hy0c⟩ := two_facts hy0
              obtain ⟨hy0f, hy0g⟩ := two_frozen hy0
              obtain ⟨hy1a, hy1b, hy1c⟩ := two_facts hy1
              obtain ⟨hy1f, hy1g⟩ := two_frozen hy1
              go_wp2_with fail
              go_ret2
              exact ⟨_, OwnW.nil _ _ _ _, hbw7, rfl⟩
          · obtain rfl : j = m := by omega
            obtain rfl : R = some l := hR.symm.trans hl
            clear hR
            go_wp2_with fail
            go_ret2
            exact ⟨_, OwnF.mono hown (show w.heap.size ≤ w.heap.size + 2 by omega), hbw, rfl⟩

set_option maxRecDepth 100000 in
set_option maxHeartbeats 4000000 in
theorem implOrbitOf_any (a b : ByteArray) (n d k : Int) (w : World) (ha : a.size ≤ 9223372036854775806) (hb : b.size ≤ 9223372036854775806) (_l1 : -9223372036854775808 ≤ n) (_u1 : n ≤ 9223372036854775807) (_l2 : -9223372036854775808 ≤ d) (_u2 : d ≤ 9223372036854775807) (_l3 : -9223372036854775808 ≤ k) (_u3 : k ≤ 9223372036854775807) :
    Calls Try.prog 35 #[.agg #[.string a, .string b], .agg #[.int .i64 n, .int .i64 d], .int .i64 k] w (AnsFs (orbO a b n d k) w) := by
  obtain ⟨i0, hi, hz0, hz1, hz2⟩ := info_parts info_frac
  have hg := fun w => isPair_any a b w ha hb
  have hk := fun w => isFraction_any n d w
  unfold orbO
  cases h : pairOf a b with
  | none =>
    rw [h] at hg
    show Calls _ _ _ _ (AnsF2 [] false w)
    clear h hk _l1 _u1 _l2 _u2
    go_enter Try.func35, Try.ntmps35
    go_wp2_with fail
    have hb0 : Below w.heap.size w ((w.alloc (.cells #[.string a, .string b] 27 (0, 0))).alloc (.cells #[.int .i64 n, .int .i64 d] 45 (0, 0))) := nxAlloc (nxAlloc (Below.refl _ _) _) _
    have hx0 := heap_keep (nxAlloc (Below.refl _ _) (.cells #[.int .i64 n, .int .i64 d] 45 (0, 0))) (heap_alloc_at w (.cells #[.string a, .string b] 27 (0, 0)))
    have hx1 := heap_alloc_at (w.alloc (.cells #[.string a, .string b] 27 (0, 0))) (.cells #[.int .i64 n, .int .i64 d] 45 (0, 0))
    generalize ((w.alloc (.cells #[.string a, .string b] 27 (0, 0))).alloc (.cells #[.int .i64 n, .int .i64 d] 45 (0, 0))) = w0 at *
    have e1 : (w.alloc (.cells #[.string a, .string b] 27 (0, 0))).heap.size = w.heap.size + 1 := by simp
    rw [e1] at hx1
    clear e1
    obtain ⟨hx0a, hx0b, hx0c⟩ := two_facts hx0
    obtain ⟨hx0f, hx0g⟩ := two_frozen hx0
    obtain ⟨hx1a, hx1b, hx1c⟩ := two_facts hx1
    obtain ⟨hx1f, hx1g⟩ := two_frozen hx1
    refine (hg _).mono ?_; rintro e w1 ⟨rfl, hb1⟩
    have hbw1 := nx hb0 hb1
    replace hx0 := heap_keep hb1 hx0
    replace hx1 := heap_keep hb1 hx1
    clear hx0a hx0b hx0c hx0f hx0g
    obtain ⟨hx0a, hx0b, hx0c⟩ := two_facts hx0
    obtain ⟨hx0f, hx0g⟩ := two_frozen hx0
    clear hx1a hx1b hx1c hx1f hx1g
    obtain ⟨hx1a, hx1b, hx1c⟩ := two_facts hx1
    obtain ⟨hx1f, hx1g⟩ := two_frozen hx1
    clear hb1 hb0
    go_wp2_with fail
    go_ret2
    exact ⟨_, OwnW.nil _ _ _ _, hbw1, rfl⟩
  | some p =>
    rw [h] at hg
    obtain ⟨rfl, rfl, hok, hc1, hc2⟩ := pairOf_some h
    clear h
    cases hf : isFr n d with
    | false =>
      rw [hf] at hk
      show Calls _ _ _ _ (AnsF2 [] false w)
      clear hf _l1 _u1 _l2 _u2
      go_enter Try.func35, Try.ntmps35
      go_wp2_with fail
      have hb0 : Below w.heap.size w ((w.alloc (.cells #[.string p.1.str, .string p.2.str] 27 (0, 0))).alloc (.cells #[.int .i64 n, .int .i64 d] 45 (0, 0))) := nxAlloc (nxAlloc (Below.refl _ _) _) _
      have hx0 := heap_keep (nxAlloc (Below.refl _ _) (.cells #[.int .i64 n, .int .i64 d] 45 (0, 0))) (heap_alloc_at w (.cells #[.string p.1.str, .string p.2.str] 27 (0, 0)))
      have hx1 := heap_alloc_at (w.alloc (.cells #[.string p.1.str, .string p.2.str] 27 (0, 0))) (.cells #[.int .i64 n, .int .i64 d] 45 (0, 0))
      generalize ((w.alloc (.cells #[.string p.1.str, .string p.2.str] 27 (0, 0))).alloc (.cells #[.int .i64 n, .int .i64 d] 45 (0, 0))) = w0 at *
      have e1 : (w.alloc (.cells #[.string p.1.str, .string p.2.str] 27 (0, 0))).heap.size = w.heap.size + 1 := by simp
      rw [e1] at hx1
      clear e1
      obtain ⟨hx0a, hx0b, hx0c⟩ := two_facts hx0
      obtain ⟨hx0f, hx0g⟩ := two_frozen hx0
      obtain ⟨hx1a, hx1b, hx1c⟩ := two_facts hx1
      obtain ⟨hx1f, hx1g⟩ := two_frozen hx1
      refine (hg _).mono ?_; rintro e w1 ⟨rfl, hb1⟩
      have hbw1 := nx hb0 hb1
      replace hx0 := heap_keep hb1 hx0
      replace hx1 := heap_keep hb1 hx1
      clear hx0a hx0b hx0c hx0f hx0g
      obtain ⟨hx0a, hx0b, hx0c⟩ := two_facts hx0
      obtain ⟨hx0f, hx0g⟩ := two_frozen hx0
      clear hx1a hx1b hx1c hx1f hx1g
      obtain ⟨hx1a, hx1b, hx1c⟩ := two_facts hx1
      obtain ⟨hx1f, hx1g⟩ := two_frozen hx1
      clear hb1 hb0
      go_wp2_with fail
      refine (hk _).mono ?_; rintro e w2 ⟨rfl, hb2⟩
      have hbw2 := nx hbw1 hb2
      replace hx0 := heap_keep hb2 hx0
      replace hx1 := heap_keep hb2 hx1
      clear hx0a hx0b hx0c hx0f hx0g
      obtain ⟨hx0a, hx0b, hx0c⟩ := two_facts hx0
      obtain ⟨hx0f, hx0g⟩ := two_frozen hx0
      clear hx1a hx1b hx1c hx1f hx1g
      obtain ⟨hx1a, hx1b, hx1c⟩ := two_facts hx1
      obtain ⟨hx1f, hx1g⟩ := two_frozen hx1
      clear hb2 hbw1
      go_wp2_with fail
      go_ret2
      exact ⟨_, OwnW.nil _ _ _ _, hbw2, rfl⟩
    | true =>
      rw [hf] at hk
      by_cases hin : 0 ≤ k ∧ k ≤ 20
      rotate_left
      · have e : (if true = true ∧ 0 ≤ k ∧ k ≤ 20 then orbN p (n.toNat, d.toNat) k.toNat else none) = none := if_neg (fun h => hin h.2)
        show Calls _ _ _ _ (AnsFs (if true = true ∧ 0 ≤ k ∧ k ≤ 20 then orbN p (n.toNat, d.toNat) k.toNat else none) w)
        rw [e]
        show Calls _ _ _ _ (AnsF2 [] false w)
        have H : Hid (k < 0 ∨ 20 < k) := Lib.hid (by omega)
        clear hf _l1 _u1 _l2 _u2 e
        clear H
        by_cases hk0 : k < 0
        · clear hin
          go_enter Try.func35, Try.ntmps35
          go_wp2_with fail
          have hb0 : Below w.heap.size w ((w.alloc (.cells #[.string p.1.str, .string p.2.str] 27 (0, 0))).alloc (.cells #[.int .i64 n, .int .i64 d] 45 (0, 0))) := nxAlloc (nxAlloc (Below.refl _ _) _) _
          have hx0 := heap_keep (nxAlloc (Below.refl _ _) (.cells #[.int .i64 n, .int .i64 d] 45 (0, 0))) (heap_alloc_at w (.cells #[.string p.1.str, .string p.2.str] 27 (0, 0)))
          have hx1 := heap_alloc_at (w.alloc (.cells #[.string p.1.str, .string p.2.str] 27 (0, 0))) (.cells #[.int .i64 n, .int .i64 d] 45 (0, 0))
          generalize ((w.alloc (.cells #[.string p.1.str, .string p.2.str] 27 (0, 0))).alloc (.cells #[.int .i64 n, .int .i64 d] 45 (0, 0))) = w0 at *
          have e1 : (w.alloc (.cells #[.string p.1.str, .string p.2.str] 27 (0, 0))).heap.size = w.heap.size + 1 := by simp
          rw [e1] at hx1
          clear e1
          obtain ⟨hx0a, hx0b, hx0c⟩ := two_facts hx0
          obtain ⟨hx0f, hx0g⟩ := two_frozen hx0
          obtain ⟨hx1a, hx1b, hx1c⟩ := two_facts hx1
          obtain ⟨hx1f, hx1g⟩ := two_frozen hx1
          refine (hg _).mono ?_; rintro e w1 ⟨rfl, hb1⟩
          have hbw1 := nx hb0 hb1
          replace hx0 := heap_keep hb1 hx0
          replace hx1 := heap_keep hb1 hx1
          clear hx0a hx0b hx0c hx0f hx0g
          obtain ⟨hx0a, hx0b, hx0c⟩ := two_facts hx0
          obtain ⟨hx0f, hx0g⟩ := two_frozen hx0
          clear hx1a hx1b hx1c hx1f hx1g
          obtain ⟨hx1a, hx1b, hx1c⟩ := two_facts hx1
          obtain ⟨hx1f, hx1g⟩ := two_frozen hx1
          clear hb1 hb0
          go_wp2_with fail
          refine (hk _).mono ?_; rintro e w2 ⟨rfl, hb2⟩
          have hbw2 := nx hbw1 hb2
          replace hx0 := heap_keep hb2 hx0
          replace hx1 := heap_keep hb2 hx1
          clear hx0a hx0b hx0c hx0f hx0g
          obtain ⟨hx0a, hx0b, hx0c⟩ := two_facts hx0
          obtain ⟨hx0f, hx0g⟩ := two_frozen hx0
          clear hx1a hx1b hx1c hx1f hx1g
          obtain ⟨hx1a, hx1b, hx1c⟩ := two_facts hx1
          obtain ⟨hx1f, hx1g⟩ := two_frozen hx1
          clear hb2 hbw1
          go_wp2_with fail
          go_ret2
          exact ⟨_, OwnW.nil _ _ _ _, hbw2, rfl⟩
        · have hk2 : 20 < k := by omega
          clear hin
          go_enter Try.func35, Try.ntmps35
          go_wp2_with fail
          have hb0 : Below w.heap.size w ((w.alloc (.cells #[.string p.1.str, .string p.2.str] 27 (0, 0))).alloc (.cells #[.int .i64 n, .int .i64 d] 45 (0, 0))) := nxAlloc (nxAlloc (Below.refl _ _) _) _
          have hx0 := heap_keep (nxAlloc (Below.refl _ _) (.cells #[.int .i64 n, .int .i64 d] 45 (0, 0))) (heap_alloc_at w (.cells #[.string p.1.str, .string p.2.str] 27 (0, 0)))
          have hx1 := heap_alloc_at (w.alloc (.cells #[.string p.1.str, .string p.2.str] 27 (0, 0))) (.cells #[.int .i64 n, .int .i64 d] 45 (0, 0))
          generalize ((w.alloc (.cells #[.string p.1.str, .string p.2.str] 27 (0, 0))).alloc (.cells #[.int .i64 n, .int .i64 d] 45 (0, 0))) = w0 at *
          have e1 : (w.alloc (.cells #[.string p.1.str, .string p.2.str] 27 (0, 0))).heap.size = w.heap.size + 1 := by simp
          rw [e1] at hx1
          clear e1
          obtain ⟨hx0a, hx0b, hx0c⟩ := two_facts hx0
          obtain ⟨hx0f, hx0g⟩ := two_frozen hx0
          obtain ⟨hx1a, hx1b, hx1c⟩ := two_facts hx1
          obtain ⟨hx1f, hx1g⟩ := two_frozen hx1
          refine (hg _).mono ?_; rintro e w1 ⟨rfl, hb1⟩
          have hbw1 := nx hb0 hb1
          replace hx0 := heap_keep hb1 hx0
          replace hx1 := heap_keep hb1 hx1
          clear hx0a hx0b hx0c hx0f hx0g
          obtain ⟨hx0a, hx0b, hx0c⟩ := two_facts hx0
          obtain ⟨hx0f, hx0g⟩ := two_frozen hx0
          clear hx1a hx1b hx1c hx1f hx1g
          obtain ⟨hx1a, hx1b, hx1c⟩ := two_facts hx1
          obtain ⟨hx1f, hx1g⟩ := two_frozen hx1
          clear hb1 hb0
          go_wp2_with fail
          refine (hk _).mono ?_; rintro e w2 ⟨rfl, hb2⟩
          have hbw2 := nx hbw1 hb2
          replace hx0 := heap_keep hb2 hx0
          replace hx1 := heap_keep hb2 hx1
          clear hx0a hx0b hx0c hx0f hx0g
          obtain ⟨hx0a, hx0b, hx0c⟩ := two_facts hx0
          obtain ⟨hx0f, hx0g⟩ := two_frozen hx0
          clear hx1a hx1b hx1c hx1f hx1g
          obtain ⟨hx1a, hx1b, hx1c⟩ := two_facts hx1
          obtain ⟨hx1f, hx1g⟩ := two_frozen hx1
          clear hb2 hbw1
          go_wp2_with fail
          go_ret2
          exact ⟨_, OwnW.nil _ _ _ _, hbw2, rfl⟩
      · have e : (if true = true ∧ 0 ≤ k ∧ k ≤ 20 then orbN p (n.toNat, d.toNat) k.toNat else none) = orbN p (n.toNat, d.toNat) k.toNat := if_pos ⟨rfl, hin⟩
        show Calls _ _ _ _ (AnsFs (if true = true ∧ 0 ≤ k ∧ k ≤ 20 then orbN p (n.toNat, d.toNat) k.toNat else none) w)
        rw [e]
        clear e
        obtain ⟨m, rfl⟩ : ∃ m : Nat, k = m := ⟨k.toNat, by omega⟩
        obtain ⟨hk0, hk20⟩ := hin
        obtain ⟨n, d, rfl, rfl, n1, d1, d2⟩ := isFr_nats hf
        rw [Int.toNat_natCast, Int.toNat_natCast, Int.toNat_natCast]
        have hm20 : m ≤ 20 := by omega
        clear _l1 _u1 _l2 _u2 _l3 _u3 n1 d1 d2
        have hV : ∀ (x : Nat × Nat) w, isFr x.1 x.2 = true → Calls Try.prog 74 #[.agg #[.string p.1.str, .string p.2.str], .agg #[.int .i64 x.1, .int .i64 x.2]] w (Gives (ansF (frA (valP p (stepsOf x.1 x.2)))) w) := by
          intro x w hx
          have hx2 := isFr_iff.1 hx
          have hd2 := isP2_bounds hx2.1
          have := implValueOf_any p.1.str p.2.str x.1 x.2 w ha hb (by omega) (by omega) (by omega) (by omega)
          unfold valueO at this
          rw [pairOf_str hok hc1] at this
          have e : ((some p).bind fun p => if isFr (x.1 : Int) (x.2 : Int) = true then frA (valP p (stepsOf x.1 x.2)) else none) = frA (valP p (stepsOf x.1 x.2)) := by show (if isFr (x.1 : Int) (x.2 : Int) = true then _ else none) = _; rw [if_pos hx]
          rw [e] at this
          exact this
        generalize hR : orbN p (n, d) m = R
        go_enter Try.func35, Try.ntmps35
        go_wp2_with fail
        have hb0 : Below w.heap.size w ((w.alloc (.cells #[.string p.1.str, .string p.2.str] 27 (0, 0))).alloc (.cells #[.int .i64 n, .int .i64 d] 45 (0, 0))) := nxAlloc (nxAlloc (Below.refl _ _) _) _
        have hx0 := heap_keep (nxAlloc (Below.refl _ _) (.cells #[.int .i64 n, .int .i64 d] 45 (0, 0))) (heap_alloc_at w (.cells #[.string p.1.str, .string p.2.str] 27 (0, 0)))
        have hx1 := heap_alloc_at (w.alloc (.cells #[.string p.1.str, .string p.2.str] 27 (0, 0))) (.cells #[.int .i64 n, .int .i64 d] 45 (0, 0))
        generalize ((w.alloc (.cells #[.string p.1.str, .string p.2.str] 27 (0, 0))).alloc (.cells #[.int .i64 n, .int .i64 d] 45 (0, 0))) = w0 at *
        have e1 : (w.alloc (.cells #[.string p.1.str, .string p.2.str] 27 (0, 0))).heap.size = w.heap.size + 1 := by simp
        rw [e1] at hx1
        clear e1
        obtain ⟨hx0a, hx0b, hx0c⟩ := two_facts hx0
        obtain ⟨hx0f, hx0g⟩ := two_frozen hx0
        obtain ⟨hx1a, hx1b, hx1c⟩ := two_facts hx1
        obtain ⟨hx1f, hx1g⟩ := two_frozen hx1
        refine (hg _).mono ?_; rintro e w1 ⟨rfl, hb1⟩
        have hbw1 := nx hb0 hb1
        replace hx0 := heap_keep hb1 hx0
        replace hx1 := heap_keep hb1 hx1
        clear hx0a hx0b hx0c hx0f hx0g
        obtain ⟨hx0a, hx0b, hx0c⟩ := two_facts hx0
        obtain ⟨hx0f, hx0g⟩ := two_frozen hx0
        clear hx1a hx1b hx1c hx1f hx1g
        obtain ⟨hx1a, hx1b, hx1c⟩ := two_facts hx1
        obtain ⟨hx1f, hx1g⟩ := two_frozen hx1
        clear hb1 hb0
        go_wp2_with fail
        refine (hk _).mono ?_; rintro e w2 ⟨rfl, hb2⟩
        have hbw2 := nx hbw1 hb2
        replace hx0 := heap_keep hb2 hx0
        replace hx1 := heap_keep hb2 hx1
        clear hx0a hx0b hx0c hx0f hx0g
        obtain ⟨hx0a, hx0b, hx0c⟩ := two_facts hx0
        obtain ⟨hx0f, hx0g⟩ := two_frozen hx0
        clear hx1a hx1b hx1c hx1f hx1g
        obtain ⟨hx1a, hx1b, hx1c⟩ := two_facts hx1
        obtain ⟨hx1f, hx1g⟩ := two_frozen hx1
        clear hb2 hbw1
        have H1 : ¬ (m : Int) < 0 := by omega
        have H2 : ¬ (20 : Int) < (m : Int) := by omega
        go_wp2_with fail
        have hs2 := hbw2.size
        have hsz0 : w.heap.size + 2 ≤ w2.heap.size := by have := lt_of_block hx1; omega
        have hbA := nxAlloc hbw2 (.cells #[.int .i64 n, .int .i64 d] 45 (0, 0))
        have ownA : OwnF (w.heap.size + 2) (w2.alloc (.cells #[.int .i64 n, .int .i64 d] 45 (0, 0))) (.slice (some ⟨w2.heap.size, 0, none⟩) 1 1) [(n, d)] := World.ownsRow_lit (base := w.heap.size + 2) (e := 45) (size := 2) w2 #[.int .i64 n, .int .i64 d] 1 hsz0 (by unfold maxLen; omega) rfl
        have hxA0 := heap_keep (nxAlloc (Below.refl w2.heap.size w2) (.cells #[.int .i64 n, .int .i64 d] 45 (0, 0))) hx0
        have hxA1 := heap_keep (nxAlloc (Below.refl w2.heap.size w2) (.cells #[.int .i64 n, .int .i64 d] 45 (0, 0))) hx1
        clear hx0 hx1 hx0a hx0b hx0c hx0f hx0g hx1a hx1b hx1c hx1f hx1g
        generalize w2.alloc (.cells #[.int .i64 n, .int .i64 d] 45 (0, 0)) = wA at *
        go_loopw [8, 30] (fun v i wr => ∃ (j : Nat) (x : Nat × Nat) (l : List (Nat × Nat)) (v0 : Value), v0 = v ∧ j ≤ m ∧ i = .int .i64 j ∧ orbN p (n, d) j = some l ∧ l.getD j (0, 0) = x ∧ isFr x.1 x.2 = true ∧ OwnF (w.heap.size + 2) wr v0 l ∧ wr.heap[w.heap.size]? = some (.cells #[.string p.1.str, .string p.2.str] 27 (0, 0)) ∧ wr.heap[w.heap.size + 1]? = some (.cells #[.int .i64 x.1, .int .i64 x.2] 45 (0, 0)) ∧ Below w.heap.size w wr) (fun _ i _ => m - (intOf i).toNat)
        case atStart => exact ⟨0, (n, d), [(n, d)], _, rfl, Nat.zero_le _, rfl, rfl, rfl, hf, ownA, hxA0, hxA1, hbA⟩
        case round =>
          obtain ⟨j, x, l, v, rfl, hj, rfl, hl, hlx, hfx, hown, hx0, hx1, hbw⟩ := hrel
          obtain ⟨hx0a, hx0b, hx0c⟩ := two_facts hx0
          obtain ⟨hx0f, hx0g⟩ := two_frozen hx0
          obtain ⟨hx1a, hx1b, hx1c⟩ := two_facts hx1
          obtain ⟨hx1f, hx1g⟩ := two_frozen hx1
          by_cases hlt : j < m
          · have hlt' : (j : Int) < (m : Int) := by omega
            have hll := orbN_len hl
            have hstep := orbN_step hl hlx
            have hsr := hbw.size
            have hs1 : w.heap.size + 1 < wr.heap.size := lt_of_block hx1
            have hVx := fun w => hV x w hfx
            rcases frA_cases (valP p (stepsOf x.1 x.2)) with ⟨hfy, hsy⟩ | ⟨hfy, hsy⟩
            · rw [hsy] at hstep hVx
              have HST := Lib.hid hstep
              have HF := Lib.hid hfy
              clear hsy hstep hfy
              generalize frOf (valP p (stepsOf x.1 x.2)) = y at *
              obtain ⟨y1, y2⟩ := y
              have hVy : ∀ w, Calls Try.prog 74 #[.agg #[.string p.1.str, .string p.2.str], .agg #[.int .i64 x.1, .int .i64 x.2]] w (Gives (.tuple #[.agg #[.int .i64 y1, .int .i64 y2], .bool true]) w) := hVx
              clear hVx
              have hVx := hVy
              clear hVy
              have hgx : l.length = j + 1 := hll
              clear hll hlx
              obtain ⟨x1, x2⟩ := x
              go_wp2_with fail
              refine (hVx _).mono ?_; rintro e w5 ⟨rfl, hb5⟩
              have hbw5 := nx hbw hb5
              have hown5 := hown.keep hb5
              replace hx0 := heap_keep hb5 hx0
              replace hx1 := heap_keep hb5 hx1
              have hs5 := hb5.size
              clear hx0a hx0b hx0c hx0f hx0g hx1a hx1b hx1c hx1f hx1g
              have hbw7 := nxAlloc hbw5 (.cells #[.int .i64 y1, .int .i64 y2] 45 (0, 0))
              have hown7 : OwnF (w.heap.size + 2) (w5.alloc (.cells #[.int .i64 y1, .int .i64 y2] 45 (0, 0))) v l := OwnF.keep hown5 (nxAlloc (Below.refl w5.heap.size w5) (.cells #[.int .i64 y1, .int .i64 y2] 45 (0, 0)))
              have hs7 : (w5.alloc (.cells #[.int .i64 y1, .int .i64 y2] 45 (0, 0))).heap.size = w5.heap.size + 1 := size_of_alloc _ _
              have hnews := newsK (w5.alloc (.cells #[.int .i64 y1, .int .i64 y2] 45 (0, 0))) #[.int .i64 y1, .int .i64 y2] 45
              rw [hs7] at hnews
              have hne : ∀ k, v.ownBlock = some k → k < w5.heap.size := fun k hk => (World.ownsRow.lt hown5 k hk).2
              clear hown hb5 hown5
              go_wp2_with (at_builtin; refine wpList_append_own _ rfl _ _ 48 rfl (w.heap.size + 2) 45 i0 (.agg #[.int .i64 0, .int .i64 0]) 2 16 Try.underlying48 hi hz0 hz1 hz2 rfl (by decide) _ _ _ rfl (World.ownsRow.alloc hown7 _) ⟨w5.heap.size + 1, 0, none⟩ 1 1 [.int .i64 y1, .int .i64 y2] rfl rfl hnews (two1 _ _) (by unfold maxLen; omega) (by omega) (by simp; omega) ?_; intro v' w9 hown' hgrow hnn; have hsA : ((w5.alloc (.cells #[.int .i64 y1, .int .i64 y2] 45 (0, 0))).alloc (.cells #[.int .i64 y1, .int .i64 y2] 45 (0, 0))).heap.size = w5.heap.size + 1 + 1 := (by rw [size_of_alloc, hs7]); have hgr := (Below.refl (w.heap.size + 2) ((w5.alloc (.cells #[.int .i64 y1, .int .i64 y2] 45 (0, 0))).alloc (.cells #[.int .i64 y1, .int .i64 y2] 45 (0, 0)))).grown hgrow (by omega) (fun k hk => ownsRow_ge hown7 k hk); have hz0x := (hgr.block w.heap.size (by omega)).trans (heap_keep (nxAlloc (nxAlloc (Below.refl w5.heap.size w5) (.cells #[.int .i64 y1, .int .i64 y2] 45 (0, 0))) (.cells #[.int .i64 y1, .int .i64 y2] 45 (0, 0))) hx0); have hz1x := (hgr.block (w.heap.size + 1) (by omega)).trans (heap_keep (nxAlloc (nxAlloc (Below.refl w5.heap.size w5) (.cells #[.int .i64 y1, .int .i64 y2] 45 (0, 0))) (.cells #[.int .i64 y1, .int .i64 y2] 45 (0, 0))) hx1); have hz2x := (hgrow.block w5.heap.size (by omega) (fun e => by first | exact absurd (hne _ e.symm) (Nat.lt_irrefl _) | exact absurd (hne _ e) (Nat.lt_irrefl _))).trans (heap_keep (nxAlloc (Below.refl _ _) (.cells #[.int .i64 y1, .int .i64 y2] 45 (0, 0))) (heap_alloc_at w5 (.cells #[.int .i64 y1, .int .i64 y2] 45 (0, 0)))); obtain ⟨hz0a, hz0b, hz0c⟩ := two_facts hz0x; obtain ⟨hz1a, hz1b, hz1c⟩ := two_facts hz1x; obtain ⟨hz1f, hz1g⟩ := two_frozen hz1x; obtain ⟨hz2a, hz2b, hz2c⟩ := two_facts hz2x)
              have hbw9 := (nxAlloc hbw7 (.cells #[.int .i64 y1, .int .i64 y2] 45 (0, 0))).grown hgrow (by omega) (fun k hk => by have := ownsRow_ge hown7 k hk; omega)
              have hown1 := OwnF.snoc hown'
              have hy1 := set_two (.int .i64 y1) (.int .i64 y2) hz1x
              have hB : Below (w.heap.size + 1) w9 ((w9.setCell ⟨w.heap.size + 1, 0, none⟩ (.int .i64 y1)).setCell ⟨w.heap.size + 1, 1, none⟩ (.int .i64 y2)) := ((Below.refl (w.heap.size + 1) w9).setCell (p := ⟨w.heap.size + 1, 0, none⟩) (Nat.le_refl _) (.int .i64 y1)).setCell (p := ⟨w.heap.size + 1, 1, none⟩) (Nat.le_refl _) (.int .i64 y2)
              have hy0 := (hB.block w.heap.size (by omega)).trans hz0x
              have hown6 : OwnF (w.heap.size + 2) ((w9.setCell ⟨w.heap.size + 1, 0, none⟩ (.int .i64 y1)).setCell ⟨w.heap.size + 1, 1, none⟩ (.int .i64 y2)) _ (l ++ [(y1, y2)]) := ownsRow_setCell_below (ownsRow_setCell_below hown1 (a := ⟨w.heap.size + 1, 0, none⟩) (show w.heap.size + 1 < w.heap.size + 2 by omega) (.int .i64 y1)) (a := ⟨w.heap.size + 1, 1, none⟩) (show w.heap.size + 1 < w.heap.size + 2 by omega) (.int .i64 y2)
              have hbw6 : Below w.heap.size w ((w9.setCell ⟨w.heap.size + 1, 0, none⟩ (.int .i64 y1)).setCell ⟨w.heap.size + 1, 1, none⟩ (.int .i64 y2)) := (hbw9.setCell (p := ⟨w.heap.size + 1, 0, none⟩) (by show w.heap.size ≤ w.heap.size + 1; omega) (.int .i64 y1)).setCell (p := ⟨w.heap.size + 1, 1, none⟩) (by show w.heap.size ≤ w.heap.size + 1; omega) (.int .i64 y2)
              go_roundw
              case rel => exact ⟨j + 1, (y1, y2), l ++ [(y1, y2)], _, rfl, by omega, by go_num, HST.out, last_snoc l _ hgx, HF.out, hown6, hy0, hy1, hbw6⟩
              case measure => simp [intOf]; omega
            · rw [hsy] at hstep hVx
              have hno := orbN_none (p := p) (x := (n, d)) (k := j + 1) hstep (j := m) (by omega)
              obtain rfl : R = none := hR.symm.trans hno
              have hVy : ∀ w, Calls Try.prog 74 #[.agg #[.string p.1.str, .string p.2.str], .agg #[.int .i64 x.1, .int .i64 x.2]] w (Gives (.tuple #[.agg #[.int .i64 0, .int .i64 0], .bool false]) w) := hVx
              clear hVx hsy hno
              have hVx := hVy
              clear hVy hstep
              have hgx : l.length = j + 1 := hll
              clear hll hlx
              obtain ⟨x1, x2⟩ := x
              go_wp2_with fail
              refine (hVx _).mono ?_; rintro e w5 ⟨rfl, hb5⟩
              have hbw5 := nx hbw hb5
              have hown5 := hown.keep hb5
              replace hx0 := heap_keep hb5 hx0
              replace hx1 := heap_keep hb5 hx1
              have hs5 := hb5.size
              clear hx0a hx0b hx0c hx0f hx0g hx1a hx1b hx1c hx1f hx1g
              go_wp2_with fail
              have hbw7 := nxAlloc hbw5 (.cells #[.int .i64 0, .int .i64 0] 45 (0, 0))
              have hown7 := OwnF.keep hown5 (nxAlloc (Below.refl w5.heap.size w5) (.cells #[.int .i64 0, .int .i64 0] 45 (0, 0)))
              have hy0 := heap_keep (nxAlloc (Below.refl w5.heap.size w5) (.cells #[.int .i64 0, .int .i64 0] 45 (0, 0))) hx0
              have hy1 := heap_keep (nxAlloc (Below.refl w5.heap.size w5) (.cells #[.int .i64 0, .int .i64 0] 45 (0, 0))) hx1
              have hy2 := heap_alloc_at w5 (.cells #[.int .i64 0, .int .i64 0] 45 (0, 0))
              have hs7 : (w5.alloc (.cells #[.int .i64 0, .int .i64 0] 45 (0, 0))).heap.size = w5.heap.size + 1 := size_of_alloc _ _
              generalize hw7 : w5.alloc (.cells #[.int .i64 0, .int .i64 0] 45 (0, 0)) = w7 at *
              clear hx0 hx1 hown5 hown hb5 hw7
              obtain ⟨hy0a, hy0b, hy0c⟩ := two_facts hy0
              obtain ⟨hy0f, hy0g⟩ := two_frozen hy0
              obtain ⟨hy1a, hy1b, hy1c⟩ := two_facts hy1
              obtain ⟨hy1f, hy1g⟩ := two_frozen hy1
              obtain ⟨hy2a, hy2b, hy2c⟩ := two_facts hy2
              obtain ⟨hy2f, hy2g⟩ := two_frozen hy2
              go_ret2
              exact ⟨_, OwnW.nil _ _ _ _, hbw7, rfl⟩
          · obtain rfl : j = m := by omega
            obtain rfl : R = some l := hR.symm.trans hl
            clear hR
            go_wp2_with fail
            go_ret2
            exact ⟨_, OwnF.mono hown (show w.heap.size ≤ w.heap.size + 2 by omega), hbw, rfl⟩
end Go.Proofs.Ytgjdppegkoepfaa

/-! Ft1 -/
namespace Go.Proofs.Ytgjdppegkoepfaa
open Go.RowKit

set_option maxHeartbeats 2000000 in
theorem heldFractionS_any (b1 : Nat) (v1 : Value) (n : Nat) (k : Int) (w : World) (hk0 : 0 ≤ k) (hk1 : k ≤ 1000000000) (hn9 : n ≤ 1000000000) (h1 : CellsW 2 b1 w v1 n (marks k (n * 2))) :
    Calls Try.prog 38 #[v1, .int .i64 k] w (Gives (.int .i64 (k + (n * 2 : Nat))) w) := by
  rcases h1 with ⟨rfl, hn⟩ | ⟨g, cap, rfl, hb1, hg1, hc1, hm1, hx1, _⟩
  · subst hn
    go_enter Try.func38, Try.ntmps38
    go_wp2_with fail
    go_loopw [1, 5] (fun v i wr => v = .int .i64 k ∧ i = .int .i64 0 ∧ wr = w) (fun _ _ _ => 0)
    case atStart => exact ⟨rfl, rfl, rfl⟩
    case round =>
      obtain ⟨rfl, rfl, rfl⟩ := hrel
      go_wp2_with fail
      go_ret
      exact ⟨ret_int (by simp), Below.refl _ _⟩
  · have HX1 := Lib.hid hx1
    clear hx1
    go_enter Try.func38, Try.ntmps38
    go_wp2_with fail
    go_loopw [1, 5] (fun v i wr => ∃ j : Nat, j ≤ n ∧ i = .int .i64 j ∧ v = .int .i64 (k + (j * 2 : Nat)) ∧ Below w.heap.size w wr) (fun _ i _ => n - (intOf i).toNat)
    case atStart => exact ⟨0, Nat.zero_le _, rfl, by simp, Below.refl _ _⟩
    case round =>
      obtain ⟨j, hj, rfl, rfl, hbw⟩ := hrel
      by_cases hlt : j < n
      · have hlt' : (j : Int) < (n : Int) := by omega
        have c1 := (hbw.cell (p := ⟨g, j * 2, none⟩) hg1).trans (HX1.out (j * 2) (by omega))
        have c2 := (hbw.cell (p := ⟨g, j * 2 + 1, none⟩) hg1).trans (HX1.out (j * 2 + 1) (by omega))
        rw [marks_getD k (by omega)] at c1 c2
        go_wp2_with fail
        go_roundw
        case rel => exact ⟨j + 1, by omega, by go_num, by go_num, hbw⟩
        case measure => simp [intOf]; omega
      · obtain rfl : j = n := by omega
        go_wp2_with fail
        go_ret
        exact ⟨rfl, hbw⟩

set_option maxHeartbeats 2000000 in
theorem eqFractionS_any (b1 b2 : Nat) (v1 v2 : Value) (xs : List (Nat × Nat)) (w : World) (h1 : CellsW 2 b1 w v1 xs.length (flatF xs)) (h2 : CellsW 2 b2 w v2 xs.length (flatF xs)) :
    Calls Try.prog 36 #[v1, v2] w (Gives (.bool true) w) := by
  rcases h1 with ⟨rfl, hn⟩ | ⟨g, cap, rfl, hb1, hg1, hc1, hm1, hx1, _⟩
  · rcases h2 with ⟨rfl, _⟩ | ⟨g, cap, rfl, hb1, hg1, hc1, hm1, hx1, _⟩
    all_goals
      simp only [hn] at *
      go_enter Try.func36, Try.ntmps36
      go_wp2_with fail
      go_loopw [5] (fun i wr => i = .int .i64 0 ∧ wr = w) (fun _ _ => 0)
      case atStart => exact ⟨rfl, rfl⟩
      case round =>
        obtain ⟨rfl, rfl⟩ := hrel
        go_wp2_with fail
        go_ret
        exact ⟨rfl, Below.refl _ _⟩
  · rcases h2 with ⟨rfl, hn⟩ | ⟨g2, cap2, rfl, hb2, hg2, hc2, hm2, hx2, _⟩
    · simp only [hn] at *
      go_enter Try.func36, Try.ntmps36
      go_wp2_with fail
      go_loopw [5] (fun i wr => i = .int .i64 0 ∧ wr = w) (fun _ _ => 0)
      case atStart => exact ⟨rfl, rfl⟩
      case round =>
        obtain ⟨rfl, rfl⟩ := hrel
        go_wp2_with fail
        go_ret
        exact ⟨rfl, Below.refl _ _⟩
    · have HX1 := Lib.hid hx1
      have HX2 := Lib.hid hx2
      unfold maxLen at hm1 hm2
      clear hx1 hx2
      go_enter Try.func36, Try.ntmps36
      go_wp2_with fail
      go_loopw [5] (fun i wr => ∃ k : Nat, k ≤ xs.length ∧ i = .int .i64 k ∧ Below w.heap.size w wr) (fun i _ => xs.length - (intOf i).toNat)
      case atStart => exact ⟨0, Nat.zero_le _, rfl, Below.refl _ _⟩
      case round =>
        obtain ⟨k, hk, rfl, hbw⟩ := hrel
        by_cases hlt : k < xs.length
        · have hlt' : (k : Int) < (xs.length : Int) := by omega
          have c1 := (hbw.cell (p := ⟨g, k * 2, none⟩) hg1).trans (HX1.out (k * 2) (by omega))
          have c2 := (hbw.cell (p := ⟨g, k * 2 + 1, none⟩) hg1).trans (HX1.out (k * 2 + 1) (by omega))
          have c3 := (hbw.cell (p := ⟨g2, k * 2, none⟩) hg2).trans (HX2.out (k * 2) (by omega))
          have c4 := (hbw.cell (p := ⟨g2, k * 2 + 1, none⟩) hg2).trans (HX2.out (k * 2 + 1) (by omega))
          rw [(flatF_get xs k hlt).1] at c1 c3
          rw [(flatF_get xs k hlt).2] at c2 c4
          generalize (xs.getD k (0, 0)).1 = x at *
          generalize (xs.getD k (0, 0)).2 = y at *
          have hgr : g < wr.heap.size := Nat.lt_of_lt_of_le hg1 hbw.size
          have hgr2 : g2 < wr.heap.size := Nat.lt_of_lt_of_le hg2 hbw.size
          have hE := fun w => eqFraction_same (x : Int) (y : Int) w
          go_wp2_with fail
          refine wp_region_cls (by kernel_rfl) (by kernel_rfl) ?_
          repeat (
            refine wpQuiet_step (fun K hK => ?_)
            go_simp
            first
              | (refine hK _ ?_; clear hK K)
              | (refine ⟨_, fun _ _ => rfl, hK _ ?_⟩; clear hK K)
              | (apply Exists.intro
                 refine ⟨fun w' hw' => ?_, hK _ ?_⟩
                 · first
                     | (go_at_call 75; exact hw'.call (hE _))
                     | (rw [hw'.cell hgr c1]; dsimp only [Result.andThen]; rw [hw'.cell hgr c2]; exact ⟨rfl, rfl⟩)
                     | (rw [hw'.cell hgr2 c3]; dsimp only [Result.andThen]; rw [hw'.cell hgr2 c4]; exact ⟨rfl, rfl⟩)
                 clear hK K))
          refine wpQuiet_nil ?_
          intro w' hw'
          have hbw2 := nx hbw hw'
          go_wp2_with fail
          go_roundw
          case rel => exact ⟨k + 1, by omega, by go_num, hbw2⟩
          case measure => simp [intOf]; omega
        · obtain rfl : k = xs.length := by omega
          go_wp2_with fail
          go_ret
          exact ⟨rfl, hbw⟩

theorem OwnW.set {e : TypeId} {c base : Nat} {w : World} {g cap n : Nat} {L : List Int} (h : OwnW e c base w (.slice (some ⟨g, 0, none⟩) n cap) n L) (j : Nat) (m : Int) :
    OwnW e c base (w.setCell ⟨g, j, none⟩ (.int .i64 m)) (.slice (some ⟨g, 0, none⟩) n cap) n (L.set j m) := by
  unfold OwnW at *
  rw [List.map_set]
  exact (World.ownsRow.stored h j _).1
/-- A call that hands back a number, and leaves the slice v with other numbers. -/
def MarkedW (e0 : TypeId) (c base : Nat) (r : Int) (v : Value) (n : Nat) (L : List Int) (w : World) (e : Ending) (w' : World) : Prop := e = .returned (.int .i64 r) ∧ OwnW e0 c base w' v n L ∧ Below base w w'

set_option maxHeartbeats 2000000 in
theorem markFractionS_any (base : Nat) (v : Value) (xs : List (Nat × Nat)) (k : Int) (w : World) (hk0 : 0 ≤ k) (hk1 : k ≤ 1000000000) (hn9 : xs.length ≤ 1000000000) (h : OwnF base w v xs) :
    Calls Try.prog 37 #[v, .int .i64 k] w (MarkedW 45 2 base (k + (xs.length * 2 : Nat)) v xs.length (marks k (xs.length * 2)) w) := by
  have hb0 := Below.refl base w
  have hL := flatF_length xs
  unfold OwnF at h
  generalize flatF xs = L at *
  generalize xs.length = n at *
  rcases h.cells with ⟨rfl, rfl⟩ | ⟨g, cap, rfl, hb1, hg1, hc1, hm1, hx1, hf1⟩
  · have H := Lib.hid h
    have HL := Lib.hid hL
    clear h hL
    go_enter Try.func37, Try.ntmps37
    go_wp2_with fail
    go_loopw [1, 5] (fun v i wr => v = .int .i64 k ∧ i = .int .i64 0 ∧ wr = w) (fun _ _ _ => 0)
    case atStart => exact ⟨rfl, rfl, rfl⟩
    case round =>
      obtain ⟨rfl, rfl, rfl⟩ := hrel
      go_wp2_with fail
      go_ret
      refine ⟨ret_int (by simp), ?_, hb0⟩
      have hl : L = [] := List.length_eq_zero_iff.1 (by have := HL.out; omega)
      have := H.out
      rw [hl] at this
      exact this
  · unfold maxLen at hm1
    clear hx1 hf1 hg1
    have HL := Lib.hid hL
    have H := Lib.hid h
    clear h hL
    go_enter Try.func37, Try.ntmps37
    go_wp2_with fail
    go_loopw [1, 5] (fun v i wr => ∃ j : Nat, j ≤ n ∧ i = .int .i64 j ∧ v = .int .i64 (k + (j * 2 : Nat)) ∧ OwnW 45 2 base wr (.slice (some ⟨g, 0, none⟩) n cap) n (marks k (j * 2) ++ L.drop (j * 2)) ∧ Below base w wr) (fun _ i _ => n - (intOf i).toNat)
    case atStart => exact ⟨0, Nat.zero_le _, rfl, by simp, H.out, hb0⟩
    case round =>
      obtain ⟨j, hj, rfl, rfl, hown, hbw⟩ := hrel
      by_cases hlt : j < n
      · have hlt' : (j : Int) < (n : Int) := by omega
        rcases hown.cells with ⟨h0, _⟩ | ⟨g', cap', h0, hb1', hg1, hc1', hm1', hx1, hf1⟩
        · simp at h0
        simp only [Value.slice.injEq, Option.some.injEq, Addr.mk.injEq, and_true, true_and] at h0
        obtain ⟨rfl, rfl⟩ := h0
        have c1 := hx1 (j * 2) (by omega)
        have c2 := hx1 (j * 2 + 1) (by omega)
        have f1 := hf1 (j * 2)
        have f2 := hf1 (j * 2 + 1)
        have HO := Lib.hid hown
        clear hx1 hf1 hown
        generalize (marks k (j * 2) ++ L.drop (j * 2)).getD (j * 2) 0 = y1 at *
        generalize (marks k (j * 2) ++ L.drop (j * 2)).getD (j * 2 + 1) 0 = y2 at *
        go_wp2_with fail
        go_roundw
        case rel =>
          refine ⟨j + 1, by omega, by go_num, by go_num, ?_, (hbw.setCell hb1 _).setCell hb1 _⟩
          have o1 := (HO.out.set (j * 2) (k + (j * 2 : Nat))).set (j * 2 + 1) (k + (j * 2 + 1 : Nat))
          have hL := HL.out
          rw [marks_set k L (j * 2) (by omega), marks_set k L (j * 2 + 1) (by omega)] at o1
          rw [show (j + 1) * 2 = j * 2 + 1 + 1 by omega]
          have e1 : k + ((j * 2 : Nat) : Int) = k + (j : Int) * 2 := by omega
          have e2 : k + ((j * 2 + 1 : Nat) : Int) = k + (j : Int) * 2 + 1 := by omega
          rw [e1, e2] at o1
          exact o1
        case measure => simp [intOf]; omega
      · obtain rfl : j = n := by omega
        go_wp2_with fail
        go_ret
        refine ⟨rfl, ?_, hbw⟩
        have hL := HL.out
        rw [List.drop_of_length_le (by omega), List.append_nil] at hown
        exact hown
end Go.Proofs.Ytgjdppegkoepfaa

/-! WOrbitOf -/
namespace Go.Proofs.Ytgjdppegkoepfaa
open Go.RowKit

set_option maxRecDepth 100000 in
set_option maxHeartbeats 4000000 in
theorem fnExactOrbitOf_walk (a : ByteArray) (ha : a.size ≤ maxLen) (b : ByteArray) (hb : b.size ≤ maxLen) (n : Int) (hn : (Lit.int .i64 n).wf = true) (d : Int) (hd : (Lit.int .i64 d).wf = true) (k : Int) (hkk : (Lit.int .i64 k).wf = true) (w : World) :
    Calls Try.prog 9 #[.agg #[.string a, .string b], .agg #[.int .i64 n, .int .i64 d], .int .i64 k] w fun e w' => e = .returned (.bool true) ∧ Below w.heap.size w w' := by
  unfold maxLen at ha hb
  obtain ⟨lon, hin⟩ := i64_bounds hn
  obtain ⟨lod, hid⟩ := i64_bounds hd
  obtain ⟨lok, hik⟩ := i64_bounds hkk
  clear hn hd hkk
  have hsz := fun w => szPair_any a b w (by omega) (by omega) 1048576 (by omega) (by omega)
  by_cases hz : (a.size : Int) + b.size ≤ 1048576
  rotate_left
  · simp only [if_neg hz] at hsz
    clear lon hin lod hid lok hik
    go_enter Try.func9, Try.ntmps9
    go_wp2_with fail
    have hb0 : Below w.heap.size w ((w.alloc (.cells #[.string a, .string b] 23 (0, 0))).alloc (.cells #[.int .i64 n, .int .i64 d] 43 (0, 0))) := nxAlloc (nxAlloc (Below.refl _ _) _) _
    have hx0 := heap_keep (nxAlloc (Below.refl _ _) (.cells #[.int .i64 n, .int .i64 d] 43 (0, 0))) (heap_alloc_at w (.cells #[.string a, .string b] 23 (0, 0)))
    have hx1 := heap_alloc_at (w.alloc (.cells #[.string a, .string b] 23 (0, 0))) (.cells #[.int .i64 n, .int .i64 d] 43 (0, 0))
    generalize ((w.alloc (.cells #[.string a, .string b] 23 (0, 0))).alloc (.cells #[.int .i64 n, .int .i64 d] 43 (0, 0))) = w0 at *
    have e1 : (w.alloc (.cells #[.string a, .string b] 23 (0, 0))).heap.size = w.heap.size + 1 := by simp
    rw [e1] at hx1
    clear e1
    obtain ⟨ka0, kb0, kc0⟩ := two_facts hx0
    obtain ⟨ka1, kb1, kc1⟩ := two_facts hx1
    refine (hsz _).mono ?_; rintro e w1 ⟨rfl, hb1⟩
    go_wp2_with fail
    go_ret
    exact ⟨rfl, nx hb0 hb1⟩
  simp only [if_pos hz] at hsz
  have hS := fun w => specOrbitOf_any a b n d k w (by omega) (by omega) lon hin lod hid lok hik
  have hI := fun w => implOrbitOf_any a b n d k w (by omega) (by omega) lon hin lod hid lok hik
  have hn9 := orb_len a b n d k
  obtain ⟨o, ho⟩ : ∃ o, o = orbO a b n d k := ⟨_, rfl⟩
  rw [← ho] at hn9
  simp only [← ho] at hS hI
  clear ho
  obtain ⟨xs, ok, hx9, hk9⟩ : ∃ xs ok, xs = o.getD [] ∧ ok = o.isSome := ⟨_, _, rfl, rfl⟩
  have hS' : ∀ w, Calls Try.prog 34 #[.agg #[.string a, .string b], .agg #[.int .i64 n, .int .i64 d], .int .i64 k] w (AnsF2 xs ok w) := by rw [hx9, hk9]; exact hS
  have hI' : ∀ w, Calls Try.prog 35 #[.agg #[.string a, .string b], .agg #[.int .i64 n, .int .i64 d], .int .i64 k] w (AnsF2 xs ok w) := by rw [hx9, hk9]; exact hI
  rw [← hx9] at hn9
  clear hS hI hx9 hk9 o lon hin lod hid lok hik
  go_enter Try.func9, Try.ntmps9
  go_wp2_with fail
  have hb0 : Below w.heap.size w ((w.alloc (.cells #[.string a, .string b] 23 (0, 0))).alloc (.cells #[.int .i64 n, .int .i64 d] 43 (0, 0))) := nxAlloc (nxAlloc (Below.refl _ _) _) _
  have hx0 := heap_keep (nxAlloc (Below.refl _ _) (.cells #[.int .i64 n, .int .i64 d] 43 (0, 0))) (heap_alloc_at w (.cells #[.string a, .string b] 23 (0, 0)))
  have hx1 := heap_alloc_at (w.alloc (.cells #[.string a, .string b] 23 (0, 0))) (.cells #[.int .i64 n, .int .i64 d] 43 (0, 0))
  generalize ((w.alloc (.cells #[.string a, .string b] 23 (0, 0))).alloc (.cells #[.int .i64 n, .int .i64 d] 43 (0, 0))) = w0 at *
  have e1 : (w.alloc (.cells #[.string a, .string b] 23 (0, 0))).heap.size = w.heap.size + 1 := by simp
  rw [e1] at hx1
  clear e1
  obtain ⟨ka0, kb0, kc0⟩ := two_facts hx0
  obtain ⟨ka1, kb1, kc1⟩ := two_facts hx1
  refine (hsz _).mono ?_; rintro e w1 ⟨rfl, hb1⟩
  have hbw1 := nx hb0 hb1
  replace hx0 := heap_keep hb1 hx0
  replace hx1 := heap_keep hb1 hx1
  clear ka0 kb0 kc0 ka1 kb1 kc1 hb1
  obtain ⟨ka0, kb0, kc0⟩ := two_facts hx0
  obtain ⟨ka1, kb1, kc1⟩ := two_facts hx1
  go_wp2_with fail
  have hz1 := Below.refl w1.heap.size w1
  go_region_held3 (fun w' => w'.cell? ⟨w.heap.size, 0, none⟩ = some (.string a) ∧ w'.cell? ⟨w.heap.size, 1, none⟩ = some (.string b) ∧ w'.cell? ⟨w.heap.size + 1, 0, none⟩ = some (.int .i64 n) ∧ w'.cell? ⟨w.heap.size + 1, 1, none⟩ = some (.int .i64 d))
    (first
      | exact ⟨ka0, kb0, ka1, kb1⟩
      | exact K2
      | exact K3
      | exact K4)
    (first
      | (go_at_call 15; (with_reducible refine (toPair_any a b _).mono ?_); rintro e w2 ⟨rfl, hb2⟩; have hb2' := nx hz1.drew hb2; have K2 := And.intro (keep_cell hb2' ka0) (And.intro (keep_cell hb2' kb0) (And.intro (keep_cell hb2' ka1) (keep_cell hb2' kb1))))
      | (go_at_call 32; (with_reducible refine (toFraction_any n d _).mono ?_); rintro e w3 ⟨rfl, hb3⟩; have hb3' := nx hb2' hb3; have K3 := And.intro (keep_cell hb3' ka0) (And.intro (keep_cell hb3' kb0) (And.intro (keep_cell hb3' ka1) (keep_cell hb3' kb1))))
      | (go_at_call 34; refine (hS' _).mono ?_; rintro e w4 ⟨v0, own0, hb4, rfl⟩; have hb4' := nx hb3' hb4; have K4 := And.intro (keep_cell hb4' ka0) (And.intro (keep_cell hb4' kb0) (And.intro (keep_cell hb4' ka1) (keep_cell hb4' kb1)))))
  have hbw4 := nx hbw1 hb4'
  replace hx0 := heap_keep hb4' hx0
  replace hx1 := heap_keep hb4' hx1
  clear ka0 kb0 kc0 ka1 kb1 kc1
  obtain ⟨ka0, kb0, kc0⟩ := two_facts hx0
  obtain ⟨ka1, kb1, kc1⟩ := two_facts hx1
  go_wp2_with fail
  have hz4 := Below.refl w4.heap.size w4
  go_region_held3 (fun w' => w'.cell? ⟨w.heap.size, 0, none⟩ = some (.string a) ∧ w'.cell? ⟨w.heap.size, 1, none⟩ = some (.string b) ∧ w'.cell? ⟨w.heap.size + 1, 0, none⟩ = some (.int .i64 n) ∧ w'.cell? ⟨w.heap.size + 1, 1, none⟩ = some (.int .i64 d))
    (first
      | exact ⟨ka0, kb0, ka1, kb1⟩
      | exact K5
      | exact K6
      | exact K7)
    (first
      | (go_at_call 15; (with_reducible refine (toPair_any a b _).mono ?_); rintro e w5 ⟨rfl, hb5⟩; have hb5' := nx hz4.drew hb5; have K5 := And.intro (keep_cell hb5' ka0) (And.intro (keep_cell hb5' kb0) (And.intro (keep_cell hb5' ka1) (keep_cell hb5' kb1))))
      | (go_at_call 32; (with_reducible refine (toFraction_any n d _).mono ?_); rintro e w6 ⟨rfl, hb6⟩; have hb6' := nx hb5' hb6; have K6 := And.intro (keep_cell hb6' ka0) (And.intro (keep_cell hb6' kb0) (And.intro (keep_cell hb6' ka1) (keep_cell hb6' kb1))))
      | (go_at_call 35; refine (hI' _).mono ?_; rintro e w7 ⟨v1, own1, hb7, rfl⟩; have hb7' := nx hb6' hb7; have K7 := And.intro (keep_cell hb7' ka0) (And.intro (keep_cell hb7' kb0) (And.intro (keep_cell hb7' ka1) (keep_cell hb7' kb1)))))
  have hbw7 := nx hbw4 hb7'
  have own06 := own0.keep hb6'
  have hx06 := heap_keep hb6' hx0
  have hx16 := heap_keep hb6' hx1
  have hbw6 := nx hbw4 hb6'
  replace own0 := own0.keep hb7'
  replace hx0 := heap_keep hb7' hx0
  replace hx1 := heap_keep hb7' hx1
  clear ka0 kb0 kc0 ka1 kb1 kc1
  obtain ⟨ka0, kb0, kc0⟩ := two_facts hx0
  obtain ⟨ka1, kb1, kc1⟩ := two_facts hx1
  go_wp2_with fail
  refine (eqFractionS_any _ _ v1 v0 xs _ own1.cells own0.cells).mono ?_; rintro e w8 ⟨rfl, hb8⟩
  replace own1 := own1.keep hb8
  go_wp2_with fail
  refine (markFractionS_any w6.heap.size v1 xs 1 _ (by omega) (by omega) hn9 own1).mono ?_; rintro e w9 ⟨rfl, own9, hb9⟩
  have hb69 : Below w6.heap.size w6 w9 := (hb7.trans (hb8.mono hb7.size)).trans hb9
  have hbw9 := nx hbw6 hb69
  clear own0 own1 hx0 hx1 ka0 kb0 kc0 ka1 kb1 kc1
  have own0 := own06.keep hb69
  have hx0 := heap_keep hb69 hx06
  have hx1 := heap_keep hb69 hx16
  obtain ⟨ka0, kb0, kc0⟩ := two_facts hx0
  obtain ⟨ka1, kb1, kc1⟩ := two_facts hx1
  go_wp2_with fail
  refine (heldFractionS_any w6.heap.size v1 xs.length 1 _ (by omega) (by omega) hn9 own9.cells).mono ?_; rintro e w10 ⟨rfl, hb10⟩
  have hbw10 := nx hbw9 hb10
  replace own0 := own0.keep hb10
  replace own9 := own9.keep hb10
  replace hx0 := heap_keep hb10 hx0
  replace hx1 := heap_keep hb10 hx1
  clear ka0 kb0 kc0 ka1 kb1 kc1
  obtain ⟨ka0, kb0, kc0⟩ := two_facts hx0
  obtain ⟨ka1, kb1, kc1⟩ := two_facts hx1
  go_wp2_with fail
  have hz10 := Below.refl w10.heap.size w10
  go_region_held3 (fun w' => w'.cell? ⟨w.heap.size, 0, none⟩ = some (.string a) ∧ w'.cell? ⟨w.heap.size, 1, none⟩ = some (.string b) ∧ w'.cell? ⟨w.heap.size + 1, 0, none⟩ = some (.int .i64 n) ∧ w'.cell? ⟨w.heap.size + 1, 1, none⟩ = some (.int .i64 d))
    (first
      | exact ⟨ka0, kb0, ka1, kb1⟩
      | exact K11
      | exact K12
      | exact K13)
    (first
      | (go_at_call 15; (with_reducible refine (toPair_any a b _).mono ?_); rintro e w11 ⟨rfl, hb11⟩; have hb11' := nx hz10.drew hb11; have K11 := And.intro (keep_cell hb11' ka0) (And.intro (keep_cell hb11' kb0) (And.intro (keep_cell hb11' ka1) (keep_cell hb11' kb1))))
      | (go_at_call 32; (with_reducible refine (toFraction_any n d _).mono ?_); rintro e w12 ⟨rfl, hb12⟩; have hb12' := nx hb11' hb12; have K12 := And.intro (keep_cell hb12' ka0) (And.intro (keep_cell hb12' kb0) (And.intro (keep_cell hb12' ka1) (keep_cell hb12' kb1))))
      | (go_at_call 35; refine (hI' _).mono ?_; rintro e w13 ⟨v2, own2, hb13, rfl⟩; have hb13' := nx hb12' hb13; have K13 := And.intro (keep_cell hb13' ka0) (And.intro (keep_cell hb13' kb0) (And.intro (keep_cell hb13' ka1) (keep_cell hb13' kb1)))))
  have hbw13 := nx hbw10 hb13'
  replace own0 := own0.keep hb13'
  replace own9 := own9.keep hb13'
  replace hx0 := heap_keep hb13' hx0
  replace hx1 := heap_keep hb13' hx1
  clear ka0 kb0 kc0 ka1 kb1 kc1
  obtain ⟨ka0, kb0, kc0⟩ := two_facts hx0
  obtain ⟨ka1, kb1, kc1⟩ := two_facts hx1
  go_wp2_with fail
  refine (eqFractionS_any _ _ v2 v0 xs _ own2.cells own0.cells).mono ?_; rintro e w14 ⟨rfl, hb14⟩
  have hbw14 := nx hbw13 hb14
  replace own9 := own9.keep hb14
  go_wp2_with fail
  refine (heldFractionS_any w6.heap.size v1 xs.length 1 _ (by omega) (by omega) hn9 own9.cells).mono ?_; rintro e w15 ⟨rfl, hb15⟩
  have hbw15 := nx hbw14 hb15
  go_wp2_with fail
  go_ret
  exact ⟨rfl, hbw15⟩
end Go.Proofs.Ytgjdppegkoepfaa

/-! LFnExactOrbitOf -/
namespace Go.Proofs.Ytgjdppegkoepfaa.fnExactOrbitOf
open Go.ChangeShapes Go.WideShapes Go.ChangeAt Go.RowKit
open Go.ChangeMaps (open_string shut_string)
open Go.Joins (open_agg2 shut_agg2)
set_option linter.unusedVariables false

theorem cellsPair : Try.prog.cellsOf 23 = 2 := by kernel_rfl
theorem cellsFrac : Try.prog.cellsOf 43 = 2 := by kernel_rfl
theorem own : ownKnob Try.prog.godebug = none := by kernel_rfl
theorem laidOut : laidOutB Try.prog = true := by kernel_rfl

set_option maxRecDepth 100000 in
theorem lifted (os : Os) (started : os.Started) (H : Type) (enc : TypeId × Value → H) :
    ReturnsInHanded {} Try.checked os 9 .any (Rows.fnExactOrbitOfSpec.pre6 enc Try.prog Try.f9 Rows.fnExactOrbitOfRow.domain false) (Rows.fnExactOrbitOfSpec.post enc Try.prog Try.f9 false true false false) := by
  refine returnsInHanded_of_change (C := Try.checked) own started (by kernel_rfl) Try.func9
    (ChangeSpec.witness6 (enc := enc) (C := Try.checked) false ⟨#[], #[.agg #[.string ByteArray.empty, .string ByteArray.empty], .agg #[.int .i64 0, .int .i64 0], .int .i64 0], []⟩ 8 (by kernel_rfl) (by kernel_rfl) (by kernel_rfl) (by kernel_rfl)) ?_
  intro W base args ds gs before hval0 hW hcnd _
  have hval : ∀ (j : Nat) t v, Try.f9.params[j]? = some t → args[j]? = some v → Value.okWide Try.prog W .any base t v := hval0
  have hW' := hW
  obtain ⟨p, q, hA0, hV, rfl, hfz, hnd⟩ := hW
  have hA : DataW.TrodAll enc Try.prog W 0 (fun _ => true) true Try.f9.params.toList args.toList ds p := hA0
  rw [Try.params9] at hA hval
  obtain ⟨v0, vs0, d0, ds0, p0, q0, hargs, rfl, rfl, h0, r0⟩ := trodAll_cons hA
  obtain ⟨v1, vs1, d1, ds1, p1, q1, rfl, rfl, rfl, h1, r1⟩ := trodAll_cons r0
  obtain ⟨v2, vs2, d2, ds2, p2, q2, rfl, rfl, rfl, h2, r2⟩ := trodAll_cons r1
  obtain ⟨rfl, rfl, rfl⟩ := trodAll_nil r2
  obtain rfl : args = #[v0, v1, v2] := by cases args; simp_all
  obtain ⟨rfl, rfl⟩ := trodVars_none hV
  obtain ⟨c0a, c0b, y0a, y0b, m0, rfl, rfl, rfl, hy0a, hy0b⟩ := open_agg2 Try.underlying23 (by kernel_rfl) cellsPair (hval 0 23 v0 rfl rfl) h0
  obtain ⟨a0a, e0a, rfl, w0a⟩ := DataW.trod_string Try.underlying9 hy0a
  obtain ⟨a0b, e0b, rfl, w0b⟩ := DataW.trod_string Try.underlying9 hy0b
  simp at e0a e0b
  subst e0a e0b
  obtain ⟨c1a, c1b, y1a, y1b, m1, rfl, rfl, rfl, hy1a, hy1b⟩ := open_agg2 Try.underlying43 (by kernel_rfl) cellsFrac (hval 1 43 v1 rfl rfl) h1
  obtain ⟨a1a, e1a, rfl, w1a⟩ := DataW.trod_int Try.underlying3 hy1a
  obtain ⟨a1b, e1b, rfl, w1b⟩ := DataW.trod_int Try.underlying3 hy1b
  simp at e1a e1b
  subst e1a e1b
  obtain ⟨a2, rfl, rfl, rfl, w2⟩ := open_int Try.underlying3 (hval 2 3 v2 rfl rfl) h2
  clear hA0 hval0
  simp only [List.append_nil] at hW'
  refine (fnExactOrbitOf_walk a0a w0a a0b w0b a1a w1a a1b w1b a2 w2 W).mono fun e W' ⟨he, bel⟩ => ?_
  subst he
  exact ⟨_, rfl, _, _, _, [], _, [], hW', trodAll_mk1 (shut_bool Try.underlying4 _), (trodAll_cons_mk (shut_agg2 (y0 := (.lit (.string a0a.data.toList), [])) (y1 := (.lit (.string a0b.data.toList), [])) Try.underlying23 (by kernel_rfl) cellsPair (Go.Deep.shut_string_cell Try.underlying9 w0a) (Go.Deep.shut_string_cell Try.underlying9 w0b)) (trodAll_cons_mk (shut_agg2 (y0 := (.lit (.int .i64 a1a), [])) (y1 := (.lit (.int .i64 a1b), [])) Try.underlying43 (by kernel_rfl) cellsFrac ⟨1, trod_int_mk 0 Try.underlying3 w1a⟩ ⟨1, trod_int_mk 0 Try.underlying3 w1b⟩) (trodAll_cons_mk (shut_int Try.underlying3 w2) trodAll_mk0))), rfl, bel.frame _, fun h => by cases h⟩

theorem over : Rows.fnExactOrbitOfRow.holds Try.pinned (OpenSpec.ofChange Rows.fnExactOrbitOfSpec) :=
  OpenClaim.holds_of_wide 9 Try.f9 rfl rfl rfl rfl rfl rfl rfl ⟨rfl, rfl, rfl, rfl, rfl⟩ rfl rfl rfl rfl rfl (by kernel_rfl) Try.func9 (by kernel_rfl)
    (of_decide_eq_true (by kernel_rfl)) (by unfold Func.isWrapper; first | (rw [if_pos (by decide +kernel)]; kernel_rfl) | (rw [if_neg (by decide +kernel)]; exact ⟨rfl, rfl⟩))
    (fun os started H enc _ => lifted os started H enc)

theorem proved : Rows.FnExactOrbitOfSaid := over
#print axioms proved
end Go.Proofs.Ytgjdppegkoepfaa.fnExactOrbitOf
