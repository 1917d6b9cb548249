/- Texts that the claim needs, part 3. -/
import Derived.Test.YteflpaebckichabMgReducedAreUnique1
import Derived.Deep.RegionHeld3
import Derived.Lib.SmallJoins
/-! Lw0 -/
namespace Go.Proofs.Yteflpaebckichab
open Go.RowKit

theorem pow_cast2 (n : Nat) : (2 : Int) ^ n = ((2 ^ n : Nat) : Int) := by
  rw [Int.natCast_pow]; rfl
theorem share_step (S P T : Nat) (h : T = S + P) (h1 : P ≤ 256) (h2 : T ≤ 100000) : wrap64 ((S : Int) + wrap64 (P : Int)) = (T : Int) := by
  subst h
  unfold wrap64
  omega
theorem less_byL : ∀ (x y : List UInt8), Go.Op.bytesLess x y = decide (x < y) := by
  intro x
  induction x with
  | nil => intro y; cases y <;> simp [Go.Op.bytesLess]
  | cons a x ih =>
    intro y
    cases y with
    | nil => simp [Go.Op.bytesLess]
    | cons b y =>
      rw [Go.Op.bytesLess, ih y, Bool.eq_iff_iff]
      simp [List.cons_lt_cons_iff]
theorem less_data (a b : ByteArray) : Go.Op.bytesLess a.toList b.toList = decide (a.data.toList < b.data.toList) := by
  rw [less_byL, Lib.toList_data, Lib.toList_data]
theorem big_yes (c d : Bts) (w : World) (hc : (c.n : Int) ≤ 9223372036854775807) (_hd : (d.n : Int) ≤ 9223372036854775807) (h : 1048576 < c.n ∨ 1048576 < c.n + d.n) :
    Calls Try.prog 7 #[.slice c.a c.n c.cap, .slice d.a d.n d.cap] w (fun e w' => e = .returned (.bool true) ∧ w = w') := by
  by_cases h1 : 1048576 < c.n
  · have h1' : (1048576 : Int) < (c.n : Int) := by omega
    go_enter Try.func7, Try.ntmps7
    go_wp2_with fail
    go_ret
    exact ⟨rfl, rfl⟩
  · have h1' : (c.n : Int) ≤ 1048576 := by omega
    have h2' : 1048576 - (c.n : Int) < (d.n : Int) := by omega
    go_enter Try.func7, Try.ntmps7
    go_wp2_with fail
    go_ret
    exact ⟨ret_bool (by first | rfl | (simp; done) | (simp; omega)), rfl⟩
theorem big_no (c d : Bts) (w : World) (h : c.n + d.n ≤ 1048576) :
    Calls Try.prog 7 #[.slice c.a c.n c.cap, .slice d.a d.n d.cap] w (fun e w' => e = .returned (.bool false) ∧ w = w') := by
  have h1' : (c.n : Int) ≤ 1048576 := by omega
  have h2' : (d.n : Int) ≤ 1048576 - (c.n : Int) := by omega
  go_enter Try.func7, Try.ntmps7
  go_wp2_with fail
  go_ret
  exact ⟨ret_bool (by first | rfl | (simp; done) | (simp; omega)), rfl⟩
/-- An argument of a law: bytes that can be read. -/
def RawB (w : World) (c : Bts) : Prop := (c.n : Int) ≤ 9223372036854775807 ∧ (c.n = 0 ∨ ∃ g off, c.a = some ⟨g, off, none⟩ ∧ ∀ i, i < c.n → ∃ x : Nat, x < 256 ∧ w.cell? ⟨g, off + i, none⟩ = some (.int .u8 x))

set_option maxHeartbeats 1000000 in
theorem fSame_any (b1 b2 : Nat) (v1 v2 : Value) (xs : List Int) (w : World) (h1 : CellsI b1 w v1 xs) (h2 : CellsI b2 w v2 xs) :
    Calls Try.prog 20 #[v1, v2] w (Quietly (.bool true) w) := by
  have hl := h1.len
  rcases h1 with ⟨rfl, rfl⟩ | ⟨g, cap, rfl, hb1, hg1, hc1, hm1, hx1, _⟩
  · rcases h2 with ⟨rfl, _⟩ | ⟨g, cap, rfl, hb1, hg1, hc1, hm1, hx1, _⟩
    all_goals
      go_enter Try.func20, Try.ntmps20
      go_wp2_with fail
      go_loopw [13] (fun i wr => i = .int .i64 0 ∧ wr = w) (fun _ _ => 0)
      case atStart => exact ⟨rfl, rfl⟩
      case round =>
        obtain ⟨rfl, rfl⟩ := hrel
        go_wp2_with fail
        go_ret
        exact ⟨rfl, 0, rfl⟩
  · rcases h2 with ⟨rfl, rfl⟩ | ⟨g2, cap2, rfl, hb2, hg2, hc2, hm2, hx2, _⟩
    · go_enter Try.func20, Try.ntmps20
      go_wp2_with fail
      go_loopw [13] (fun i wr => i = .int .i64 0 ∧ wr = w) (fun _ _ => 0)
      case atStart => exact ⟨rfl, rfl⟩
      case round =>
        obtain ⟨rfl, rfl⟩ := hrel
        go_wp2_with fail
        go_ret
        exact ⟨rfl, 0, rfl⟩
    · have HX1 := Lib.hid hx1
      have HX2 := Lib.hid hx2
      clear hx1 hx2
      go_enter Try.func20, Try.ntmps20
      go_wp2_with fail
      go_loopw [13] (fun i wr => ∃ k d : Nat, k ≤ xs.length ∧ i = .int .i64 k ∧ wr = w.drewN d) (fun i _ => xs.length - (intOf i).toNat)
      case atStart => exact ⟨0, 0, Nat.zero_le _, rfl, rfl⟩
      case round =>
        obtain ⟨k, d, hk, rfl, rfl⟩ := hrel
        by_cases hlt : k < xs.length
        · have hlt' : (k : Int) < (xs.length : Int) := by omega
          have c1 := HX1.out k hlt
          have c2 := HX2.out k hlt
          obtain ⟨x, hx⟩ : ∃ x, x = xs.getD k 0 := ⟨_, rfl⟩
          rw [← hx] at c1 c2
          clear hx
          go_wp2_with fail
          go_quiet (fail)
          go_wp2_with fail
          go_roundw
          case rel => exact ⟨k + 1, _, by omega, by go_num, rfl⟩
          case measure => simp [intOf]; omega
        · obtain rfl : k = xs.length := by omega
          go_wp2_with fail
          go_ret
          exact ⟨rfl, _, rfl⟩

set_option maxHeartbeats 1000000 in
theorem fTexts_any (b1 b2 : Nat) (v1 v2 : Value) (xs : List ByteArray) (w : World) (h1 : CellsS b1 w v1 xs) (h2 : CellsS b2 w v2 xs) :
    Calls Try.prog 19 #[v1, v2] w (Quietly (.bool true) w) := by
  have hl := h1.len
  rcases h1 with ⟨rfl, rfl⟩ | ⟨g, cap, rfl, hb1, hg1, hc1, hm1, hx1, _⟩
  · rcases h2 with ⟨rfl, _⟩ | ⟨g, cap, rfl, hb1, hg1, hc1, hm1, hx1, _⟩
    all_goals
      go_enter Try.func19, Try.ntmps19
      go_wp2_with fail
      go_loopw [13] (fun i wr => i = .int .i64 0 ∧ wr = w) (fun _ _ => 0)
      case atStart => exact ⟨rfl, rfl⟩
      case round =>
        obtain ⟨rfl, rfl⟩ := hrel
        go_wp2_with fail
        go_ret
        exact ⟨rfl, 0, rfl⟩
  · rcases h2 with ⟨rfl, rfl⟩ | ⟨g2, cap2, rfl, hb2, hg2, hc2, hm2, hx2, _⟩
    · go_enter Try.func19, Try.ntmps19
      go_wp2_with fail
      go_loopw [13] (fun i wr => i = .int .i64 0 ∧ wr = w) (fun _ _ => 0)
      case atStart => exact ⟨rfl, rfl⟩
      case round =>
        obtain ⟨rfl, rfl⟩ := hrel
        go_wp2_with fail
        go_ret
        exact ⟨rfl, 0, rfl⟩
    · have HX1 := Lib.hid hx1
      have HX2 := Lib.hid hx2
      clear hx1 hx2
      go_enter Try.func19, Try.ntmps19
      go_wp2_with fail
      go_loopw [13] (fun i wr => ∃ k d : Nat, k ≤ xs.length ∧ i = .int .i64 k ∧ wr = w.drewN d) (fun i _ => xs.length - (intOf i).toNat)
      case atStart => exact ⟨0, 0, Nat.zero_le _, rfl, rfl⟩
      case round =>
        obtain ⟨k, d, hk, rfl, rfl⟩ := hrel
        by_cases hlt : k < xs.length
        · have hlt' : (k : Int) < (xs.length : Int) := by omega
          have c1 := HX1.out k hlt
          have c2 := HX2.out k hlt
          obtain ⟨x, hx⟩ : ∃ x, x = xs.getD k ⟨#[]⟩ := ⟨_, rfl⟩
          rw [← hx] at c1 c2
          clear hx
          go_wp2_with fail
          go_quiet (fail)
          go_wp2_with fail
          go_roundw
          case rel => exact ⟨k + 1, _, by omega, by go_num, rfl⟩
          case measure => simp [intOf]; omega
        · obtain rfl : k = xs.length := by omega
          go_wp2_with fail
          go_ret
          exact ⟨rfl, _, rfl⟩

end Go.Proofs.Yteflpaebckichab

/-! ArgI -/
namespace Go.Proofs.Yteflpaebckichab
open Go.RowKit

/-- A slice of integers that came in: it is nil, or leads to a row of 'cap' cells, the first 'len' of which are its elements. -/
def IsInts (w : World) (a : Option Addr) (len cap : Nat) (ss : List Int) : Prop :=
  (a = none ∧ len = 0 ∧ cap = 0 ∧ ss = []) ∨
  ∃ x, a = some x ∧ len ≤ cap ∧ cap ≤ maxLen ∧ ss.length = cap ∧ (∀ i, i < ss.length → w.cell? (x.add i) = some (.int .i64 (ss.getD i 0))) ∧ ∀ s ∈ ss, (Lit.int .i64 s).wf = true

/-- What can be read of a slice of integers: the cells from an address on. -/
def ReadI (w : World) (g off : Nat) (ss : List Int) : Prop := ∀ i, i < ss.length → w.cell? ⟨g, off + i, none⟩ = some (.int .i64 (ss.getD i 0))

theorem ReadI.keep {w w' : World} {g off : Nat} {ss : List Int} (h : ReadI w g off ss) (hb : Below w.heap.size w w') : ReadI w' g off ss := by
  intro i hi
  have := h i hi
  exact (hb.cell (p := ⟨g, off + i, none⟩) (World.block_lt_of_cell? w _ this)).trans this

/-- The slice as the walks take it: empty, or readable from an address on. -/
def InI (w : World) (a : Option Addr) (ss : List Int) : Prop := ss = [] ∨ ∃ g off, a = some ⟨g, off, none⟩ ∧ ReadI w g off ss

theorem IsInts.inI {w : World} {a : Option Addr} {len cap : Nat} {ss : List Int} (h : IsInts w a len cap ss) : InI w a (ss.take len) ∧ (ss.take len).length = len ∧ (len : Int) ≤ 9223372036854775807 ∧ ∀ s ∈ ss.take len, -9223372036854775808 ≤ s ∧ s ≤ 9223372036854775807 := by
  rcases h with ⟨rfl, rfl, rfl, rfl⟩ | ⟨x, rfl, h1, h2, h3, h4, h5⟩
  · exact ⟨.inl rfl, rfl, by omega, by simp⟩
  · have hl : (ss.take len).length = len := by rw [List.length_take]; omega
    unfold maxLen at h2
    refine ⟨?_, hl, by omega, fun s hs => i64_bounds (h5 s (List.mem_of_mem_take hs))⟩
    by_cases h0 : len = 0
    · left; subst h0; rfl
    · right
      obtain ⟨b, off, spot⟩ := x
      have hc := h4 0 (by omega)
      have hspot : spot = none := by simpa [Addr.add] using World.cell?_spot hc
      subst hspot
      refine ⟨b, off, rfl, fun i hi => ?_⟩
      rw [hl] at hi
      have := h4 i (by omega)
      have e : (⟨b, off, none⟩ : Addr).add i = ⟨b, off + i, none⟩ := by
        unfold Addr.add
        split
        · next h => rw [h]; simp
        · rfl
      rw [e] at this
      rw [this]
      simp [List.getD_eq_getElem?_getD, hi]

theorem InI.keep {w w' : World} {a : Option Addr} {ss : List Int} (h : InI w a ss) (hb : Below w.heap.size w w') : InI w' a ss := by
  rcases h with h | ⟨g, off, rfl, hr⟩
  · exact .inl h
  · exact .inr ⟨g, off, rfl, hr.keep hb⟩

/-- A call that hands back a copy, in new memory. -/
def CopyOfI (ss : List Int) (n : Nat) (w : World) (e : Ending) (w' : World) : Prop :=
  ∃ g : Nat, OwnI w.heap.size w' (.slice (some ⟨g, 0, none⟩) n n) ss ∧ Below w.heap.size w w' ∧ e = .returned (.slice (some ⟨g, 0, none⟩) n n)

theorem madeCells_int (n : Nat) : (madeCells (Value.int .i64 0).cells (n * 1)).toList = (List.replicate n (0 : Int)).map (Value.int .i64) := by
  rw [List.map_replicate, Nat.mul_one]
  exact toList_madeCells_one _ _

end Go.Proofs.Yteflpaebckichab

/-! Lw3 -/
namespace Go.Proofs.Yteflpaebckichab
open Go.RowKit

/-- The law's answer: true, and what was there is left. -/
def SaysTrue (w : World) (e : Ending) (w' : World) : Prop := e = .returned (.bool true) ∧ Below w.heap.size w w'

theorem OwnS.flat {base : Nat} {w : World} {v : Value} {L : List ByteArray} (h : OwnS base w v L) : ∃ (a : Option Addr) (cap : Nat), v = .slice a L.length cap ∧ InS w a L ∧ L.length ≤ cap ∧ cap ≤ 9223372036854775807 := by
  rcases h.cells with ⟨rfl, rfl⟩ | ⟨g, cap, rfl, _, _, h1, h2, h3, _⟩
  · exact ⟨none, 0, rfl, .inl rfl, Nat.le_refl _, by omega⟩
  · unfold maxLen at h2
    exact ⟨_, cap, rfl, .inr ⟨g, 0, rfl, fun i hi => by rw [Nat.zero_add]; exact h3 i hi⟩, h1, by omega⟩
theorem OwnI.flat {base : Nat} {w : World} {v : Value} {L : List Int} (h : OwnI base w v L) : ∃ (a : Option Addr) (cap : Nat), v = .slice a L.length cap ∧ InI w a L ∧ L.length ≤ cap ∧ cap ≤ 9223372036854775807 := by
  rcases h.cells with ⟨rfl, rfl⟩ | ⟨g, cap, rfl, _, _, h1, h2, h3, _⟩
  · exact ⟨none, 0, rfl, .inl rfl, Nat.le_refl _, by omega⟩
  · unfold maxLen at h2
    exact ⟨_, cap, rfl, .inr ⟨g, 0, rfl, fun i hi => by rw [Nat.zero_add]; exact h3 i hi⟩, h1, by omega⟩
end Go.Proofs.Yteflpaebckichab

/-! WPairText -/
namespace Go.Proofs.Yteflpaebckichab
open Go.RowKit

def prS (p : Pr) : ByteArray := p.1.str ++ ⟨#[62]⟩ ++ p.2.str
def prT (o : Option Pr) : ByteArray := match o with
  | some p => prS p
  | none => ⟨#[]⟩
def ansT (o : Option Pr) : Value := .tuple #[.string (prT o), .bool o.isSome]
theorem prText_any (p : Pr) (w : World) (h1 : p.1.carets ≤ 1000) (h2 : p.2.carets ≤ 1000) :
    Calls Try.prog 140 #[.agg #[.string p.1.str, .string p.2.str]] w (Gives (.string (prS p)) w) := by
  have s1 := p.1.str_size
  have s2 := p.2.str_size
  go_enter Try.func140, Try.ntmps140
  go_wp2_with fail
  go_ret
  exact ⟨rfl, nxAlloc (Below.refl _ _) _⟩

theorem pairText_any (p : Pr) (w : World) (h1 : p.1.carets ≤ 1000) (h2 : p.2.carets ≤ 1000) :
    Calls Try.prog 145 #[.agg #[.string p.1.str, .string p.2.str]] w (Gives (.string (prS p)) w) := by
  have s1 := p.1.str_size
  have s2 := p.2.str_size
  go_enter Try.func145, Try.ntmps145
  go_wp2_with fail
  go_ret
  exact ⟨rfl, nxAlloc (Below.refl _ _) _⟩

set_option maxHeartbeats 1000000 in
theorem implPairText_any (a b : ByteArray) (w : World) (ha : a.size ≤ 9223372036854775806) (hb : b.size ≤ 9223372036854775806) :
    Calls Try.prog 77 #[.agg #[.string a, .string b]] w (Gives (ansT (pairOf a b)) w) := by
  have hg := fun w => isPair_any a b w ha hb
  cases h : pairOf a b with
  | none =>
    rw [h] at hg
    clear h
    go_enter Try.func77, Try.ntmps77
    go_wp2_with fail
    have hb0 : Below w.heap.size w (w.alloc (.cells #[.string a, .string b] 59 (0, 0))) := nxAlloc (Below.refl _ _) _
    have hx0 := heap_alloc_at w (.cells #[.string a, .string b] 59 (0, 0))
    generalize (w.alloc (.cells #[.string a, .string b] 59 (0, 0))) = w0 at *
    obtain ⟨hx0a, hx0b, hx0c⟩ := two_facts hx0
    obtain ⟨hx0f, hx0g⟩ := two_frozen hx0
    refine (hg _).mono ?_; rintro e w1 ⟨rfl, hb1⟩
    have hbw1 := nx hb0 hb1
    replace hx0 := heap_keep hb1 hx0
    clear hx0a hx0b hx0c hx0f hx0g
    obtain ⟨hx0a, hx0b, hx0c⟩ := two_facts hx0
    obtain ⟨hx0f, hx0g⟩ := two_frozen hx0
    clear hb1 hb0
    go_wp2_with fail
    go_ret2
    exact ⟨rfl, hbw1⟩
  | some p =>
    rw [h] at hg
    obtain ⟨rfl, rfl, hok, hc1, hc2⟩ := pairOf_some h
    have s1 := p.1.str_size
    have s2 := p.2.str_size
    have s1' : p.1.str.size ≤ 100 := by omega
    have s2' : p.2.str.size ≤ 100 := by omega
    clear h s1 s2
    go_enter Try.func77, Try.ntmps77
    go_wp2_with fail
    have hb0 : Below w.heap.size w (w.alloc (.cells #[.string p.1.str, .string p.2.str] 59 (0, 0))) := nxAlloc (Below.refl _ _) _
    have hx0 := heap_alloc_at w (.cells #[.string p.1.str, .string p.2.str] 59 (0, 0))
    generalize (w.alloc (.cells #[.string p.1.str, .string p.2.str] 59 (0, 0))) = w0 at *
    obtain ⟨hx0a, hx0b, hx0c⟩ := two_facts hx0
    obtain ⟨hx0f, hx0g⟩ := two_frozen hx0
    refine (hg _).mono ?_; rintro e w1 ⟨rfl, hb1⟩
    have hbw1 := nx hb0 hb1
    replace hx0 := heap_keep hb1 hx0
    clear hx0a hx0b hx0c hx0f hx0g
    obtain ⟨hx0a, hx0b, hx0c⟩ := two_facts hx0
    obtain ⟨hx0f, hx0g⟩ := two_frozen hx0
    clear hb1 hb0
    go_wp2_with fail
    refine (pairText_any p _ (by omega) (by omega)).mono ?_; rintro e w2 ⟨rfl, hb2⟩
    have hbw2 := nx hbw1 hb2
    clear hx0 hx0a hx0b hx0c hx0f hx0g hb2 hbw1
    go_wp2_with fail
    go_ret2
    exact ⟨rfl, hbw2⟩

end Go.Proofs.Yteflpaebckichab

/-! HeldW -/
namespace Go.Proofs.Yteflpaebckichab
open Go.RowKit

section
variable {P : Program} {ops : Array Oper} {Q : Exit → Act → World → Prop} {md : Region.Mode}

theorem held_mono {S S' : World → Prop} (hSS : ∀ w, S' w → S w) : ∀ (fuel : Nat) (listed : Array Bool) (a : Act) (w : World),
    wpAnyH P md ops Q S' fuel listed a w → wpAnyH P md ops Q S fuel listed a w
  | 0, _, _, _, h => h
  | fuel + 1, _, _, _, h => ⟨h.1, fun i hi => wpOp_mono (fun a' w' h' => ⟨hSS _ h'.1, held_mono hSS fuel _ a' w' h'.2⟩) (h.2 i hi)⟩

/-- One operation alone may come up; behind it the condition may be another one. -/
theorem held_one {S : World → Prop} {fuel : Nat} {listed : Array Bool} {a : Act} {w : World} (i : Nat) {o : Oper} (ho : ops[i]? = some o) (hr : Region.ready md ops listed = [i])
    (h : ∀ K' : Act → World → Prop, Shut (∀ (S' : World → Prop) a w, (∀ w, S' w → S w) → S' w → wpAnyH P md ops Q S' fuel (listed.setIfInBounds i true) a w → K' a w) → if Region.wanted o (yielded ops a.tmps) = true then Oper.wp P o a w K' Q else K' (a.put o.dst undef) w) :
    wpAnyH P md ops Q S (fuel + 1) listed a w :=
  wpAnyH_ready hr (by simp) (AllReadyH.cons ho (fun K hK => h K (fun _ a w hSS hS hW => hK.out a w (hSS _ hS) (fun _ => held_mono hSS _ _ _ _ hW))) AllReadyH.nil)
/-- Two operations may come up, whichever first. -/
theorem held_two {S : World → Prop} {fuel : Nat} {listed : Array Bool} {a : Act} {w : World} (i j : Nat) {oi oj : Oper} (hoi : ops[i]? = some oi) (hoj : ops[j]? = some oj) (hr : Region.ready md ops listed = [i, j])
    (h : ∀ K' : Act → World → Prop, Shut (∀ (S' : World → Prop) a w, (∀ w, S' w → S w) → S' w → wpAnyH P md ops Q S' fuel (listed.setIfInBounds i true) a w → K' a w) → if Region.wanted oi (yielded ops a.tmps) = true then Oper.wp P oi a w K' Q else K' (a.put oi.dst undef) w)
    (k : ∀ K' : Act → World → Prop, Shut (∀ (S' : World → Prop) a w, (∀ w, S' w → S w) → S' w → wpAnyH P md ops Q S' fuel (listed.setIfInBounds j true) a w → K' a w) → if Region.wanted oj (yielded ops a.tmps) = true then Oper.wp P oj a w K' Q else K' (a.put oj.dst undef) w) :
    wpAnyH P md ops Q S (fuel + 1) listed a w :=
  wpAnyH_ready hr (by simp) (AllReadyH.cons hoi (fun K hK => h K (fun _ a w hSS hS hW => hK.out a w (hSS _ hS) (fun _ => held_mono hSS _ _ _ _ hW)))
    (AllReadyH.cons hoj (fun K hK => k K (fun _ a w hSS hS hW => hK.out a w (hSS _ hS) (fun _ => held_mono hSS _ _ _ _ hW))) AllReadyH.nil))
end
end Go.Proofs.Yteflpaebckichab

/-! Form -/
namespace Go.Proofs.Yteflpaebckichab
open Go.RowKit

theorem CellsI.form {b1 : Nat} {w : World} {v : Value} {xs : List Int} (h : CellsI b1 w v xs) :
    ∃ oa cap, v = .slice oa xs.length cap ∧ xs.length ≤ cap ∧ cap ≤ maxLen ∧ ∀ i, i < xs.length → ∃ g, oa = some ⟨g, 0, none⟩ ∧ b1 ≤ g ∧ g < w.heap.size ∧ w.cell? ⟨g, i, none⟩ = some (.int .i64 (xs.getD i 0)) := by
  rcases h with ⟨rfl, rfl⟩ | ⟨g, cap, rfl, h1, h2, h3, h4, h5, _⟩
  · exact ⟨none, 0, rfl, Nat.le_refl _, Nat.zero_le _, fun i hi => by simp at hi⟩
  · exact ⟨some ⟨g, 0, none⟩, cap, rfl, h3, h4, fun i hi => ⟨g, rfl, h1, h2, h5 i hi⟩⟩

end Go.Proofs.Yteflpaebckichab

/-! Has -/
namespace Go.Proofs.Yteflpaebckichab
open Go.RowKit

theorem CellsI.weak {b1 b2 : Nat} {w : World} {v : Value} {xs : List Int} (h : CellsI b1 w v xs) (hb : b2 ≤ b1) : CellsI b2 w v xs := by
  rcases h with h | ⟨g, cap, h1, h2, h3⟩
  · exact .inl h
  · exact .inr ⟨g, cap, h1, Nat.le_trans hb h2, h3⟩

set_option maxHeartbeats 1000000 in
theorem l1Has_any (b1 : Nat) (v : Value) (xs : List Int) (n : Int) (w : World) (h : CellsI b1 w v xs) :
    Calls Try.prog 101 #[v, .int .i64 n] w (Quietly (.bool (xs.contains n)) w) := by
  have hl := h.len
  rcases h with ⟨rfl, rfl⟩ | ⟨g, cap, rfl, hb1, hg1, hc1, hm1, hx1, _⟩
  · go_enter Try.func101, Try.ntmps101
    go_wp2_with fail
    go_loopw [9] (fun i wr => i = .int .i64 0 ∧ wr = w) (fun _ _ => 0)
    case atStart => exact ⟨rfl, rfl⟩
    case round =>
      obtain ⟨rfl, rfl⟩ := hrel
      go_wp2_with fail
      go_ret
      exact ⟨rfl, 0, rfl⟩
  · have HX1 := Lib.hid hx1
    clear hx1
    go_enter Try.func101, Try.ntmps101
    go_wp2_with fail
    go_loopw [9] (fun i wr => ∃ k d : Nat, k ≤ xs.length ∧ i = .int .i64 k ∧ wr = w.drewN d ∧ Hid (xs.contains n = (xs.drop k).contains n)) (fun i _ => xs.length - (intOf i).toNat)
    case atStart => exact ⟨0, 0, Nat.zero_le _, rfl, rfl, rfl⟩
    case round =>
      obtain ⟨k, d, hk, rfl, rfl, he⟩ := hrel
      by_cases hlt : k < xs.length
      · have hlt' : (k : Int) < (xs.length : Int) := by omega
        have c1 := HX1.out k hlt
        obtain ⟨x, hx⟩ : ∃ x, x = xs.getD k 0 := ⟨_, rfl⟩
        have hd : xs.drop k = x :: xs.drop (k + 1) := by rw [List.drop_eq_getElem_cons hlt, hx]; simp [hlt]
        rw [← hx] at c1
        have he' := he.out
        rw [hd, List.contains_cons] at he'
        clear hx hd he
        cases hxn : (x == n) with
        | true =>
          have hn : (n == x) = true := by simp at hxn; simp [hxn]
          rw [hn, Bool.true_or] at he'
          have HE := Lib.hid he'
          clear he' hn
          go_wp2_with fail
          go_ret
          exact ⟨by rw [HE.out]; rfl, _, rfl⟩
        | false =>
          have hn : (n == x) = false := by simp at hxn; simp; exact fun e => hxn e.symm
          rw [hn, Bool.false_or] at he'
          have HE := Lib.hid he'
          clear he' hn
          go_wp2_with fail
          go_roundw
          case rel => exact ⟨k + 1, _, by omega, by go_num, rfl, HE⟩
          case measure => simp [intOf]; omega
      · obtain rfl : k = xs.length := by omega
        have he' := he.out
        rw [List.drop_of_length_le (Nat.le_refl _)] at he'
        have HE := Lib.hid he'
        clear he he'
        go_wp2_with fail
        go_ret
        exact ⟨by rw [HE.out]; rfl, _, rfl⟩
end Go.Proofs.Yteflpaebckichab

/-! Both -/
namespace Go.Proofs.Yteflpaebckichab
open Go.RowKit

/-- The left leaves with which the trees of both texts have exposed carets. -/
def bothL (a b : ByteArray) : List Int := (exL a.data.toList 0).filter fun n => (exL b.data.toList 0).contains n
theorem bothL_str (p : Pr) : bothL p.1.str p.2.str = both p := by
  unfold bothL both
  rw [Tr.str_list, Tr.str_list, exps_text, exps_text]

/-- Where a number is in a list, from k on. -/
def idxI : List Int → Nat → Int → Int
  | [], _, _ => -1
  | x :: xs, k, n => if n = x then k else idxI xs (k + 1) n
theorem idxI_has (xs : List Int) : ∀ (k : Nat) (n : Int), decide (0 ≤ idxI xs k n) = xs.contains n := by
  induction xs with
  | nil => intro k n; rfl
  | cons x xs ih =>
    intro k n
    rw [idxI, List.contains_cons]
    by_cases h : n = x
    · subst h; simp
    · have : (n == x) = false := by simpa using h
      rw [if_neg h, ih, this, Bool.false_or]
theorem idxI_le (xs : List Int) : ∀ (k : Nat) (n : Int), -1 ≤ idxI xs k n ∧ idxI xs k n ≤ k + xs.length := by
  induction xs with
  | nil => intro k n; simp [idxI]
  | cons x xs ih =>
    intro k n
    have := ih (k + 1) n
    rw [idxI]
    simp only [List.length_cons]
    split <;> omega

set_option maxHeartbeats 1000000 in
theorem index_any (b1 : Nat) (v : Value) (xs : List Int) (n : Int) (w : World) (h : CellsI b1 w v xs) :
    Calls Try.prog 171 #[v, .int .i64 n] w (Quietly (.int .i64 (idxI xs 0 n)) w) := by
  have hl := h.len
  rcases h with ⟨rfl, rfl⟩ | ⟨g, cap, rfl, hb1, hg1, hc1, hm1, hx1, _⟩
  · go_enter Try.func171, Try.ntmps171
    go_wp2_with fail
    go_loopw [8] (fun i wr => i = .int .i64 0 ∧ wr = w) (fun _ _ => 0)
    case atStart => exact ⟨rfl, rfl⟩
    case round =>
      obtain ⟨rfl, rfl⟩ := hrel
      go_wp2_with fail
      go_ret
      exact ⟨rfl, 0, rfl⟩
  · have HX1 := Lib.hid hx1
    clear hx1
    go_enter Try.func171, Try.ntmps171
    go_wp2_with fail
    go_loopw [8] (fun i wr => ∃ k d : Nat, k ≤ xs.length ∧ i = .int .i64 k ∧ wr = w.drewN d ∧ Hid (idxI xs 0 n = idxI (xs.drop k) k n)) (fun i _ => xs.length - (intOf i).toNat)
    case atStart => exact ⟨0, 0, Nat.zero_le _, rfl, rfl, rfl⟩
    case round =>
      obtain ⟨k, d, hk, rfl, rfl, he⟩ := hrel
      by_cases hlt : k < xs.length
      · have hlt' : (k : Int) < (xs.length : Int) := by omega
        have c1 := HX1.out k hlt
        obtain ⟨x, hx⟩ : ∃ x, x = xs.getD k 0 := ⟨_, rfl⟩
        have hd : xs.drop k = x :: xs.drop (k + 1) := by rw [List.drop_eq_getElem_cons hlt, hx]; simp [hlt]
        rw [← hx] at c1
        have he' := he.out
        rw [hd, idxI] at he'
        clear hx hd he
        by_cases hxn : n = x
        · rw [if_pos hxn] at he'
          have hn : (n == x) = true := by simpa using hxn
          have HE := Lib.hid he'
          clear he' hxn
          go_wp2_with fail
          go_ret
          exact ⟨ret_int (by rw [HE.out]), _, rfl⟩
        · rw [if_neg hxn] at he'
          have hn : (n == x) = false := by simpa using hxn
          have HE := Lib.hid he'
          clear he' hxn
          go_wp2_with fail
          go_roundw
          case rel => exact ⟨k + 1, _, by omega, by go_num, rfl, HE⟩
          case measure => simp [intOf]; omega
      · obtain rfl : k = xs.length := by omega
        have he' := he.out
        rw [List.drop_of_length_le (Nat.le_refl _)] at he'
        have HE := Lib.hid he'
        clear he he'
        go_wp2_with fail
        go_ret
        exact ⟨by rw [HE.out]; rfl, _, rfl⟩

theorem contains_any (b1 : Nat) (v : Value) (xs : List Int) (n : Int) (w : World) (h : CellsI b1 w v xs) :
    Calls Try.prog 168 #[v, .int .i64 n] w (Quietly (.bool (xs.contains n)) w) := by
  have hi := fun w h => index_any b1 v xs n w h
  have HI : Hid (decide (0 ≤ idxI xs 0 n) = xs.contains n) := idxI_has xs 0 n
  have H := Lib.hid h
  clear h
  generalize idxI xs 0 n = z at *
  go_enter Try.func168, Try.ntmps168
  go_wp2_with fail
  refine (hi _ H.out).mono ?_; rintro e w3 ⟨rfl, d, rfl⟩
  go_wp2_with fail
  go_ret
  exact ⟨ret_bool HI.out, _, rfl⟩

set_option maxRecDepth 100000 in
set_option maxHeartbeats 2000000 in
theorem prBoth_any (a b : ByteArray) (w : World) (ha : a.size ≤ 1000) (hb : b.size ≤ 1000) :
    Calls Try.prog 139 #[.agg #[.string a, .string b]] w (GivesInts (bothL a b) w) := by
  obtain ⟨i0, hi, hz0, hz1, hz2⟩ := info_parts info_int
  have hXl : (exL a.data.toList 0).length ≤ 1000 := by have := exL_length a.data.toList 0; rw [← Lib.size_eq] at this; omega
  have hA := fun w => trExposed_any a w ha
  have hB := fun w => trExposed_any b w hb
  obtain ⟨X, hX⟩ : ∃ X, X = exL a.data.toList 0 := ⟨_, rfl⟩
  obtain ⟨Y, hY⟩ : ∃ Y, Y = exL b.data.toList 0 := ⟨_, rfl⟩
  rw [← hX] at hA hXl
  rw [← hY] at hB
  rw [show bothL a b = X.filter fun n => Y.contains n by rw [hX, hY]; rfl]
  clear hX hY
  go_enter Try.func139, Try.ntmps139
  go_wp2_with fail
  have hb0 : Below w.heap.size w (w.alloc (.cells #[.string a, .string b] 59 (0, 0))) := nxAlloc (Below.refl _ _) _
  have hc := two_cells (heap_alloc_at w (.cells #[.string a, .string b] 59 (0, 0)))
  have hs : w.heap.size < (w.alloc (.cells #[.string a, .string b] 59 (0, 0))).heap.size := by simp
  generalize w.alloc (.cells #[.string a, .string b] 59 (0, 0)) = w0 at *
  refine (hB _).mono ?_; rintro e w1 ⟨v1, own1, hb1, rfl⟩
  have hc1 := keep_two hb1 hs hc
  have hs1 : w.heap.size < w1.heap.size := Nat.lt_of_lt_of_le hs hb1.size
  have hb01 := nx hb0 hb1
  obtain ⟨k1, k2⟩ := hc1
  go_wp2_with fail
  refine (hA _).mono ?_; rintro e w2 ⟨v2, own2, hb2, rfl⟩
  have own1' := own1.keep hb2
  have hbase : w.heap.size ≤ w0.heap.size := Nat.le_of_lt hs
  have hbase1 : w.heap.size ≤ w1.heap.size := Nat.le_of_lt hs1
  have hb02 := nx hb01 hb2
  have hcx := own2.cells
  clear hc k1 k2 hs hs1 own1 hb0 hb1 hb01
  have hp1 : Hid (OwnI w1.heap.size w2 v2 X) := own2
  have hp2 : Hid (OwnI w0.heap.size w2 v1 Y) := own1'
  clear own2 own1'
  rcases hcx with ⟨rfl, rfl⟩ | ⟨g, cap, rfl, hg0, hg1, hc1, hm1, hx1, _⟩
  · go_wp2_with fail
    go_loopw [3, 14] (fun v i wr => v = .slice none 0 0 ∧ i = .int .i64 0 ∧ wr = w2) (fun _ _ _ => 0)
    case atStart => exact ⟨rfl, rfl, rfl⟩
    case round =>
      obtain ⟨rfl, rfl, rfl⟩ := hrel
      go_wp2_with fail
      go_ret
      exact ⟨_, OwnI.nil _ _, hb02, rfl⟩
  · have HX1 := Lib.hid hx1
    clear hx1
    go_wp2_with fail
    go_loopw [3, 14] (fun v i wr => ∃ (k : Nat) (zs : List Int), k ≤ X.length ∧ i = .int .i64 k ∧ zs.length ≤ k ∧ OwnI w2.heap.size wr v zs ∧ Below w2.heap.size w2 wr ∧ Hid (X.filter (fun n => Y.contains n) = zs ++ (X.drop k).filter fun n => Y.contains n)) (fun _ i _ => X.length - (intOf i).toNat)
    case atStart => exact ⟨0, [], Nat.zero_le _, rfl, Nat.le_refl _, OwnI.nil _ _, Below.refl _ _, by show _ = _; simp⟩
    case round =>
      obtain ⟨k, zs, hk, rfl, hzl, hown, hbw, he⟩ := hrel
      by_cases hlt : k < X.length
      · have c1 := (hbw.cell (p := ⟨g, k, none⟩) hg1).trans (HX1.out k hlt)
        have hcy := (OwnI.keep hp2.out hbw).cells
        obtain ⟨x, hx⟩ : ∃ x, x = X.getD k 0 := ⟨_, rfl⟩
        have hd : X.drop k = x :: X.drop (k + 1) := by rw [List.drop_eq_getElem_cons hlt, hx]; simp [hlt]
        rw [← hx] at c1
        have he' := he.out
        rw [hd, List.filter_cons] at he'
        have hhas := fun w h => l1Has_any w0.heap.size v1 Y x w h
        clear hx hd he
        have hlt' : (k : Int) < (X.length : Int) := by omega
        cases hxn : Y.contains x with
        | true =>
          rw [hxn] at hhas
          rw [hxn, if_pos rfl] at he'
          have HE := Lib.hid he'
          have HCY := Lib.hid hcy
          clear he' hxn hcy
          go_wp2_with fail
          refine (hhas _ HCY.out).mono ?_; rintro e w3 ⟨rfl, d, hw3⟩
          have hb3 : Below wr.heap.size wr w3 := by rw [hw3]; exact drewB (Below.refl _ _) _
          have hbw3 := nx hbw hb3
          have hown3 := hown.keep hb3
          clear hw3 hbw hown hb3
          go_wp2_with (at_builtin; refine wpList_append_own _ rfl _ _ 28 rfl w2.heap.size 3 i0 (.int .i64 0) 1 8 Try.underlying28 hi hz0 hz1 hz2 rfl (by decide) _ _ _ rfl (hown3.alloc _) ⟨w3.heap.size, 0, none⟩ 1 1 [.int .i64 x] rfl rfl (new1 _ _ _) (one1 _) (by unfold maxLen; omega) (by omega) (size_al hbw3 _) ?_; intro v' w4 hown' hgrow hnn)
          have hbw' := below_app hbw3 hown3 (Nat.le_refl _) hgrow
          have hown1 := OwnI.snoc hown'
          clear hown3 hown' hgrow hbw3 hnn
          go_wp2_with fail
          go_roundw
          case rel =>
            have he' := HE.out
            exact ⟨k + 1, zs ++ [x], by omega, by go_num, by simp; omega, hown1, hbw', by show _ = _; rw [he']; simp⟩
          case measure => simp [intOf]; omega
        | false =>
          rw [hxn] at hhas
          rw [hxn, if_neg (by decide)] at he'
          have HE := Lib.hid he'
          have HCY := Lib.hid hcy
          clear he' hxn hcy
          go_wp2_with fail
          refine (hhas _ HCY.out).mono ?_; rintro e w3 ⟨rfl, d, hw3⟩
          have hb3 : Below wr.heap.size wr w3 := by rw [hw3]; exact drewB (Below.refl _ _) _
          have hbw3 := nx hbw hb3
          have hown3 := hown.keep hb3
          clear hw3 hbw hown hb3
          go_wp2_with fail
          go_roundw
          case rel => exact ⟨k + 1, zs, by omega, by go_num, by omega, hown3, hbw3, HE⟩
          case measure => simp [intOf]; omega
      · obtain rfl : k = X.length := by omega
        have he' := he.out
        rw [List.drop_of_length_le (Nat.le_refl _), List.filter_nil, List.append_nil] at he'
        have HE := Lib.hid he'
        clear he he'
        go_wp2_with fail
        go_ret
        exact ⟨_, by rw [HE.out]; exact hown.mono hb02.size, nx hb02 hbw, rfl⟩

set_option maxRecDepth 100000 in
set_option maxHeartbeats 2000000 in
theorem sharedExposed_any (a b : ByteArray) (w : World) (ha : a.size ≤ 1000) (hb : b.size ≤ 1000) :
    Calls Try.prog 157 #[.agg #[.string a, .string b]] w (GivesInts (bothL a b) w) := by
  obtain ⟨i0, hi, hz0, hz1, hz2⟩ := info_parts info_int
  have hXl : (exL a.data.toList 0).length ≤ 1000 := by have := exL_length a.data.toList 0; rw [← Lib.size_eq] at this; omega
  have hA := fun w => exposedIn_any a w ha
  have hB := fun w => exposedIn_any b w hb
  obtain ⟨X, hX⟩ : ∃ X, X = exL a.data.toList 0 := ⟨_, rfl⟩
  obtain ⟨Y, hY⟩ : ∃ Y, Y = exL b.data.toList 0 := ⟨_, rfl⟩
  rw [← hX] at hA hXl
  rw [← hY] at hB
  rw [show bothL a b = X.filter fun n => Y.contains n by rw [hX, hY]; rfl]
  clear hX hY
  go_enter Try.func157, Try.ntmps157
  go_wp2_with fail
  have hb0 : Below w.heap.size w (w.alloc (.cells #[.string a, .string b] 59 (0, 0))) := nxAlloc (Below.refl _ _) _
  have hc := two_cells (heap_alloc_at w (.cells #[.string a, .string b] 59 (0, 0)))
  have hs : w.heap.size < (w.alloc (.cells #[.string a, .string b] 59 (0, 0))).heap.size := by simp
  generalize w.alloc (.cells #[.string a, .string b] 59 (0, 0)) = w0 at *
  refine (hB _).mono ?_; rintro e w1 ⟨v1, own1, hb1, rfl⟩
  have hc1 := keep_two hb1 hs hc
  have hs1 : w.heap.size < w1.heap.size := Nat.lt_of_lt_of_le hs hb1.size
  have hb01 := nx hb0 hb1
  obtain ⟨k1, k2⟩ := hc1
  go_wp2_with fail
  refine (hA _).mono ?_; rintro e w2 ⟨v2, own2, hb2, rfl⟩
  have own1' := own1.keep hb2
  have hbase : w.heap.size ≤ w0.heap.size := Nat.le_of_lt hs
  have hbase1 : w.heap.size ≤ w1.heap.size := Nat.le_of_lt hs1
  have hb02 := nx hb01 hb2
  have hcx := own2.cells
  clear hc k1 k2 hs hs1 own1 hb0 hb1 hb01
  have hp1 : Hid (OwnI w1.heap.size w2 v2 X) := own2
  have hp2 : Hid (OwnI w0.heap.size w2 v1 Y) := own1'
  clear own2 own1'
  rcases hcx with ⟨rfl, rfl⟩ | ⟨g, cap, rfl, hg0, hg1, hc1, hm1, hx1, _⟩
  · go_wp2_with fail
    go_loopw [3, 14] (fun v i wr => v = .slice none 0 0 ∧ i = .int .i64 0 ∧ wr = w2) (fun _ _ _ => 0)
    case atStart => exact ⟨rfl, rfl, rfl⟩
    case round =>
      obtain ⟨rfl, rfl, rfl⟩ := hrel
      go_wp2_with fail
      go_ret
      exact ⟨_, OwnI.nil _ _, hb02, rfl⟩
  · have HX1 := Lib.hid hx1
    clear hx1
    go_wp2_with fail
    go_loopw [3, 14] (fun v i wr => ∃ (k : Nat) (zs : List Int), k ≤ X.length ∧ i = .int .i64 k ∧ zs.length ≤ k ∧ OwnI w2.heap.size wr v zs ∧ Below w2.heap.size w2 wr ∧ Hid (X.filter (fun n => Y.contains n) = zs ++ (X.drop k).filter fun n => Y.contains n)) (fun _ i _ => X.length - (intOf i).toNat)
    case atStart => exact ⟨0, [], Nat.zero_le _, rfl, Nat.le_refl _, OwnI.nil _ _, Below.refl _ _, by show _ = _; simp⟩
    case round =>
      obtain ⟨k, zs, hk, rfl, hzl, hown, hbw, he⟩ := hrel
      by_cases hlt : k < X.length
      · have c1 := (hbw.cell (p := ⟨g, k, none⟩) hg1).trans (HX1.out k hlt)
        have hcy := (OwnI.keep hp2.out hbw).cells
        obtain ⟨x, hx⟩ : ∃ x, x = X.getD k 0 := ⟨_, rfl⟩
        have hd : X.drop k = x :: X.drop (k + 1) := by rw [List.drop_eq_getElem_cons hlt, hx]; simp [hlt]
        rw [← hx] at c1
        have he' := he.out
        rw [hd, List.filter_cons] at he'
        have hhas := fun w h => contains_any w0.heap.size v1 Y x w h
        clear hx hd he
        have hlt' : (k : Int) < (X.length : Int) := by omega
        cases hxn : Y.contains x with
        | true =>
          rw [hxn] at hhas
          rw [hxn, if_pos rfl] at he'
          have HE := Lib.hid he'
          have HCY := Lib.hid hcy
          clear he' hxn hcy
          go_wp2_with fail
          refine (hhas _ HCY.out).mono ?_; rintro e w3 ⟨rfl, d, hw3⟩
          have hb3 : Below wr.heap.size wr w3 := by rw [hw3]; exact drewB (Below.refl _ _) _
          have hbw3 := nx hbw hb3
          have hown3 := hown.keep hb3
          clear hw3 hbw hown hb3
          go_wp2_with (at_builtin; refine wpList_append_own _ rfl _ _ 28 rfl w2.heap.size 3 i0 (.int .i64 0) 1 8 Try.underlying28 hi hz0 hz1 hz2 rfl (by decide) _ _ _ rfl (hown3.alloc _) ⟨w3.heap.size, 0, none⟩ 1 1 [.int .i64 x] rfl rfl (new1 _ _ _) (one1 _) (by unfold maxLen; omega) (by omega) (size_al hbw3 _) ?_; intro v' w4 hown' hgrow hnn)
          have hbw' := below_app hbw3 hown3 (Nat.le_refl _) hgrow
          have hown1 := OwnI.snoc hown'
          clear hown3 hown' hgrow hbw3 hnn
          go_wp2_with fail
          go_roundw
          case rel =>
            have he' := HE.out
            exact ⟨k + 1, zs ++ [x], by omega, by go_num, by simp; omega, hown1, hbw', by show _ = _; rw [he']; simp⟩
          case measure => simp [intOf]; omega
        | false =>
          rw [hxn] at hhas
          rw [hxn, if_neg (by decide)] at he'
          have HE := Lib.hid he'
          have HCY := Lib.hid hcy
          clear he' hxn hcy
          go_wp2_with fail
          refine (hhas _ HCY.out).mono ?_; rintro e w3 ⟨rfl, d, hw3⟩
          have hb3 : Below wr.heap.size wr w3 := by rw [hw3]; exact drewB (Below.refl _ _) _
          have hbw3 := nx hbw hb3
          have hown3 := hown.keep hb3
          clear hw3 hbw hown hb3
          go_wp2_with fail
          go_roundw
          case rel => exact ⟨k + 1, zs, by omega, by go_num, by omega, hown3, hbw3, HE⟩
          case measure => simp [intOf]; omega
      · obtain rfl : k = X.length := by omega
        have he' := he.out
        rw [List.drop_of_length_le (Nat.le_refl _), List.filter_nil, List.append_nil] at he'
        have HE := Lib.hid he'
        clear he he'
        go_wp2_with fail
        go_ret
        exact ⟨_, by rw [HE.out]; exact hown.mono hb02.size, nx hb02 hbw, rfl⟩
end Go.Proofs.Yteflpaebckichab

/-! Drop -/
namespace Go.Proofs.Yteflpaebckichab
open Go.RowKit

set_option maxRecDepth 100000 in
set_option maxHeartbeats 1000000 in
theorem trDrop_any (s : ByteArray) (n : Int) (q : Nat) (w : World) (hs : s.size ≤ 1000) (hn : 0 ≤ n) (hn' : n ≤ 9223372036854775807) (hp : posFrom s.data.toList 0 n = (q : Int) + 1) (hq : q + 4 ≤ s.size) :
    Calls Try.prog 102 #[.string s, .int .i64 n] w (Gives (.string (dropS s q)) w) := by
  have HP0 := Lib.hid hp
  clear hp
  go_enter Try.func102, Try.ntmps102
  go_wp2_with fail
  go_loopw [5, 6] (fun v i wr => ∃ (k : Nat) (c : Int), k ≤ s.size ∧ i = .int .i64 k ∧ v = .int .i64 c ∧ 0 ≤ c ∧ c ≤ n ∧ c ≤ k ∧ wr = w ∧ Hid (posFrom s.data.toList 0 n = posFrom (s.data.toList.drop k) k (n - c))) (fun _ i _ => s.size - (intOf i).toNat)
  case atStart => exact ⟨0, 0, Nat.zero_le _, rfl, rfl, by omega, by omega, by omega, rfl, by show _ = _; simp⟩
  case round =>
    obtain ⟨k, c, hk, rfl, rfl, hc1, hc2, hck, rfl, he⟩ := hrel
    by_cases hlt : k < s.size
    · cases h46 : (((s[k]'hlt).toNat : Int) == 46) with
      | true =>
        have h46n : Hid ((((s[k]'hlt).toNat : Int) != 46) = false) := by show (_ != _) = false; rw [bne, h46]; rfl
        have hp := posFrom_dot (off := k) (n := n - c) hlt h46
        have HP := Lib.hid hp
        clear hp h46
        by_cases hm0 : c = n
        · have g0 : (c == n) = true := by simp [hm0]
          have hkq : k = q + 1 := by
            have h1 := he.out
            rw [HP.out, if_pos (by omega), HP0.out] at h1
            omega
          have HM := Lib.hid hm0
          have HKQ := Lib.hid hkq
          have hk1 : (1 : Int) ≤ k := by omega
          have hk3 : (k : Int) + 3 ≤ s.size := by omega
          clear hm0 hkq
          have g := h46n.out
          go_wp2_with fail
          clear g g0
          go_quiet (fail)
          go_wp2_with fail
          go_ret
          exact ⟨ret_str (by unfold dropS; rw [HKQ.out, Nat.add_sub_cancel]), drewB (Below.refl _ _) _⟩
        · have g0 : (c == n) = false := by simp [hm0]
          have HM := Lib.hid hm0
          have hlt2 : c < n := by omega
          clear hm0
          have g := h46n.out
          go_wp2_with fail
          clear g g0
          go_roundw
          case rel => exact ⟨k + 1, c + 1, by omega, by go_num, rfl, by omega, by omega, by omega, trivial, by show _ = _; rw [he.out, HP.out, if_neg (by omega)]; congr 1; omega⟩
          case measure => simp [intOf]; omega
      | false =>
        have h46n : Hid ((((s[k]'hlt).toNat : Int) != 46) = true) := by show (_ != _) = true; rw [bne, h46]; rfl
        have hp := posFrom_other (off := k) (n := n - c) hlt h46
        have HP := Lib.hid hp
        clear hp h46
        have g := h46n.out
        go_wp2_with fail
        clear g
        go_roundw
        case rel => exact ⟨k + 1, c, by omega, by go_num, rfl, by omega, by omega, by omega, trivial, by show _ = _; rw [he.out, HP.out]⟩
        case measure => simp [intOf]; omega
    · obtain rfl : k = s.size := by omega
      exfalso
      have h1 := he.out
      rw [posFrom_end, HP0.out] at h1
      omega

def dropExpO (a : ByteArray) (n : Int) : Option ByteArray :=
  match treeOf a with
  | some _ => dropO a n
  | none => none

theorem has_exL (l : List UInt8) (n : Int) : (exL l 0).contains n = dropB l n := by
  rw [Bool.eq_iff_iff, List.contains_iff_mem, mem_exL]
  simp

set_option maxHeartbeats 400000 in
theorem specDropExposed_any (a : ByteArray) (n : Int) (w : World) (ha : a.size ≤ 9223372036854775806) (_lo : -9223372036854775808 ≤ n) (hi : n ≤ 9223372036854775807) :
    Calls Try.prog 28 #[.string a, .int .i64 n] w (Gives (ans2 (dropExpO a n)) w) := by
  cases h : treeOf a with
  | none =>
    rw [show dropExpO a n = none by simp [dropExpO, h]]
    have H := Lib.hid h
    clear h
    go_enter Try.func28, Try.ntmps28
    go_wp2_with fail
    refine (trIs_no a _ ha H.out).mono ?_; rintro e w1 ⟨rfl, rfl⟩
    go_wp2_with fail
    go_ret2
    exact ⟨rfl, Below.refl _ _⟩
  | some t =>
    rw [show dropExpO a n = dropO a n by simp [dropExpO, h]]
    obtain ⟨rfl, hc⟩ := treeOf_some h
    have st := t.str_size
    clear h
    have hex := trExposed_any t.str
    have hhas := fun b v w h => l1Has_any b v (exL t.str.data.toList 0) n w h
    simp only [has_exL] at hhas
    unfold dropO
    cases hd : dropB t.str.data.toList n with
    | false =>
      rw [hd] at hhas
      clear hd
      go_enter Try.func28, Try.ntmps28
      go_wp2_with fail
      refine (trIs_yes t _ hc).mono ?_; rintro e w1 ⟨rfl, rfl⟩
      go_wp2_with fail
      refine (hex _ (by omega)).mono ?_; rintro e w1 ⟨v, own, hb1, rfl⟩
      go_wp2_with fail
      refine (hhas _ _ _ own.cells).mono ?_; rintro e w2 ⟨rfl, d, rfl⟩
      go_wp2_with fail
      go_ret2
      exact ⟨rfl, drewB hb1 _⟩
    | true =>
      obtain ⟨q, hp, hq, hE, hn0⟩ := dropB_true hd
      rw [hd] at hhas
      have hv : Hid ((posFrom t.str.data.toList 0 n).toNat - 1 = q) := by show _ = _; rw [hp]; omega
      have HP := Lib.hid hp
      clear hd hE hp
      go_enter Try.func28, Try.ntmps28
      go_wp2_with fail
      refine (trIs_yes t _ hc).mono ?_; rintro e w1 ⟨rfl, rfl⟩
      go_wp2_with fail
      refine (hex _ (by omega)).mono ?_; rintro e w1 ⟨v, own, hb1, rfl⟩
      go_wp2_with fail
      refine (hhas _ _ _ own.cells).mono ?_; rintro e w2 ⟨rfl, d, hw2⟩
      have hb2 : Below w.heap.size w w2 := by rw [hw2]; exact drewB hb1 d
      clear hw2
      go_wp2_with fail
      refine (trDrop_any t.str n q _ (by omega) hn0 hi HP.out hq).mono ?_; rintro e w3 ⟨rfl, hb3⟩
      go_wp2_with fail
      go_ret2
      exact ⟨by rw [hv.out]; rfl, nx hb2 hb3⟩

set_option maxHeartbeats 1000000 in
theorem withoutExposed_any (s : ByteArray) (n : Int) (w : World) (hsm : s.size ≤ 1000) (lo : -9223372036854775808 ≤ n) (hi : n ≤ 9223372036854775807) :
    Calls Try.prog 92 #[.string s, .int .i64 n] w (Gives (ans2 (dropO s n)) w) := by
  have hl : ∀ w, Calls Try.prog 93 #[.string s, .int .i64 n] w (Quietly (.int .i64 (posFrom s.data.toList 0 n)) w) := by
    intro w
    by_cases hneg : n < 0
    · rw [posFrom_neg _ _ _ hneg]; exact leafPlace_neg s n w hsm hneg lo
    · exact leafPlace_any s n w (by omega) (by omega) hi
  have hr := posFrom_range s.data.toList 0 n
  have hrl : s.data.toList.length = s.size := (Lib.size_eq _).symm
  by_cases h1 : posFrom s.data.toList 0 n < 1
  · have hnone : dropO s n = none := by
      unfold dropO
      rw [if_neg]
      intro e
      obtain ⟨q, hp, _⟩ := dropB_true e
      omega
    rw [hnone]
    have hr' : -1 ≤ posFrom s.data.toList 0 n := by omega
    obtain ⟨p, hp⟩ : ∃ p, p = posFrom s.data.toList 0 n := ⟨_, rfl⟩
    rw [← hp] at hl h1 hr'
    clear hp hnone hr hrl
    go_enter Try.func92, Try.ntmps92
    go_wp2_with fail
    refine (hl _).mono ?_; rintro e w2 ⟨rfl, d, rfl⟩
    go_wp2_with fail
    go_ret2
    exact ⟨rfl, drewB (Below.refl _ _) _⟩
  · obtain ⟨q, hp⟩ : ∃ q : Nat, posFrom s.data.toList 0 n = (q : Int) + 1 := ⟨(posFrom s.data.toList 0 n).toNat - 1, by omega⟩
    have hql : (q : Int) ≤ s.size := by omega
    have hpc := hasPrefixS_any (s.extract q s.size) (ByteArray.mk #[40, 46, 46, 41])
    rw [expB_from] at hpc
    have hsz : (s.extract q s.size).size ≤ 9223372036854775806 := by simp; omega
    have hdB : dropB s.data.toList n = expB (s.data.toList.drop q) := by
      unfold dropB
      rw [hp]
      have t2 : ((q : Int) + 1).toNat - 1 = q := by omega
      rw [t2, decide_eq_true (by omega : 1 ≤ (q : Int) + 1), Bool.true_and]
    have hv : Hid ((posFrom s.data.toList 0 n).toNat - 1 = q) := by show _ = _; rw [hp]; omega
    rw [hp] at hl
    unfold dropO
    cases hE : expB (s.data.toList.drop q) with
    | false =>
      rw [hE] at hpc
      rw [hdB, hE]
      clear hp hr hrl h1 hdB hE
      go_enter Try.func92, Try.ntmps92
      go_wp2_with fail
      refine (hl _).mono ?_; rintro e w2 ⟨rfl, d, rfl⟩
      go_wp2_with fail
      refine (hpc _ hsz (by decide)).mono ?_; rintro e w3 ⟨rfl, rfl⟩
      go_wp2_with fail
      go_ret2
      exact ⟨rfl, drewB (Below.refl _ _) _⟩
    | true =>
      have hq4 := expB_drop hE
      rw [hrl] at hq4
      have hq4' : (q : Int) + 4 ≤ s.size := by omega
      rw [hE] at hpc
      rw [hdB, hE]
      clear hp hr hrl h1 hdB hE
      go_enter Try.func92, Try.ntmps92
      go_wp2_with fail
      refine (hl _).mono ?_; rintro e w2 ⟨rfl, d, hw2⟩
      have hb2 : Below w.heap.size w w2 := by rw [hw2]; exact drewB (Below.refl _ _) d
      clear hw2
      go_wp2_with fail
      refine (hpc _ hsz (by decide)).mono ?_; rintro e w3 ⟨rfl, rfl⟩
      go_wp2_with fail
      go_quiet (fail)
      go_wp2_with fail
      go_ret2
      exact ⟨by rw [hv.out]; rfl, drewB hb2 _⟩

set_option maxHeartbeats 1000000 in
theorem implDropExposed_any (a : ByteArray) (n : Int) (w : World) (ha : a.size ≤ 9223372036854775806) (lo : -9223372036854775808 ≤ n) (hi : n ≤ 9223372036854775807) :
    Calls Try.prog 23 #[.string a, .int .i64 n] w (Gives (ans2 (dropExpO a n)) w) := by
  cases h : treeOf a with
  | none =>
    rw [show dropExpO a n = none by simp [dropExpO, h]]
    have H := Lib.hid h
    clear h
    go_enter Try.func23, Try.ntmps23
    go_wp2_with fail
    refine (implIsTree_no a _ ha H.out).mono ?_; rintro e w1 ⟨hb1, rfl⟩
    go_wp2_with fail
    go_ret2
    exact ⟨rfl, hb1⟩
  | some t =>
    rw [show dropExpO a n = dropO a n by simp [dropExpO, h]]
    obtain ⟨rfl, hc⟩ := treeOf_some h
    have hs : t.str.size ≤ 1000 := by have := t.str_size; omega
    clear h
    go_enter Try.func23, Try.ntmps23
    go_wp2_with fail
    refine (implIsTree_yes t _ hc).mono ?_; rintro e w1 ⟨hb1, rfl⟩
    go_wp2_with fail
    refine (withoutExposed_any t.str n _ hs lo hi).mono ?_; rintro e w2 ⟨rfl, hb2⟩
    unfold ans2
    go_wp2_with fail
    go_ret2
    exact ⟨rfl, nx hb1 hb2⟩
end Go.Proofs.Yteflpaebckichab

/-! Reduce -/
namespace Go.Proofs.Yteflpaebckichab
open Go.RowKit

theorem trDrop_tr (t : Tr) (n : Int) (w : World) (ht : t.carets ≤ 300) (hn : n ∈ t.exps 0) :
    Calls Try.prog 102 #[.string t.str, .int .i64 n] w (Gives (.string (t.dropAt n).str) w) := by
  obtain ⟨h1, h2⟩ := drop_str t n hn
  obtain ⟨q, hp, hq, _, h0⟩ := dropB_true ((dropB_str t n).2 hn)
  have hr := exps_range t 0 n hn
  have hz := t.str_size
  have := trDrop_any t.str n q w (by omega) h0 (by simp [Tr.leaves] at hr; omega) hp hq
  rw [← h2, hp]
  have e : ((q : Int) + 1).toNat - 1 = q := by omega
  rw [e]
  exact this

theorem withoutExposed_tr (t : Tr) (n : Int) (w : World) (ht : t.carets ≤ 300) (hn : n ∈ t.exps 0) :
    Calls Try.prog 92 #[.string t.str, .int .i64 n] w (Gives (.tuple #[.string (t.dropAt n).str, .bool true]) w) := by
  obtain ⟨h1, h2⟩ := drop_str t n hn
  have hr := exps_range t 0 n hn
  have hz := t.str_size
  simp [Tr.leaves] at hr
  have := withoutExposed_any t.str n w (by omega) (by omega) (by omega)
  unfold dropO at this
  rw [if_pos ((dropB_str t n).2 hn), h2] at this
  exact this

/-- How long the first text of a block is. -/
def sizeAt (w : World) (b : Nat) : Nat := match w.heap[b]? with
  | some (.cells cs _ _) => match cs[0]? with
    | some (Value.string s) => s.size
    | _ => 0
  | _ => 0
theorem sizeAt_of {w : World} {b : Nat} {s u : ByteArray} {t : TypeId} (h : w.heap[b]? = some (.cells #[.string s, .string u] t (0, 0))) : sizeAt w b = s.size := by
  simp [sizeAt, h]

theorem pick_drop (cs : List Int) (j k : Nat) : pickI (cs.drop j) k = if j < cs.length then (cs.getD j 0 % k).toNat else 0 := by
  by_cases h : j < cs.length
  · rw [if_pos h, List.drop_eq_getElem_cons h]
    simp [pickI, h]
  · rw [if_neg h, List.drop_of_length_le (by omega)]
    rfl

theorem both_in (p : Pr) (h : p.1.carets ≤ 200) (i : Nat) (hi : i < (both p).length) : (both p).getD i 0 ∈ p.1.exps 0 ∧ (both p).getD i 0 ∈ p.2.exps 0 ∧ 0 ≤ (both p).getD i 0 ∧ (both p).getD i 0 ≤ 200 := by
  have hm : (both p).getD i 0 ∈ both p := by
    rw [List.getD_eq_getElem?_getD, List.getElem?_eq_getElem hi]
    exact List.getElem_mem _
  have h1 := mem_both.1 hm
  have hr := exps_range p.1 0 _ h1.1
  simp only [Tr.leaves] at hr
  exact ⟨h1.1, h1.2, by omega, by omega⟩

theorem redBy_pick {p : Pr} (cs : List Int) (i : Nat) (hl : 0 < (both p).length) (hi : i = pickI cs (both p).length) : redBy p cs = redBy (dropP p ((both p).getD i 0)) cs.tail := by
  cases h : both p with
  | nil => rw [h] at hl; simp at hl
  | cons n ns =>
    rw [redBy_step h, hi, h]
    rfl

set_option maxRecDepth 100000 in
set_option maxHeartbeats 2000000 in
theorem prReduce_any (p0 : Pr) (v : Value) (cs : List Int) (b1 : Nat) (w : World) (h1 : p0.1.carets ≤ 200) (h2 : p0.2.carets ≤ 200) (hv : CellsI b1 w v cs) (hcs : ∀ c ∈ cs, 0 ≤ c ∧ c ≤ 9223372036854775807) :
    Calls Try.prog 136 #[.agg #[.string p0.1.str, .string p0.2.str], v] w (Gives (.agg #[.string (redBy p0 cs).1.str, .string (redBy p0 cs).2.str]) w) := by
  have hB : ∀ (p : Pr) w, p.1.carets ≤ 200 → p.2.carets ≤ 200 → Calls Try.prog 139 #[.agg #[.string p.1.str, .string p.2.str]] w (GivesInts (both p) w) := by
    intro p w k1 k2
    have := prBoth_any p.1.str p.2.str w (by have := p.1.str_size; omega) (by have := p.2.str_size; omega)
    rwa [bothL_str] at this
  obtain ⟨oa, ccap, rfl, hcl, hcm, hcc⟩ := hv.form
  unfold maxLen at hcm
  clear hv
  go_enter Try.func136, Try.ntmps136
  go_wp2_with fail
  have hb0 : Below w.heap.size w ((w.alloc (.cells #[.string p0.1.str, .string p0.2.str] 59 (0, 0))).alloc (.cells #[.string ⟨#[]⟩, .string ⟨#[]⟩] 59 (0, 0))) := nxAlloc (nxAlloc (Below.refl _ _) _) _
  have hx1 := heap_keep (nxAlloc (Below.refl _ _) (.cells #[.string ⟨#[]⟩, .string ⟨#[]⟩] 59 (0, 0))) (heap_alloc_at w (.cells #[.string p0.1.str, .string p0.2.str] 59 (0, 0)))
  have hx2 := heap_alloc_at (w.alloc (.cells #[.string p0.1.str, .string p0.2.str] 59 (0, 0))) (.cells #[.string ⟨#[]⟩, .string ⟨#[]⟩] 59 (0, 0))
  generalize (w.alloc (.cells #[.string p0.1.str, .string p0.2.str] 59 (0, 0))).alloc (.cells #[.string ⟨#[]⟩, .string ⟨#[]⟩] 59 (0, 0)) = w0 at *
  have e2 : (w.alloc (.cells #[.string p0.1.str, .string p0.2.str] 59 (0, 0))).heap.size = w.heap.size + 1 := by simp
  rw [e2] at hx2
  clear e2
  have hs0 : w.heap.size + 1 < w0.heap.size := lt_of_block hx2
  refine (hB p0 _ h1 h2).mono ?_; rintro e w1 ⟨v6, own, hb1, rfl⟩
  have hb01 := nx hb0 hb1
  have hy1 := heap_keep hb1 hx1
  have hy2 := heap_keep hb1 hx2
  have own' : OwnI (w.heap.size + 2) w1 v6 (both p0) := own.mono hs0
  have hs1 : w.heap.size + 2 ≤ w1.heap.size := Nat.le_trans hs0 hb1.size
  clear own hx1 hx2 hb0 hb1 hs0
  go_wp2_with fail
  go_loopw [5, 6] (fun s b wr => ∃ (p : Pr) (j : Nat), s = .int .i64 j ∧ OwnI (w.heap.size + 2) wr b (both p) ∧ wr.heap[w.heap.size]? = some (.cells #[.string p.1.str, .string p.2.str] 59 (0, 0)) ∧ wr.heap[w.heap.size + 1]? = some (.cells #[.string ⟨#[]⟩, .string ⟨#[]⟩] 59 (0, 0)) ∧ Below w.heap.size w wr ∧ w.heap.size + 2 ≤ wr.heap.size ∧ j + p.1.carets ≤ 200 ∧ p.2.carets ≤ 200 ∧ Hid (redBy p0 cs = redBy p (cs.drop j))) (fun _ _ wr => sizeAt wr w.heap.size)
  case atStart => exact ⟨p0, 0, rfl, own', hy1, hy2, hb01, hs1, by omega, h2, rfl⟩
  case round =>
    obtain ⟨p, j, rfl, hown, hy1, hy2, hbw, hsz, hj, hp2, he⟩ := hrel
    have hf := hown.cells.form
    by_cases hl : (both p).length = 0
    · have hnil : both p = [] := List.length_eq_zero_iff.1 hl
      have he' := he.out
      rw [redBy_end hnil] at he'
      have HE := Lib.hid he'
      obtain ⟨ob, bcap, rfl, _, _, _⟩ := hf
      rw [hl]
      have hl2 := two_cells hy1
      obtain ⟨k1, k2⟩ := hl2
      obtain ⟨n1, n2⟩ := two_cells hy2
      obtain ⟨f1, f2⟩ := two_frozen hy2
      clear hl hnil he he' hown
      go_wp2_with fail
      obtain ⟨r1, r2⟩ := two_cells (set_two (.string p.1.str) (.string p.2.str) hy2)
      refine bodyPost_ret (v := .agg #[.string p.1.str, .string p.2.str]) (by simp [r1, r2, results, Try.results136, go_sem]) rfl ⟨by rw [HE.out], ?_⟩
      exact (hbw.setCell (by simp) _).setCell (by simp) _
    · -- a step
      have hlp : 0 < (both p).length := by omega
      have hlp' : (0 : Int) < ((both p).length : Int) := by omega
      have hpi := pickI_lt (cs.drop j) (both p).length hlp
      obtain ⟨i, hi⟩ : ∃ i, i = pickI (cs.drop j) (both p).length := ⟨_, rfl⟩
      rw [← hi] at hpi
      have hst := redBy_pick (cs.drop j) i hlp hi
      rw [pick_drop] at hi
      obtain ⟨m1, m2, _, _⟩ := both_in p (by omega) i hpi
      obtain ⟨ob, bcap, rfl, hbc, hbm, hbcell⟩ := hf
      unfold maxLen at hbm
      obtain ⟨g, rfl, hg0, hg1, c1⟩ := hbcell i hpi
      obtain ⟨x, hx⟩ : ∃ x, x = (both p).getD i 0 := ⟨_, rfl⟩
      rw [← hx] at hst m1 m2 c1
      have hstep := Lib.hid hst
      have T1 := fun w => trDrop_tr p.1 x w (by omega) m1
      have T2 := fun w => trDrop_tr p.2 x w (by omega) m2
      have hdc := dropP_carets (p := p) (n := x) (mem_both.2 ⟨m1, m2⟩)
      obtain ⟨hd1, hd2⟩ := hdc
      have HS1 := Lib.hid (sizeAt_of hy1)
      obtain ⟨k1, k2⟩ := two_cells hy1
      have hB1 : w.heap.size < wr.heap.size := by omega
      generalize hL : (both p).length = L at *
      have HL := Lib.hid hL
      clear hL hx hst m1 m2 hbcell hl hown
      by_cases hjc : j < cs.length
      · rw [if_pos hjc] at hi
        obtain ⟨g2, rfl, _, hg2, c2⟩ := hcc j hjc
        have c2' := (hbw.cell (p := ⟨g2, j, none⟩) hg2).trans c2
        have hcb := hcs (cs.getD j 0) (by rw [List.getD_eq_getElem?_getD, List.getElem?_eq_getElem hjc]; exact List.getElem_mem _)
        obtain ⟨hc0, hc9⟩ := hcb
        generalize cs.getD j 0 = c at *
        have hrem : c % (L : Int) = (i : Int) := by
          have := Int.emod_nonneg c (show (L : Int) ≠ 0 by omega)
          omega
        have hjc' : (j : Int) < (cs.length : Int) := by omega
        have hpi' : (i : Int) < (L : Int) := by omega
        clear hi hcc c2
        go_wp2_with fail
        refine wp_region_clsT 15 (by kernel_rfl) (by kernel_rfl) ?_
        simp only [List.take_succ_cons, List.take_zero, List.drop_succ_cons, List.drop_zero]
        repeat (
          refine wpQuiet_step (fun K hK => ?_)
          go_simp
          first
            | (refine hK _ ?_; clear hK K)
            | (refine ⟨_, fun _ _ => rfl, hK _ ?_⟩; clear hK K)
            | (apply Exists.intro
               refine ⟨fun w' hw' => ?_, hK _ ?_⟩
               · first
                   | (rw [hw'.cell hB1 k1]; exact ⟨rfl, rfl⟩)
                   | (rw [hw'.cell hB1 k2]; exact ⟨rfl, rfl⟩)
                   | (rw [hw'.cell hg1 c1]; exact ⟨rfl, rfl⟩)
                   | (go_at_call 102; first | (with_reducible exact hw'.call (T1 _)) | (with_reducible exact hw'.call (T2 _)))
               clear hK K))
        refine wpQuiet_nil ?_
        intro w' hw'
        have hbw' := nx hbw hw'
        have hz1 := heap_keep hw' hy1
        have hz2 := heap_keep hw' hy2
        obtain ⟨n1, n2⟩ := two_cells hz1
        obtain ⟨f1, f2⟩ := two_frozen hz1
        have hsz' := Nat.le_trans hsz hw'.size
        clear hbw hw' hy1 hy2 k1 k2 c1
        go_wp2_with fail
        have hr1 := set_two (.string (p.1.dropAt x).str) (.string (p.2.dropAt x).str) hz1
        have hr2 : ((w'.setCell ⟨w.heap.size, 0, none⟩ (.string (p.1.dropAt x).str)).setCell ⟨w.heap.size, 1, none⟩ (.string (p.2.dropAt x).str)).heap[w.heap.size + 1]? = some (.cells #[.string ⟨#[]⟩, .string ⟨#[]⟩] 59 (0, 0)) := by
          rw [Below.heap_setCell _ _ _ _ (by simp), Below.heap_setCell _ _ _ _ (by simp)]; exact hz2
        have hbw2 : Below w.heap.size w ((w'.setCell ⟨w.heap.size, 0, none⟩ (.string (p.1.dropAt x).str)).setCell ⟨w.heap.size, 1, none⟩ (.string (p.2.dropAt x).str)) := (hbw'.setCell (Nat.le_refl _) _).setCell (Nat.le_refl _) _
        have hsz2 : w.heap.size + 2 ≤ ((w'.setCell ⟨w.heap.size, 0, none⟩ (.string (p.1.dropAt x).str)).setCell ⟨w.heap.size, 1, none⟩ (.string (p.2.dropAt x).str)).heap.size := by simpa using hsz'
        generalize (w'.setCell ⟨w.heap.size, 0, none⟩ (.string (p.1.dropAt x).str)).setCell ⟨w.heap.size, 1, none⟩ (.string (p.2.dropAt x).str) = w3 at *
        obtain ⟨n1', n2'⟩ := two_cells hr1
        refine (hB (dropP p x) _ (by omega) (by omega)).mono ?_; rintro e w4 ⟨v7, own7, hb4, rfl⟩
        have hu1 := heap_keep hb4 hr1
        have hu2 := heap_keep hb4 hr2
        have own8 : OwnI (w.heap.size + 2) w4 v7 (both (dropP p x)) := own7.mono hsz2
        have hbw4 := nx hbw2 hb4
        have hsz4 := Nat.le_trans hsz2 hb4.size
        clear own7 hb4 hr1 hr2 hbw2 hsz2 n1' n2'
        go_wp2_with fail
        go_roundw
        case rel => exact ⟨dropP p x, j + 1, by go_num, own8, hu1, hu2, hbw4, hsz4, by omega, by omega, by show _ = _; rw [he.out, hstep.out, List.tail_drop]⟩
        case measure =>
          rw [sizeAt_of hu1, HS1.out, Tr.str_size, Tr.str_size]
          have hd1' : (p.1.dropAt x).carets + 1 = p.1.carets := hd1
          omega
      · rw [if_neg hjc] at hi
        subst hi
        have hjc' : ¬ (j : Int) < (cs.length : Int) := by omega
        clear hcc
        go_wp2_with fail
        refine wp_region_clsT 15 (by kernel_rfl) (by kernel_rfl) ?_
        simp only [List.take_succ_cons, List.take_zero, List.drop_succ_cons, List.drop_zero]
        repeat (
          refine wpQuiet_step (fun K hK => ?_)
          go_simp
          first
            | (refine hK _ ?_; clear hK K)
            | (refine ⟨_, fun _ _ => rfl, hK _ ?_⟩; clear hK K)
            | (apply Exists.intro
               refine ⟨fun w' hw' => ?_, hK _ ?_⟩
               · first
                   | (rw [hw'.cell hB1 k1]; exact ⟨rfl, rfl⟩)
                   | (rw [hw'.cell hB1 k2]; exact ⟨rfl, rfl⟩)
                   | (rw [hw'.cell hg1 c1]; exact ⟨rfl, rfl⟩)
                   | (go_at_call 102; first | (with_reducible exact hw'.call (T1 _)) | (with_reducible exact hw'.call (T2 _)))
               clear hK K))
        refine wpQuiet_nil ?_
        intro w' hw'
        have hbw' := nx hbw hw'
        have hz1 := heap_keep hw' hy1
        have hz2 := heap_keep hw' hy2
        obtain ⟨n1, n2⟩ := two_cells hz1
        obtain ⟨f1, f2⟩ := two_frozen hz1
        have hsz' := Nat.le_trans hsz hw'.size
        clear hbw hw' hy1 hy2 k1 k2 c1
        go_wp2_with fail
        have hr1 := set_two (.string (p.1.dropAt x).str) (.string (p.2.dropAt x).str) hz1
        have hr2 : ((w'.setCell ⟨w.heap.size, 0, none⟩ (.string (p.1.dropAt x).str)).setCell ⟨w.heap.size, 1, none⟩ (.string (p.2.dropAt x).str)).heap[w.heap.size + 1]? = some (.cells #[.string ⟨#[]⟩, .string ⟨#[]⟩] 59 (0, 0)) := by
          rw [Below.heap_setCell _ _ _ _ (by simp), Below.heap_setCell _ _ _ _ (by simp)]; exact hz2
        have hbw2 : Below w.heap.size w ((w'.setCell ⟨w.heap.size, 0, none⟩ (.string (p.1.dropAt x).str)).setCell ⟨w.heap.size, 1, none⟩ (.string (p.2.dropAt x).str)) := (hbw'.setCell (Nat.le_refl _) _).setCell (Nat.le_refl _) _
        have hsz2 : w.heap.size + 2 ≤ ((w'.setCell ⟨w.heap.size, 0, none⟩ (.string (p.1.dropAt x).str)).setCell ⟨w.heap.size, 1, none⟩ (.string (p.2.dropAt x).str)).heap.size := by simpa using hsz'
        generalize (w'.setCell ⟨w.heap.size, 0, none⟩ (.string (p.1.dropAt x).str)).setCell ⟨w.heap.size, 1, none⟩ (.string (p.2.dropAt x).str) = w3 at *
        obtain ⟨n1', n2'⟩ := two_cells hr1
        refine (hB (dropP p x) _ (by omega) (by omega)).mono ?_; rintro e w4 ⟨v7, own7, hb4, rfl⟩
        have hu1 := heap_keep hb4 hr1
        have hu2 := heap_keep hb4 hr2
        have own8 : OwnI (w.heap.size + 2) w4 v7 (both (dropP p x)) := own7.mono hsz2
        have hbw4 := nx hbw2 hb4
        have hsz4 := Nat.le_trans hsz2 hb4.size
        clear own7 hb4 hr1 hr2 hbw2 hsz2 n1' n2'
        go_wp2_with fail
        go_roundw
        case rel => exact ⟨dropP p x, j + 1, by go_num, own8, hu1, hu2, hbw4, hsz4, by omega, by omega, by show _ = _; rw [he.out, hstep.out, List.tail_drop]⟩
        case measure =>
          rw [sizeAt_of hu1, HS1.out, Tr.str_size, Tr.str_size]
          have hd1' : (p.1.dropAt x).carets + 1 = p.1.carets := hd1
          omega
end Go.Proofs.Yteflpaebckichab

/-! Dw12 -/
namespace Go.Proofs.Yteflpaebckichab
open Go.RowKit

theorem pairD (m b : Nat) (c : Bts) (k : Nat) (w : World) (h : Cur w b c k) (hk : k ≤ 600000000) (hm : m ≤ 50) :
    Calls Try.prog 128 #[.pointer (some ⟨b, 0, none⟩), .int .i64 m] w (DrawQ (3 * m + 60) b c (k + 6 * m + 200) w) :=
  drawPair_any m b c k w h hk hm (fun i w hi => (prGenerator_any i w (by omega)).mono (fun e w' h => by
    obtain ⟨rfl, hb⟩ := h
    have k1 := (genP i).1.str_size
    have k2 := (genP i).2.str_size
    have k3 : (genP i).1.carets ≤ 10 ∧ (genP i).2.carets ≤ 10 := by
      have : ∀ i, i < 4 → (genP i).1.carets ≤ 10 ∧ (genP i).2.carets ≤ 10 := by decide
      exact this i hi
    exact ⟨_, _, by omega, by omega, rfl, hb⟩))
theorem start2 {w : World} {c : Bts} (h : InB w c) : Cur ((w.alloc (.cells #[.string ⟨#[]⟩, .string ⟨#[]⟩] 59 (0, 0))).alloc (.cells #[.slice c.a c.n c.cap, .int .i64 0, .int .u64 0] 95 (0, 0))) (w.heap.size + 1) c 0 := by
  have := cur_new (h.keep (allocB w (.cells #[.string ⟨#[]⟩, .string ⟨#[]⟩] 59 (0, 0))))
  rwa [show (w.alloc (.cells #[.string ⟨#[]⟩, .string ⟨#[]⟩] 59 (0, 0))).heap.size = w.heap.size + 1 by simp] at this
theorem below2 {w w' : World} {o1 o2 : Obj} (hg : ((w.alloc o1).alloc o2).grownBy w' (some (w.heap.size + 1))) : Below w.heap.size w w' :=
  ((allocB w o1).alloc (by simp) o2).grown hg (by simp; omega) (fun k hk => by cases hk; omega)

theorem prS_size (p : Pr) : (prS p).size = p.1.str.size + p.2.str.size + 1 := by
  unfold prS
  rw [ByteArray.size_append, ByteArray.size_append]
  have : (⟨#[62]⟩ : ByteArray).size = 1 := rfl
  omega
theorem ownI_low {b0 b1 : Nat} {w : World} {v : Value} {L : List Int} (h : OwnI b1 w v L) (hb : b0 ≤ b1) : OwnI b0 w v L := by
  obtain ⟨h1, h2⟩ := h
  refine ⟨h1, ?_⟩
  rcases h2 with h2 | ⟨g, cap, cur, hv, hg2, hh, r⟩
  · exact .inl h2
  · exact .inr ⟨g, cap, cur, hv, Nat.le_trans hb hg2, hh, r⟩
theorem ownI_set {b1 g i : Nat} {x : Value} {w : World} {v : Value} {L : List Int} (h : OwnI b1 w v L) (hb : g < b1) : OwnI b1 (w.setCell ⟨g, i, none⟩ x) v L :=
  ownI_keptD h (grown_setD w g i x) hb
theorem start3 {w : World} {c : Bts} (h : InB w c) : Cur (((w.alloc (.cells #[.string ⟨#[]⟩, .string ⟨#[]⟩] 59 (0, 0))).alloc (.cells #[.string ⟨#[]⟩, .string ⟨#[]⟩] 59 (0, 0))).alloc (.cells #[.slice c.a c.n c.cap, .int .i64 0, .int .u64 0] 95 (0, 0))) (w.heap.size + 2) c 0 := by
  have := start2 (h.keep (allocB w (.cells #[.string ⟨#[]⟩, .string ⟨#[]⟩] 59 (0, 0))))
  rwa [show (w.alloc (.cells #[.string ⟨#[]⟩, .string ⟨#[]⟩] 59 (0, 0))).heap.size + 1 = w.heap.size + 2 by simp] at this
theorem below3 {w w' : World} {o1 o2 o3 : Obj} (hg : (((w.alloc o1).alloc o2).alloc o3).grownBy w' (some (w.heap.size + 2))) : Below w.heap.size w w' :=
  (((allocB w o1).alloc (by simp) o2).alloc (by simp; omega) o3).grown hg (by simp; omega) (fun k hk => by cases hk; omega)
/-- A call that draws a pair of texts. -/
def GivesQ (n : Nat) (w : World) (e : Ending) (w' : World) : Prop := ∃ s t : ByteArray, s.size ≤ n ∧ t.size ≤ n ∧ e = .returned (.agg #[.string s, .string t]) ∧ Below w.heap.size w w'
def GivesQI (n : Nat) (w : World) (e : Ending) (w' : World) : Prop := ∃ (s t : ByteArray) (i : Int), s.size ≤ n ∧ t.size ≤ n ∧ -1000000 ≤ i ∧ i ≤ 1000000 ∧ e = .returned (.tuple #[.agg #[.string s, .string t], .int .i64 i]) ∧ Below w.heap.size w w'
def GivesQQ (n : Nat) (w : World) (e : Ending) (w' : World) : Prop := ∃ s t u v : ByteArray, s.size ≤ n ∧ t.size ≤ n ∧ u.size ≤ n ∧ v.size ≤ n ∧ e = .returned (.tuple #[.agg #[.string s, .string t], .agg #[.string u, .string v]]) ∧ Below w.heap.size w w'
def GivesQC (n : Nat) (w : World) (e : Ending) (w' : World) : Prop := ∃ (s t : ByteArray) (v : Value) (L : List Int), s.size ≤ n ∧ t.size ≤ n ∧ L.length ≤ 10 ∧ (∀ x ∈ L, -1 ≤ x ∧ x ≤ 4611686018427387904) ∧ OwnI w.heap.size w' v L ∧ e = .returned (.tuple #[.agg #[.string s, .string t], v]) ∧ Below w.heap.size w w'

set_option maxRecDepth 100000 in
set_option maxHeartbeats 2000000 in
theorem drawIsReduced_any (c : Bts) (w : World) (h : InB w c) : Calls Try.prog 72 #[.slice c.a c.n c.cap] w (GivesQ 100 w) := by
  have H := Lib.hid (start2 h)
  have hr0 := Lib.hid (heap_keep (allocB (w.alloc (.cells #[.string ⟨#[]⟩, .string ⟨#[]⟩] 59 (0, 0))) (.cells #[.slice c.a c.n c.cap, .int .i64 0, .int .u64 0] 95 (0, 0))) (heap_alloc_at w (.cells #[.string ⟨#[]⟩, .string ⟨#[]⟩] 59 (0, 0))))
  have HG0 := Lib.hid (grown_refl ((w.alloc (.cells #[.string ⟨#[]⟩, .string ⟨#[]⟩] 59 (0, 0))).alloc (.cells #[.slice c.a c.n c.cap, .int .i64 0, .int .u64 0] 95 (0, 0))) (some (w.heap.size + 1)))
  clear h
  go_enter Try.func72, Try.ntmps72
  go_wp2_with fail
  refine (drawOne_any 2 _ c 0 _ H.out (by omega) (by omega) (by omega)).mono ?_; rintro e w1 ⟨x, rfl, hT, hg⟩
  have HT := Lib.hid hT
  have HG := Lib.hid (grown_trans HG0.out hg)
  have hr1 := grown_block hg hr0.out (by omega)
  clear hT hg
  cases x with
  | true =>
    go_wp2_with fail
    refine (drawLoose_any _ c _ _ HT.out (by omega)).mono ?_; rintro e w2 ⟨p, hpk, hpc, rfl, hT, hg⟩
    have HG2 := Lib.hid (grown_trans HG.out hg)
    have hr2 := grown_block hg hr1 (by omega)
    have k1 := p.1.str_size
    have k2 := p.2.str_size
    unfold okP at hpk
    clear hT hg hr1
    obtain ⟨hra, hrb, hrc⟩ := two_facts hr2
    obtain ⟨hrf, hrg⟩ := two_frozen hr2
    go_wp2_with fail
    obtain ⟨q1, q2⟩ := two_cells (set_two (.string p.1.str) (.string p.2.str) hr2)
    refine bodyPost_ret (v := .agg #[.string p.1.str, .string p.2.str]) (by simp [q1, q2, results, Try.results72, go_sem]) rfl ⟨p.1.str, p.2.str, by omega, by omega, rfl, ?_⟩
    exact ((below2 HG2.out).setCell (Nat.le_refl _) _).setCell (Nat.le_refl _) _
  | false =>
    go_wp2_with fail
    refine (pairD 6 _ c _ _ HT.out (by omega) (by omega)).mono ?_; rintro e w2 ⟨s, t, hs, ht, rfl, hT, hg⟩
    have HG2 := Lib.hid (grown_trans HG.out hg)
    have hr2 := grown_block hg hr1 (by omega)
    clear hT hg hr1
    obtain ⟨hra, hrb, hrc⟩ := two_facts hr2
    obtain ⟨hrf, hrg⟩ := two_frozen hr2
    go_wp2_with fail
    obtain ⟨q1, q2⟩ := two_cells (set_two (.string s) (.string t) hr2)
    refine bodyPost_ret (v := .agg #[.string s, .string t]) (by simp [q1, q2, results, Try.results72, go_sem]) rfl ⟨s, t, by omega, by omega, rfl, ?_⟩
    exact ((below2 HG2.out).setCell (Nat.le_refl _) _).setCell (Nat.le_refl _) _

set_option maxRecDepth 100000 in
set_option maxHeartbeats 2000000 in
theorem drawExpandPair_any (c : Bts) (w : World) (h : InB w c) : Calls Try.prog 66 #[.slice c.a c.n c.cap] w (GivesQI 100 w) := by
  have H := Lib.hid (start2 h)
  have hr0 := Lib.hid (heap_keep (allocB (w.alloc (.cells #[.string ⟨#[]⟩, .string ⟨#[]⟩] 59 (0, 0))) (.cells #[.slice c.a c.n c.cap, .int .i64 0, .int .u64 0] 95 (0, 0))) (heap_alloc_at w (.cells #[.string ⟨#[]⟩, .string ⟨#[]⟩] 59 (0, 0))))
  have HG0 := Lib.hid (grown_refl ((w.alloc (.cells #[.string ⟨#[]⟩, .string ⟨#[]⟩] 59 (0, 0))).alloc (.cells #[.slice c.a c.n c.cap, .int .i64 0, .int .u64 0] 95 (0, 0))) (some (w.heap.size + 1)))
  clear h
  go_enter Try.func66, Try.ntmps66
  go_wp2_with fail
  refine (pairD 6 _ c 0 _ H.out (by omega) (by omega)).mono ?_; rintro e w1 ⟨s, t, hs, ht, rfl, hT, hg⟩
  have HT := Lib.hid (hT.keep (allocB w1 (.cells #[.string s, .string t] 59 (0, 0))))
  have hr1 := grown_block hg hr0.out (by omega)
  have hl1 := hT.lt
  have HG := Lib.hid (grown_below (grown_trans HG0.out hg) (allocB w1 (.cells #[.string s, .string t] 59 (0, 0))))
  have hx := heap_alloc_at w1 (.cells #[.string s, .string t] 59 (0, 0))
  have hr := heap_keep (allocB w1 (.cells #[.string s, .string t] 59 (0, 0))) hr1
  obtain ⟨hxa, hxb, hxc⟩ := two_facts hx
  have HR := Lib.hid hr
  have HX := Lib.hid hx
  obtain ⟨hc0, hc1⟩ := cnt_le s s.size
  obtain ⟨q, hq⟩ : ∃ q : Nat, cnt s s.size = q := ⟨(cnt s s.size).toNat, by omega⟩
  have hC := fun w => carets_any s w (by omega)
  rw [hq] at hC hc0 hc1
  have hlt := HT.out.lt
  have hpk0 := drawPick_any (q + 3) _ c _ _ (show Cur (w1.alloc (.cells #[.string s, .string t] 59 (0, 0))).drew (w.heap.size + 1) c _ from HT.out) (by omega) (by omega) (by omega)
  have hpk : ∀ v : Int, v = ((q + 3 : Nat) : Int) → Calls Try.prog 96 #[.pointer (some ⟨w.heap.size + 1, 0, none⟩), .int .i64 v] (w1.alloc (.cells #[.string s, .string t] 59 (0, 0))).drew _ := fun v hv => by rw [hv]; exact hpk0
  have hne : w1.heap.size ≠ w.heap.size + 1 := by omega
  have hne2 : w1.heap.size ≠ w.heap.size := by omega
  clear hT hg hr1 hr hx hq hpk0
  go_wp2_with fail
  refine wp_region_held_drew (S := (fun (w' : World) => w'.cell? ⟨w1.heap.size, 0, none⟩ = some (.string s) ∧ w'.cell? ⟨w1.heap.size, 1, none⟩ = some (.string t))) (by kernel_rfl) ⟨hxa, hxb⟩ (fun hH0 => ?_)
  refine wpAnyH_take (i := 0) (oi := ?oi201) (v := ?vv201) ?hi201 ?hn201 ?hf201 ?hr201 ?hq201 (Or.inl ⟨?hg201, ?hy201⟩) hH0 ?rest201
  case hi201 => (simp only [List.getElem?_toArray, List.getElem?_cons_zero]; rfl)
  case hn201 => kernel_rfl
  case hf201 => kernel_rfl
  case hr201 => kernel_rfl
  case hg201 => rfl
  case hy201 => (intro w hSw; (try dsimp only at hSw); go_simp; first | done | with_reducible rfl)
  case hq201 => exact fun _ _ _ h => h
  try dsimp only [Act.put]
  refine wpAnyH_take (i := 1) (oi := ?oi202) (v := ?vv202) ?hi202 ?hn202 ?hf202 ?hr202 ?hq202 (Or.inl ⟨?hg202, ?hy202⟩) hH0 ?rest202
  case hi202 => (simp only [List.getElem?_toArray, List.getElem?_cons_succ, List.getElem?_cons_zero]; rfl)
  case hn202 => kernel_rfl
  case hf202 => kernel_rfl
  case hr202 => kernel_rfl
  case hg202 => rfl
  case hy202 => (intro w hSw; (try dsimp only at hSw); go_simp; first | done | with_reducible rfl)
  case hq202 => exact fun _ _ _ h => h
  try dsimp only [Act.put]
  refine wpAnyH_take (i := 2) (oi := ?oi203) (v := ?vv203) ?hi203 ?hn203 ?hf203 ?hr203 ?hq203 (Or.inl ⟨?hg203, ?hy203⟩) hH0 ?rest203
  case hi203 => (simp only [List.getElem?_toArray, List.getElem?_cons_succ, List.getElem?_cons_zero]; rfl)
  case hn203 => kernel_rfl
  case hf203 => kernel_rfl
  case hr203 => kernel_rfl
  case hg203 => rfl
  case hy203 => (intro w hSw; (try dsimp only at hSw); go_simp; first | done | with_reducible rfl)
  case hq203 => exact fun _ _ _ h => h
  try dsimp only [Act.put]
  refine wpAnyH_take (i := 3) (oi := ?oi204) (v := ?vv204) ?hi204 ?hn204 ?hf204 ?hr204 ?hq204 (Or.inl ⟨?hg204, ?hy204⟩) hH0 ?rest204
  case hi204 => (simp only [List.getElem?_toArray, List.getElem?_cons_succ, List.getElem?_cons_zero]; rfl)
  case hn204 => kernel_rfl
  case hf204 => kernel_rfl
  case hr204 => kernel_rfl
  case hg204 => rfl
  case hy204 => (intro w hSw; (try dsimp only at hSw); go_simp; first | done | with_reducible rfl)
  case hq204 => exact fun _ _ _ h => h
  try dsimp only [Act.put]
  refine held_one 4 rfl (by kernel_rfl) (fun K hK => ?_)
  go_simp
  refine (hC _).mono ?_; rintro e w9 ⟨rfl, rfl⟩
  go_wp2_with fail
  have hH1 : (fun (w' : World) => w'.cell? ⟨w1.heap.size, 0, none⟩ = some (.string s) ∧ w'.cell? ⟨w1.heap.size, 1, none⟩ = some (.string t)) _ := ⟨hxa, hxb⟩
  refine hK.out (fun (w' : World) => w'.cell? ⟨w1.heap.size, 0, none⟩ = some (.string s) ∧ w'.cell? ⟨w1.heap.size, 1, none⟩ = some (.string t)) _ _ (fun _ h => h) hH1 ?_
  clear hK K
  try dsimp only [Act.put]
  refine wpAnyH_take (i := 5) (oi := ?oi205) (v := ?vv205) ?hi205 ?hn205 ?hf205 ?hr205 ?hq205 (Or.inl ⟨?hg205, ?hy205⟩) hH1 ?rest205
  case hi205 => (simp only [List.getElem?_toArray, List.getElem?_cons_succ, List.getElem?_cons_zero]; rfl)
  case hn205 => kernel_rfl
  case hf205 => kernel_rfl
  case hr205 => kernel_rfl
  case hg205 => rfl
  case hy205 => (intro w hSw; (try dsimp only at hSw); go_simp; first | done | with_reducible rfl)
  case hq205 => exact fun _ _ _ h => h
  try dsimp only [Act.put]
  refine held_one 6 rfl (by kernel_rfl) (fun K hK => ?_)
  go_simp
  refine (hpk _ (by first | (rw [IntKind.wrap_i64] <;> omega) | omega)).mono ?_; rintro e w4 ⟨y, hy, rfl, hT, hg⟩
  have HG4 := Lib.hid (grown_trans (show World.grownBy _ (w1.alloc (.cells #[.string s, .string t] 59 (0, 0))).drew _ from grown_drew (n := 1) HG.out) hg)
  have hr4 := grown_block (w := (w1.alloc (.cells #[.string s, .string t] 59 (0, 0))).drew) hg HR.out (by omega)
  obtain ⟨hra, hrb, hrc⟩ := two_facts hr4
  obtain ⟨hrf, hrg⟩ := two_frozen hr4
  have kxa := cell_grown (grown_setD _ w.heap.size 1 (.string t)) hne2 (cell_grown (grown_setD _ w.heap.size 0 (.string s)) hne2 (cell_grown hg hne hxa))
  have kxb := cell_grown (grown_setD _ w.heap.size 1 (.string t)) hne2 (cell_grown (grown_setD _ w.heap.size 0 (.string s)) hne2 (cell_grown hg hne hxb))
  have hY := Lib.hid hy
  go_wp2_with fail
  have hH2 : (fun (w' : World) => w'.cell? ⟨w1.heap.size, 0, none⟩ = some (.string s) ∧ w'.cell? ⟨w1.heap.size, 1, none⟩ = some (.string t)) _ := ⟨cell_grown hg hne hxa, cell_grown hg hne hxb⟩
  refine hK.out (fun (w' : World) => w'.cell? ⟨w1.heap.size, 0, none⟩ = some (.string s) ∧ w'.cell? ⟨w1.heap.size, 1, none⟩ = some (.string t)) _ _ (fun _ h => h) hH2 ?_
  clear hK K
  try dsimp only [Act.put]
  refine wpAnyH_take (i := 7) (oi := ?oi206) (v := ?vv206) ?hi206 ?hn206 ?hf206 ?hr206 ?hq206 (Or.inl ⟨?hg206, ?hy206⟩) hH2 ?rest206
  case hi206 => (simp only [List.getElem?_toArray, List.getElem?_cons_succ, List.getElem?_cons_zero]; rfl)
  case hn206 => kernel_rfl
  case hf206 => kernel_rfl
  case hr206 => kernel_rfl
  case hg206 => rfl
  case hy206 => (intro w hSw; (try dsimp only at hSw); go_simp; first | done | with_reducible rfl)
  case hq206 => exact fun _ _ _ h => h
  try dsimp only [Act.put]
  refine held_one 8 rfl (by kernel_rfl) (fun K hK => ?_)
  go_simp
  refine hK.out (fun (w' : World) => w'.cell? ⟨w1.heap.size, 0, none⟩ = some (.string s) ∧ w'.cell? ⟨w1.heap.size, 1, none⟩ = some (.string t)) _ _ (fun _ h => h) ⟨kxa, kxb⟩ ?_
  clear hK K
  try dsimp only [Act.put]
  refine wpAnyH_take (i := 9) (oi := ?oi207) (v := ?vv207) ?hi207 ?hn207 ?hf207 ?hr207 ?hq207 (Or.inl ⟨?hg207, ?hy207⟩) ⟨kxa, kxb⟩ ?rest207
  case hi207 => (simp only [List.getElem?_toArray, List.getElem?_cons_succ, List.getElem?_cons_zero]; rfl)
  case hn207 => kernel_rfl
  case hf207 => kernel_rfl
  case hr207 => kernel_rfl
  case hg207 => rfl
  case hy207 => (intro w hSw; (try dsimp only at hSw); go_simp; first | done | with_reducible rfl)
  case hq207 => exact fun _ _ _ h => h
  try dsimp only [Act.put]
  refine wpAnyH_done (by kernel_rfl) ?_ _
  try simp only [List.setIfInBounds_toArray, List.set_cons_zero, List.set_cons_succ]
  go_wp2_with fail
  have hy := hY.out
  rw [show IntKind.i64.wrap ((y : Int) - 1) = (y : Int) - 1 by rw [IntKind.wrap_i64] <;> omega]
  obtain ⟨q1, q2⟩ := two_cells (set_two (.string s) (.string t) hr4)
  refine bodyPost_ret (v := .tuple #[.agg #[.string s, .string t], .int .i64 ((y : Int) - 1)]) (by simp [q1, q2, results, Try.results66, go_sem]) rfl ⟨s, t, (y : Int) - 1, by omega, by omega, by omega, by omega, rfl, ?_⟩
  exact ((below2 HG4.out).setCell (Nat.le_refl _) _).setCell (Nat.le_refl _) _

set_option maxRecDepth 100000 in
set_option maxHeartbeats 2000000 in
theorem drawParsePair_any (c : Bts) (w : World) (h : InB w c) : Calls Try.prog 74 #[.slice c.a c.n c.cap] w (GivesZ 100 w) := by
  have H := Lib.hid (cur_new h)
  have HG0 := Lib.hid (grown_refl (w.alloc (.cells #[.slice c.a c.n c.cap, .int .i64 0, .int .u64 0] 95 (0, 0))) (some w.heap.size))
  have b0 : (w.alloc (.cells #[.slice c.a c.n c.cap, .int .i64 0, .int .u64 0] 95 (0, 0))).heap.size = w.heap.size + 1 := by simp
  clear h
  go_enter Try.func74, Try.ntmps74
  go_wp2_with fail
  refine (drawPick_any 6 _ c 0 _ H.out (by omega) (by omega) (by omega)).mono ?_; rintro e w1 ⟨x, hx, rfl, hT, hg⟩
  have HT := Lib.hid hT
  have HG := Lib.hid (grown_trans HG0.out hg)
  clear hT hg
  go_wp2_with fail
  refine (surePair_any x _ c _ _ HT.out (by omega) (by omega)).mono ?_; rintro e w2 ⟨p, hp1, hp2, rfl, hT, hg⟩
  have HT2 := Lib.hid hT
  have HG2 := Lib.hid (grown_trans HG.out hg)
  have hlt := HT2.out.lt
  have k1 := p.1.str_size
  have k2 := p.2.str_size
  have hz : (prS p).size ≤ 40 := by rw [prS_size]; omega
  have hpt := fun w => prText_any p w (by omega) (by omega)
  generalize prS p = z at *
  clear hT hg k1 k2 hp1 hp2
  go_wp2_with fail
  refine (hpt _).mono ?_; rintro e w3 ⟨rfl, hb⟩
  have HT3 := Lib.hid (HT2.out.keep hb)
  have HG3 := Lib.hid (grown_below HG2.out hb)
  clear hb hpt
  go_wp2_with fail
  refine (drawOne_any 3 _ c _ _ HT3.out (by omega) (by omega) (by omega)).mono ?_; rintro e w4 ⟨y, rfl, hT, hg⟩
  have HT4 := Lib.hid hT
  have HG4 := Lib.hid (grown_trans HG3.out hg)
  clear hT hg
  cases y with
  | true =>
    go_wp2_with fail
    refine (spoilt_any z ⟨#[40, 46, 41, 62]⟩ _ c _ _ HT4.out (by omega) (by omega) (by decide) (by decide)).mono ?_; rintro e w5 ⟨u, hu, rfl, hT, hg⟩
    go_wp2_with fail
    go_ret
    exact ⟨u, by omega, rfl, cur_below (grown_trans HG4.out hg)⟩
  | false =>
    go_wp2_with fail
    go_ret
    exact ⟨z, by omega, rfl, cur_below HG4.out⟩

set_option maxRecDepth 100000 in
set_option maxHeartbeats 2000000 in
theorem drawReduceBy_any (c : Bts) (w : World) (h : InB w c) : Calls Try.prog 58 #[.slice c.a c.n c.cap] w (GivesQC 100 w) := by
  have H := Lib.hid (start2 h)
  have hr0 := Lib.hid (heap_keep (allocB (w.alloc (.cells #[.string ⟨#[]⟩, .string ⟨#[]⟩] 59 (0, 0))) (.cells #[.slice c.a c.n c.cap, .int .i64 0, .int .u64 0] 95 (0, 0))) (heap_alloc_at w (.cells #[.string ⟨#[]⟩, .string ⟨#[]⟩] 59 (0, 0))))
  have HG0 := Lib.hid (grown_refl ((w.alloc (.cells #[.string ⟨#[]⟩, .string ⟨#[]⟩] 59 (0, 0))).alloc (.cells #[.slice c.a c.n c.cap, .int .i64 0, .int .u64 0] 95 (0, 0))) (some (w.heap.size + 1)))
  clear h
  go_enter Try.func58, Try.ntmps58
  go_wp2_with fail
  refine (drawOne_any 4 _ c 0 _ H.out (by omega) (by omega) (by omega)).mono ?_; rintro e w1 ⟨x, rfl, hT, hg⟩
  have HT := Lib.hid hT
  have HG := Lib.hid (grown_trans HG0.out hg)
  have HR := Lib.hid (grown_block hg hr0.out (by omega))
  have hlt := HT.out.lt
  clear hT hg
  cases x with
  | true =>
    go_wp2_with fail
    refine (pairD 6 _ c _ _ HT.out (by omega) (by omega)).mono ?_; rintro e w2 ⟨s, t, hs, ht, rfl, hT, hg⟩
    have HT2 := Lib.hid hT
    have HG2 := Lib.hid (grown_trans HG.out hg)
    have HR2 := Lib.hid (grown_block hg HR.out (by omega))
    clear hT hg
    go_wp2_with fail
    refine (drawchoices_any _ c _ _ HT2.out (by omega)).mono ?_; rintro e w3 ⟨v, L, hL, hL2, hO, rfl, hT, hg⟩
    have HG3 := Lib.hid (grown_trans HG2.out hg)
    have hr3 := grown_block hg HR2.out (by omega)
    have hs2 : w.heap.size ≤ w2.heap.size := (below2 HG2.out).size
    have hs3 := HT2.out.lt
    clear hT hg
    obtain ⟨hra, hrb, hrc⟩ := two_facts hr3
    obtain ⟨hrf, hrg⟩ := two_frozen hr3
    go_wp2_with fail
    obtain ⟨q1, q2⟩ := two_cells (set_two (.string s) (.string t) hr3)
    refine bodyPost_ret (v := .tuple #[.agg #[.string s, .string t], v]) (by simp [q1, q2, results, Try.results58, go_sem]) rfl ⟨s, t, v, L, by omega, by omega, hL, hL2, ?_, rfl, ?_⟩
    · exact ownI_low (ownI_set (ownI_set hO (show w.heap.size < w2.heap.size by omega)) (show w.heap.size < w2.heap.size by omega)) hs2
    exact ((below2 HG3.out).setCell (Nat.le_refl _) _).setCell (Nat.le_refl _) _
  | false =>
    go_wp2_with fail
    refine (drawLoose_any _ c _ _ HT.out (by omega)).mono ?_; rintro e w2 ⟨p, hpk, hpc, rfl, hT, hg⟩
    have HT2 := Lib.hid hT
    have HG2 := Lib.hid (grown_trans HG.out hg)
    have HR2 := Lib.hid (grown_block hg HR.out (by omega))
    have k1 := p.1.str_size
    have k2 := p.2.str_size
    unfold okP at hpk
    have hz1 : p.1.str.size ≤ 100 := by omega
    have hz2 : p.2.str.size ≤ 100 := by omega
    generalize p.1.str = s at *
    generalize p.2.str = t at *
    clear hT hg k1 k2
    go_wp2_with fail
    refine (drawchoices_any _ c _ _ HT2.out (by omega)).mono ?_; rintro e w3 ⟨v, L, hL, hL2, hO, rfl, hT, hg⟩
    have HG3 := Lib.hid (grown_trans HG2.out hg)
    have hr3 := grown_block hg HR2.out (by omega)
    have hs2 : w.heap.size ≤ w2.heap.size := (below2 HG2.out).size
    have hs3 := HT2.out.lt
    clear hT hg
    obtain ⟨hra, hrb, hrc⟩ := two_facts hr3
    obtain ⟨hrf, hrg⟩ := two_frozen hr3
    go_wp2_with fail
    obtain ⟨q1, q2⟩ := two_cells (set_two (.string s) (.string t) hr3)
    refine bodyPost_ret (v := .tuple #[.agg #[.string s, .string t], v]) (by simp [q1, q2, results, Try.results58, go_sem]) rfl ⟨s, t, v, L, by omega, by omega, hL, hL2, ?_, rfl, ?_⟩
    · exact ownI_low (ownI_set (ownI_set hO (show w.heap.size < w2.heap.size by omega)) (show w.heap.size < w2.heap.size by omega)) hs2
    exact ((below2 HG3.out).setCell (Nat.le_refl _) _).setCell (Nat.le_refl _) _

set_option maxRecDepth 100000 in
set_option maxHeartbeats 2000000 in
theorem drawAreSamePairs_any (c : Bts) (w : World) (h : InB w c) : Calls Try.prog 69 #[.slice c.a c.n c.cap] w (GivesQQ 100 w) := by
  have H := Lib.hid (start3 h)
  have hra0 := Lib.hid (heap_keep (allocB ((w.alloc (.cells #[.string ⟨#[]⟩, .string ⟨#[]⟩] 59 (0, 0))).alloc (.cells #[.string ⟨#[]⟩, .string ⟨#[]⟩] 59 (0, 0))) (.cells #[.slice c.a c.n c.cap, .int .i64 0, .int .u64 0] 95 (0, 0))) (heap_keep (allocB (w.alloc (.cells #[.string ⟨#[]⟩, .string ⟨#[]⟩] 59 (0, 0))) (.cells #[.string ⟨#[]⟩, .string ⟨#[]⟩] 59 (0, 0))) (heap_alloc_at w (.cells #[.string ⟨#[]⟩, .string ⟨#[]⟩] 59 (0, 0)))))
  have hrb0 := Lib.hid (show (((w.alloc (.cells #[.string ⟨#[]⟩, .string ⟨#[]⟩] 59 (0, 0))).alloc (.cells #[.string ⟨#[]⟩, .string ⟨#[]⟩] 59 (0, 0))).alloc (.cells #[.slice c.a c.n c.cap, .int .i64 0, .int .u64 0] 95 (0, 0))).heap[w.heap.size + 1]? = some (.cells #[.string ⟨#[]⟩, .string ⟨#[]⟩] 59 (0, 0)) from by have := heap_keep (allocB ((w.alloc (.cells #[.string ⟨#[]⟩, .string ⟨#[]⟩] 59 (0, 0))).alloc (.cells #[.string ⟨#[]⟩, .string ⟨#[]⟩] 59 (0, 0))) (.cells #[.slice c.a c.n c.cap, .int .i64 0, .int .u64 0] 95 (0, 0))) (heap_alloc_at (w.alloc (.cells #[.string ⟨#[]⟩, .string ⟨#[]⟩] 59 (0, 0))) (.cells #[.string ⟨#[]⟩, .string ⟨#[]⟩] 59 (0, 0))); rwa [show (w.alloc (.cells #[.string ⟨#[]⟩, .string ⟨#[]⟩] 59 (0, 0))).heap.size = w.heap.size + 1 by simp] at this)
  have HG0 := Lib.hid (grown_refl (((w.alloc (.cells #[.string ⟨#[]⟩, .string ⟨#[]⟩] 59 (0, 0))).alloc (.cells #[.string ⟨#[]⟩, .string ⟨#[]⟩] 59 (0, 0))).alloc (.cells #[.slice c.a c.n c.cap, .int .i64 0, .int .u64 0] 95 (0, 0))) (some (w.heap.size + 2)))
  clear h
  go_enter Try.func69, Try.ntmps69
  go_wp2_with fail
  refine (drawLoose_any _ c _ _ H.out (by omega)).mono ?_; rintro e w1 ⟨p, hpk, hpc, rfl, hT, hg⟩
  have hl1 := hT.lt
  have HT := Lib.hid (hT.keep (allocB w1 (.cells #[.string p.1.str, .string p.2.str] 59 (0, 0))))
  have HG := Lib.hid (grown_below (grown_trans HG0.out hg) (allocB w1 (.cells #[.string p.1.str, .string p.2.str] 59 (0, 0))))
  have HX := Lib.hid (heap_alloc_at w1 (.cells #[.string p.1.str, .string p.2.str] 59 (0, 0)))
  have HA := Lib.hid (heap_keep (allocB w1 (.cells #[.string p.1.str, .string p.2.str] 59 (0, 0))) (grown_block hg hra0.out (by omega)))
  have HB := Lib.hid (heap_keep (allocB w1 (.cells #[.string p.1.str, .string p.2.str] 59 (0, 0))) (grown_block hg hrb0.out (by omega)))
  have hne : w1.heap.size ≠ w.heap.size + 2 := by omega
  have hne2 : w1.heap.size ≠ w.heap.size := by omega
  have hne3 : w1.heap.size ≠ w.heap.size + 1 := by omega
  have k1 := p.1.str_size
  have k2 := p.2.str_size
  have hpk' : p.1.carets = p.2.carets := hpk
  have hz1 : p.1.str.size ≤ 100 := by omega
  have hz2 : p.2.str.size ≤ 100 := by omega
  clear hT hg k1 k2
  go_wp2_with fail
  refine (drawOne_any 3 _ c _ _ HT.out (by omega) (by omega) (by omega)).mono ?_; rintro e w2 ⟨x, rfl, hT, hg⟩
  have HT2 := Lib.hid hT
  have HG2 := Lib.hid (grown_trans HG.out hg)
  have hx2 := grown_block hg HX.out hne
  have HA2 := Lib.hid (grown_block hg HA.out (by omega))
  have HB2 := Lib.hid (grown_block hg HB.out (by omega))
  obtain ⟨hxa, hxb, hxc⟩ := two_facts hx2
  clear hT hg
  cases x with
  | true =>
    go_wp2_with fail
    refine wp_region_held_drew (S := (fun (w' : World) => w'.cell? ⟨w1.heap.size, 0, none⟩ = some (.string p.1.str) ∧ w'.cell? ⟨w1.heap.size, 1, none⟩ = some (.string p.2.str))) (by kernel_rfl) ⟨hxa, hxb⟩ (fun hH0 => ?_)
    refine wpAnyH_take (i := 0) (oi := ?oi401) (v := ?vv401) ?hi401 ?hn401 ?hf401 ?hr401 ?hq401 (Or.inl ⟨?hg401, ?hy401⟩) hH0 ?rest401
    case hi401 => (simp only [List.getElem?_toArray, List.getElem?_cons_zero]; rfl)
    case hn401 => kernel_rfl
    case hf401 => kernel_rfl
    case hr401 => kernel_rfl
    case hg401 => rfl
    case hy401 => (intro w hSw; (try dsimp only at hSw); go_simp; first | done | with_reducible rfl)
    case hq401 => exact fun _ _ _ h => h
    try dsimp only [Act.put]
    refine wpAnyH_take (i := 1) (oi := ?oi402) (v := ?vv402) ?hi402 ?hn402 ?hf402 ?hr402 ?hq402 (Or.inl ⟨?hg402, ?hy402⟩) hH0 ?rest402
    case hi402 => (simp only [List.getElem?_toArray, List.getElem?_cons_succ, List.getElem?_cons_zero]; rfl)
    case hn402 => kernel_rfl
    case hf402 => kernel_rfl
    case hr402 => kernel_rfl
    case hg402 => rfl
    case hy402 => (intro w hSw; (try dsimp only at hSw); go_simp; first | done | with_reducible rfl)
    case hq402 => exact fun _ _ _ h => h
    try dsimp only [Act.put]
    refine held_one 2 rfl (by kernel_rfl) (fun K hK => ?_)
    go_simp
    refine (pairD 5 _ c _ w2.drew (show Cur w2.drew (w.heap.size + 2) c _ from HT2.out) (by omega) (by omega)).mono ?_; rintro e w3 ⟨s, t, hs, ht, rfl, hT, hg⟩
    have HG3 := Lib.hid (grown_trans (show World.grownBy _ w2.drew _ from grown_drew (n := 1) HG2.out) hg)
    have hra3 := grown_block (w := w2.drew) hg HA2.out (by omega)
    have hrb3 := grown_block (w := w2.drew) hg HB2.out (by omega)
    obtain ⟨ra1, ra2, ra3⟩ := two_facts hra3
    obtain ⟨ra4, ra5⟩ := two_frozen hra3
    obtain ⟨rb1, rb2, rb3⟩ := two_facts hrb3
    obtain ⟨rb4, rb5⟩ := two_frozen hrb3
    have kxa := cell_grown (w := w2.drew) hg hne hxa
    have kxb := cell_grown (w := w2.drew) hg hne hxb
    have hY := Lib.hid (And.intro hs ht)
    clear hT hg
    go_wp2_with fail
    have hH1 : (fun (w' : World) => w'.cell? ⟨w1.heap.size, 0, none⟩ = some (.string p.1.str) ∧ w'.cell? ⟨w1.heap.size, 1, none⟩ = some (.string p.2.str)) _ := ⟨kxa, kxb⟩
    refine hK.out (fun (w' : World) => w'.cell? ⟨w1.heap.size, 0, none⟩ = some (.string p.1.str) ∧ w'.cell? ⟨w1.heap.size, 1, none⟩ = some (.string p.2.str)) _ _ (fun _ h => h) hH1 ?_
    clear hK K
    try dsimp only [Act.put]
    refine held_one 3 rfl (by kernel_rfl) (fun K hK => ?_)
    go_simp
    refine hK.out (fun (w' : World) => w'.cell? ⟨w1.heap.size, 0, none⟩ = some (.string p.1.str) ∧ w'.cell? ⟨w1.heap.size, 1, none⟩ = some (.string p.2.str)) _ _ (fun _ h => h) ⟨(cell_grown (grown_setD _ (w.heap.size) 1 (.string p.2.str)) hne2 (cell_grown (grown_setD _ (w.heap.size) 0 (.string p.1.str)) hne2 kxa)), (cell_grown (grown_setD _ (w.heap.size) 1 (.string p.2.str)) hne2 (cell_grown (grown_setD _ (w.heap.size) 0 (.string p.1.str)) hne2 kxb))⟩ ?_
    clear hK K
    try dsimp only [Act.put]
    refine held_one 4 rfl (by kernel_rfl) (fun K hK => ?_)
    go_simp
    refine hK.out (fun (w' : World) => w'.cell? ⟨w1.heap.size, 0, none⟩ = some (.string p.1.str) ∧ w'.cell? ⟨w1.heap.size, 1, none⟩ = some (.string p.2.str)) _ _ (fun _ h => h) ⟨(cell_grown (grown_setD _ (w.heap.size + 1) 1 (.string t)) hne3 (cell_grown (grown_setD _ (w.heap.size + 1) 0 (.string s)) hne3 (cell_grown (grown_setD _ (w.heap.size) 1 (.string p.2.str)) hne2 (cell_grown (grown_setD _ (w.heap.size) 0 (.string p.1.str)) hne2 kxa)))), (cell_grown (grown_setD _ (w.heap.size + 1) 1 (.string t)) hne3 (cell_grown (grown_setD _ (w.heap.size + 1) 0 (.string s)) hne3 (cell_grown (grown_setD _ (w.heap.size) 1 (.string p.2.str)) hne2 (cell_grown (grown_setD _ (w.heap.size) 0 (.string p.1.str)) hne2 kxb))))⟩ ?_
    clear hK K
    try dsimp only [Act.put]
    refine wpAnyH_done (by kernel_rfl) ?_ _
    try simp only [List.setIfInBounds_toArray, List.set_cons_zero, List.set_cons_succ]
    go_wp2_with fail
    have hsa := set_two (.string p.1.str) (.string p.2.str) hra3
    have hsa2 : ((((w3.setCell ⟨w.heap.size, 0, none⟩ (.string p.1.str)).setCell ⟨w.heap.size, 1, none⟩ (.string p.2.str)).setCell ⟨w.heap.size + 1, 0, none⟩ (.string s)).setCell ⟨w.heap.size + 1, 1, none⟩ (.string t)).heap[w.heap.size]? = _ := (heap_setCell_other _ ⟨w.heap.size + 1, 1, none⟩ w.heap.size (.string t) (show w.heap.size ≠ w.heap.size + 1 by omega)).trans ((heap_setCell_other _ ⟨w.heap.size + 1, 0, none⟩ w.heap.size (.string s) (show w.heap.size ≠ w.heap.size + 1 by omega)).trans hsa)
    have hsb0 : ((w3.setCell ⟨w.heap.size, 0, none⟩ (.string p.1.str)).setCell ⟨w.heap.size, 1, none⟩ (.string p.2.str)).heap[w.heap.size + 1]? = _ := (heap_setCell_other _ ⟨w.heap.size, 1, none⟩ (w.heap.size + 1) (.string p.2.str) (show w.heap.size + 1 ≠ w.heap.size by omega)).trans ((heap_setCell_other _ ⟨w.heap.size, 0, none⟩ (w.heap.size + 1) (.string p.1.str) (show w.heap.size + 1 ≠ w.heap.size by omega)).trans hrb3)
    have hsb := set_two (.string s) (.string t) hsb0
    obtain ⟨q1, q2⟩ := two_cells hsa2
    obtain ⟨q3, q4⟩ := two_cells hsb
    refine bodyPost_ret (v := .tuple #[.agg #[.string p.1.str, .string p.2.str], .agg #[.string s, .string t]]) (by simp [q1, q2, q3, q4, results, Try.results69, go_sem]) rfl ⟨p.1.str, p.2.str, s, t, hz1, hz2, by have := hY.out.1; omega, by have := hY.out.2; omega, rfl, ?_⟩
    exact ((((below3 HG3.out).setCell (Nat.le_refl _) _).setCell (Nat.le_refl _) _).setCell (show w.heap.size ≤ w.heap.size + 1 by omega) _).setCell (show w.heap.size ≤ w.heap.size + 1 by omega) _
  | false =>
    go_wp2_with fail
    refine wp_region_held_drew (S := (fun (w' : World) => w'.cell? ⟨w1.heap.size, 0, none⟩ = some (.string p.1.str) ∧ w'.cell? ⟨w1.heap.size, 1, none⟩ = some (.string p.2.str))) (by kernel_rfl) ⟨hxa, hxb⟩ (fun hH0 => ?_)
    refine wpAnyH_take (i := 0) (oi := ?oi601) (v := ?vv601) ?hi601 ?hn601 ?hf601 ?hr601 ?hq601 (Or.inl ⟨?hg601, ?hy601⟩) hH0 ?rest601
    case hi601 => (simp only [List.getElem?_toArray, List.getElem?_cons_zero]; rfl)
    case hn601 => kernel_rfl
    case hf601 => kernel_rfl
    case hr601 => kernel_rfl
    case hg601 => rfl
    case hy601 => (intro w hSw; (try dsimp only at hSw); go_simp; first | done | with_reducible rfl)
    case hq601 => exact fun _ _ _ h => h
    try dsimp only [Act.put]
    refine wpAnyH_take (i := 1) (oi := ?oi602) (v := ?vv602) ?hi602 ?hn602 ?hf602 ?hr602 ?hq602 (Or.inl ⟨?hg602, ?hy602⟩) hH0 ?rest602
    case hi602 => (simp only [List.getElem?_toArray, List.getElem?_cons_succ, List.getElem?_cons_zero]; rfl)
    case hn602 => kernel_rfl
    case hf602 => kernel_rfl
    case hr602 => kernel_rfl
    case hg602 => rfl
    case hy602 => (intro w hSw; (try dsimp only at hSw); go_simp; first | done | with_reducible rfl)
    case hq602 => exact fun _ _ _ h => h
    try dsimp only [Act.put]
    refine wpAnyH_take (i := 2) (oi := ?oi603) (v := ?vv603) ?hi603 ?hn603 ?hf603 ?hr603 ?hq603 (Or.inl ⟨?hg603, ?hy603⟩) hH0 ?rest603
    case hi603 => (simp only [List.getElem?_toArray, List.getElem?_cons_succ, List.getElem?_cons_zero]; rfl)
    case hn603 => kernel_rfl
    case hf603 => kernel_rfl
    case hr603 => kernel_rfl
    case hg603 => rfl
    case hy603 => (intro w hSw; (try dsimp only at hSw); go_simp; first | done | with_reducible rfl)
    case hq603 => exact fun _ _ _ h => h
    try dsimp only [Act.put]
    refine held_one 3 rfl (by kernel_rfl) (fun K hK => ?_)
    go_simp
    refine (drawchoices0_any _ c _ w2.drew (show Cur w2.drew (w.heap.size + 2) c _ from HT2.out) (by omega)).mono ?_; rintro e wA ⟨v, L, hL, hL2, hO, rfl, hT, hg⟩
    have HGA := Lib.hid (grown_trans (show World.grownBy _ w2.drew _ from grown_drew (n := 1) HG2.out) hg)
    have HAA := Lib.hid (grown_block (w := w2.drew) hg HA2.out (by omega))
    have HBA := Lib.hid (grown_block (w := w2.drew) hg HB2.out (by omega))
    have jxa := cell_grown (w := w2.drew) hg hne hxa
    have jxb := cell_grown (w := w2.drew) hg hne hxb
    have HO := Lib.hid hO.cells
    have HL := Lib.hid hL2
    clear hT hg hO hL2
    go_wp2_with fail
    have hH1 : (fun (w' : World) => w'.cell? ⟨w1.heap.size, 0, none⟩ = some (.string p.1.str) ∧ w'.cell? ⟨w1.heap.size, 1, none⟩ = some (.string p.2.str)) _ := ⟨jxa, jxb⟩
    refine hK.out (fun (w' : World) => w'.cell? ⟨w1.heap.size, 0, none⟩ = some (.string p.1.str) ∧ w'.cell? ⟨w1.heap.size, 1, none⟩ = some (.string p.2.str)) _ _ (fun _ h => h) hH1 ?_
    clear hK K
    try dsimp only [Act.put]
    refine held_one 4 rfl (by kernel_rfl) (fun K hK => ?_)
    go_simp
    refine (prReduce_any p v L _ wA (by omega) (by omega) HO.out (fun c hc => by have := HL.out c hc; omega)).mono ?_; rintro e w3 ⟨rfl, hb⟩
    have HG3 := Lib.hid (grown_below HGA.out hb)
    have hra3 := heap_keep hb HAA.out
    have hrb3 := heap_keep hb HBA.out
    obtain ⟨ra1, ra2, ra3⟩ := two_facts hra3
    obtain ⟨ra4, ra5⟩ := two_frozen hra3
    obtain ⟨rb1, rb2, rb3⟩ := two_facts hrb3
    obtain ⟨rb4, rb5⟩ := two_frozen hrb3
    have kxa := (hb.cell (p := ⟨w1.heap.size, 0, none⟩) (World.block_lt_of_cell? _ _ jxa)).trans jxa
    have kxb := (hb.cell (p := ⟨w1.heap.size, 1, none⟩) (World.block_lt_of_cell? _ _ jxb)).trans jxb
    have rc := redBy_carets p L
    have r1 := (redBy p L).1.str_size
    have r2 := (redBy p L).2.str_size
    have hr1 : (redBy p L).1.str.size ≤ 100 := by have := rc.1; omega
    have hr2 : (redBy p L).2.str.size ≤ 100 := by have := rc.2.1; omega
    generalize (redBy p L).1.str = s at *
    generalize (redBy p L).2.str = t at *
    clear hb rc r1 r2
    go_wp2_with fail
    have hH2 : (fun (w' : World) => w'.cell? ⟨w1.heap.size, 0, none⟩ = some (.string p.1.str) ∧ w'.cell? ⟨w1.heap.size, 1, none⟩ = some (.string p.2.str)) _ := ⟨kxa, kxb⟩
    refine hK.out (fun (w' : World) => w'.cell? ⟨w1.heap.size, 0, none⟩ = some (.string p.1.str) ∧ w'.cell? ⟨w1.heap.size, 1, none⟩ = some (.string p.2.str)) _ _ (fun _ h => h) hH2 ?_
    clear hK K
    try dsimp only [Act.put]
    refine held_one 5 rfl (by kernel_rfl) (fun K hK => ?_)
    go_simp
    refine hK.out (fun (w' : World) => w'.cell? ⟨w1.heap.size, 0, none⟩ = some (.string p.1.str) ∧ w'.cell? ⟨w1.heap.size, 1, none⟩ = some (.string p.2.str)) _ _ (fun _ h => h) ⟨(cell_grown (grown_setD _ (w.heap.size) 1 (.string p.2.str)) hne2 (cell_grown (grown_setD _ (w.heap.size) 0 (.string p.1.str)) hne2 kxa)), (cell_grown (grown_setD _ (w.heap.size) 1 (.string p.2.str)) hne2 (cell_grown (grown_setD _ (w.heap.size) 0 (.string p.1.str)) hne2 kxb))⟩ ?_
    clear hK K
    try dsimp only [Act.put]
    refine held_one 6 rfl (by kernel_rfl) (fun K hK => ?_)
    go_simp
    refine hK.out (fun (w' : World) => w'.cell? ⟨w1.heap.size, 0, none⟩ = some (.string p.1.str) ∧ w'.cell? ⟨w1.heap.size, 1, none⟩ = some (.string p.2.str)) _ _ (fun _ h => h) ⟨(cell_grown (grown_setD _ (w.heap.size + 1) 1 (.string t)) hne3 (cell_grown (grown_setD _ (w.heap.size + 1) 0 (.string s)) hne3 (cell_grown (grown_setD _ (w.heap.size) 1 (.string p.2.str)) hne2 (cell_grown (grown_setD _ (w.heap.size) 0 (.string p.1.str)) hne2 kxa)))), (cell_grown (grown_setD _ (w.heap.size + 1) 1 (.string t)) hne3 (cell_grown (grown_setD _ (w.heap.size + 1) 0 (.string s)) hne3 (cell_grown (grown_setD _ (w.heap.size) 1 (.string p.2.str)) hne2 (cell_grown (grown_setD _ (w.heap.size) 0 (.string p.1.str)) hne2 kxb))))⟩ ?_
    clear hK K
    try dsimp only [Act.put]
    refine wpAnyH_done (by kernel_rfl) ?_ _
    try simp only [List.setIfInBounds_toArray, List.set_cons_zero, List.set_cons_succ]
    go_wp2_with fail
    have hsa := set_two (.string p.1.str) (.string p.2.str) hra3
    have hsa2 : ((((w3.setCell ⟨w.heap.size, 0, none⟩ (.string p.1.str)).setCell ⟨w.heap.size, 1, none⟩ (.string p.2.str)).setCell ⟨w.heap.size + 1, 0, none⟩ (.string s)).setCell ⟨w.heap.size + 1, 1, none⟩ (.string t)).heap[w.heap.size]? = _ := (heap_setCell_other _ ⟨w.heap.size + 1, 1, none⟩ w.heap.size (.string t) (show w.heap.size ≠ w.heap.size + 1 by omega)).trans ((heap_setCell_other _ ⟨w.heap.size + 1, 0, none⟩ w.heap.size (.string s) (show w.heap.size ≠ w.heap.size + 1 by omega)).trans hsa)
    have hsb0 : ((w3.setCell ⟨w.heap.size, 0, none⟩ (.string p.1.str)).setCell ⟨w.heap.size, 1, none⟩ (.string p.2.str)).heap[w.heap.size + 1]? = _ := (heap_setCell_other _ ⟨w.heap.size, 1, none⟩ (w.heap.size + 1) (.string p.2.str) (show w.heap.size + 1 ≠ w.heap.size by omega)).trans ((heap_setCell_other _ ⟨w.heap.size, 0, none⟩ (w.heap.size + 1) (.string p.1.str) (show w.heap.size + 1 ≠ w.heap.size by omega)).trans hrb3)
    have hsb := set_two (.string s) (.string t) hsb0
    obtain ⟨q1, q2⟩ := two_cells hsa2
    obtain ⟨q3, q4⟩ := two_cells hsb
    refine bodyPost_ret (v := .tuple #[.agg #[.string p.1.str, .string p.2.str], .agg #[.string s, .string t]]) (by simp [q1, q2, q3, q4, results, Try.results69, go_sem]) rfl ⟨p.1.str, p.2.str, s, t, hz1, hz2, hr1, hr2, rfl, ?_⟩
    exact ((((below3 HG3.out).setCell (Nat.le_refl _) _).setCell (Nat.le_refl _) _).setCell (show w.heap.size ≤ w.heap.size + 1 by omega) _).setCell (show w.heap.size ≤ w.heap.size + 1 by omega) _
end Go.Proofs.Yteflpaebckichab

/-! RedBy -/
namespace Go.Proofs.Yteflpaebckichab
open Go.RowKit

theorem firstOf_any (n : Int) (w : World) : Calls Try.prog 132 #[.int .i64 n] w fun e w' => e = .returned (.int .i64 0) ∧ w = w' := by
  go_enter Try.func132, Try.ntmps132
  go_wp2
  go_ret
  exact ⟨rfl, rfl⟩

theorem sharedExposed_tr (p : Pr) (w : World) (k1 : p.1.carets ≤ 200) (k2 : p.2.carets ≤ 200) : Calls Try.prog 157 #[.agg #[.string p.1.str, .string p.2.str]] w (GivesInts (both p) w) := by
  have := sharedExposed_any p.1.str p.2.str w (by have := p.1.str_size; omega) (by have := p.2.str_size; omega)
  rwa [bothL_str] at this

theorem redBy_first {p : Pr} (hl : 0 < (both p).length) : red p = red (dropP p ((both p).getD 0 0)) := by
  have := redBy_pick (p := p) [] 0 hl rfl
  exact this

set_option maxRecDepth 100000 in
set_option maxHeartbeats 2000000 in
theorem reducedBy_first (p0 : Pr) (w : World) (h1 : p0.1.carets ≤ 200) (h2 : p0.2.carets ≤ 200) :
    Calls Try.prog 133 #[.agg #[.string p0.1.str, .string p0.2.str], .func (Fn.func 132) #[] #[]] w (Gives (.agg #[.string (red p0).1.str, .string (red p0).2.str]) w) := by
  go_enter Try.func133, Try.ntmps133
  go_wp2_with fail
  have hb0 : Below w.heap.size w ((w.alloc (.cells #[.string p0.1.str, .string p0.2.str] 59 (0, 0))).alloc (.cells #[.string ⟨#[]⟩, .string ⟨#[]⟩] 59 (0, 0))) := nxAlloc (nxAlloc (Below.refl _ _) _) _
  have hx1 := heap_keep (nxAlloc (Below.refl _ _) (.cells #[.string ⟨#[]⟩, .string ⟨#[]⟩] 59 (0, 0))) (heap_alloc_at w (.cells #[.string p0.1.str, .string p0.2.str] 59 (0, 0)))
  have hx2 := heap_alloc_at (w.alloc (.cells #[.string p0.1.str, .string p0.2.str] 59 (0, 0))) (.cells #[.string ⟨#[]⟩, .string ⟨#[]⟩] 59 (0, 0))
  generalize (w.alloc (.cells #[.string p0.1.str, .string p0.2.str] 59 (0, 0))).alloc (.cells #[.string ⟨#[]⟩, .string ⟨#[]⟩] 59 (0, 0)) = w0 at *
  have e2 : (w.alloc (.cells #[.string p0.1.str, .string p0.2.str] 59 (0, 0))).heap.size = w.heap.size + 1 := by simp
  rw [e2] at hx2
  clear e2
  have hs0 : w.heap.size + 1 < w0.heap.size := lt_of_block hx2
  go_loopw [5] (fun _ wr => ∃ (p : Pr), wr.heap[w.heap.size]? = some (.cells #[.string p.1.str, .string p.2.str] 59 (0, 0)) ∧ wr.heap[w.heap.size + 1]? = some (.cells #[.string ⟨#[]⟩, .string ⟨#[]⟩] 59 (0, 0)) ∧ Below w.heap.size w wr ∧ w.heap.size + 2 ≤ wr.heap.size ∧ p.1.carets ≤ 200 ∧ p.2.carets ≤ 200 ∧ Hid (red p0 = red p)) (fun _ wr => sizeAt wr w.heap.size)
  case atStart => exact ⟨p0, hx1, hx2, hb0, hs0, h1, h2, rfl⟩
  case round =>
    obtain ⟨p, hy1, hy2, hbw, hsz, hp1, hp2, he⟩ := hrel
    have HS1 := Lib.hid (sizeAt_of hy1)
    obtain ⟨k1, k2⟩ := two_cells hy1
    go_wp2_with fail
    refine (sharedExposed_tr p _ hp1 hp2).mono ?_; rintro e w1 ⟨v5, own, hb1, rfl⟩
    have hz1 := heap_keep hb1 hy1
    have hz2 := heap_keep hb1 hy2
    have hbw1 := nx hbw hb1
    have hsz1 := Nat.le_trans hsz hb1.size
    have hown : OwnI (w.heap.size + 2) w1 v5 (both p) := own.mono hsz
    have hf := hown.cells.form
    clear own hb1 hbw hsz k1 k2 hy1 hy2 hown
    obtain ⟨k1, k2⟩ := two_cells hz1
    obtain ⟨ob, bcap, rfl, hbc, hbm, hbcell⟩ := hf
    unfold maxLen at hbm
    by_cases hl : (both p).length = 0
    · have hnil : both p = [] := List.length_eq_zero_iff.1 hl
      have he' := he.out
      rw [(red_self p).2 hnil] at he'
      have HE := Lib.hid he'
      rw [hl]
      obtain ⟨n1, n2⟩ := two_cells hz2
      obtain ⟨f1, f2⟩ := two_frozen hz2
      clear hl hnil he he' hbcell
      go_wp2_with fail
      obtain ⟨r1, r2⟩ := two_cells (set_two (.string p.1.str) (.string p.2.str) hz2)
      refine bodyPost_ret (v := .agg #[.string p.1.str, .string p.2.str]) (by simp [r1, r2, results, Try.results133, go_sem]) rfl ⟨by rw [HE.out], ?_⟩
      exact (hbw1.setCell (by simp) _).setCell (by simp) _
    · -- a step
      have hlp : 0 < (both p).length := by omega
      have hlp' : (((both p).length : Int) == 0) = false := by rw [beq_eq_false_iff_ne]; omega
      have hst := redBy_first hlp
      obtain ⟨m1, m2, hx0, hx9⟩ := both_in p hp1 0 hlp
      obtain ⟨g, rfl, hg0, hg1, c1⟩ := hbcell 0 hlp
      obtain ⟨x, hx⟩ : ∃ x, x = (both p).getD 0 0 := ⟨_, rfl⟩
      rw [← hx] at hst m1 m2 c1 hx0 hx9
      have hstep := Lib.hid hst
      have T1 := fun w => withoutExposed_tr p.1 x w (by omega) m1
      have T2 := fun w => withoutExposed_tr p.2 x w (by omega) m2
      obtain ⟨hd1, hd2⟩ := dropP_carets (p := p) (n := x) (mem_both.2 ⟨m1, m2⟩)
      generalize hL : (both p).length = L at *
      have HL := Lib.hid hL
      have hlq : (0 : Int) < (L : Int) := by omega
      obtain ⟨f1, f2⟩ := two_frozen hz1
      clear hL hx hst m1 m2 hbcell hl
      go_wp2_with fail
      refine (firstOf_any _ _).mono ?_; rintro e w2 ⟨rfl, rfl⟩
      go_wp2_with fail
      refine (T1 _).mono ?_; rintro e w2 ⟨rfl, hb2⟩
      have hz1 := heap_keep hb2 hz1
      have hz2 := heap_keep hb2 hz2
      have hbw2 := nx hbw1 hb2
      have hsz2 := Nat.le_trans hsz1 hb2.size
      obtain ⟨n1, n2⟩ := two_cells hz1
      obtain ⟨f1, f2⟩ := two_frozen hz1
      clear c1 k1 k2 hb2 hbw1 hsz1
      go_wp2_with fail
      have hr1 := set_first (u' := .string (p.1.dropAt x).str) hz1
      have hr2 : (w2.setCell ⟨w.heap.size, 0, none⟩ (.string (p.1.dropAt x).str)).heap[w.heap.size + 1]? = some (.cells #[.string ⟨#[]⟩, .string ⟨#[]⟩] 59 (0, 0)) := by
        rw [Below.heap_setCell _ _ _ _ (by simp)]; exact hz2
      have hbw3 : Below w.heap.size w (w2.setCell ⟨w.heap.size, 0, none⟩ (.string (p.1.dropAt x).str)) := hbw2.setCell (Nat.le_refl _) _
      have hsz3 : w.heap.size + 2 ≤ (w2.setCell ⟨w.heap.size, 0, none⟩ (.string (p.1.dropAt x).str)).heap.size := by simpa using hsz2
      generalize w2.setCell ⟨w.heap.size, 0, none⟩ (.string (p.1.dropAt x).str) = w3 at *
      clear hz1 hz2 n1 n2 f1 f2 hbw2 hsz2
      refine (T2 _).mono ?_; rintro e w4 ⟨rfl, hb4⟩
      have hz1 := heap_keep hb4 hr1
      have hz2 := heap_keep hb4 hr2
      have hbw4 := nx hbw3 hb4
      have hsz4 := Nat.le_trans hsz3 hb4.size
      obtain ⟨n1, n2⟩ := two_cells hz1
      obtain ⟨f1, f2⟩ := two_frozen hz1
      clear hr1 hr2 hbw3 hsz3 hb4
      go_wp2_with fail
      have hu1 := set_second (v' := .string (p.2.dropAt x).str) hz1
      have hu2 : (w4.setCell ⟨w.heap.size, 1, none⟩ (.string (p.2.dropAt x).str)).heap[w.heap.size + 1]? = some (.cells #[.string ⟨#[]⟩, .string ⟨#[]⟩] 59 (0, 0)) := by
        rw [Below.heap_setCell _ _ _ _ (by simp)]; exact hz2
      have hbw5 : Below w.heap.size w (w4.setCell ⟨w.heap.size, 1, none⟩ (.string (p.2.dropAt x).str)) := hbw4.setCell (Nat.le_refl _) _
      have hsz5 : w.heap.size + 2 ≤ (w4.setCell ⟨w.heap.size, 1, none⟩ (.string (p.2.dropAt x).str)).heap.size := by simpa using hsz4
      go_roundw
      case rel => exact ⟨dropP p x, hu1, hu2, hbw5, hsz5, by omega, by omega, by show _ = _; rw [he.out, hstep.out]⟩
      case measure =>
        rw [sizeAt_of hu1, HS1.out, Tr.str_size, Tr.str_size]
        have hd1' : (p.1.dropAt x).carets + 1 = p.1.carets := hd1
        omega
end Go.Proofs.Yteflpaebckichab

/-! WReducePair -/
namespace Go.Proofs.Yteflpaebckichab
open Go.RowKit

theorem prReduce_nil (p : Pr) (w : World) (h1 : p.1.carets ≤ 200) (h2 : p.2.carets ≤ 200) :
    Calls Try.prog 136 #[.agg #[.string p.1.str, .string p.2.str], .slice none 0 0] w (Gives (.agg #[.string (red p).1.str, .string (red p).2.str]) w) :=
  prReduce_any p _ [] 0 w h1 h2 (.inl ⟨rfl, rfl⟩) (fun c hc => by simp at hc)

set_option maxHeartbeats 1000000 in
theorem specReducePair_any (a b : ByteArray) (w : World) (ha : a.size ≤ 9223372036854775806) (hb : b.size ≤ 9223372036854775806) :
    Calls Try.prog 62 #[.agg #[.string a, .string b]] w (Gives (ansPr ((pairOf a b).bind fun p => some (red p))) w) := by
  have hg := fun w => prGood_any a b w ha hb
  cases h : pairOf a b with
  | none =>
    rw [h] at hg
    clear h
    go_enter Try.func62, Try.ntmps62
    go_wp2_with fail
    have hb0 : Below w.heap.size w ((w.alloc (.cells #[.string a, .string b] 59 (0, 0))).alloc (.cells #[.string ⟨#[]⟩, .string ⟨#[]⟩] 59 (0, 0))) := nxAlloc (nxAlloc (Below.refl _ _) _) _
    have hx0 := heap_keep (nxAlloc (Below.refl _ _) (.cells #[.string ⟨#[]⟩, .string ⟨#[]⟩] 59 (0, 0))) (heap_alloc_at w (.cells #[.string a, .string b] 59 (0, 0)))
    have hx1 := heap_alloc_at (w.alloc (.cells #[.string a, .string b] 59 (0, 0))) (.cells #[.string ⟨#[]⟩, .string ⟨#[]⟩] 59 (0, 0))
    generalize ((w.alloc (.cells #[.string a, .string b] 59 (0, 0))).alloc (.cells #[.string ⟨#[]⟩, .string ⟨#[]⟩] 59 (0, 0))) = w0 at *
    have e1 : (w.alloc (.cells #[.string a, .string b] 59 (0, 0))).heap.size = w.heap.size + 1 := by simp
    rw [e1] at hx1
    clear e1
    obtain ⟨hx0a, hx0b, hx0c⟩ := two_facts hx0
    obtain ⟨hx0f, hx0g⟩ := two_frozen hx0
    obtain ⟨hx1a, hx1b, hx1c⟩ := two_facts hx1
    obtain ⟨hx1f, hx1g⟩ := two_frozen hx1
    refine (hg _).mono ?_; rintro e w1 ⟨rfl, hb1⟩
    have hbw1 := nx hb0 hb1
    replace hx0 := heap_keep hb1 hx0
    replace hx1 := heap_keep hb1 hx1
    clear hx0a hx0b hx0c hx0f hx0g
    obtain ⟨hx0a, hx0b, hx0c⟩ := two_facts hx0
    obtain ⟨hx0f, hx0g⟩ := two_frozen hx0
    clear hx1a hx1b hx1c hx1f hx1g
    obtain ⟨hx1a, hx1b, hx1c⟩ := two_facts hx1
    obtain ⟨hx1f, hx1g⟩ := two_frozen hx1
    clear hb1 hb0
    go_wp2_with fail
    obtain ⟨q1, q2⟩ := two_cells (set_two (.string ⟨#[]⟩) (.string ⟨#[]⟩) hx1)
    refine bodyPost_ret (v := .tuple #[.agg #[.string ⟨#[]⟩, .string ⟨#[]⟩], .bool false]) (by simp [q1, q2, results, Try.results62, go_sem]) rfl ⟨rfl, ?_⟩
    exact (hbw1.setCell (by show w.heap.size ≤ w.heap.size + 1; omega) _).setCell (by show w.heap.size ≤ w.heap.size + 1; omega) _
  | some p =>
    rw [h] at hg
    obtain ⟨rfl, rfl, hok, hc1, hc2⟩ := pairOf_some h
    clear h
    show Calls _ _ _ _ (Gives (ansPr (some (red p))) w)
    go_enter Try.func62, Try.ntmps62
    go_wp2_with fail
    have hb0 : Below w.heap.size w ((w.alloc (.cells #[.string p.1.str, .string p.2.str] 59 (0, 0))).alloc (.cells #[.string ⟨#[]⟩, .string ⟨#[]⟩] 59 (0, 0))) := nxAlloc (nxAlloc (Below.refl _ _) _) _
    have hx0 := heap_keep (nxAlloc (Below.refl _ _) (.cells #[.string ⟨#[]⟩, .string ⟨#[]⟩] 59 (0, 0))) (heap_alloc_at w (.cells #[.string p.1.str, .string p.2.str] 59 (0, 0)))
    have hx1 := heap_alloc_at (w.alloc (.cells #[.string p.1.str, .string p.2.str] 59 (0, 0))) (.cells #[.string ⟨#[]⟩, .string ⟨#[]⟩] 59 (0, 0))
    generalize ((w.alloc (.cells #[.string p.1.str, .string p.2.str] 59 (0, 0))).alloc (.cells #[.string ⟨#[]⟩, .string ⟨#[]⟩] 59 (0, 0))) = w0 at *
    have e1 : (w.alloc (.cells #[.string p.1.str, .string p.2.str] 59 (0, 0))).heap.size = w.heap.size + 1 := by simp
    rw [e1] at hx1
    clear e1
    obtain ⟨hx0a, hx0b, hx0c⟩ := two_facts hx0
    obtain ⟨hx0f, hx0g⟩ := two_frozen hx0
    obtain ⟨hx1a, hx1b, hx1c⟩ := two_facts hx1
    obtain ⟨hx1f, hx1g⟩ := two_frozen hx1
    refine (hg _).mono ?_; rintro e w1 ⟨rfl, hb1⟩
    have hbw1 := nx hb0 hb1
    replace hx0 := heap_keep hb1 hx0
    replace hx1 := heap_keep hb1 hx1
    clear hx0a hx0b hx0c hx0f hx0g
    obtain ⟨hx0a, hx0b, hx0c⟩ := two_facts hx0
    obtain ⟨hx0f, hx0g⟩ := two_frozen hx0
    clear hx1a hx1b hx1c hx1f hx1g
    obtain ⟨hx1a, hx1b, hx1c⟩ := two_facts hx1
    obtain ⟨hx1f, hx1g⟩ := two_frozen hx1
    clear hb1 hb0
    go_wp2_with fail
    refine (prReduce_nil p _ (by omega) (by omega)).mono ?_; rintro e w2 ⟨rfl, hb2⟩
    have hbw2 := nx hbw1 hb2
    replace hx0 := heap_keep hb2 hx0
    replace hx1 := heap_keep hb2 hx1
    clear hx0a hx0b hx0c hx0f hx0g
    obtain ⟨hx0a, hx0b, hx0c⟩ := two_facts hx0
    obtain ⟨hx0f, hx0g⟩ := two_frozen hx0
    clear hx1a hx1b hx1c hx1f hx1g
    obtain ⟨hx1a, hx1b, hx1c⟩ := two_facts hx1
    obtain ⟨hx1f, hx1g⟩ := two_frozen hx1
    clear hb2 hbw1
    go_wp2_with fail
    obtain ⟨q1, q2⟩ := two_cells (set_two (.string (red p).1.str) (.string (red p).2.str) hx1)
    refine bodyPost_ret (v := .tuple #[.agg #[.string (red p).1.str, .string (red p).2.str], .bool true]) (by simp [q1, q2, results, Try.results62, go_sem]) rfl ⟨rfl, ?_⟩
    exact (hbw2.setCell (by show w.heap.size ≤ w.heap.size + 1; omega) _).setCell (by show w.heap.size ≤ w.heap.size + 1; omega) _

set_option maxHeartbeats 1000000 in
theorem implReducePair_any (a b : ByteArray) (w : World) (ha : a.size ≤ 9223372036854775806) (hb : b.size ≤ 9223372036854775806) :
    Calls Try.prog 61 #[.agg #[.string a, .string b]] w (Gives (ansPr ((pairOf a b).bind fun p => some (red p))) w) := by
  have hg := fun w => isPair_any a b w ha hb
  cases h : pairOf a b with
  | none =>
    rw [h] at hg
    clear h
    go_enter Try.func61, Try.ntmps61
    go_wp2_with fail
    have hb0 : Below w.heap.size w ((w.alloc (.cells #[.string a, .string b] 59 (0, 0))).alloc (.cells #[.string ⟨#[]⟩, .string ⟨#[]⟩] 59 (0, 0))) := nxAlloc (nxAlloc (Below.refl _ _) _) _
    have hx0 := heap_keep (nxAlloc (Below.refl _ _) (.cells #[.string ⟨#[]⟩, .string ⟨#[]⟩] 59 (0, 0))) (heap_alloc_at w (.cells #[.string a, .string b] 59 (0, 0)))
    have hx1 := heap_alloc_at (w.alloc (.cells #[.string a, .string b] 59 (0, 0))) (.cells #[.string ⟨#[]⟩, .string ⟨#[]⟩] 59 (0, 0))
    generalize ((w.alloc (.cells #[.string a, .string b] 59 (0, 0))).alloc (.cells #[.string ⟨#[]⟩, .string ⟨#[]⟩] 59 (0, 0))) = w0 at *
    have e1 : (w.alloc (.cells #[.string a, .string b] 59 (0, 0))).heap.size = w.heap.size + 1 := by simp
    rw [e1] at hx1
    clear e1
    obtain ⟨hx0a, hx0b, hx0c⟩ := two_facts hx0
    obtain ⟨hx0f, hx0g⟩ := two_frozen hx0
    obtain ⟨hx1a, hx1b, hx1c⟩ := two_facts hx1
    obtain ⟨hx1f, hx1g⟩ := two_frozen hx1
    refine (hg _).mono ?_; rintro e w1 ⟨rfl, hb1⟩
    have hbw1 := nx hb0 hb1
    replace hx0 := heap_keep hb1 hx0
    replace hx1 := heap_keep hb1 hx1
    clear hx0a hx0b hx0c hx0f hx0g
    obtain ⟨hx0a, hx0b, hx0c⟩ := two_facts hx0
    obtain ⟨hx0f, hx0g⟩ := two_frozen hx0
    clear hx1a hx1b hx1c hx1f hx1g
    obtain ⟨hx1a, hx1b, hx1c⟩ := two_facts hx1
    obtain ⟨hx1f, hx1g⟩ := two_frozen hx1
    clear hb1 hb0
    go_wp2_with fail
    obtain ⟨q1, q2⟩ := two_cells (set_two (.string ⟨#[]⟩) (.string ⟨#[]⟩) hx1)
    refine bodyPost_ret (v := .tuple #[.agg #[.string ⟨#[]⟩, .string ⟨#[]⟩], .bool false]) (by simp [q1, q2, results, Try.results61, go_sem]) rfl ⟨rfl, ?_⟩
    exact (hbw1.setCell (by show w.heap.size ≤ w.heap.size + 1; omega) _).setCell (by show w.heap.size ≤ w.heap.size + 1; omega) _
  | some p =>
    rw [h] at hg
    obtain ⟨rfl, rfl, hok, hc1, hc2⟩ := pairOf_some h
    clear h
    show Calls _ _ _ _ (Gives (ansPr (some (red p))) w)
    go_enter Try.func61, Try.ntmps61
    go_wp2_with fail
    have hb0 : Below w.heap.size w ((w.alloc (.cells #[.string p.1.str, .string p.2.str] 59 (0, 0))).alloc (.cells #[.string ⟨#[]⟩, .string ⟨#[]⟩] 59 (0, 0))) := nxAlloc (nxAlloc (Below.refl _ _) _) _
    have hx0 := heap_keep (nxAlloc (Below.refl _ _) (.cells #[.string ⟨#[]⟩, .string ⟨#[]⟩] 59 (0, 0))) (heap_alloc_at w (.cells #[.string p.1.str, .string p.2.str] 59 (0, 0)))
    have hx1 := heap_alloc_at (w.alloc (.cells #[.string p.1.str, .string p.2.str] 59 (0, 0))) (.cells #[.string ⟨#[]⟩, .string ⟨#[]⟩] 59 (0, 0))
    generalize ((w.alloc (.cells #[.string p.1.str, .string p.2.str] 59 (0, 0))).alloc (.cells #[.string ⟨#[]⟩, .string ⟨#[]⟩] 59 (0, 0))) = w0 at *
    have e1 : (w.alloc (.cells #[.string p.1.str, .string p.2.str] 59 (0, 0))).heap.size = w.heap.size + 1 := by simp
    rw [e1] at hx1
    clear e1
    obtain ⟨hx0a, hx0b, hx0c⟩ := two_facts hx0
    obtain ⟨hx0f, hx0g⟩ := two_frozen hx0
    obtain ⟨hx1a, hx1b, hx1c⟩ := two_facts hx1
    obtain ⟨hx1f, hx1g⟩ := two_frozen hx1
    refine (hg _).mono ?_; rintro e w1 ⟨rfl, hb1⟩
    have hbw1 := nx hb0 hb1
    replace hx0 := heap_keep hb1 hx0
    replace hx1 := heap_keep hb1 hx1
    clear hx0a hx0b hx0c hx0f hx0g
    obtain ⟨hx0a, hx0b, hx0c⟩ := two_facts hx0
    obtain ⟨hx0f, hx0g⟩ := two_frozen hx0
    clear hx1a hx1b hx1c hx1f hx1g
    obtain ⟨hx1a, hx1b, hx1c⟩ := two_facts hx1
    obtain ⟨hx1f, hx1g⟩ := two_frozen hx1
    clear hb1 hb0
    go_wp2_with fail
    refine (reducedBy_first p _ (by omega) (by omega)).mono ?_; rintro e w2 ⟨rfl, hb2⟩
    have hbw2 := nx hbw1 hb2
    replace hx0 := heap_keep hb2 hx0
    replace hx1 := heap_keep hb2 hx1
    clear hx0a hx0b hx0c hx0f hx0g
    obtain ⟨hx0a, hx0b, hx0c⟩ := two_facts hx0
    obtain ⟨hx0f, hx0g⟩ := two_frozen hx0
    clear hx1a hx1b hx1c hx1f hx1g
    obtain ⟨hx1a, hx1b, hx1c⟩ := two_facts hx1
    obtain ⟨hx1f, hx1g⟩ := two_frozen hx1
    clear hb2 hbw1
    go_wp2_with fail
    obtain ⟨q1, q2⟩ := two_cells (set_two (.string (red p).1.str) (.string (red p).2.str) hx1)
    refine bodyPost_ret (v := .tuple #[.agg #[.string (red p).1.str, .string (red p).2.str], .bool true]) (by simp [q1, q2, results, Try.results61, go_sem]) rfl ⟨rfl, ?_⟩
    exact (hbw2.setCell (by show w.heap.size ≤ w.heap.size + 1; omega) _).setCell (by show w.heap.size ≤ w.heap.size + 1; omega) _

end Go.Proofs.Yteflpaebckichab

/-! Join -/
namespace Go.Proofs.Yteflpaebckichab
open Go.RowKit

set_option maxRecDepth 100000 in
set_option maxHeartbeats 2000000 in
theorem join_any (t : Tr) : ∀ (u : Tr) (b c : Nat) (w : World), NodeAt w t b → NodeAt w u c →
    Calls Try.prog 104 #[.pointer (some ⟨b, 0, none⟩), .pointer (some ⟨c, 0, none⟩)] w (GivesNode (t.join u) w) := by
  induction t with
  | lf =>
    intro u b c w h k
    have H := Lib.hid h
    have K := Lib.hid k
    clear h k
    go_enter Try.func104, Try.ntmps104
    go_wp2_with fail
    refine (isLeaf_any .lf b _ H.out).mono ?_; rintro e w1 ⟨rfl, rfl⟩
    simp only [Tr.isLf]
    go_wp2_with fail
    go_ret
    exact ⟨c, K.out, Below.refl _ _, rfl⟩
  | nd l r ihl ihr =>
    intro u b c w h k
    cases u with
    | lf =>
      have H := Lib.hid h
      have K := Lib.hid k
      clear h k ihl ihr
      go_enter Try.func104, Try.ntmps104
      go_wp2_with fail
      refine (isLeaf_any (.nd l r) b _ H.out).mono ?_; rintro e w1 ⟨rfl, rfl⟩
      simp only [Tr.isLf]
      go_wp2_with fail
      refine (isLeaf_any .lf c _ K.out).mono ?_; rintro e w1 ⟨rfl, rfl⟩
      simp only [Tr.isLf]
      go_wp2_with fail
      go_ret
      exact ⟨b, H.out, Below.refl _ _, rfl⟩
    | nd p q =>
      have H := Lib.hid h
      have K := Lib.hid k
      obtain ⟨bl, br, h, hl, hr⟩ := h
      obtain ⟨cl, cr, k, kl, kr⟩ := k
      have h1 := two_left h
      have h2 := two_right h
      have k1 := two_left k
      have k2 := two_right k
      clear h k
      go_enter Try.func104, Try.ntmps104
      go_wp2_with fail
      refine (isLeaf_any (.nd l r) b _ H.out).mono ?_; rintro e w1 ⟨rfl, rfl⟩
      simp only [Tr.isLf]
      go_wp2_with fail
      refine (isLeaf_any (.nd p q) c _ K.out).mono ?_; rintro e w1 ⟨rfl, rfl⟩
      simp only [Tr.isLf]
      go_wp2_with fail
      have hb0 := Below.refl w.heap.size w
      go_region_held3 (fun w' => w'.cell? ⟨b, 0, none⟩ = some (.pointer (some ⟨bl, 0, none⟩)) ∧ w'.cell? ⟨b, 1, none⟩ = some (.pointer (some ⟨br, 0, none⟩)) ∧ w'.cell? ⟨c, 0, none⟩ = some (.pointer (some ⟨cl, 0, none⟩)) ∧ w'.cell? ⟨c, 1, none⟩ = some (.pointer (some ⟨cr, 0, none⟩)))
          (first
            | exact ⟨h1, h2, k1, k2⟩
            | exact ⟨q1, q2, q3, q4⟩
            | exact ⟨s1, s2, s3, s4⟩
            | exact ⟨(a1 _).1, (a1 _).2, (a2 _).1, (a2 _).2⟩)
          (first
          | (go_at_call_of 104 (some (⟨bl, 0, none⟩ : Addr)); refine (ihl p bl cl _ ?_ ?_).mono ?_; exact hl.keep hb0.drew; exact kl.keep hb0.drew; rintro e w1 ⟨b1, hn1, hb1, rfl⟩; have hb1' := nx hb0.drew hb1; obtain ⟨q1, q2⟩ := below_two hb1' h1 h2; obtain ⟨q3, q4⟩ := below_two hb1' k1 k2)
          | (go_at_call_of 104 (some (⟨br, 0, none⟩ : Addr)); refine (ihr q br cr _ ?_ ?_).mono ?_; exact hr.keep hb1'; exact kr.keep hb1'; rintro e w2 ⟨b2, hn2, hb2, rfl⟩; have hb2' := nx hb1' hb2; obtain ⟨s1, s2⟩ := below_two hb2' h1 h2; obtain ⟨s3, s4⟩ := below_two hb2' k1 k2; have a1 := fun o => below_two (nxAlloc hb2' o) h1 h2; have a2 := fun o => below_two (nxAlloc hb2' o) k1 k2))
      all_goals (try go_wp2_with fail)
      all_goals go_ret
      all_goals exact ⟨_, node_new hn1 hb2 hn2, nxAlloc hb2' _, rfl⟩
set_option maxRecDepth 100000 in
set_option maxHeartbeats 2000000 in
theorem common_any (t : Tr) : ∀ (u : Tr) (b c : Nat) (w : World), NodeAt w t b → NodeAt w u c →
    Calls Try.prog 106 #[.pointer (some ⟨b, 0, none⟩), .pointer (some ⟨c, 0, none⟩)] w (GivesNode (t.com u) w) := by
  induction t with
  | lf =>
    intro u b c w h k
    have H := Lib.hid h
    have K := Lib.hid k
    clear h k
    go_enter Try.func106, Try.ntmps106
    go_wp2_with fail
    refine (isLeaf_any .lf b _ H.out).mono ?_; rintro e w1 ⟨rfl, rfl⟩
    simp only [Tr.isLf]
    go_wp2_with fail
    go_ret
    exact ⟨_, heap_alloc_at _ _, nxAlloc (Below.refl _ _) _, rfl⟩
  | nd l r ihl ihr =>
    intro u b c w h k
    cases u with
    | lf =>
      have H := Lib.hid h
      have K := Lib.hid k
      clear h k ihl ihr
      go_enter Try.func106, Try.ntmps106
      go_wp2_with fail
      refine (isLeaf_any (.nd l r) b _ H.out).mono ?_; rintro e w1 ⟨rfl, rfl⟩
      simp only [Tr.isLf]
      go_wp2_with fail
      refine (isLeaf_any .lf c _ K.out).mono ?_; rintro e w1 ⟨rfl, rfl⟩
      simp only [Tr.isLf]
      go_wp2_with fail
      go_ret
      exact ⟨_, heap_alloc_at _ _, nxAlloc (Below.refl _ _) _, rfl⟩
    | nd p q =>
      have H := Lib.hid h
      have K := Lib.hid k
      obtain ⟨bl, br, h, hl, hr⟩ := h
      obtain ⟨cl, cr, k, kl, kr⟩ := k
      have h1 := two_left h
      have h2 := two_right h
      have k1 := two_left k
      have k2 := two_right k
      clear h k
      go_enter Try.func106, Try.ntmps106
      go_wp2_with fail
      refine (isLeaf_any (.nd l r) b _ H.out).mono ?_; rintro e w1 ⟨rfl, rfl⟩
      simp only [Tr.isLf]
      go_wp2_with fail
      refine (isLeaf_any (.nd p q) c _ K.out).mono ?_; rintro e w1 ⟨rfl, rfl⟩
      simp only [Tr.isLf]
      go_wp2_with fail
      have hb0 := Below.refl w.heap.size w
      go_region_held3 (fun w' => w'.cell? ⟨b, 0, none⟩ = some (.pointer (some ⟨bl, 0, none⟩)) ∧ w'.cell? ⟨b, 1, none⟩ = some (.pointer (some ⟨br, 0, none⟩)) ∧ w'.cell? ⟨c, 0, none⟩ = some (.pointer (some ⟨cl, 0, none⟩)) ∧ w'.cell? ⟨c, 1, none⟩ = some (.pointer (some ⟨cr, 0, none⟩)))
          (first
            | exact ⟨h1, h2, k1, k2⟩
            | exact ⟨q1, q2, q3, q4⟩
            | exact ⟨s1, s2, s3, s4⟩
            | exact ⟨(a1 _).1, (a1 _).2, (a2 _).1, (a2 _).2⟩)
          (first
          | (go_at_call_of 106 (some (⟨bl, 0, none⟩ : Addr)); refine (ihl p bl cl _ ?_ ?_).mono ?_; exact hl.keep hb0.drew; exact kl.keep hb0.drew; rintro e w1 ⟨b1, hn1, hb1, rfl⟩; have hb1' := nx hb0.drew hb1; obtain ⟨q1, q2⟩ := below_two hb1' h1 h2; obtain ⟨q3, q4⟩ := below_two hb1' k1 k2)
          | (go_at_call_of 106 (some (⟨br, 0, none⟩ : Addr)); refine (ihr q br cr _ ?_ ?_).mono ?_; exact hr.keep hb1'; exact kr.keep hb1'; rintro e w2 ⟨b2, hn2, hb2, rfl⟩; have hb2' := nx hb1' hb2; obtain ⟨s1, s2⟩ := below_two hb2' h1 h2; obtain ⟨s3, s4⟩ := below_two hb2' k1 k2; have a1 := fun o => below_two (nxAlloc hb2' o) h1 h2; have a2 := fun o => below_two (nxAlloc hb2' o) k1 k2))
      all_goals (try go_wp2_with fail)
      all_goals go_ret
      all_goals exact ⟨_, node_new hn1 hb2 hn2, nxAlloc hb2' _, rfl⟩

set_option maxHeartbeats 1000000 in
theorem isPart_any (t : Tr) : ∀ (u : Tr) (b c : Nat) (w : World), NodeAt w t b → NodeAt w u c →
    Calls Try.prog 108 #[.pointer (some ⟨b, 0, none⟩), .pointer (some ⟨c, 0, none⟩)] w (Quietly (.bool (t.part u)) w) := by
  induction t with
  | lf =>
    intro u b c w h k
    have H := Lib.hid h
    have K := Lib.hid k
    clear h k
    go_enter Try.func108, Try.ntmps108
    go_wp2_with fail
    refine (isLeaf_any .lf b _ H.out).mono ?_; rintro e w1 ⟨rfl, rfl⟩
    simp only [Tr.isLf]
    go_wp2_with fail
    go_ret
    exact ⟨rfl, 0, rfl⟩
  | nd l r ihl ihr =>
    intro u b c w h k
    cases u with
    | lf =>
      have H := Lib.hid h
      have K := Lib.hid k
      clear h k ihl ihr
      go_enter Try.func108, Try.ntmps108
      go_wp2_with fail
      refine (isLeaf_any (.nd l r) b _ H.out).mono ?_; rintro e w1 ⟨rfl, rfl⟩
      simp only [Tr.isLf]
      go_wp2_with fail
      have L : ∀ n, Calls Try.prog 147 #[.pointer (some ⟨c, 0, none⟩)] (w.drewN n) (Quietly (.bool true) (w.drewN n)) := fun n => (isLeaf_any .lf c _ (K.out.drewN n)).mono fun e w' ⟨h1, h2⟩ => ⟨h1, 0, h2.symm⟩
      go_quiet ((go_at_call 147; exact Calls.quiet_of (L _)))
      go_wp2_with fail
      go_ret
      exact ⟨rfl, _, rfl⟩
    | nd p q =>
      have H := Lib.hid h
      have K := Lib.hid k
      obtain ⟨bl, br, h, hl, hr⟩ := h
      obtain ⟨cl, cr, k, kl, kr⟩ := k
      have h1 := two_left h
      have h2 := two_right h
      have k1 := two_left k
      have k2 := two_right k
      clear h k
      have L : ∀ n, Calls Try.prog 147 #[.pointer (some ⟨c, 0, none⟩)] (w.drewN n) (Quietly (.bool false) (w.drewN n)) := fun n => (isLeaf_any (.nd p q) c _ (K.out.drewN n)).mono fun e w' ⟨h1, h2⟩ => ⟨h1, 0, h2.symm⟩
      have HL : ∀ n, Calls Try.prog 108 #[.pointer (some ⟨bl, 0, none⟩), .pointer (some ⟨cl, 0, none⟩)] (w.drewN n) (Quietly (.bool (l.part p)) (w.drewN n)) := fun n => ihl p bl cl _ (hl.drewN n) (kl.drewN n)
      have HR : ∀ n, Calls Try.prog 108 #[.pointer (some ⟨br, 0, none⟩), .pointer (some ⟨cr, 0, none⟩)] (w.drewN n) (Quietly (.bool (r.part q)) (w.drewN n)) := fun n => ihr q br cr _ (hr.drewN n) (kr.drewN n)
      have HP : Hid ((Tr.nd l r).part (.nd p q) = (l.part p && r.part q)) := rfl
      cases hlp : l.part p with
      | false =>
        rw [hlp] at HP HL
        clear hlp
        go_enter Try.func108, Try.ntmps108
        go_wp2_with fail
        refine (isLeaf_any (.nd l r) b _ H.out).mono ?_; rintro e w1 ⟨rfl, rfl⟩
        simp only [Tr.isLf]
        go_wp2_with fail
        go_quiet ((first | (go_at_call 147; exact Calls.quiet_of (L _)) | (go_at_call_of 108 (some (⟨bl, 0, none⟩ : Addr)); exact Calls.quiet_of (HL _)) | (go_at_call_of 108 (some (⟨br, 0, none⟩ : Addr)); exact Calls.quiet_of (HR _))))
        go_wp2_with fail
        go_ret
        exact ⟨by rw [HP.out]; rfl, _, rfl⟩
      | true =>
        rw [hlp] at HP HL
        clear hlp
        go_enter Try.func108, Try.ntmps108
        go_wp2_with fail
        refine (isLeaf_any (.nd l r) b _ H.out).mono ?_; rintro e w1 ⟨rfl, rfl⟩
        simp only [Tr.isLf]
        go_wp2_with fail
        go_quiet ((first | (go_at_call 147; exact Calls.quiet_of (L _)) | (go_at_call_of 108 (some (⟨bl, 0, none⟩ : Addr)); exact Calls.quiet_of (HL _)) | (go_at_call_of 108 (some (⟨br, 0, none⟩ : Addr)); exact Calls.quiet_of (HR _))))
        go_wp2_with fail
        go_ret
        exact ⟨by rw [HP.out]; rfl, _, rfl⟩
end Go.Proofs.Yteflpaebckichab

/-! Two -/
namespace Go.Proofs.Yteflpaebckichab
open Go.RowKit

theorem specJoinTrees_no1 (s u : ByteArray) (w : World) (hs : s.size ≤ 9223372036854775806) (h : treeOf s = none) :
    Calls Try.prog 31 #[.string s, .string u] w (Gives (ansV none) w) := by
  have H := Lib.hid h
  clear h
  go_enter Try.func31, Try.ntmps31
  go_wp2_with fail
  refine (trIs_no s _ hs H.out).mono ?_; rintro e w1 ⟨rfl, rfl⟩
  go_wp2_with fail
  go_ret2
  exact ⟨rfl, Below.refl _ _⟩

theorem specJoinTrees_no2 (t : Tr) (s : ByteArray) (w : World) (k : t.carets ≤ 8) (hs : s.size ≤ 9223372036854775806) (h : treeOf s = none) :
    Calls Try.prog 31 #[.string t.str, .string s] w (Gives (ansV none) w) := by
  have H := Lib.hid h
  clear h
  go_enter Try.func31, Try.ntmps31
  go_wp2_with fail
  refine (trIs_yes t _ k).mono ?_; rintro e w1 ⟨rfl, rfl⟩
  go_wp2_with fail
  refine (trIs_no s _ hs H.out).mono ?_; rintro e w1 ⟨rfl, rfl⟩
  go_wp2_with fail
  go_ret2
  exact ⟨rfl, Below.refl _ _⟩

theorem specJoinTrees_yes (t u : Tr) (w : World) (h : t.carets ≤ 8) (k : u.carets ≤ 8) :
    Calls Try.prog 31 #[.string t.str, .string u.str] w (Gives (ansV (lim (t.join u))) w) := by
  have hj := join_carets t u
  go_enter Try.func31, Try.ntmps31
  go_wp2_with fail
  refine (trIs_yes t _ h).mono ?_; rintro e w1 ⟨rfl, rfl⟩
  go_wp2_with fail
  refine (trIs_yes u _ k).mono ?_; rintro e w1 ⟨rfl, rfl⟩
  go_wp2_with fail
  refine (trJoin_any t u _ (by omega) (by omega)).mono ?_; rintro e w2 ⟨rfl, hb2⟩
  go_wp2_with fail
  refine (carets_str (t.join u) _ (by omega)).mono ?_; rintro e w3 ⟨rfl, rfl⟩
  by_cases hl : ((t.join u).carets : Int) ≤ 8
  all_goals
    go_wp2_with fail
    go_ret2
  · exact ⟨by rw [lim, if_pos (by omega)]; rfl, hb2⟩
  · exact ⟨by rw [lim, if_neg (by omega)]; rfl, hb2⟩

theorem implJoinTrees_no1 (s u : ByteArray) (w : World) (hs : s.size ≤ 9223372036854775806) (h : treeOf s = none) :
    Calls Try.prog 30 #[.string s, .string u] w (Gives (ansV none) w) := by
  have H := Lib.hid h
  clear h
  go_enter Try.func30, Try.ntmps30
  go_wp2_with fail
  refine (trees_no1 s u _ hs H.out).mono ?_; rintro e w1 ⟨hb1, rfl⟩
  go_wp2_with fail
  go_ret2
  exact ⟨rfl, hb1⟩

theorem implJoinTrees_no2 (t : Tr) (s : ByteArray) (w : World) (k : t.carets ≤ 8) (hs : s.size ≤ 9223372036854775806) (h : treeOf s = none) :
    Calls Try.prog 30 #[.string t.str, .string s] w (Gives (ansV none) w) := by
  have H := Lib.hid h
  clear h
  go_enter Try.func30, Try.ntmps30
  go_wp2_with fail
  refine (trees_no2 t s _ k hs H.out).mono ?_; rintro e w1 ⟨hb1, rfl⟩
  go_wp2_with fail
  go_ret2
  exact ⟨rfl, hb1⟩

theorem implJoinTrees_yes (t u : Tr) (w : World) (h : t.carets ≤ 8) (k : u.carets ≤ 8) :
    Calls Try.prog 30 #[.string t.str, .string u.str] w (Gives (ansV (lim (t.join u))) w) := by
  have hj := join_carets t u
  go_enter Try.func30, Try.ntmps30
  go_wp2_with fail
  refine (trees_yes t u _ h k).mono ?_; rintro e w1 ⟨b1, b2, hn1, hn2, hb1, rfl⟩
  go_wp2_with fail
  refine (join_any t u b1 b2 _ hn1 hn2).mono ?_; rintro e w2 ⟨b3, hn3, hb3, rfl⟩
  go_wp2_with fail
  refine (text_any (t.join u) b3 _ hn3 (by omega)).mono ?_; rintro e w3 ⟨rfl, n, rfl⟩
  go_wp2_with fail
  refine (limit_any (t.join u) _).mono ?_; rintro e w3 ⟨rfl, rfl⟩
  unfold ansV
  go_wp2_with fail
  go_ret2
  exact ⟨rfl, drewB (nx hb1 hb3) _⟩

theorem specCommonTree_no1 (s u : ByteArray) (w : World) (hs : s.size ≤ 9223372036854775806) (h : treeOf s = none) :
    Calls Try.prog 33 #[.string s, .string u] w (Gives (ansV none) w) := by
  have H := Lib.hid h
  clear h
  go_enter Try.func33, Try.ntmps33
  go_wp2_with fail
  refine (trIs_no s _ hs H.out).mono ?_; rintro e w1 ⟨rfl, rfl⟩
  go_wp2_with fail
  go_ret2
  exact ⟨rfl, Below.refl _ _⟩

theorem specCommonTree_no2 (t : Tr) (s : ByteArray) (w : World) (k : t.carets ≤ 8) (hs : s.size ≤ 9223372036854775806) (h : treeOf s = none) :
    Calls Try.prog 33 #[.string t.str, .string s] w (Gives (ansV none) w) := by
  have H := Lib.hid h
  clear h
  go_enter Try.func33, Try.ntmps33
  go_wp2_with fail
  refine (trIs_yes t _ k).mono ?_; rintro e w1 ⟨rfl, rfl⟩
  go_wp2_with fail
  refine (trIs_no s _ hs H.out).mono ?_; rintro e w1 ⟨rfl, rfl⟩
  go_wp2_with fail
  go_ret2
  exact ⟨rfl, Below.refl _ _⟩

theorem specCommonTree_yes (t u : Tr) (w : World) (h : t.carets ≤ 8) (k : u.carets ≤ 8) :
    Calls Try.prog 33 #[.string t.str, .string u.str] w (Gives (ansV (some (t.com u))) w) := by
  go_enter Try.func33, Try.ntmps33
  go_wp2_with fail
  refine (trIs_yes t _ h).mono ?_; rintro e w1 ⟨rfl, rfl⟩
  go_wp2_with fail
  refine (trIs_yes u _ k).mono ?_; rintro e w1 ⟨rfl, rfl⟩
  go_wp2_with fail
  refine (trCommon_any t u _ (by omega) (by omega)).mono ?_; rintro e w2 ⟨rfl, hb2⟩
  go_wp2_with fail
  go_ret2
  exact ⟨rfl, hb2⟩

theorem implCommonTree_no1 (s u : ByteArray) (w : World) (hs : s.size ≤ 9223372036854775806) (h : treeOf s = none) :
    Calls Try.prog 32 #[.string s, .string u] w (Gives (ansV none) w) := by
  have H := Lib.hid h
  clear h
  go_enter Try.func32, Try.ntmps32
  go_wp2_with fail
  refine (trees_no1 s u _ hs H.out).mono ?_; rintro e w1 ⟨hb1, rfl⟩
  go_wp2_with fail
  go_ret2
  exact ⟨rfl, hb1⟩

theorem implCommonTree_no2 (t : Tr) (s : ByteArray) (w : World) (k : t.carets ≤ 8) (hs : s.size ≤ 9223372036854775806) (h : treeOf s = none) :
    Calls Try.prog 32 #[.string t.str, .string s] w (Gives (ansV none) w) := by
  have H := Lib.hid h
  clear h
  go_enter Try.func32, Try.ntmps32
  go_wp2_with fail
  refine (trees_no2 t s _ k hs H.out).mono ?_; rintro e w1 ⟨hb1, rfl⟩
  go_wp2_with fail
  go_ret2
  exact ⟨rfl, hb1⟩

theorem implCommonTree_yes (t u : Tr) (w : World) (h : t.carets ≤ 8) (k : u.carets ≤ 8) :
    Calls Try.prog 32 #[.string t.str, .string u.str] w (Gives (ansV (some (t.com u))) w) := by
  have hj := com_carets t u
  go_enter Try.func32, Try.ntmps32
  go_wp2_with fail
  refine (trees_yes t u _ h k).mono ?_; rintro e w1 ⟨b1, b2, hn1, hn2, hb1, rfl⟩
  go_wp2_with fail
  refine (common_any t u b1 b2 _ hn1 hn2).mono ?_; rintro e w2 ⟨b3, hn3, hb3, rfl⟩
  go_wp2_with fail
  refine (text_any (t.com u) b3 _ hn3 (by omega)).mono ?_; rintro e w3 ⟨rfl, n, rfl⟩
  go_wp2_with fail
  go_ret2
  exact ⟨rfl, drewB (nx hb1 hb3) _⟩

/-- An answer of two bools. -/
def ansB (o : Option Bool) : Value := .tuple #[.bool (o == some true), .bool o.isSome]
theorem com_str (t u : Tr) : ((t.com u).str.toList == t.str.toList) = t.part u := by
  rw [Bool.eq_iff_iff, ← com_eq_part]
  simp only [Lib.toList_data, Tr.str_list, beq_iff_eq]
  constructor
  · intro h
    exact (Tr.text_inj (r := []) (q := []) (by rw [h])).1
  · intro h; rw [h]

theorem specIsPartOf_no1 (s u : ByteArray) (w : World) (hs : s.size ≤ 9223372036854775806) (h : treeOf s = none) :
    Calls Try.prog 36 #[.string s, .string u] w (Gives (ansB none) w) := by
  have H := Lib.hid h
  clear h
  go_enter Try.func36, Try.ntmps36
  go_wp2_with fail
  refine (trIs_no s _ hs H.out).mono ?_; rintro e w1 ⟨rfl, rfl⟩
  go_wp2_with fail
  go_ret2
  exact ⟨rfl, Below.refl _ _⟩

theorem specIsPartOf_no2 (t : Tr) (s : ByteArray) (w : World) (k : t.carets ≤ 8) (hs : s.size ≤ 9223372036854775806) (h : treeOf s = none) :
    Calls Try.prog 36 #[.string t.str, .string s] w (Gives (ansB none) w) := by
  have H := Lib.hid h
  clear h
  go_enter Try.func36, Try.ntmps36
  go_wp2_with fail
  refine (trIs_yes t _ k).mono ?_; rintro e w1 ⟨rfl, rfl⟩
  go_wp2_with fail
  refine (trIs_no s _ hs H.out).mono ?_; rintro e w1 ⟨rfl, rfl⟩
  go_wp2_with fail
  go_ret2
  exact ⟨rfl, Below.refl _ _⟩

theorem specIsPartOf_yes (t u : Tr) (w : World) (h : t.carets ≤ 8) (k : u.carets ≤ 8) :
    Calls Try.prog 36 #[.string t.str, .string u.str] w (Gives (ansB (some (t.part u))) w) := by
  go_enter Try.func36, Try.ntmps36
  go_wp2_with fail
  refine (trIs_yes t _ h).mono ?_; rintro e w1 ⟨rfl, rfl⟩
  go_wp2_with fail
  refine (trIs_yes u _ k).mono ?_; rintro e w1 ⟨rfl, rfl⟩
  go_wp2_with fail
  refine (trCommon_any t u _ (by omega) (by omega)).mono ?_; rintro e w2 ⟨rfl, hb2⟩
  go_wp2_with fail
  go_ret2
  exact ⟨by unfold ansB; rw [← com_str]; simp, hb2⟩

theorem implIsPartOf_no1 (s u : ByteArray) (w : World) (hs : s.size ≤ 9223372036854775806) (h : treeOf s = none) :
    Calls Try.prog 34 #[.string s, .string u] w (Gives (ansB none) w) := by
  have H := Lib.hid h
  clear h
  go_enter Try.func34, Try.ntmps34
  go_wp2_with fail
  refine (trees_no1 s u _ hs H.out).mono ?_; rintro e w1 ⟨hb1, rfl⟩
  go_wp2_with fail
  go_ret2
  exact ⟨rfl, hb1⟩

theorem implIsPartOf_no2 (t : Tr) (s : ByteArray) (w : World) (k : t.carets ≤ 8) (hs : s.size ≤ 9223372036854775806) (h : treeOf s = none) :
    Calls Try.prog 34 #[.string t.str, .string s] w (Gives (ansB none) w) := by
  have H := Lib.hid h
  clear h
  go_enter Try.func34, Try.ntmps34
  go_wp2_with fail
  refine (trees_no2 t s _ k hs H.out).mono ?_; rintro e w1 ⟨hb1, rfl⟩
  go_wp2_with fail
  go_ret2
  exact ⟨rfl, hb1⟩

theorem implIsPartOf_yes (t u : Tr) (w : World) (h : t.carets ≤ 8) (k : u.carets ≤ 8) :
    Calls Try.prog 34 #[.string t.str, .string u.str] w (Gives (ansB (some (t.part u))) w) := by
  go_enter Try.func34, Try.ntmps34
  go_wp2_with fail
  refine (trees_yes t u _ h k).mono ?_; rintro e w1 ⟨b1, b2, hn1, hn2, hb1, rfl⟩
  go_wp2_with fail
  refine (isPart_any t u b1 b2 _ hn1 hn2).mono ?_; rintro e w3 ⟨rfl, n, rfl⟩
  go_wp2_with fail
  go_ret2
  exact ⟨by unfold ansB; simp, drewB hb1 _⟩

end Go.Proofs.Yteflpaebckichab

/-! WIsReduced -/
namespace Go.Proofs.Yteflpaebckichab
open Go.RowKit

theorem prBoth_tr (p : Pr) (w : World) (k1 : p.1.carets ≤ 200) (k2 : p.2.carets ≤ 200) : Calls Try.prog 139 #[.agg #[.string p.1.str, .string p.2.str]] w (GivesInts (both p) w) := by
  have := prBoth_any p.1.str p.2.str w (by have := p.1.str_size; omega) (by have := p.2.str_size; omega)
  rwa [bothL_str] at this
theorem str_inj {t u : Tr} (h : t.str.toList = u.str.toList) : t = u := by
  simp only [Lib.toList_data, Tr.str_list] at h
  exact (Tr.text_inj (r := []) (q := []) (by rw [h])).1

set_option maxHeartbeats 1000000 in
theorem specIsReduced_any (a b : ByteArray) (w : World) (ha : a.size ≤ 9223372036854775806) (hb : b.size ≤ 9223372036854775806) :
    Calls Try.prog 73 #[.agg #[.string a, .string b]] w (Gives (ansB ((pairOf a b).bind fun p => some (both p).isEmpty)) w) := by
  have hg := fun w => prGood_any a b w ha hb
  cases h : pairOf a b with
  | none =>
    rw [h] at hg
    clear h
    go_enter Try.func73, Try.ntmps73
    go_wp2_with fail
    have hb0 : Below w.heap.size w (w.alloc (.cells #[.string a, .string b] 59 (0, 0))) := nxAlloc (Below.refl _ _) _
    have hx0 := heap_alloc_at w (.cells #[.string a, .string b] 59 (0, 0))
    generalize (w.alloc (.cells #[.string a, .string b] 59 (0, 0))) = w0 at *
    obtain ⟨hx0a, hx0b, hx0c⟩ := two_facts hx0
    obtain ⟨hx0f, hx0g⟩ := two_frozen hx0
    refine (hg _).mono ?_; rintro e w1 ⟨rfl, hb1⟩
    have hbw1 := nx hb0 hb1
    replace hx0 := heap_keep hb1 hx0
    clear hx0a hx0b hx0c hx0f hx0g
    obtain ⟨hx0a, hx0b, hx0c⟩ := two_facts hx0
    obtain ⟨hx0f, hx0g⟩ := two_frozen hx0
    clear hb1 hb0
    go_wp2_with fail
    go_ret2
    exact ⟨rfl, hbw1⟩
  | some p =>
    rw [h] at hg
    obtain ⟨rfl, rfl, hok, hc1, hc2⟩ := pairOf_some h
    clear h
    show Calls _ _ _ _ (Gives (ansB (some (both p).isEmpty)) w)
    go_enter Try.func73, Try.ntmps73
    go_wp2_with fail
    have hb0 : Below w.heap.size w (w.alloc (.cells #[.string p.1.str, .string p.2.str] 59 (0, 0))) := nxAlloc (Below.refl _ _) _
    have hx0 := heap_alloc_at w (.cells #[.string p.1.str, .string p.2.str] 59 (0, 0))
    generalize (w.alloc (.cells #[.string p.1.str, .string p.2.str] 59 (0, 0))) = w0 at *
    obtain ⟨hx0a, hx0b, hx0c⟩ := two_facts hx0
    obtain ⟨hx0f, hx0g⟩ := two_frozen hx0
    refine (hg _).mono ?_; rintro e w1 ⟨rfl, hb1⟩
    have hbw1 := nx hb0 hb1
    replace hx0 := heap_keep hb1 hx0
    clear hx0a hx0b hx0c hx0f hx0g
    obtain ⟨hx0a, hx0b, hx0c⟩ := two_facts hx0
    obtain ⟨hx0f, hx0g⟩ := two_frozen hx0
    clear hb1 hb0
    go_wp2_with fail
    refine (prBoth_tr p _ (by omega) (by omega)).mono ?_; rintro e w2 ⟨v, own, hb2, rfl⟩
    have hbw2 := nx hbw1 hb2
    obtain ⟨ob, bcap, rfl, _, hbm, _⟩ := own.cells.form
    unfold maxLen at hbm
    clear own hc1 hc2 hok
    have hE : Hid ((both p).isEmpty = (((both p).length : Int) == 0)) := by show _ = _; cases both p <;> simp; omega
    generalize (both p).length = L at *
    go_wp2_with fail
    go_ret2
    exact ⟨by unfold ansB; rw [hE.out]; simp, hbw2⟩

set_option maxHeartbeats 1000000 in
theorem implIsReduced_any (a b : ByteArray) (w : World) (ha : a.size ≤ 9223372036854775806) (hb : b.size ≤ 9223372036854775806) :
    Calls Try.prog 64 #[.agg #[.string a, .string b]] w (Gives (ansB ((pairOf a b).bind fun p => some (both p).isEmpty)) w) := by
  have hg := fun w => implReducePair_any a b w ha hb
  cases h : pairOf a b with
  | none =>
    rw [h] at hg
    unfold ansPr at hg
    clear h
    go_enter Try.func64, Try.ntmps64
    go_wp2_with fail
    have hb0 : Below w.heap.size w (w.alloc (.cells #[.string a, .string b] 59 (0, 0))) := nxAlloc (Below.refl _ _) _
    have hx0 := heap_alloc_at w (.cells #[.string a, .string b] 59 (0, 0))
    generalize (w.alloc (.cells #[.string a, .string b] 59 (0, 0))) = w0 at *
    obtain ⟨hx0a, hx0b, hx0c⟩ := two_facts hx0
    obtain ⟨hx0f, hx0g⟩ := two_frozen hx0
    refine (hg _).mono ?_; rintro e w1 ⟨rfl, hb1⟩
    have hbw1 := nx hb0 hb1
    replace hx0 := heap_keep hb1 hx0
    clear hx0a hx0b hx0c hx0f hx0g
    obtain ⟨hx0a, hx0b, hx0c⟩ := two_facts hx0
    obtain ⟨hx0f, hx0g⟩ := two_frozen hx0
    clear hb1 hb0
    go_wp2_with fail
    go_ret2
    exact ⟨rfl, nxAlloc hbw1 _⟩
  | some p =>
    rw [h] at hg
    obtain ⟨rfl, rfl, hok, hc1, hc2⟩ := pairOf_some h
    clear h
    show Calls _ _ _ _ (Gives (ansB (some (both p).isEmpty)) w)
    have hg' : ∀ w, Calls Try.prog 61 #[.agg #[.string p.1.str, .string p.2.str]] w (Gives (.tuple #[.agg #[.string (red p).1.str, .string (red p).2.str], .bool true]) w) := hg
    clear hg
    cases hbp : both p with
    | nil =>
      have hr := (red_self p).2 hbp
      rw [hr] at hg'
      clear hr hbp
      go_enter Try.func64, Try.ntmps64
      go_wp2_with fail
      have hb0 : Below w.heap.size w (w.alloc (.cells #[.string p.1.str, .string p.2.str] 59 (0, 0))) := nxAlloc (Below.refl _ _) _
      have hx0 := heap_alloc_at w (.cells #[.string p.1.str, .string p.2.str] 59 (0, 0))
      generalize (w.alloc (.cells #[.string p.1.str, .string p.2.str] 59 (0, 0))) = w0 at *
      obtain ⟨hx0a, hx0b, hx0c⟩ := two_facts hx0
      obtain ⟨hx0f, hx0g⟩ := two_frozen hx0
      refine (hg' _).mono ?_; rintro e w1 ⟨rfl, hb1⟩
      have hbw1 := nx hb0 hb1
      replace hx0 := heap_keep hb1 hx0
      clear hx0a hx0b hx0c hx0f hx0g
      obtain ⟨hx0a, hx0b, hx0c⟩ := two_facts hx0
      obtain ⟨hx0f, hx0g⟩ := two_frozen hx0
      clear hb1 hb0
      go_wp2_with fail
      have hbw2 := nxAlloc hbw1 (.cells #[.string p.1.str, .string p.2.str] 59 (0, 0))
      replace hx0 := heap_keep (nxAlloc (Below.refl _ _) (.cells #[.string p.1.str, .string p.2.str] 59 (0, 0))) hx0
      have hy2 := heap_alloc_at w1 (.cells #[.string p.1.str, .string p.2.str] 59 (0, 0))
      generalize w1.alloc (.cells #[.string p.1.str, .string p.2.str] 59 (0, 0)) = w2 at *
      clear hbw1
      clear hx0a hx0b hx0c hx0f hx0g
      obtain ⟨hx0a, hx0b, hx0c⟩ := two_facts hx0
      obtain ⟨hx0f, hx0g⟩ := two_frozen hx0
      obtain ⟨hy2a, hy2b, hy2c⟩ := two_facts hy2
      obtain ⟨hy2f, hy2g⟩ := two_frozen hy2
      go_wp2_with fail
      go_ret2
      exact ⟨rfl, hbw2⟩
    | cons n ns =>
      have hr : ¬ red p = p := fun e => by rw [(red_self p).1 e] at hbp; cases hbp
      clear hbp
      by_cases h1 : (red p).1 = p.1
      · have h2 : ¬ p.2.str.toList = (red p).2.str.toList := fun e => hr (Prod.ext h1 (str_inj e).symm)
        rw [h1] at hg'
        clear h1 hr
        go_enter Try.func64, Try.ntmps64
        go_wp2_with fail
        have hb0 : Below w.heap.size w (w.alloc (.cells #[.string p.1.str, .string p.2.str] 59 (0, 0))) := nxAlloc (Below.refl _ _) _
        have hx0 := heap_alloc_at w (.cells #[.string p.1.str, .string p.2.str] 59 (0, 0))
        generalize (w.alloc (.cells #[.string p.1.str, .string p.2.str] 59 (0, 0))) = w0 at *
        obtain ⟨hx0a, hx0b, hx0c⟩ := two_facts hx0
        obtain ⟨hx0f, hx0g⟩ := two_frozen hx0
        refine (hg' _).mono ?_; rintro e w1 ⟨rfl, hb1⟩
        have hbw1 := nx hb0 hb1
        replace hx0 := heap_keep hb1 hx0
        clear hx0a hx0b hx0c hx0f hx0g
        obtain ⟨hx0a, hx0b, hx0c⟩ := two_facts hx0
        obtain ⟨hx0f, hx0g⟩ := two_frozen hx0
        clear hb1 hb0
        go_wp2_with fail
        have hbw2 := nxAlloc hbw1 (.cells #[.string p.1.str, .string (red p).2.str] 59 (0, 0))
        replace hx0 := heap_keep (nxAlloc (Below.refl _ _) (.cells #[.string p.1.str, .string (red p).2.str] 59 (0, 0))) hx0
        have hy2 := heap_alloc_at w1 (.cells #[.string p.1.str, .string (red p).2.str] 59 (0, 0))
        generalize w1.alloc (.cells #[.string p.1.str, .string (red p).2.str] 59 (0, 0)) = w2 at *
        clear hbw1
        clear hx0a hx0b hx0c hx0f hx0g
        obtain ⟨hx0a, hx0b, hx0c⟩ := two_facts hx0
        obtain ⟨hx0f, hx0g⟩ := two_frozen hx0
        obtain ⟨hy2a, hy2b, hy2c⟩ := two_facts hy2
        obtain ⟨hy2f, hy2g⟩ := two_frozen hy2
        go_wp2_with fail
        go_ret2
        exact ⟨rfl, hbw2⟩
      · have h2 : ¬ p.1.str.toList = (red p).1.str.toList := fun e => h1 (str_inj e).symm
        clear h1 hr
        go_enter Try.func64, Try.ntmps64
        go_wp2_with fail
        have hb0 : Below w.heap.size w (w.alloc (.cells #[.string p.1.str, .string p.2.str] 59 (0, 0))) := nxAlloc (Below.refl _ _) _
        have hx0 := heap_alloc_at w (.cells #[.string p.1.str, .string p.2.str] 59 (0, 0))
        generalize (w.alloc (.cells #[.string p.1.str, .string p.2.str] 59 (0, 0))) = w0 at *
        obtain ⟨hx0a, hx0b, hx0c⟩ := two_facts hx0
        obtain ⟨hx0f, hx0g⟩ := two_frozen hx0
        refine (hg' _).mono ?_; rintro e w1 ⟨rfl, hb1⟩
        have hbw1 := nx hb0 hb1
        replace hx0 := heap_keep hb1 hx0
        clear hx0a hx0b hx0c hx0f hx0g
        obtain ⟨hx0a, hx0b, hx0c⟩ := two_facts hx0
        obtain ⟨hx0f, hx0g⟩ := two_frozen hx0
        clear hb1 hb0
        go_wp2_with fail
        have hbw2 := nxAlloc hbw1 (.cells #[.string (red p).1.str, .string (red p).2.str] 59 (0, 0))
        replace hx0 := heap_keep (nxAlloc (Below.refl _ _) (.cells #[.string (red p).1.str, .string (red p).2.str] 59 (0, 0))) hx0
        have hy2 := heap_alloc_at w1 (.cells #[.string (red p).1.str, .string (red p).2.str] 59 (0, 0))
        generalize w1.alloc (.cells #[.string (red p).1.str, .string (red p).2.str] 59 (0, 0)) = w2 at *
        clear hbw1
        clear hx0a hx0b hx0c hx0f hx0g
        obtain ⟨hx0a, hx0b, hx0c⟩ := two_facts hx0
        obtain ⟨hx0f, hx0g⟩ := two_frozen hx0
        obtain ⟨hy2a, hy2b, hy2c⟩ := two_facts hy2
        obtain ⟨hy2f, hy2g⟩ := two_frozen hy2
        go_wp2_with fail
        go_ret2
        exact ⟨rfl, hbw2⟩

end Go.Proofs.Yteflpaebckichab
