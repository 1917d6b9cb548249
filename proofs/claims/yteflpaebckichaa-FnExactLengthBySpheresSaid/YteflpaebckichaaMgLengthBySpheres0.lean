/- Texts that the claim needs, part 1. -/
import Derived.Maps.OwnSet
import Derived.Maps.RangeWalk
import Derived.Maps.Ext
import Derived.Below
import Derived.WalkKit
import Derived.Lib.Strings
import Derived.Test.YteflpaebckichaaRows
import Derived.WalkSpells
import Derived.Lib.Hide
import Derived.Deep.Light
import Derived.Deep.Draws
import Derived.DeepKeys4
import Derived.Deep.QuietTactic
import Derived.BigQuiet
/-! MpS -/
namespace Go.Proofs.Yteflpaebckichaa
open Go.RowKit
open Go.Maps (Keyed)

/-- A block is a map of at most n entries, all true, whose keys are those of S. -/
def SetM (P : Program) (k e : TypeId) (w : World) (b n : Nat) (S : Lit → Prop) : Prop :=
  ∃ D : DataW Unit, w.ownsMap P k (plainElem P e) b n D ∧ (∀ x, Maps.has D x = true ↔ S x) ∧ ∀ x z, S x → D.atKey x z = .lit (.bool true)

section
variable {P : Program} {k e t : TypeId} {w : World} {b n : Nat} {S : Lit → Prop}

theorem SetM.made (P : Program) (k e : TypeId) (w : World) : SetM P k e (w.alloc (.map #[] 0)) w.heap.size 0 (fun _ => False) :=
  ⟨.map [], World.ownsMap_made w P k _, fun x => by simp [Maps.has], fun x z h => h.elim⟩
theorem SetM.mono (h : SetM P k e w b n S) {m : Nat} (hn : n ≤ m) : SetM P k e w b m S := by
  obtain ⟨D, h1, h2⟩ := h; exact ⟨D, h1.mono hn, h2⟩
theorem SetM.lt (h : SetM P k e w b n S) : b < w.heap.size := by obtain ⟨D, h1, _⟩ := h; exact h1.lt
theorem SetM.kept {w' : World} {row : Option Nat} (h : SetM P k e w b n S) (hg : w.grownBy w' row) (hne : some b ≠ row) : SetM P k e w' b n S := by
  obtain ⟨D, h1, h2⟩ := h; exact ⟨D, h1.kept hg hne, h2⟩
theorem SetM.heap {w' : World} (h : SetM P k e w b n S) (hb : w'.heap[b]? = w.heap[b]?) : SetM P k e w' b n S := by
  obtain ⟨D, ⟨es, clock, h1, h3⟩, h2⟩ := h; exact ⟨D, ⟨es, clock, hb.trans h1, h3⟩, h2⟩
theorem SetM.below {w' : World} (h : SetM P k e w b n S) (hb : Below w.heap.size w w') : SetM P k e w' b n S := h.heap (hb.block b h.lt)
theorem SetM.alloc (h : SetM P k e w b n S) (o : Obj) : SetM P k e (w.alloc o) b n S := h.kept (World.grownBy_alloc w o none) (by simp)
theorem SetM.drew (h : SetM P k e w b n S) : SetM P k e w.drew b n S := h
theorem SetM.congr {T : Lit → Prop} (h : SetM P k e w b n S) (hT : ∀ x, S x ↔ T x) : SetM P k e w b n T := by
  obtain ⟨D, h1, h2, h3⟩ := h; exact ⟨D, h1, fun x => (h2 x).trans (hT x), fun x z hx => h3 x z ((hT x).2 hx)⟩
theorem SetM.setCell (h : SetM P k e w b n S) {a : Addr} (ha : b ≠ a.block) (u : Value) : SetM P k e (w.setCell a u) b n S := by
  obtain ⟨D, h1, h2⟩ := h; exact ⟨D, h1.setCell ha u, h2⟩

theorem any_of_mem {es : List (Lit × DataW Unit)} {p : Lit × DataW Unit} (hp : p ∈ es) (hk : WideAt.IsKeyLit p.1) : Maps.has (.map es) p.1 = true :=
  List.any_eq_true.2 ⟨p, hp, WideAt.sameKey_self hk⟩
theorem keys_sub : ∀ {es : List (Lit × DataW Unit)} {L : List Lit}, es.Pairwise (fun p q => p.1 ≠ q.1) → (∀ p ∈ es, p.1 ∈ L) → es.length ≤ L.length
  | [], _, _, _ => Nat.zero_le _
  | a :: r, L, h, hs => by
    rw [List.pairwise_cons] at h
    obtain ⟨p, q, rfl⟩ := List.append_of_mem (hs a (by simp))
    have := keys_sub (es := r) (L := p ++ q) h.2 (fun x hx => by
      have h1 := hs x (by simp [hx])
      simp only [List.mem_append, List.mem_cons] at h1 ⊢
      rcases h1 with h1 | h1 | h1
      · exact Or.inl h1
      · exact absurd h1.symm (h.1 x hx)
      · exact Or.inr h1)
    simp only [List.length_append, List.length_cons] at this ⊢
    omega
theorem size_sub {D : DataW Unit} (h : w.ownsMap P k (plainElem P e) b n D) (K : Keyed P k) {L : List Lit} (hL : ∀ x, Maps.has D x = true → x ∈ L) : Maps.size D ≤ L.length := by
  obtain ⟨es, rfl, h1, h2⟩ := h.entries K
  exact keys_sub h1 (fun p hp => hL _ (any_of_mem hp (h2 p hp)))
theorem lits_sub : ∀ {L : List Lit} {es : List (Lit × DataW Unit)}, L.Pairwise (· ≠ ·) → (∀ x ∈ L, ∃ p ∈ es, p.1 = x) → L.length ≤ es.length
  | [], _, _, _ => Nat.zero_le _
  | a :: r, es, h, hs => by
    rw [List.pairwise_cons] at h
    obtain ⟨p, hp, hpa⟩ := hs a (by simp)
    obtain ⟨u, v, rfl⟩ := List.append_of_mem hp
    have := lits_sub (L := r) (es := u ++ v) h.2 (fun x hx => by
      obtain ⟨q, hq, hqx⟩ := hs x (by simp [hx])
      simp only [List.mem_append, List.mem_cons] at hq
      rcases hq with hq | rfl | hq
      · exact ⟨q, by simp [hq], hqx⟩
      · exact absurd (hpa.symm.trans hqx) (h.1 x hx)
      · exact ⟨q, by simp [hq], hqx⟩)
    simp only [List.length_append, List.length_cons] at this ⊢
    omega
/-- How many entries there are. -/
theorem size_is {D : DataW Unit} (h : w.ownsMap P k (plainElem P e) b n D) (K : Keyed P k) {L : List Lit} (hn : L.Pairwise (· ≠ ·)) (hL : ∀ x, Maps.has D x = true ↔ x ∈ L) : Maps.size D = L.length := by
  refine Nat.le_antisymm (size_sub h K fun x hx => (hL x).1 hx) ?_
  obtain ⟨es, rfl, h1, h2⟩ := h.entries K
  refine lits_sub hn fun x hx => ?_
  obtain ⟨p, hp, hs⟩ := List.any_eq_true.1 ((hL x).2 hx)
  exact ⟨p, hp, WideAt.sameKey_eq hs⟩
/-- A map has no more entries than a list that has all members. -/
theorem SetM.tight (h : SetM P k e w b n S) (K : Keyed P k) {L : List Lit} (hL : ∀ x, S x → x ∈ L) : SetM P k e w b L.length S := by
  obtain ⟨D, h1, h2, h3⟩ := h
  have hs := size_sub h1 K (L := L) (fun x hx => hL x ((h2 x).1 hx))
  refine ⟨D, ?_, h2, h3⟩
  obtain ⟨es, clock, hb, F, hs1, rfl⟩ := h1
  exact ⟨es, clock, hb, F, by simpa [Maps.size, length_sorted] using hs, rfl⟩

theorem plainElem_bool_inv (he : P.underlying e = some .bool) {v : Value} {z : DataW Unit × List MemPlace} (h : plainElem P e v = some z) : ∃ c, v = .bool c ∧ z = (.lit (.bool c), []) := by
  unfold plainElem at h
  rw [he] at h
  cases v <;> simp at h
  exact ⟨_, rfl, h.symm⟩
theorem SetM.look (h : SetM P k e w b n S) (K : Keyed P k) (ht : P.underlying t = some (.map k e)) (he : P.underlying e = some .bool) (hz : (zeroValue e).run P w = .ok (.bool false) w) {key : Value} {kl : Lit} (hkey : keyOf P k key = some kl) :
    ∃ c, (Instr.lookup t (.map (some b)) key false).run P w = .ok (.bool c) w ∧ (c = true ↔ S kl) := by
  obtain ⟨D, h1, h2, h3⟩ := h
  obtain ⟨v, ps, hrun, hv⟩ := h1.lookup K ht hz (plainElem_bool he false) hkey
  obtain ⟨c, rfl, hc⟩ := plainElem_bool_inv he hv
  simp only [Prod.mk.injEq] at hc
  refine ⟨c, hrun, ?_⟩
  constructor
  · intro hct
    refine (h2 kl).1 ?_
    cases hh : Maps.has D kl
    · have := Maps.atKey_of_not_has hh (.lit (.bool false))
      rw [hc.1, hct] at this
      cases this
    · rfl
  · intro hs
    have := h3 kl (.lit (.bool false)) hs
    rw [hc.1] at this
    cases this
    rfl
theorem SetM.put (h : SetM P k e w b n S) (K : Keyed P k) (ht : P.underlying t = some (.map k e)) (he : P.underlying e = some .bool) (hn : n < maxLen) {key : Value} {kl : Lit} (hkey : keyOf P k key = some kl) :
    ∃ w', (Instr.mapUpdate t (.map (some b)) key (.bool true)).run P w = .ok () w' ∧ SetM P k e w' b (n + 1) (fun x => S x ∨ x = kl) ∧ w.grownBy w' (some b) := by
  obtain ⟨D, h1, h2, h3⟩ := h
  obtain ⟨w', hrun, r1, r2⟩ := h1.update K ht hn hkey (plainElem_bool he true)
  have hk := K.key hkey
  refine ⟨w', hrun, ⟨_, r1, fun x => ?_, fun x z hx => ?_⟩, r2⟩
  · by_cases hxk : x = kl
    · subst hxk; rw [Maps.has_put_same h1.isMap hk]; simp
    · rw [Maps.has_put_other hxk, h2 x]; simp [hxk]
  · by_cases hxk : x = kl
    · subst hxk; exact Maps.atKey_put_same h1.isMap hk _ _
    · rw [Maps.atKey_put_other hxk]; exact h3 x z (hx.resolve_right hxk)
theorem SetM.drop (h : SetM P k e w b n S) (K : Keyed P k) (ht : P.underlying t = some (.map k e)) {key : Value} {kl : Lit} (hkey : keyOf P k key = some kl) (ty : TypeId) :
    ∃ w', (Builtin.delete_ #[t, k] ty #[.map (some b), key]).run P w = .ok (.tuple #[]) w' ∧ SetM P k e w' b n (fun x => S x ∧ x ≠ kl) ∧ w.grownBy w' (some b) := by
  obtain ⟨D, h1, h2, h3⟩ := h
  obtain ⟨w', hrun, r1, r2⟩ := h1.drop K ht hkey ty
  refine ⟨w', hrun, ⟨_, r1, fun x => ?_, fun x z hx => ?_⟩, r2.grown⟩
  · by_cases hxk : x = kl
    · subst hxk; rw [Maps.has_del_same]; simp
    · rw [Maps.has_del_other hxk, h2 x]; simp [hxk]
  · rw [Maps.atKey_del_other hx.2]; exact h3 x z hx.1
end

/-- A loop over such a map under way: L are the keys still to come. -/
def SetR (P : Program) (k e : TypeId) (w : World) (b r n cnt : Nat) (S L : Lit → Prop) : Prop :=
  ∃ (D : DataW Unit) (left : Lit → Bool), w.ranges P k (plainElem P e) b r n D left cnt ∧ (∀ x, Maps.has D x = true ↔ S x) ∧ (∀ x z, S x → D.atKey x z = .lit (.bool true)) ∧ ∀ x, left x = true ↔ L x

section
variable {P : Program} {k e t : TypeId} {w : World} {b r n cnt : Nat} {S L : Lit → Prop}
theorem SetR.set (h : SetR P k e w b r n cnt S L) : SetM P k e w b n S := by
  obtain ⟨D, left, h1, h2, h3, _⟩ := h; exact ⟨D, h1.owns, h2, h3⟩
theorem SetR.lt (h : SetR P k e w b r n cnt S L) : r < w.heap.size := by obtain ⟨D, left, h1, _⟩ := h; exact h1.lt
theorem SetR.kept {w' : World} {row : Option Nat} (h : SetR P k e w b r n cnt S L) (hg : w.grownBy w' row) (hb : some b ≠ row) (hr : some r ≠ row) : SetR P k e w' b r n cnt S L := by
  obtain ⟨D, left, h1, h2⟩ := h; exact ⟨D, left, h1.kept hg hb hr, h2⟩
theorem SetR.heap {w' : World} (h : SetR P k e w b r n cnt S L) (hb : w'.heap[b]? = w.heap[b]?) (hr : w'.heap[r]? = w.heap[r]?) : SetR P k e w' b r n cnt S L := by
  obtain ⟨D, left, ⟨es, clock, since, seen, c0, a1, a2, a3, a4, a5, a6⟩, h2⟩ := h
  exact ⟨D, left, ⟨es, clock, since, seen, c0, hb.trans a1, a2, a3, a4, hr.trans a5, a6⟩, h2⟩
theorem SetR.below {w' : World} (h : SetR P k e w b r n cnt S L) (hb : Below w.heap.size w w') : SetR P k e w' b r n cnt S L := h.heap (hb.block b h.set.lt) (hb.block r h.lt)
theorem SetR.alloc (h : SetR P k e w b r n cnt S L) (o : Obj) : SetR P k e (w.alloc o) b r n cnt S L := h.kept (World.grownBy_alloc w o none) (by simp) (by simp)
theorem SetR.drew (h : SetR P k e w b r n cnt S L) : SetR P k e w.drew b r n cnt S L := h
theorem SetR.left_eq (h : SetR P k e w b r n cnt S L) : w.rangeLeft b r = cnt := by obtain ⟨D, left, h1, _⟩ := h; exact h1.left_eq
theorem SetR.sub (K : Keyed P k) (h : SetR P k e w b r n cnt S L) : ∀ x, L x → S x := by
  obtain ⟨D, left, h1, h2, _, h4⟩ := h
  obtain ⟨es, clock, since, seen, c0, _, F, _, rfl, _, _, _, _, hl2, _⟩ := h1
  intro x hx
  obtain ⟨y, hy, rfl⟩ := hl2 x ((h4 x).2 hx)
  obtain ⟨z, hz⟩ := F.reads y hy
  exact (h2 _).1 (List.any_eq_true.2 ⟨_, mem_sorted.2 (List.mem_map.2 ⟨y, hy, rfl⟩), WideAt.sameKey_self (by rw [WideElems.rg_of hz]; exact K.key (WideElems.rd_key hz))⟩)

/-- .. at the operations, for the walk. -/
theorem wpList_look_set {ops : Array Oper} {rest : List Oper} {o : Oper} {a : Act} {Q : Exit → Act → World → Prop} (hg : o.guard = none) (m x : Operand) (t : TypeId) (hop : o.op = Op.lookup t m x false)
    (K : Keyed P k) (ht : P.underlying t = some (.map k e)) (he : P.underlying e = some .bool) (hz : (zeroValue e).run P w = .ok (.bool false) w)
    (hm : a.eval m = .map (some b)) (h : SetM P k e w b n S) (key : Value) (kl : Lit) (hx : a.eval x = key) (hkey : keyOf P k key = some kl)
    (hK : ∀ c : Bool, (c = true ↔ S kl) → wpList P ops Q rest (a.put o.dst (.bool c)) w) : wpList P ops Q (o :: rest) a w := by
  refine wpList_plain hg fun K' hK' => ?_
  obtain ⟨c, hrun, hc⟩ := h.look K ht he hz hkey
  unfold Oper.wp
  simp [execOp, hop, hm, hx, hrun, Result.andThen]
  exact hK' _ _ (hK c hc)
theorem wpList_put_set {ops : Array Oper} {rest : List Oper} {o : Oper} {a : Act} {Q : Exit → Act → World → Prop} (hg : o.guard = none) (m x v : Operand) (t : TypeId) (hop : o.op = Op.mapUpdate t m x v)
    (K : Keyed P k) (ht : P.underlying t = some (.map k e)) (he : P.underlying e = some .bool)
    (hm : a.eval m = .map (some b)) (h : SetM P k e w b n S) (hn : n < maxLen) (key : Value) (kl : Lit) (hx : a.eval x = key) (hv : a.eval v = .bool true) (hkey : keyOf P k key = some kl)
    (hK : ∀ w', SetM P k e w' b (n + 1) (fun x => S x ∨ x = kl) → w.grownBy w' (some b) → wpList P ops Q rest (a.put o.dst undef) w') : wpList P ops Q (o :: rest) a w := by
  refine wpList_plain hg fun K' hK' => ?_
  obtain ⟨w', hrun, r1, r2⟩ := h.put K ht he hn hkey
  unfold Oper.wp
  simp [execOp, hop, hm, hx, hv, hrun, Result.andThen]
  exact hK' _ _ (hK w' r1 r2)
theorem wpList_drop_set {ops : Array Oper} {rest : List Oper} {o : Oper} {a : Act} {Q : Exit → Act → World → Prop} (hg : o.guard = none) (m x : Operand) (t k : TypeId) (hop : o.op = Op.call { callee := Callee.builtin Builtin.delete, args := #[m, x], argTypes := #[t, k] })
    (K : Keyed P k) (ht : P.underlying t = some (.map k e))
    (hm : a.eval m = .map (some b)) (h : SetM P k e w b n S) (key : Value) (kl : Lit) (hx : a.eval x = key) (hkey : keyOf P k key = some kl)
    (hK : ∀ w', SetM P k e w' b n (fun x => S x ∧ x ≠ kl) → w.grownBy w' (some b) → wpList P ops Q rest (a.put o.dst (.tuple #[])) w') : wpList P ops Q (o :: rest) a w := by
  refine wpList_plain hg fun K' hK' => ?_
  obtain ⟨w', hrun, r1, r2⟩ := h.drop K ht hkey o.type
  unfold Oper.wp
  simp [execOp, hop, resolve, invoke, builtin, hm, hx, hrun, Result.andThen]
  exact hK' _ _ (hK w' r1 r2)
theorem wpList_range_set {ops : Array Oper} {rest : List Oper} {o : Oper} {a : Act} {Q : Exit → Act → World → Prop} (hg : o.guard = none) (m : Operand) (t : TypeId) (hop : o.op = Op.range t m)
    (K : Keyed P k) (ht : P.underlying t = some (.map k e)) (hm : a.eval m = .map (some b)) (h : SetM P k e w b n S)
    (hK : ∀ w' cnt, SetR P k e w' b w.heap.size n cnt S S → w.grownBy w' none → w'.heap.size = w.heap.size + 1 → wpList P ops Q rest (a.put o.dst (.pointer (some ⟨w.heap.size, 0, none⟩))) w') : wpList P ops Q (o :: rest) a w := by
  obtain ⟨D, h1, h2, h3⟩ := h
  exact wpList_range_own w hg m t hop k e K ht (plainElem P e) b n D hm h1 fun w' hr hg' hs => hK w' _ ⟨D, _, hr, h2, h3, h2⟩ hg' hs
theorem wpList_next_set {α : Type} {ops : Array Oper} {rest : List Oper} {o : Oper} {a : Act} {Q : Exit → Act → World → Prop} (hg : o.guard = none) (it : Operand) (hop : o.op = Op.next it false) (K : Keyed P k) (he : P.underlying e = some .bool)
    (mkK : α → Value) (invK : ∀ key kl, keyOf P k key = some kl → ∃ x, key = mkK x)
    (hit : a.eval it = .pointer (some ⟨r, 0, none⟩)) (h : SetR P k e w b r n cnt S L)
    (hDone : (∀ kl, ¬ L kl) → wpList P ops Q rest (a.put o.dst (.tuple #[.bool false])) w)
    (hMore : ∀ (x : α) (kl : Lit) (w' : World) (cnt' : Nat), keyOf P k (mkK x) = some kl → L kl → SetR P k e w' b r n cnt' S (fun z => L z ∧ z ≠ kl) → cnt' < cnt →
      w.grownBy w' (some r) → w'.heap.size = w.heap.size → (Instr.entry (.pointer (some ⟨r, 0, none⟩))).run P w' = .ok (.tuple #[mkK x, .bool true]) w' → wpList P ops Q rest (a.put o.dst (.tuple #[.bool true, mkK x, .bool true])) w') :
    wpList P ops Q (o :: rest) a w := by
  obtain ⟨D, left, h1, h2, h3, h4⟩ := h
  refine wpList_next_ranges w hg it hop k K (plainElem P e) mkK Value.bool invK (fun v y hv => by obtain ⟨c, rfl, _⟩ := plainElem_bool_inv he hv; exact ⟨c, rfl⟩) b r n D left cnt hit h1
    (fun _ hl => hDone fun kl hk => by have := (h4 kl).2 hk; rw [hl kl] at this; cases this) ?_
  intro x c kl y w' cnt' hkey hl hv hat hr hlt hgr hsz hen
  have hLk : L kl := (h4 kl).1 hl
  have hSk : S kl := SetR.sub K ⟨D, left, h1, h2, h3, h4⟩ kl hLk
  obtain ⟨c', hc', hy⟩ := plainElem_bool_inv he hv
  cases hc'
  have : (DataW.lit (.bool c) : DataW Unit) = .lit (.bool true) := by
    have e1 := hat (.lit (.bool true))
    rw [h3 kl _ hSk, hy] at e1
    exact e1.symm
  cases this
  refine hMore x kl w' cnt' hkey hLk ⟨D, _, hr, h2, h3, fun z => ?_⟩ hlt hgr hsz hen
  show (left z && !z.sameKey kl) = true ↔ _
  rw [Bool.and_eq_true, h4 z]
  refine and_congr_right fun _ => ?_
  constructor
  · intro hs e1
    rw [e1, WideAt.sameKey_self (K.key hkey)] at hs
    cases hs
  · intro hne
    rw [Maps.sameKey_ne hne]; rfl
end
theorem wpList_ins_set {P : Program} {k e : TypeId} {w : World} {b n : Nat} {S : Lit → Prop} {ops : Array Oper} {rest : List Oper} {o : Oper} {a : Act} {Q : Exit → Act → World → Prop} (hg : o.guard = none) (m x v : Operand) (t : TypeId) (hop : o.op = Op.insert t m x v)
    (K : Keyed P k) (ht : P.underlying t = some (.map k e)) (he : P.underlying e = some .bool)
    (hm : a.eval m = .map (some b)) (h : SetM P k e w b n S) (hn : n < maxLen) (key : Value) (kl : Lit) (hx : a.eval x = key) (hv : a.eval v = .bool true) (hkey : keyOf P k key = some kl)
    (hK : ∀ w', SetM P k e w' b (n + 1) (fun x => S x ∨ x = kl) → w.grownBy w' (some b) → wpList P ops Q rest (a.put o.dst undef) w') : wpList P ops Q (o :: rest) a w := by
  refine wpList_plain hg fun K' hK' => ?_
  obtain ⟨w', hrun, r1, r2⟩ := h.put K ht he hn hkey
  unfold Oper.wp
  simp [execOp, hop, hm, hx, hv, hrun, Result.andThen]
  exact hK' _ _ (hK w' r1 r2)
end Go.Proofs.Yteflpaebckichaa

/-! Pure -/
namespace Go.Proofs.Yteflpaebckichaa

/-- The byte at an index of a text (0 behind its end). -/
def byteAt (s : ByteArray) (a : Int) : Int := if h : a.toNat < s.size then ((s[a.toNat]'h).toNat : Int) else 0

theorem byteAt_eq (s : ByteArray) (a : Int) (h : a.toNat < s.size) : byteAt s a = ((s[a.toNat]'h).toNat : Int) := by unfold byteAt; rw [dif_pos h]

/-- The index behind the tree at an index, or -1 (k: the depth that is left). -/
def endI : Nat → ByteArray → Int → Int
  | 0, _, _ => -1
  | k + 1, s, a =>
    if a < s.size then
      if byteAt s a = 46 then a + 1
      else if byteAt s a ≠ 40 then -1
      else if endI k s (a + 1) < 0 then -1
      else if endI k s (endI k s (a + 1)) < 0 then -1
      else if (s.size : Int) ≤ endI k s (endI k s (a + 1)) then -1
      else if byteAt s (endI k s (endI k s (a + 1))) ≠ 41 then -1
      else endI k s (endI k s (a + 1)) + 1
    else -1

theorem endI_le (k : Nat) : ∀ (s : ByteArray) (a : Int), 0 ≤ a → -1 ≤ endI k s a ∧ endI k s a ≤ s.size := by
  induction k with
  | zero => intro s a _; simp [endI]
  | succ k ih =>
    intro s a ha
    have h1 := ih s (a + 1) (by omega)
    have h2 := fun h => ih s (endI k s (a + 1)) h
    rw [endI]
    repeat' split
    all_goals first | omega | (have := h2 (by omega); omega)

/-- How many of the first k bytes are carets' beginnings. -/
def cnt (s : ByteArray) : Nat → Int
  | 0 => 0
  | k + 1 => cnt s k + if byteAt s k = 40 then 1 else 0

theorem cnt_le (s : ByteArray) (k : Nat) : 0 ≤ cnt s k ∧ cnt s k ≤ k := by
  induction k with
  | zero => simp [cnt]
  | succ k ih => rw [cnt]; split <;> omega

/-- The text is a tree, as the spec tells it. -/
def isTreeB (s : ByteArray) : Bool := decide ((s.size : Int) ≤ 33) && decide (cnt s s.size ≤ 8) && endI 61 s 0 == (s.size : Int)

theorem isTreeB_size {s : ByteArray} (h : isTreeB s = true) : s.size ≤ 33 := by
  unfold isTreeB at h; simp at h; omega

end Go.Proofs.Yteflpaebckichaa

/-! Tr -/
namespace Go.Proofs.Yteflpaebckichaa

inductive Tr where
  | lf
  | nd (l r : Tr)

namespace Tr
def text : Tr → List UInt8
  | lf => [46]
  | nd l r => 40 :: (l.text ++ (r.text ++ [41]))
def carets : Tr → Nat
  | lf => 0
  | nd l r => l.carets + r.carets + 1
def str (t : Tr) : ByteArray := ⟨t.text.toArray⟩
end Tr

theorem Tr.text_len (t : Tr) : t.text.length = 3 * t.carets + 1 := by
  induction t with
  | lf => rfl
  | nd l r ihl ihr => simp [Tr.text, Tr.carets, ihl, ihr]; omega

theorem Tr.str_list (t : Tr) : t.str.data.toList = t.text := by simp [Tr.str]
theorem Tr.str_size (t : Tr) : t.str.size = 3 * t.carets + 1 := by
  rw [← Tr.text_len]; show t.str.data.size = _; simp [Tr.str]
theorem ba_ext {a b : ByteArray} (h : a.data.toList = b.data.toList) : a = b := by
  cases a; cases b; simpa using h

/-- Reading a tree at the beginning of a text. -/
def parseN : Nat → List UInt8 → Option (Tr × List UInt8)
  | 0, _ => none
  | _ + 1, [] => none
  | k + 1, c :: r =>
    if c = 46 then some (.lf, r)
    else if c = 40 then
      match parseN k r with
      | none => none
      | some (t1, r1) =>
        match parseN k r1 with
        | none => none
        | some (t2, r2) =>
          match r2 with
          | [] => none
          | d :: r3 => if d = 41 then some (.nd t1 t2, r3) else none
    else none

theorem parseN_sound (k : Nat) : ∀ (l : List UInt8) (t : Tr) (r : List UInt8), parseN k l = some (t, r) → l = t.text ++ r := by
  induction k with
  | zero => intro l t r h; simp [parseN] at h
  | succ k ih =>
    intro l t r h
    match l with
    | [] => simp [parseN] at h
    | c :: l' =>
      rw [parseN] at h
      split at h
      · next hc => simp at h; obtain ⟨rfl, rfl⟩ := h; simp [Tr.text, hc]
      · split at h
        · next hc =>
          split at h
          · simp at h
          · next t1 r1 h1 =>
            split at h
            · simp at h
            · next t2 r2 h2 =>
              split at h
              · simp at h
              · next d r3 =>
                split at h
                · next hd =>
                  simp at h
                  obtain ⟨rfl, rfl⟩ := h
                  rw [ih _ _ _ h1, ih _ _ _ h2, hc, hd]
                  simp [Tr.text]
                · simp at h
        · simp at h

theorem parseN_complete (t : Tr) : ∀ (k : Nat) (r : List UInt8), t.text.length ≤ k → parseN k (t.text ++ r) = some (t, r) := by
  induction t with
  | lf => intro k r h; cases k with | zero => simp [Tr.text] at h | succ k => simp [Tr.text, parseN]
  | nd a b iha ihb =>
    intro k r h
    cases k with
    | zero => simp [Tr.text] at h
    | succ k =>
      have h' : a.text.length + b.text.length + 2 ≤ k + 1 := by simp [Tr.text] at h; omega
      show parseN (k + 1) (40 :: (a.text ++ (b.text ++ [41])) ++ r) = _
      have e : (40 : UInt8) :: (a.text ++ (b.text ++ [41])) ++ r = 40 :: (a.text ++ (b.text ++ (41 :: r))) := by simp
      rw [e, parseN, if_neg (by decide), if_pos rfl, iha k _ (by omega)]
      show (match parseN k (b.text ++ (41 :: r)) with | none => none | some (t2, r2) => _) = _
      rw [ihb k _ (by omega)]
      simp

theorem Tr.text_inj {t u : Tr} {r q : List UInt8} (h : t.text ++ r = u.text ++ q) : t = u ∧ r = q := by
  have h1 := parseN_complete t (t.text.length + u.text.length) r (by omega)
  have h2 := parseN_complete u (t.text.length + u.text.length) q (by omega)
  rw [h, h2] at h1
  simp at h1
  exact ⟨h1.1.symm, h1.2.symm⟩

theorem parseN_len {k : Nat} {l : List UInt8} {t : Tr} {r : List UInt8} (h : parseN k l = some (t, r)) : r.length + 1 ≤ l.length := by
  have := parseN_sound k l t r h
  have := t.text_len
  subst l; simp; omega

end Go.Proofs.Yteflpaebckichaa

/-! TrOf -/
namespace Go.Proofs.Yteflpaebckichaa

theorem ext_end (s : ByteArray) (k : Nat) : (s.extract k s.size).data.toList = s.data.toList.drop k := by
  rw [Lib.extract_data]
  exact List.take_of_length_le (by rw [List.length_drop, ← Lib.size_eq]; exact Nat.le_refl _)

theorem byteAt_drop {s : ByteArray} {a : Nat} {c : UInt8} {r : List UInt8} (h : s.data.toList.drop a = c :: r) : a < s.size ∧ byteAt s a = c.toNat := by
  have hl : a < s.data.toList.length := by
    have := congrArg List.length h
    simp at this
    simp; omega
  have hz : a < s.size := by rw [Lib.size_eq]; exact hl
  refine ⟨hz, ?_⟩
  rw [byteAt_eq s a (by simpa using hz)]
  have hc : s.data.toList[a] = c := by
    rw [List.drop_eq_getElem_cons hl] at h
    injection h
  have : (s[((a : Int)).toNat]'(by simpa using hz)) = s.data.toList[a] := by simp; rfl
  rw [this, hc]

theorem drop_of_byteAt {s : ByteArray} {a : Nat} (h : a < s.size) : ∃ c r, s.data.toList.drop a = c :: r ∧ byteAt s a = (c.toNat : Int) ∧ s.data.toList.drop (a + 1) = r := by
  have hl : a < s.data.toList.length := by rw [← Lib.size_eq]; exact h
  have e := List.drop_eq_getElem_cons hl
  exact ⟨_, _, e, (byteAt_drop e).2, rfl⟩

theorem u8_eq {c : UInt8} {n : Nat} (hn : n < 256) (h : (c.toNat : Int) = (n : Int)) : c = UInt8.ofNat n := by
  have h : c.toNat = n := by omega
  subst h; simp

theorem drop_succ {l r : List UInt8} {a : Nat} {c : UInt8} (h : l.drop a = c :: r) : l.drop (a + 1) = r := by
  rw [← List.drop_drop, h]; rfl

theorem drop_add_of {l x y : List UInt8} {a : Nat} (h : l.drop a = x ++ y) : l.drop (a + x.length) = y := by
  rw [← List.drop_drop, h]; simp

theorem endI_complete (t : Tr) : ∀ (k : Nat) (s : ByteArray) (a : Nat) (r : List UInt8), t.carets < k → s.data.toList.drop a = t.text ++ r → endI k s a = a + t.text.length := by
  induction t with
  | lf =>
    intro k s a r hk h
    cases k with
    | zero => omega
    | succ k =>
      have hb := byteAt_drop (show s.data.toList.drop a = 46 :: r from h)
      rw [endI, if_pos (by omega), if_pos (by rw [hb.2]; rfl)]
      rfl
  | nd l rr ihl ihr =>
    intro k s a q hk h
    cases k with
    | zero => omega
    | succ k =>
      have hk' : l.carets < k ∧ rr.carets < k := by simp [Tr.carets] at hk; omega
      have h0 : s.data.toList.drop a = 40 :: (l.text ++ (rr.text ++ (41 :: q))) := by rw [h]; simp [Tr.text]
      have hb := byteAt_drop h0
      have h1 := drop_succ h0
      have e1 := ihl k s (a + 1) _ hk'.1 h1
      have h2 := drop_add_of h1
      have e2 := ihr k s (a + 1 + l.text.length) _ hk'.2 h2
      have h3 := drop_add_of h2
      have hb3 := byteAt_drop h3
      have c1 : endI k s ((a : Int) + 1) = ((a + 1 + l.text.length : Nat) : Int) := by
        have : ((a : Int) + 1) = ((a + 1 : Nat) : Int) := by omega
        rw [this, e1]; omega
      have c2 : endI k s ((a + 1 + l.text.length : Nat) : Int) = ((a + 1 + l.text.length + rr.text.length : Nat) : Int) := by
        rw [e2]; omega
      rw [endI, if_pos (by omega), if_neg (by rw [hb.2]; decide), if_neg (by rw [hb.2]; decide), c1, if_neg (by omega), c2, if_neg (by omega), if_neg (by omega), if_neg (by rw [hb3.2]; decide)]
      simp [Tr.text]; omega

theorem endI_sound (k : Nat) : ∀ (s : ByteArray) (a : Nat), 0 ≤ endI k s a → ∃ t : Tr, ∃ r, s.data.toList.drop a = t.text ++ r ∧ endI k s a = a + t.text.length := by
  induction k with
  | zero => intro s a h; simp [endI] at h
  | succ k ih =>
    intro s a h
    rw [endI] at h ⊢
    split at h
    · next hlt =>
      obtain ⟨c, r, hd, hb, hd1⟩ := drop_of_byteAt (s := s) (a := a) (by omega)
      split at h
      · next h46 =>
        rw [hb] at h46
        have := u8_eq (n := 46) (by omega) h46
        refine ⟨.lf, r, ?_, ?_⟩
        · rw [hd, this]; rfl
        · rw [if_pos hlt, if_pos (by rw [hb]; exact h46)]; rfl
      · next h46 =>
        split at h
        · omega
        · next h40 =>
          split at h
          · omega
          · next hl =>
            have cast1 : ((a : Int) + 1) = ((a + 1 : Nat) : Int) := by omega
            have hl' : 0 ≤ endI k s ((a + 1 : Nat) : Int) := by rw [← cast1]; omega
            obtain ⟨t1, r1, e1, f1⟩ := ih s (a + 1) hl'
            have g1 : endI k s ((a : Int) + 1) = ((a + 1 + t1.text.length : Nat) : Int) := by rw [cast1, f1]; omega
            split at h
            · omega
            · next hr =>
              rw [g1] at hr
              obtain ⟨t2, r2, e2, f2⟩ := ih s (a + 1 + t1.text.length) (by omega)
              have g2 : endI k s (endI k s ((a : Int) + 1)) = ((a + 1 + t1.text.length + t2.text.length : Nat) : Int) := by rw [g1, f2]; omega
              split at h
              · omega
              · next hz =>
                split at h
                · omega
                · next h41 =>
                  rw [g2] at hz h41
                  obtain ⟨d, q, e3, b3, _⟩ := drop_of_byteAt (s := s) (a := a + 1 + t1.text.length + t2.text.length) (by omega)
                  have hd41 := u8_eq (n := 41) (by omega) (show ((d.toNat : Int)) = ((41 : Nat) : Int) by rw [← b3]; simpa using h41)
                  have hc40 := u8_eq (n := 40) (by omega) (show ((c.toNat : Int)) = ((40 : Nat) : Int) by rw [← hb]; simpa using h40)
                  refine ⟨.nd t1 t2, q, ?_, ?_⟩
                  · have x2 := drop_add_of e1
                    rw [e2] at x2
                    have x3 := drop_add_of e2
                    rw [e3] at x3
                    rw [hd, hc40]
                    have : r = t1.text ++ (t2.text ++ (41 :: q)) := by
                      rw [← hd1, e1, ← x2, ← x3, hd41]; rfl
                    rw [this]; simp [Tr.text]
                  · rw [if_pos hlt, if_neg h46, if_neg h40, if_neg hl, if_neg (by omega), if_neg (by omega), if_neg (by rw [g2]; exact h41), g2]
                    simp [Tr.text]; omega
    · omega

theorem text_count (t : Tr) : t.text.count 40 = t.carets := by
  induction t with
  | lf => rfl
  | nd l r ihl ihr => simp [Tr.text, Tr.carets, List.count_append, ihl, ihr]

theorem cnt_count (s : ByteArray) (k : Nat) (hk : k ≤ s.size) : cnt s k = ((s.data.toList.take k).count 40 : Nat) := by
  induction k with
  | zero => simp [cnt]
  | succ k ih =>
    obtain ⟨c, r, hd, hb, _⟩ := drop_of_byteAt (s := s) (a := k) (by omega)
    have hl : k < s.data.toList.length := by rw [← Lib.size_eq]; omega
    have hc : s.data.toList[k] = c := by
      rw [List.drop_eq_getElem_cons hl] at hd
      injection hd
    rw [cnt, ih (by omega), hb, List.take_succ_eq_append_getElem hl, hc, List.count_append]
    by_cases h : c = 40
    · subst h; simp
    · have h' : ¬ ((c.toNat : Int) = 40) := fun e => h (u8_eq (n := 40) (by omega) e)
      rw [if_neg h']
      simp [h]

theorem cnt_str (t : Tr) : cnt t.str t.str.size = t.carets := by
  rw [cnt_count _ _ (Nat.le_refl _), ← text_count, ← Tr.str_list, List.take_of_length_le]
  rw [Lib.size_eq]; exact Nat.le_refl _

/-- The tree of a text, if it is one. -/
def treeOf (s : ByteArray) : Option Tr :=
  match parseN (s.size + 1) s.data.toList with
  | some (t, []) => if t.carets ≤ 8 then some t else none
  | _ => none

theorem str_of_list {s : ByteArray} {t : Tr} (h : s.data.toList = t.text) : s = t.str := ba_ext (by rw [h, Tr.str_list])

theorem treeOf_some {s : ByteArray} {t : Tr} (h : treeOf s = some t) : s = t.str ∧ t.carets ≤ 8 := by
  unfold treeOf at h
  split at h
  · next u hp =>
    split at h
    · next hc =>
      injection h with h
      subst h
      have := parseN_sound _ _ _ _ hp
      exact ⟨str_of_list (by simpa using this), hc⟩
    · simp at h
  · simp at h

theorem parse_str (t : Tr) (k : Nat) (h : t.text.length ≤ k) : parseN k t.str.data.toList = some (t, []) := by
  have := parseN_complete t k [] h
  rwa [List.append_nil, ← Tr.str_list] at this

theorem treeOf_str (t : Tr) (h : t.carets ≤ 8) : treeOf t.str = some t := by
  unfold treeOf
  rw [parse_str t _ (by have := t.str_size; have := t.text_len; omega)]
  simp [h]

theorem endI_str (t : Tr) (h : t.carets ≤ 8) : endI 61 t.str 0 = t.str.size := by
  have := endI_complete t 61 t.str 0 [] (by omega) (by rw [Tr.str_list]; simp)
  rw [Tr.str_size, ← Tr.text_len]
  simpa using this

theorem isTreeB_str (t : Tr) (h : t.carets ≤ 8) : isTreeB t.str = true := by
  unfold isTreeB
  rw [cnt_str, endI_str t h, Tr.str_size]
  simp; omega

theorem treeOf_of_isTreeB {s : ByteArray} (h : isTreeB s = true) : ∃ t : Tr, s = t.str ∧ t.carets ≤ 8 := by
  unfold isTreeB at h
  simp at h
  obtain ⟨⟨h1, h2⟩, h3⟩ := h
  obtain ⟨t, r, e, f⟩ := endI_sound 61 s 0 (by rw [show ((0 : Nat) : Int) = 0 from rfl, h3]; omega)
  have hz : s.size = t.text.length := by
    rw [show ((0 : Nat) : Int) = 0 from rfl] at f
    omega
  have hr : r = [] := by
    have := congrArg List.length e
    simp only [List.drop_zero, List.length_append, ← Lib.size_eq] at this
    exact List.length_eq_zero_iff.1 (by omega)
  have hs : s = t.str := str_of_list (by rw [hr] at e; simpa using e)
  refine ⟨t, hs, ?_⟩
  rw [hs, cnt_str] at h2
  omega

theorem isTreeB_eq (s : ByteArray) : isTreeB s = (treeOf s).isSome := by
  cases h : treeOf s with
  | some t =>
    obtain ⟨rfl, hc⟩ := treeOf_some h
    exact isTreeB_str t hc
  | none =>
    cases hb : isTreeB s with
    | false => rfl
    | true =>
      obtain ⟨t, rfl, hc⟩ := treeOf_of_isTreeB hb
      rw [treeOf_str t hc] at h
      simp at h

end Go.Proofs.Yteflpaebckichaa

/-! TrFn -/
namespace Go.Proofs.Yteflpaebckichaa
namespace Tr
def mir : Tr → Tr
  | lf => lf
  | nd l r => nd r.mir l.mir
def join : Tr → Tr → Tr
  | lf, b => b
  | nd l r, lf => nd l r
  | nd l r, nd p q => nd (join l p) (join r q)
def com : Tr → Tr → Tr
  | lf, _ => lf
  | nd _ _, lf => lf
  | nd l r, nd p q => nd (com l p) (com r q)
def part : Tr → Tr → Bool
  | lf, _ => true
  | nd _ _, lf => false
  | nd l r, nd p q => part l p && part r q
def isLf : Tr → Bool
  | lf => true
  | nd _ _ => false
end Tr

theorem mir_carets (t : Tr) : t.mir.carets = t.carets := by
  induction t with
  | lf => rfl
  | nd l r ihl ihr => simp [Tr.mir, Tr.carets, ihl, ihr]; omega

theorem join_carets (a : Tr) : ∀ b : Tr, (a.join b).carets ≤ a.carets + b.carets := by
  induction a with
  | lf => intro b; simp [Tr.join]
  | nd l r ihl ihr =>
    intro b
    cases b with
    | lf => simp [Tr.join]
    | nd p q => have := ihl p; have := ihr q; simp [Tr.join, Tr.carets]; omega

theorem com_carets (a : Tr) : ∀ b : Tr, (a.com b).carets ≤ a.carets := by
  induction a with
  | lf => intro b; simp [Tr.com]
  | nd l r ihl ihr =>
    intro b
    cases b with
    | lf => simp [Tr.com, Tr.carets]
    | nd p q => have := ihl p; have := ihr q; simp [Tr.com, Tr.carets]; omega

theorem com_eq_part (a : Tr) : ∀ b : Tr, a.com b = a ↔ a.part b = true := by
  induction a with
  | lf => intro b; simp [Tr.com, Tr.part]
  | nd l r ihl ihr =>
    intro b
    cases b with
    | lf => simp [Tr.com, Tr.part]
    | nd p q => simp [Tr.com, Tr.part, ihl, ihr]

end Go.Proofs.Yteflpaebckichaa

/-! Dots -/
namespace Go.Proofs.Yteflpaebckichaa

/-- The index of the leaf n in a text that begins at 'off', or -1. -/
def posFrom : List UInt8 → Nat → Int → Int
  | [], _, _ => -1
  | c :: r, off, n => if c = 46 then (if n = 0 then off else posFrom r (off + 1) (n - 1)) else posFrom r (off + 1) n

theorem posFrom_range : ∀ (l : List UInt8) (off : Nat) (n : Int), posFrom l off n = -1 ∨ (off ≤ posFrom l off n ∧ posFrom l off n < off + l.length) := by
  intro l
  induction l with
  | nil => intro off n; exact .inl rfl
  | cons c r ih =>
    intro off n
    rw [posFrom]
    have h1 := ih (off + 1) n
    have h2 := ih (off + 1) (n - 1)
    simp only [List.length_cons]
    repeat' split
    all_goals omega

theorem posFrom_neg : ∀ (l : List UInt8) (off : Nat) (n : Int), n < 0 → posFrom l off n = -1 := by
  intro l
  induction l with
  | nil => intro off n _; rfl
  | cons c r ih =>
    intro off n h
    rw [posFrom, ih _ _ h, ih _ (n - 1) (by omega)]
    have h0 : ¬ n = 0 := by omega
    simp [h0]

theorem posFrom_big : ∀ (l : List UInt8) (off : Nat) (n : Int), (l.count 46 : Int) ≤ n → posFrom l off n = -1 := by
  intro l
  induction l with
  | nil => intro off n _; rfl
  | cons c r ih =>
    intro off n h
    rw [posFrom]
    rw [List.count_cons] at h
    split
    · next hc => rw [if_neg (by simp [hc] at h; omega)]; exact ih _ _ (by simp [hc] at h; omega)
    · next hc => exact ih _ _ (by simp [hc] at h; omega)

theorem posFrom_in : ∀ (l : List UInt8) (off : Nat) (n : Int), 0 ≤ n → n < (l.count 46 : Int) → off ≤ posFrom l off n := by
  intro l
  induction l with
  | nil => intro off n h k; simp at k; omega
  | cons c r ih =>
    intro off n h k
    rw [posFrom]
    rw [List.count_cons] at k
    split
    · next hc =>
      split
      · omega
      · have := ih (off + 1) (n - 1) (by omega) (by simp [hc] at k; omega); omega
    · next hc => have := ih (off + 1) n h (by simp [hc] at k; omega); omega

theorem text_dots (t : Tr) : t.text.count 46 = t.carets + 1 := by
  induction t with
  | lf => rfl
  | nd l r ihl ihr => simp [Tr.text, Tr.carets, List.count_append, ihl, ihr]; omega

/-- The text of a tree with another text in place of a leaf. -/
def graftS (s : ByteArray) (n : Int) (o : ByteArray) : ByteArray :=
  s.extract 0 (posFrom s.data.toList 0 n).toNat ++ o ++ s.extract ((posFrom s.data.toList 0 n).toNat + 1) s.size

theorem pos_str (t : Tr) (n : Int) : (0 ≤ n ∧ n ≤ t.carets ∧ 0 ≤ posFrom t.str.data.toList 0 n ∧ posFrom t.str.data.toList 0 n < t.str.size) ∨ ((n < 0 ∨ t.carets < n) ∧ posFrom t.str.data.toList 0 n = -1) := by
  rw [Tr.str_list]
  have hr := posFrom_range t.text 0 n
  have hz := t.str_size
  have hl := t.text_len
  have hd := text_dots t
  by_cases h1 : n < 0
  · exact .inr ⟨.inl h1, posFrom_neg _ _ _ h1⟩
  · by_cases h2 : (t.carets : Int) < n
    · exact .inr ⟨.inr h2, posFrom_big _ _ _ (by rw [hd]; omega)⟩
    · have := posFrom_in t.text 0 n (by omega) (by rw [hd]; omega)
      exact .inl (by omega)

theorem graft_size (t : Tr) (n : Int) (o : ByteArray) (h : 0 ≤ posFrom t.str.data.toList 0 n) (k : posFrom t.str.data.toList 0 n < t.str.size) : (graftS t.str n o).size = t.str.size - 1 + o.size := by
  unfold graftS
  simp only [ByteArray.size_append, ByteArray.size_extract]
  omega

end Go.Proofs.Yteflpaebckichaa

/-! ExpoP -/
namespace Go.Proofs.Yteflpaebckichaa

/-- Does a text begin with an exposed caret? -/
def expB (l : List UInt8) : Bool := l.take 4 == [40, 46, 46, 41]

/-- The left leaves of the exposed carets of a text, n leaves being in front of it. -/
def exL : List UInt8 → Int → List Int
  | [], _ => []
  | c :: r, n => (if expB (c :: r) then [n] else []) ++ exL r (if c = 46 then n + 1 else n)

theorem exL_length : ∀ (l : List UInt8) (n : Int), (exL l n).length ≤ l.length := by
  intro l
  induction l with
  | nil => intro n; simp [exL]
  | cons c r ih => intro n; have := ih (if c = 46 then n + 1 else n); rw [exL]; simp only [List.length_append, List.length_cons]; split <;> simp <;> omega

/-- What the spec's scan, which looks one byte back, has still to tell at index k. -/
def pend (l : List UInt8) (k : Nat) (n : Int) : List Int := if 0 < k ∧ expB (l.drop (k - 1)) = true then [n] else []

theorem expB_cons {c : UInt8} {r : List UInt8} (h : expB (c :: r) = true) : c = 40 ∧ 3 ≤ r.length := by
  unfold expB at h
  simp only [beq_iff_eq] at h
  have h1 := congrArg List.length h
  have h2 := congrArg List.head? h
  simp at h1 h2
  exact ⟨h2, by omega⟩

theorem exL_step {l r : List UInt8} {k : Nat} {c : UInt8} {n : Int} (h : l.drop k = c :: r) :
    exL (l.drop k) n = pend l (k + 1) (if c = 46 then n + 1 else n) ++ exL (l.drop (k + 1)) (if c = 46 then n + 1 else n) := by
  have hr : l.drop (k + 1) = r := drop_succ h
  rw [hr, h, exL]
  congr 1
  unfold pend
  rw [Nat.add_sub_cancel, h]
  cases hb : expB (c :: r) with
  | false => simp
  | true =>
    have := (expB_cons hb).1
    subst this
    simp

theorem expB_extract (s : ByteArray) (k : Nat) (h : 0 < k) : expB (s.data.toList.drop (k - 1)) = ((s.extract (k - 1) (k + 3)).toList == [40, 46, 46, 41]) := by
  unfold expB
  rw [Lib.extract_toList]
  have : k + 3 - (k - 1) = 4 := by omega
  rw [this]

theorem expB_here (s : ByteArray) (k : Nat) : expB (s.data.toList.drop k) = ((s.data.toList.drop k).take 4 == [40, 46, 46, 41]) := rfl

theorem expB_drop {l : List UInt8} {k : Nat} (h : expB (l.drop k) = true) : k + 4 ≤ l.length := by
  cases hd : l.drop k with
  | nil => rw [hd] at h; simp [expB] at h
  | cons c r =>
    rw [hd] at h
    have := (expB_cons h).2
    have := congrArg List.length hd
    simp at this
    omega

theorem pend_zero (l : List UInt8) (n : Int) : pend l 0 n = [] := by simp [pend]

end Go.Proofs.Yteflpaebckichaa

/-! DropP -/
namespace Go.Proofs.Yteflpaebckichaa

theorem posFrom_shift : ∀ (l : List UInt8) (off : Nat) (q : Int), posFrom l off q = if posFrom l 0 q = -1 then -1 else posFrom l 0 q + off := by
  intro l
  induction l with
  | nil => intro off q; rfl
  | cons c r ih =>
    intro off q
    have h1 := ih (off + 1) (q - 1)
    have h2 := ih (0 + 1) (q - 1)
    have h3 := ih (off + 1) q
    have h4 := ih (0 + 1) q
    have r1 := posFrom_range r 0 (q - 1)
    have r2 := posFrom_range r 0 q
    rw [posFrom, posFrom, h1, h2, h3, h4]
    repeat' split
    all_goals omega

/-- The leaf q is the left one of an exposed caret. -/
def dropB (l : List UInt8) (q : Int) : Bool := decide (1 ≤ posFrom l 0 q) && expB (l.drop ((posFrom l 0 q).toNat - 1))

theorem expB_two {c : UInt8} {r : List UInt8} (h : expB (c :: r) = true) : ∃ r', r = 46 :: r' := by
  unfold expB at h
  simp only [beq_iff_eq] at h
  match r with
  | [] => simp at h
  | d :: r' =>
    simp at h
    exact ⟨r', by rw [h.2.1]⟩

theorem mem_exL : ∀ (l : List UInt8) (n m : Int), n ∈ exL l m ↔ dropB l (n - m) = true := by
  intro l
  induction l with
  | nil => intro n m; simp [exL, dropB, posFrom]
  | cons c r ih =>
    intro n m
    have ih0 := ih n m
    have ih1 := ih n (m + 1)
    have e1 : n - (m + 1) = n - m - 1 := by omega
    rw [e1] at ih1
    rw [exL, List.mem_append]
    by_cases hc : c = 46
    · have hx : expB (c :: r) = false := by
        cases h : expB (c :: r) with
        | false => rfl
        | true => have := (expB_cons h).1; rw [hc] at this; exact absurd this (by decide)
      rw [hx, if_pos hc, ih1]
      simp only [Bool.false_eq_true, if_false, List.not_mem_nil, false_or]
      unfold dropB
      rw [posFrom, if_pos hc]
      by_cases hz : n - m = 0
      · rw [if_pos hz, posFrom_neg r 0 (n - m - 1) (by omega)]
        simp
      · rw [if_neg hz, posFrom_shift r (0 + 1)]
        have hr := posFrom_range r 0 (n - m - 1)
        by_cases h1 : posFrom r 0 (n - m - 1) = -1
        · rw [if_pos h1, h1]; simp
        · rw [if_neg h1]
          by_cases h0 : posFrom r 0 (n - m - 1) = 0
          · rw [h0]
            simp [hx]
          · have h2 : 1 ≤ posFrom r 0 (n - m - 1) := by omega
            obtain ⟨p, hp⟩ : ∃ p : Nat, posFrom r 0 (n - m - 1) = (p : Int) + 1 := ⟨(posFrom r 0 (n - m - 1)).toNat - 1, by omega⟩
            rw [hp]
            have t1 : ((p : Int) + 1 + ((0 + 1 : Nat) : Int)).toNat - 1 = p + 1 := by omega
            have t2 : ((p : Int) + 1).toNat - 1 = p := by omega
            rw [t1, t2, List.drop_succ_cons]
            have d1 : decide (1 ≤ (p : Int) + 1) = true := decide_eq_true (by omega)
            have d2 : decide (1 ≤ (p : Int) + 1 + ((0 + 1 : Nat) : Int)) = true := decide_eq_true (by omega)
            rw [d1, d2]
    · rw [if_neg hc, ih0]
      unfold dropB
      rw [posFrom, if_neg hc, posFrom_shift r (0 + 1)]
      have hr := posFrom_range r 0 (n - m)
      have hzero : expB (c :: r) = true → posFrom r 0 (n - m) = 0 → n = m := by
        intro h h'
        obtain ⟨r', rfl⟩ := expB_two h
        rw [posFrom, if_pos rfl] at h'
        by_cases hz : n - m = 0
        · omega
        · rw [if_neg hz, posFrom_shift r' (0 + 1)] at h'
          have := posFrom_range r' 0 (n - m - 1)
          split at h' <;> omega
      have hzero' : expB (c :: r) = true → n = m → posFrom r 0 (n - m) = 0 := by
        intro h h'
        obtain ⟨r', rfl⟩ := expB_two h
        rw [posFrom, if_pos rfl, if_pos (by omega)]; rfl
      by_cases h1 : posFrom r 0 (n - m) = -1
      · rw [if_pos h1, h1]
        simp only [show decide ((1 : Int) ≤ -1) = false from rfl, Bool.false_and, Bool.false_eq_true, or_false, iff_false]
        intro h
        split at h
        · next he =>
          have := hzero' he (by simpa using h)
          omega
        · simp at h
      · rw [if_neg h1]
        by_cases h0 : posFrom r 0 (n - m) = 0
        · rw [h0]
          simp only [show decide ((1 : Int) ≤ 0) = false from rfl, Bool.false_and, Bool.false_eq_true, or_false]
          have t1 : ((0 : Int) + ((0 + 1 : Nat) : Int)).toNat - 1 = 0 := by omega
          rw [t1, List.drop_zero]
          have d2 : decide (1 ≤ (0 : Int) + ((0 + 1 : Nat) : Int)) = true := decide_eq_true (by omega)
          rw [d2]
          cases he : expB (c :: r) with
          | false => simp
          | true => simp; exact hzero he h0
        · obtain ⟨p, hp⟩ : ∃ p : Nat, posFrom r 0 (n - m) = (p : Int) + 1 := ⟨(posFrom r 0 (n - m)).toNat - 1, by omega⟩
          rw [hp]
          have t1 : ((p : Int) + 1 + ((0 + 1 : Nat) : Int)).toNat - 1 = p + 1 := by omega
          have t2 : ((p : Int) + 1).toNat - 1 = p := by omega
          rw [t1, t2, List.drop_succ_cons]
          have d1 : decide (1 ≤ (p : Int) + 1) = true := decide_eq_true (by omega)
          have d2 : decide (1 ≤ (p : Int) + 1 + ((0 + 1 : Nat) : Int)) = true := decide_eq_true (by omega)
          rw [d1, d2]
          constructor
          · rintro (h | h)
            · split at h
              · next he =>
                have := hzero' he (by simpa using h)
                omega
              · simp at h
            · exact h
          · exact .inr

/-- The text of a tree with a leaf in place of the exposed caret that begins at index q. -/
def dropS (s : ByteArray) (q : Nat) : ByteArray := s.extract 0 q ++ ⟨#[46]⟩ ++ s.extract (q + 4) s.size

/-- Of a text, the answer of DropExposed. -/
def dropO (s : ByteArray) (n : Int) : Option ByteArray :=
  if dropB s.data.toList n = true then some (dropS s ((posFrom s.data.toList 0 n).toNat - 1)) else none

theorem dropB_true {s : ByteArray} {n : Int} (h : dropB s.data.toList n = true) : ∃ q : Nat, posFrom s.data.toList 0 n = (q : Int) + 1 ∧ q + 4 ≤ s.size ∧ expB (s.data.toList.drop q) = true ∧ 0 ≤ n := by
  unfold dropB at h
  simp only [Bool.and_eq_true, decide_eq_true_eq] at h
  obtain ⟨h1, h2⟩ := h
  refine ⟨(posFrom s.data.toList 0 n).toNat - 1, by omega, ?_, h2, ?_⟩
  · have := expB_drop h2; rw [← Lib.size_eq] at this; exact this
  · rcases Int.lt_or_le n 0 with hn | hn
    · rw [posFrom_neg _ _ _ hn] at h1; omega
    · exact hn
end Go.Proofs.Yteflpaebckichaa

/-! PrT -/
namespace Go.Proofs.Yteflpaebckichaa
namespace Tr
def leaves (t : Tr) : Nat := t.carets + 1
/-- The left leaves of the exposed carets, n leaves being in front. -/
def exps : Tr → Int → List Int
  | lf, _ => []
  | nd l r, n => (if l.isLf && r.isLf then [n] else []) ++ (l.exps n ++ r.exps (n + l.leaves))
/-- The tree with a leaf in place of the exposed caret with the left leaf n. -/
def dropAt : Tr → Int → Tr
  | lf, _ => lf
  | nd l r, n => if l.isLf && r.isLf then lf else if n < l.leaves then nd (l.dropAt n) r else nd l (r.dropAt (n - l.leaves))
/-- The tree with u in place of the leaf n. -/
def graft : Tr → Int → Tr → Tr
  | lf, _, u => u
  | nd l r, n, u => if n < l.leaves then nd (l.graft n u) r else nd l (r.graft (n - l.leaves) u)
end Tr

theorem leaves_nd (l r : Tr) : (Tr.nd l r).leaves = l.leaves + r.leaves := by simp [Tr.leaves, Tr.carets]; omega
theorem leaves_pos (t : Tr) : 1 ≤ t.leaves := by simp [Tr.leaves]
theorem isLf_iff (t : Tr) : t.isLf = true ↔ t = .lf := by cases t <;> simp [Tr.isLf]
theorem both_lf {l r : Tr} (h : (l.isLf && r.isLf) = true) : l = .lf ∧ r = .lf := by
  simp only [Bool.and_eq_true, isLf_iff] at h; exact h

theorem expB_len {l : List UInt8} (h : l.length < 4) : expB l = false := by
  unfold expB
  rw [beq_eq_false_iff_ne]
  intro e
  have := congrArg List.length e
  simp at this
  omega

theorem text_head (t : Tr) : (t = .lf ∧ t.text = [46]) ∨ ∃ r, t.text = 40 :: r := by
  cases t with
  | lf => exact .inl ⟨rfl, rfl⟩
  | nd l r => exact .inr ⟨_, rfl⟩

theorem expB_nd (l r : Tr) (q : List UInt8) : expB (40 :: (l.text ++ (r.text ++ (41 :: q)))) = (l.isLf && r.isLf) := by
  cases l with
  | lf =>
    cases r with
    | lf => rfl
    | nd a b => simp [expB, Tr.text, Tr.isLf]
  | nd a b => simp [expB, Tr.text, Tr.isLf]

theorem exL_text (t : Tr) : ∀ (q : List UInt8) (m : Int), exL (t.text ++ q) m = t.exps m ++ exL q (m + t.leaves) := by
  induction t with
  | lf => intro q m; simp [Tr.text, exL, Tr.exps, expB, Tr.leaves, Tr.carets]
  | nd l r ihl ihr =>
    intro q m
    have e : (Tr.nd l r).text ++ q = 40 :: (l.text ++ (r.text ++ (41 :: q))) := by simp [Tr.text]
    rw [e, exL, expB_nd, if_neg (show ¬ (40 : UInt8) = 46 by decide), ihl, ihr, exL, if_neg (show ¬ (41 : UInt8) = 46 by decide)]
    have h41 : expB (41 :: q) = false := by
      cases h : expB (41 :: q) with
      | false => rfl
      | true => exact absurd (expB_cons h).1 (by decide)
    rw [h41]
    have e2 : m + (l.leaves : Int) + (r.leaves : Int) = m + ((Tr.nd l r).leaves : Int) := by rw [leaves_nd]; omega
    rw [e2]
    simp [Tr.exps]

theorem exps_text (t : Tr) (m : Int) : exL t.text m = t.exps m := by
  have := exL_text t [] m
  simpa [exL] using this

theorem exps_range (t : Tr) : ∀ (n m : Int), m ∈ t.exps n → n ≤ m ∧ m + 1 < n + t.leaves := by
  induction t with
  | lf => intro n m h; simp [Tr.exps] at h
  | nd l r ihl ihr =>
    intro n m h
    have h1 := leaves_pos l
    have h2 := leaves_pos r
    rw [Tr.exps, List.mem_append, List.mem_append] at h
    rw [leaves_nd]
    rcases h with h | h | h
    · split at h
      · simp at h; omega
      · simp at h
    · have := ihl _ _ h; omega
    · have := ihr _ _ h; omega

theorem exps_shift (t : Tr) : ∀ (n d : Int), t.exps (n + d) = (t.exps n).map (· + d) := by
  induction t with
  | lf => intro n d; rfl
  | nd l r ihl ihr =>
    intro n d
    have e : n + d + (l.leaves : Int) = n + (l.leaves : Int) + d := by omega
    rw [Tr.exps, Tr.exps, ihl n d, e, ihr, List.map_append, List.map_append]
    split <;> simp

theorem exps_shift_mem (t : Tr) (n m : Int) : m ∈ t.exps n ↔ m - n ∈ t.exps 0 := by
  have := exps_shift t 0 n
  rw [Int.zero_add] at this
  rw [this, List.mem_map]
  constructor
  · rintro ⟨a, ha, rfl⟩; have : a + n - n = a := by omega
    rw [this]; exact ha
  · intro h; exact ⟨m - n, h, by omega⟩

theorem exps_length (t : Tr) : ∀ n, (t.exps n).length ≤ t.carets := by
  induction t with
  | lf => intro n; simp [Tr.exps]
  | nd l r ihl ihr =>
    intro n
    have h1 := ihl n
    have h2 := ihr (n + l.leaves)
    rw [Tr.exps]
    simp only [List.length_append, Tr.carets]
    split <;> simp <;> omega

/-- An exposed caret in a text: what is in front of it and behind it. -/
theorem exps_split (t : Tr) : ∀ n : Int, n ∈ t.exps 0 → ∃ x y : List UInt8, t.text = x ++ (40 :: 46 :: 46 :: 41 :: y) ∧ ((x.count 46 : Nat) : Int) = n ∧ (t.dropAt n).text = x ++ (46 :: y) := by
  induction t with
  | lf => intro n h; simp [Tr.exps] at h
  | nd l r ihl ihr =>
    intro n h
    rw [Tr.exps, List.mem_append, List.mem_append] at h
    cases hb : l.isLf && r.isLf with
    | true =>
      obtain ⟨rfl, rfl⟩ := both_lf hb
      simp [Tr.exps, Tr.isLf] at h
      subst h
      exact ⟨[], [], rfl, rfl, rfl⟩
    | false =>
      rw [hb] at h
      rcases h with h | h | h
      · simp at h
      · have hr := exps_range l _ _ h
        obtain ⟨x, y, e1, e2, e3⟩ := ihl n h
        refine ⟨40 :: x, y ++ (r.text ++ [41]), ?_, ?_, ?_⟩
        · simp [Tr.text, e1]
        · simp [e2]
        · rw [Tr.dropAt, hb, if_neg (by decide), if_pos (by omega)]
          simp [Tr.text, e3]
      · have hr := exps_range r _ _ h
        rw [Int.zero_add] at h hr
        obtain ⟨x, y, e1, e2, e3⟩ := ihr (n - l.leaves) ((exps_shift_mem r _ _).1 h)
        refine ⟨40 :: (l.text ++ x), y ++ [41], ?_, ?_, ?_⟩
        · simp [Tr.text, e1]
        · have := text_dots l
          simp only [List.count_cons, List.count_append]
          simp [Tr.leaves] at *
          omega
        · rw [Tr.dropAt, hb, if_neg (by decide), if_neg (by omega)]
          simp [Tr.text, e3]

/-- A leaf in a text. -/
theorem leaf_split (t : Tr) : ∀ n : Int, 0 ≤ n → n < t.leaves → ∃ x y : List UInt8, t.text = x ++ (46 :: y) ∧ ((x.count 46 : Nat) : Int) = n ∧ ∀ u : Tr, (t.graft n u).text = x ++ (u.text ++ y) := by
  induction t with
  | lf =>
    intro n h k
    simp [Tr.leaves, Tr.carets] at k
    obtain rfl : n = 0 := by omega
    exact ⟨[], [], rfl, rfl, fun u => by simp [Tr.graft]⟩
  | nd l r ihl ihr =>
    intro n h k
    rw [leaves_nd] at k
    by_cases hl : n < l.leaves
    · obtain ⟨x, y, e1, e2, e3⟩ := ihl n h hl
      refine ⟨40 :: x, y ++ (r.text ++ [41]), ?_, ?_, fun u => ?_⟩
      · simp [Tr.text, e1]
      · simp [e2]
      · rw [Tr.graft, if_pos hl]; simp [Tr.text, e3]
    · obtain ⟨x, y, e1, e2, e3⟩ := ihr (n - l.leaves) (by omega) (by omega)
      refine ⟨40 :: (l.text ++ x), y ++ [41], ?_, ?_, fun u => ?_⟩
      · simp [Tr.text, e1]
      · have := text_dots l
        simp only [List.count_cons, List.count_append]
        simp [Tr.leaves] at *
        omega
      · rw [Tr.graft, if_neg hl]; simp [Tr.text, e3]

theorem posFrom_count : ∀ (x y : List UInt8) (off : Nat), posFrom (x ++ 46 :: y) off (x.count 46 : Nat) = ((off + x.length : Nat) : Int) := by
  intro x
  induction x with
  | nil => intro y off; simp [posFrom]
  | cons c r ih =>
    intro y off
    rw [List.cons_append, posFrom]
    by_cases hc : c = 46
    · subst hc
      have hcount : ((List.count 46 (46 :: r) : Nat) : Int) = (r.count 46 : Nat) + 1 := by simp
      rw [if_pos rfl, hcount, if_neg (by omega), Int.add_sub_cancel, ih]
      simp; omega
    · have hcount : List.count 46 (c :: r) = r.count 46 := by rw [List.count_cons]; simp [hc]
      rw [if_neg hc, hcount, ih]
      simp; omega

theorem dropS_list (s : ByteArray) (q : Nat) : (dropS s q).data.toList = s.data.toList.take q ++ (46 :: s.data.toList.drop (q + 4)) := by
  unfold dropS
  simp only [ByteArray.data_append, Array.toList_append]
  rw [ext_end, Lib.extract_data]
  simp

theorem drop_str (t : Tr) (n : Int) (h : n ∈ t.exps 0) : 1 ≤ posFrom t.str.data.toList 0 n ∧ dropS t.str ((posFrom t.str.data.toList 0 n).toNat - 1) = (t.dropAt n).str := by
  obtain ⟨x, y, e1, e2, e3⟩ := exps_split t n h
  have e1' : t.text = (x ++ [40]) ++ 46 :: (46 :: 41 :: y) := by simp [e1]
  have hp : posFrom t.str.data.toList 0 n = ((x.length + 1 : Nat) : Int) := by
    have := posFrom_count (x ++ [40]) (46 :: 41 :: y) 0
    rw [← e1'] at this
    rw [Tr.str_list, ← e2]
    simpa using this
  rw [hp]
  refine ⟨by omega, ba_ext ?_⟩
  rw [dropS_list, Tr.str_list, Tr.str_list, e3, e1]
  have : ((x.length + 1 : Nat) : Int).toNat - 1 = x.length := by omega
  rw [this]
  have e4 : x ++ 40 :: 46 :: 46 :: 41 :: y = (x ++ [40, 46, 46, 41]) ++ y := by simp
  rw [List.take_left, e4, List.drop_left' (by simp)]

theorem dropB_str (t : Tr) (n : Int) : dropB t.str.data.toList n = true ↔ n ∈ t.exps 0 := by
  rw [← exps_text, mem_exL, Tr.str_list]; simp

theorem graft_str (t u : Tr) (n : Int) (h : 0 ≤ n) (k : n < t.leaves) : graftS t.str n u.str = (t.graft n u).str := by
  obtain ⟨x, y, e1, e2, e3⟩ := leaf_split t n h k
  have hp : posFrom t.str.data.toList 0 n = ((x.length : Nat) : Int) := by
    have := posFrom_count x y 0
    rw [← e1] at this
    rw [Tr.str_list, ← e2]
    simpa using this
  refine ba_ext ?_
  unfold graftS
  rw [hp]
  simp only [ByteArray.data_append, Array.toList_append]
  rw [ext_end, Lib.extract_data]
  simp only [Tr.str_list, e3, e1]
  have e4 : x ++ 46 :: y = (x ++ [46]) ++ y := by simp
  simp only [Int.toNat_natCast, Nat.sub_zero, List.drop_zero, List.take_left]
  rw [e4, List.drop_left' (by simp)]
  simp

theorem dropAt_carets (t : Tr) : ∀ n : Int, n ∈ t.exps 0 → (t.dropAt n).carets + 1 = t.carets := by
  intro n h
  obtain ⟨x, y, e1, e2, e3⟩ := exps_split t n h
  have h1 := t.text_len
  have h2 := (t.dropAt n).text_len
  have := congrArg List.length e1
  have := congrArg List.length e3
  simp at *
  omega

theorem graft_carets (t u : Tr) (n : Int) (h : 0 ≤ n) (k : n < t.leaves) : (t.graft n u).carets = t.carets + u.carets := by
  obtain ⟨x, y, e1, e2, e3⟩ := leaf_split t n h k
  have e3 := e3 u
  have h1 := t.text_len
  have h2 := (t.graft n u).text_len
  have h3 := u.text_len
  have := congrArg List.length e1
  have := congrArg List.length e3
  simp at *
  omega
end Go.Proofs.Yteflpaebckichaa

/-! PrP -/
namespace Go.Proofs.Yteflpaebckichaa

/-- A pair of trees. -/
abbrev Pr := Tr × Tr

/-- The left leaves with which both trees have exposed carets. -/
def both (p : Pr) : List Int := (p.1.exps 0).filter fun n => (p.2.exps 0).contains n

/-- Both carets dropped. -/
def dropP (p : Pr) (n : Int) : Pr := (p.1.dropAt n, p.2.dropAt n)

/-- Which of so many a step takes: the first choice modulo their number, or the first one. -/
def pickI (cs : List Int) (k : Nat) : Nat := match cs with
  | [] => 0
  | c :: _ => (c % k).toNat

/-- The reduced pair by choices (fuel: the number of steps that are left at most). -/
def redF : Nat → Pr → List Int → Pr
  | 0, p, _ => p
  | k + 1, p, cs => match both p with
    | [] => p
    | n :: ns => redF k (dropP p ((n :: ns).getD (pickI cs (ns.length + 1)) 0)) cs.tail
def redBy (p : Pr) (cs : List Int) : Pr := redF p.1.carets p cs
def red (p : Pr) : Pr := redBy p []

theorem mem_both {p : Pr} {n : Int} : n ∈ both p ↔ n ∈ p.1.exps 0 ∧ n ∈ p.2.exps 0 := by
  simp [both]

theorem both_length (p : Pr) : (both p).length ≤ p.1.carets :=
  Nat.le_trans (List.length_filter_le _ _) (exps_length _ _)

theorem both_empty {p : Pr} (h : p.1.carets = 0) : both p = [] := by
  have := both_length p
  exact List.length_eq_zero_iff.1 (by omega)

theorem pickI_lt (cs : List Int) (k : Nat) (h : 0 < k) : pickI cs k < k := by
  unfold pickI
  split
  · exact h
  · next c _ =>
    have h1 := Int.emod_lt_of_pos c (show (0 : Int) < k by omega)
    have h2 := Int.emod_nonneg c (show (k : Int) ≠ 0 by omega)
    omega

theorem pick_mem {p : Pr} {n : Int} {ns : List Int} (h : both p = n :: ns) (cs : List Int) : (n :: ns).getD (pickI cs (ns.length + 1)) 0 ∈ both p := by
  rw [h]
  have := pickI_lt cs (ns.length + 1) (by omega)
  rw [List.getD_eq_getElem?_getD, List.getElem?_eq_getElem (by simpa using this)]
  exact List.getElem_mem _

theorem dropP_carets {p : Pr} {n : Int} (h : n ∈ both p) : (dropP p n).1.carets + 1 = p.1.carets ∧ (dropP p n).2.carets + 1 = p.2.carets :=
  ⟨dropAt_carets _ _ (mem_both.1 h).1, dropAt_carets _ _ (mem_both.1 h).2⟩

/-- One step. -/
theorem redBy_step {p : Pr} {n : Int} {ns : List Int} (h : both p = n :: ns) (cs : List Int) :
    redBy p cs = redBy (dropP p ((n :: ns).getD (pickI cs (ns.length + 1)) 0)) cs.tail := by
  have hc := (dropP_carets (pick_mem h cs)).1
  unfold redBy
  obtain ⟨k, hk⟩ : ∃ k, p.1.carets = k + 1 := ⟨p.1.carets - 1, by omega⟩
  rw [hk, redF, h]
  have : (dropP p ((n :: ns).getD (pickI cs (ns.length + 1)) 0)).1.carets = k := by omega
  rw [this]
theorem redBy_end {p : Pr} (h : both p = []) (cs : List Int) : redBy p cs = p := by
  unfold redBy
  cases hk : p.1.carets with
  | zero => rfl
  | succ k => rw [redF, h]

theorem redF_carets (k : Nat) : ∀ (p : Pr) (cs : List Int), (redF k p cs).1.carets ≤ p.1.carets ∧ (redF k p cs).2.carets ≤ p.2.carets ∧ (redF k p cs).1.carets + p.2.carets = (redF k p cs).2.carets + p.1.carets := by
  induction k with
  | zero => intro p cs; simp [redF]; omega
  | succ k ih =>
    intro p cs
    rw [redF]
    split
    · refine ⟨Nat.le_refl _, Nat.le_refl _, by omega⟩
    · next n ns h =>
      have h1 := dropP_carets (pick_mem h cs)
      have h2 := ih (dropP p ((n :: ns).getD (pickI cs (ns.length + 1)) 0)) cs.tail
      omega
theorem redBy_carets (p : Pr) (cs : List Int) : (redBy p cs).1.carets ≤ p.1.carets ∧ (redBy p cs).2.carets ≤ p.2.carets ∧ (redBy p cs).1.carets + p.2.carets = (redBy p cs).2.carets + p.1.carets := redF_carets _ p cs

theorem redF_both (k : Nat) : ∀ (p : Pr) (cs : List Int), p.1.carets ≤ k → both (redF k p cs) = [] := by
  induction k with
  | zero => intro p cs h; rw [redF]; exact both_empty (by omega)
  | succ k ih =>
    intro p cs hk
    rw [redF]
    split
    · next h => exact h
    · next n ns h =>
      have h1 := dropP_carets (pick_mem h cs)
      exact ih _ _ (by omega)
theorem red_both (p : Pr) (cs : List Int) : both (redBy p cs) = [] := redF_both _ p cs (Nat.le_refl _)

/-- A pair is what is left of it just if it is reduced. -/
theorem red_self (p : Pr) : red p = p ↔ both p = [] := by
  constructor
  · intro h; rw [← h]; exact red_both p []
  · exact fun h => redBy_end h []

namespace Tr
/-- What a greater tree has at the leaves of one that is part of it. -/
def subs : Tr → Tr → List Tr
  | lf, g => [g]
  | nd l r, nd p q => l.subs p ++ r.subs q
  | nd _ _, lf => []
/-- A tree with others in place of its leaves, and those that are left. -/
def fillR : Tr → List Tr → Tr × List Tr
  | lf, [] => (lf, [])
  | lf, u :: us => (u, us)
  | nd l r, us => (nd (l.fillR us).1 (r.fillR (l.fillR us).2).1, (r.fillR (l.fillR us).2).2)
def fill (t : Tr) (us : List Tr) : Tr := (t.fillR us).1
end Tr

theorem below_length (a : Tr) : ∀ b : Tr, (a.subs (a.join b)).length = a.leaves := by
  induction a with
  | lf => intro b; rfl
  | nd l r ihl ihr =>
    intro b
    cases b with
    | lf =>
      have h1 := ihl .lf
      have h2 := ihr .lf
      rw [leaves_nd]
      have j : ∀ t : Tr, t.join .lf = t := fun t => by cases t <;> rfl
      rw [j] at h1 h2
      show ((Tr.nd l r).subs (.nd l r)).length = _
      simp [Tr.subs, h1, h2]
    | nd p q =>
      rw [leaves_nd]
      simp [Tr.join, Tr.subs, ihl p, ihr q]

theorem join_comm (a : Tr) : ∀ b : Tr, a.join b = b.join a := by
  induction a with
  | lf => intro b; cases b <;> rfl
  | nd l r ihl ihr =>
    intro b
    cases b with
    | lf => rfl
    | nd p q => simp [Tr.join, ihl p, ihr q]

/-- a is part of g, whose texts below a are told. -/
def sumC (us : List Tr) : Nat := (us.map Tr.carets).sum

theorem sumC_cons (u : Tr) (us : List Tr) : sumC (u :: us) = u.carets + sumC us := by simp [sumC]
theorem sumC_append (us vs : List Tr) : sumC (us ++ vs) = sumC us + sumC vs := by simp [sumC]

theorem below_carets (a : Tr) : ∀ g : Tr, a.part g = true → a.carets + sumC (a.subs g) = g.carets ∧ (a.subs g).length = a.leaves := by
  induction a with
  | lf => intro g _; simp [Tr.subs, sumC, Tr.carets, Tr.leaves]
  | nd l r ihl ihr =>
    intro g h
    cases g with
    | lf => simp [Tr.part] at h
    | nd p q =>
      simp [Tr.part] at h
      have h1 := ihl p h.1
      have h2 := ihr q h.2
      rw [leaves_nd]
      simp only [Tr.subs, sumC_append, Tr.carets, List.length_append]
      omega

theorem part_refl (a : Tr) : a.part a = true := by
  induction a with
  | lf => rfl
  | nd l r ihl ihr => simp [Tr.part, ihl, ihr]

theorem part_join (a : Tr) : ∀ b : Tr, a.part (a.join b) = true := by
  induction a with
  | lf => intro b; rfl
  | nd l r ihl ihr =>
    intro b
    cases b with
    | lf => show (Tr.nd l r).part (.nd l r) = true; exact part_refl _
    | nd p q => simp [Tr.join, Tr.part, ihl p, ihr q]
theorem part_join' (a b : Tr) : b.part (a.join b) = true := by rw [join_comm]; exact part_join b a

theorem fillR_carets (t : Tr) : ∀ us : List Tr, t.leaves ≤ us.length → (t.fillR us).1.carets + sumC (t.fillR us).2 = t.carets + sumC us ∧ (t.fillR us).2.length + t.leaves = us.length := by
  induction t with
  | lf =>
    intro us h
    cases us with
    | nil => simp [Tr.leaves] at h
    | cons u us => simp [Tr.fillR, sumC_cons, Tr.carets, Tr.leaves]
  | nd l r ihl ihr =>
    intro us h
    rw [leaves_nd] at *
    have h1 := ihl us (by omega)
    have h2 := ihr (l.fillR us).2 (by omega)
    simp only [Tr.fillR, Tr.carets]
    omega

theorem fill_carets (t : Tr) (us : List Tr) (h : us.length = t.leaves) : (t.fill us).carets = t.carets + sumC us := by
  have h1 := fillR_carets t us (by omega)
  have : (t.fillR us).2 = [] := List.length_eq_zero_iff.1 (by omega)
  rw [this] at h1
  have h2 := h1.1
  show (t.fillR us).1.carets = _
  simp [sumC] at h2 ⊢
  exact h2

/-- The text of a tree with texts in place of its leaves: the texts that are left. -/
def fillL : List UInt8 → List ByteArray → List UInt8
  | [], _ => []
  | c :: r, us => if c = 46 then (us.getD 0 ⟨#[]⟩).data.toList ++ fillL r us.tail else c :: fillL r us

theorem fillL_text (t : Tr) : ∀ (us : List Tr) (q : List UInt8), t.leaves ≤ us.length → fillL (t.text ++ q) (us.map Tr.str) = (t.fillR us).1.text ++ fillL q ((t.fillR us).2.map Tr.str) := by
  induction t with
  | lf =>
    intro us q h
    cases us with
    | nil => simp [Tr.leaves] at h
    | cons u us => simp [Tr.fillR, Tr.text, fillL, Tr.str_list]
  | nd l r ihl ihr =>
    intro us q h
    rw [leaves_nd] at h
    have e : (Tr.nd l r).text ++ q = 40 :: (l.text ++ (r.text ++ (41 :: q))) := by simp [Tr.text]
    have h1 := fillR_carets l us (by omega)
    rw [e, fillL, if_neg (by decide), ihl us _ (by omega), ihr _ _ (by omega), fillL, if_neg (by decide)]
    simp [Tr.fillR, Tr.text]

theorem fill_text (t : Tr) (us : List Tr) (h : us.length = t.leaves) : fillL t.text (us.map Tr.str) = (t.fill us).text := by
  have := fillL_text t us [] (by omega)
  show _ = (t.fillR us).1.text
  simpa [fillL] using this

/-- The product, before it is reduced. -/
def rawP (p q : Pr) : Pr := (p.1.fill (p.2.subs (p.2.join q.1)), q.2.fill (q.1.subs (p.2.join q.1)))
/-- The product. -/
def mulP (p q : Pr) : Pr := red (rawP p q)
def invP (p : Pr) : Pr := (p.2, p.1)
/-- A pair: as many leaves. -/
def okP (p : Pr) : Prop := p.1.carets = p.2.carets

theorem rawP_carets {p q : Pr} (hp : okP p) (hq : okP q) : (rawP p q).1.carets = (p.2.join q.1).carets ∧ (rawP p q).2.carets = (p.2.join q.1).carets := by
  unfold okP at *
  have h1 := below_carets p.2 _ (part_join p.2 q.1)
  have h2 := below_carets q.1 _ (part_join' p.2 q.1)
  have f1 := fill_carets p.1 (p.2.subs (p.2.join q.1)) (by rw [h1.2]; simp [Tr.leaves, hp])
  have f2 := fill_carets q.2 (q.1.subs (p.2.join q.1)) (by rw [h2.2]; simp [Tr.leaves, hq])
  show (p.1.fill _).carets = _ ∧ (q.2.fill _).carets = _
  omega
theorem rawP_ok {p q : Pr} (hp : okP p) (hq : okP q) : okP (rawP p q) := by
  have := rawP_carets hp hq; unfold okP; omega
theorem red_ok {p : Pr} (hp : okP p) (cs : List Int) : okP (redBy p cs) := by
  have := redBy_carets p cs; unfold okP at *; omega
theorem mulP_ok {p q : Pr} (hp : okP p) (hq : okP q) : okP (mulP p q) := red_ok (rawP_ok hp hq) []
theorem mulP_carets {p q : Pr} (hp : okP p) (hq : okP q) : (mulP p q).1.carets ≤ p.2.carets + q.1.carets := by
  have h1 := rawP_carets hp hq
  have h2 := redBy_carets (rawP p q) []
  have h3 := join_carets p.2 q.1
  show (redBy _ _).1.carets ≤ _
  omega
end Go.Proofs.Yteflpaebckichaa

/-! Base -/
namespace Go.Proofs.Yteflpaebckichaa
open Go.RowKit

theorem ret_int {k : IntKind} {a b : Int} (h : a = b) : Ending.returned (.int k a) = .returned (.int k b) := by rw [h]
theorem ret_bool {a b : Bool} (h : a = b) : Ending.returned (.bool a) = .returned (.bool b) := by rw [h]
theorem ret_str {a b : ByteArray} (h : a = b) : Ending.returned (.string a) = .returned (.string b) := by rw [h]

theorem i64_bounds {n : Int} (h : (Lit.int .i64 n).wf = true) : -9223372036854775808 ≤ n ∧ n ≤ 9223372036854775807 := by
  simpa [Lit.wf, IntKind.min, IntKind.max, IntKind.signed, IntKind.bits] using h

theorem nx {w w1 w2 : World} (h : Below w.heap.size w w1) (k : Below w1.heap.size w1 w2) : Below w.heap.size w w2 := h.trans (k.mono h.size)
theorem nxAlloc {w w1 : World} (h : Below w.heap.size w w1) (o : Obj) : Below w.heap.size w (w1.alloc o) := nx h ((Below.refl _ _).alloc (Nat.le_refl _) o)

theorem drewB {w w1 : World} (h : Below w.heap.size w w1) (n : Nat) : Below w.heap.size w (w1.drewN n) := ⟨h.os, h.tape, h.output, h.size, h.block⟩

/-- Calls that hand back a value and leave what was there. -/
def Gives (v : Value) (w : World) (e : Ending) (w' : World) : Prop := e = .returned v ∧ Below w.heap.size w w'

end Go.Proofs.Yteflpaebckichaa

/-! Row -/
namespace Go.Proofs.Yteflpaebckichaa
open Go.RowKit

theorem info_int : (Try.prog.info? 3).map (fun i => (i.zero, i.size, i.bytes)) = some (some (.int .i64 0), 1, 8) := by kernel_rfl

/-- v is a slice of the integers xs, in a block from base on that the call has made. -/
def OwnI (base : Nat) (w : World) (v : Value) (xs : List Int) : Prop := w.ownsRow base 3 1 v xs.length (xs.map (Value.int .i64))

theorem ownsRow_keep {w w' : World} {base : Nat} {e : TypeId} {size : Nat} {v : Value} {n : Nat} {xs : List Value} (h : w.ownsRow base e size v n xs) (hb : Below w.heap.size w w') : w'.ownsRow base e size v n xs := by
  obtain ⟨h1, h2⟩ := h
  refine ⟨h1, ?_⟩
  rcases h2 with h2 | ⟨g, cap, cur, hv, hg, hh, r⟩
  · exact .inl h2
  · exact .inr ⟨g, cap, cur, hv, hg, (hb.block g (lt_of_block hh)).trans hh, r⟩

theorem OwnI.keep {base : Nat} {w w' : World} {v : Value} {xs : List Int} (h : OwnI base w v xs) (hb : Below w.heap.size w w') : OwnI base w' v xs := ownsRow_keep h hb

theorem OwnI.nil (base : Nat) (w : World) : OwnI base w (.slice none 0 0) [] := World.ownsRow_nil _ _ _ _

/-- What can be read of such a slice. -/
def CellsI (base : Nat) (w : World) (v : Value) (xs : List Int) : Prop :=
  (v = .slice none 0 0 ∧ xs = []) ∨ ∃ g cap : Nat, v = .slice (some ⟨g, 0, none⟩) xs.length cap ∧ base ≤ g ∧ g < w.heap.size ∧ xs.length ≤ cap ∧ cap ≤ maxLen ∧
    (∀ i, i < xs.length → w.cell? ⟨g, i, none⟩ = some (.int .i64 (xs.getD i 0))) ∧ ∀ i, w.frozen? ⟨g, i, none⟩ = false

theorem OwnI.cells {base : Nat} {w : World} {v : Value} {xs : List Int} (h : OwnI base w v xs) : CellsI base w v xs := by
  have h0 := h
  obtain ⟨h1, h2⟩ := h
  rcases h2 with ⟨hv, hn⟩ | ⟨g, cap, cur, hv, hg, hh, r1, r2, r3⟩
  · exact .inl ⟨hv, List.length_eq_zero_iff.1 hn⟩
  · subst hv
    refine .inr ⟨g, cap, rfl, hg, lt_of_block hh, r1, r2, fun i hi => ?_, fun i => World.ownsRow.frozenAt h0 i⟩
    have := World.ownsRow.cellAt h0 i (by omega)
    rw [this]
    simp [List.getElem?_eq_getElem hi]

/-! What an append of one integer to such a slice asks and leaves. -/
theorem new1 (w : World) (v : Value) (e : TypeId) : ∀ (j : Nat) (u : Value), [v][j]? = some u → (w.alloc (.cells #[v] e)).cell? ((⟨w.heap.size, 0, none⟩ : Addr).add j) = some u := by
  intro j u hj
  match j, hj with
  | 0, hj => simp at hj; subst hj; simp [Addr.add]
  | j + 1, hj => simp at hj
theorem one1 (m : Int) : ∀ u ∈ [Value.int .i64 m], u.oneCell' = true := by intro u hu; simp at hu; subst hu; rfl
theorem size_al {w w1 : World} (h : Below w.heap.size w w1) (o : Obj) : w.heap.size ≤ (w1.alloc o).heap.size := by have := h.size; simp; omega

theorem ownsRow_ge {w : World} {base : Nat} {e : TypeId} {size : Nat} {v : Value} {n : Nat} {xs : List Value} (h : w.ownsRow base e size v n xs) : ∀ k, v.ownBlock = some k → base ≤ k := by
  intro k hk
  rcases h.2 with ⟨hv, _⟩ | ⟨g, cap, cur, hv, hg, _⟩
  · subst hv; simp [Value.ownBlock] at hk
  · subst hv; simp [Value.ownBlock] at hk; omega

theorem OwnI.snoc {base : Nat} {w : World} {v : Value} {xs : List Int} {m : Int} (h : w.ownsRow base 3 1 v (xs.length + 1) (xs.map (Value.int .i64) ++ [Value.int .i64 m])) : OwnI base w v (xs ++ [m]) := by
  unfold OwnI; rw [List.length_append, List.map_append]; exact h

theorem below_app {w wr w1 : World} {base : Nat} {e e2 : TypeId} {size : Nat} {v u : Value} {n : Nat} {xs : List Value} (h : Below w.heap.size w wr) (hown : wr.ownsRow base e size v n xs) (hbase : w.heap.size ≤ base)
    (hg : (wr.alloc (.cells #[u] e2)).grownBy w1 v.ownBlock) : Below w.heap.size w w1 :=
  (nxAlloc h (.cells #[u] e2)).grown hg (size_al h _) (fun k hk => Nat.le_trans hbase (ownsRow_ge hown k hk))

/-- A call that hands back a slice of integers of its own. -/
def GivesInts (xs : List Int) (w : World) (e : Ending) (w' : World) : Prop :=
  ∃ v, OwnI w.heap.size w' v xs ∧ Below w.heap.size w w' ∧ e = .returned v

/-- An answer of a slice of the call's own and a bool. -/
def AnsI2 (xs : List Int) (ok : Bool) (w : World) (e : Ending) (w' : World) : Prop :=
  ∃ v, OwnI w.heap.size w' v xs ∧ Below w.heap.size w w' ∧ e = .returned (.tuple #[v, .bool ok])
def AnsIs (o : Option (List Int)) (w : World) (e : Ending) (w' : World) : Prop := AnsI2 (o.getD []) o.isSome w e w'

end Go.Proofs.Yteflpaebckichaa

/-! RowS -/
namespace Go.Proofs.Yteflpaebckichaa
open Go.RowKit

theorem info_str : (Try.prog.info? 9).map (fun i => (i.zero, i.size, i.bytes)) = some (some (.string ⟨#[]⟩), 1, 16) := by kernel_rfl

/-- v is a slice of the texts ss, in a block from base on that the call has made. -/
def OwnS (base : Nat) (w : World) (v : Value) (ss : List ByteArray) : Prop := w.ownsRow base 9 1 v ss.length (ss.map Value.string)

theorem OwnS.keep {base : Nat} {w w' : World} {v : Value} {ss : List ByteArray} (h : OwnS base w v ss) (hb : Below w.heap.size w w') : OwnS base w' v ss := ownsRow_keep h hb
theorem OwnS.nil (base : Nat) (w : World) : OwnS base w (.slice none 0 0) [] := World.ownsRow_nil _ _ _ _

theorem ownsRow_mono {w : World} {base base' : Nat} {e : TypeId} {size : Nat} {v : Value} {n : Nat} {xs : List Value} (h : w.ownsRow base e size v n xs) (hb : base' ≤ base) : w.ownsRow base' e size v n xs := by
  obtain ⟨h1, h2⟩ := h
  refine ⟨h1, ?_⟩
  rcases h2 with h2 | ⟨g, cap, cur, hv, hg, r⟩
  · exact .inl h2
  · exact .inr ⟨g, cap, cur, hv, Nat.le_trans hb hg, r⟩
theorem OwnS.mono {base base' : Nat} {w : World} {v : Value} {ss : List ByteArray} (h : OwnS base w v ss) (hb : base' ≤ base) : OwnS base' w v ss := ownsRow_mono h hb
theorem OwnI.mono {base base' : Nat} {w : World} {v : Value} {xs : List Int} (h : OwnI base w v xs) (hb : base' ≤ base) : OwnI base' w v xs := ownsRow_mono h hb

/-- What can be read of such a slice. -/
def CellsS (base : Nat) (w : World) (v : Value) (ss : List ByteArray) : Prop :=
  (v = .slice none 0 0 ∧ ss = []) ∨ ∃ g cap : Nat, v = .slice (some ⟨g, 0, none⟩) ss.length cap ∧ base ≤ g ∧ g < w.heap.size ∧ ss.length ≤ cap ∧ cap ≤ maxLen ∧
    (∀ i, i < ss.length → w.cell? ⟨g, i, none⟩ = some (.string (ss.getD i ⟨#[]⟩))) ∧ ∀ i, w.frozen? ⟨g, i, none⟩ = false

theorem OwnS.cells {base : Nat} {w : World} {v : Value} {ss : List ByteArray} (h : OwnS base w v ss) : CellsS base w v ss := by
  have h0 := h
  obtain ⟨h1, h2⟩ := h
  rcases h2 with ⟨hv, hn⟩ | ⟨g, cap, cur, hv, hg, hh, r1, r2, r3⟩
  · exact .inl ⟨hv, List.length_eq_zero_iff.1 hn⟩
  · subst hv
    refine .inr ⟨g, cap, rfl, hg, lt_of_block hh, r1, r2, fun i hi => ?_, fun i => World.ownsRow.frozenAt h0 i⟩
    have := World.ownsRow.cellAt h0 i (by omega)
    rw [this]
    simp [List.getElem?_eq_getElem hi]

theorem OwnS.shape {base : Nat} {w : World} {v : Value} {ss : List ByteArray} (h : OwnS base w v ss) (hn : 0 < ss.length) : ∃ g cap, v = .slice (some ⟨g, 0, none⟩) ss.length cap := by
  rcases h.2 with ⟨_, h2⟩ | ⟨g, cap, cur, hv, _⟩
  · omega
  · exact ⟨g, cap, hv⟩

/-- One text in a new block. -/
theorem OwnS.one (w : World) (s : ByteArray) : OwnS w.heap.size (w.alloc (.cells #[.string s] 9 (0, 0))) (.slice (some ⟨w.heap.size, 0, none⟩) 1 1) [s] := by
  refine ⟨rfl, .inr ⟨w.heap.size, 1, #[.string s], rfl, Nat.le_refl _, ?_, Nat.le_refl _, by unfold maxLen; omega, rfl, rfl⟩⟩
  show (w.heap.push _)[w.heap.size]? = _
  simp

theorem addr_add (g j : Nat) : (⟨g, 0, none⟩ : Addr).add j = ⟨g, j, none⟩ := by
  unfold Addr.add
  split
  · next h => rw [h]
  · simp

theorem OwnS.news {base : Nat} {w : World} {g cap n : Nat} {ss : List ByteArray} (h : OwnS base w (.slice (some ⟨g, 0, none⟩) n cap) ss) (hn : ss.length = n) :
    ∀ (j : Nat) (u : Value), (ss.map Value.string)[j]? = some u → w.cell? ((⟨g, 0, none⟩ : Addr).add j) = some u := by
  intro j u hj
  subst hn
  have hlt : j < ss.length := by
    rcases Nat.lt_or_ge j ss.length with h | h
    · exact h
    · rw [List.getElem?_eq_none (by simpa using h)] at hj; simp at hj
  have := World.ownsRow.cellAt h j (by omega)
  rw [addr_add, this, hj]
theorem oneS (ss : List ByteArray) : ∀ u ∈ ss.map Value.string, u.oneCell' = true := by
  intro u hu
  rw [List.mem_map] at hu
  obtain ⟨s, _, rfl⟩ := hu
  rfl
theorem OwnS.app {base : Nat} {w : World} {v : Value} {A B : List ByteArray} (h : w.ownsRow base 9 1 v (A.length + B.length) (A.map Value.string ++ B.map Value.string)) : OwnS base w v (A ++ B) := by
  unfold OwnS; rw [List.length_append, List.map_append]; exact h

theorem below_app0 {w wr w1 : World} {base : Nat} {e : TypeId} {size : Nat} {v : Value} {n : Nat} {xs : List Value} (h : Below w.heap.size w wr) (hown : wr.ownsRow base e size v n xs) (hbase : w.heap.size ≤ base)
    (hg : wr.grownBy w1 v.ownBlock) : Below w.heap.size w w1 :=
  h.grown hg h.size (fun k hk => Nat.le_trans hbase (ownsRow_ge hown k hk))

/-- A call that hands back a slice of texts of its own, not empty. -/
def GivesTexts (ss : List ByteArray) (w : World) (e : Ending) (w' : World) : Prop :=
  ∃ g cap : Nat, OwnS w.heap.size w' (.slice (some ⟨g, 0, none⟩) ss.length cap) ss ∧ Below w.heap.size w w' ∧ e = .returned (.slice (some ⟨g, 0, none⟩) ss.length cap)

/-- An answer of a slice of texts of the call's own and a bool. -/
def AnsS2 (ss : List ByteArray) (ok : Bool) (w : World) (e : Ending) (w' : World) : Prop :=
  ∃ v, OwnS w.heap.size w' v ss ∧ Below w.heap.size w w' ∧ e = .returned (.tuple #[v, .bool ok])
def AnsSs (o : Option (List ByteArray)) (w : World) (e : Ending) (w' : World) : Prop := AnsS2 (o.getD []) o.isSome w e w'
end Go.Proofs.Yteflpaebckichaa

/-! MpQ -/
namespace Go.Proofs.Yteflpaebckichaa
open Go.RowKit Go.Maps

theorem laid_pr : laidOutB Try.prog = true := by kernel_rfl
theorem wide_pr : (match Try.prog.underlying 27 with | some (.array _ _) | some (.struct _) => true | _ => false) = true := by kernel_rfl
set_option maxRecDepth 100000 in
theorem law_pr : Keyed Try.prog 27 := Keyed.of_law (deep_law_laid laid_pr (m := 5) (by decide) (of_decide_eq_true (by kernel_rfl)) (by kernel_rfl) wide_pr)
theorem type_pr : Try.prog.keyType 27 = true := by kernel_rfl
theorem cells_pr : Try.prog.cellsOf 27 = 2 := by kernel_rfl
theorem cells_st : Try.prog.cellsOf 9 = 1 := by kernel_rfl
theorem size_pr : ∃ m, Try.prog.types.size = m + 1 := ⟨Try.prog.types.size - 1, by kernel_rfl⟩
theorem key_pr0 {a b : ByteArray} (ha : a.size ≤ maxLen) (hb : b.size ≤ maxLen) : keyOf Try.prog 27 (.agg #[.string a, .string b]) = some (.string (keyBytes [.string a.data.toList, .string b.data.toList])) := by
  obtain ⟨m, hm⟩ := size_pr
  unfold keyOf
  simp only [Try.underlying27]
  rw [if_pos (by simp [type_pr, Value.formed, Try.underlying27, cells_pr]), hm]
  unfold Program.keyLits
  simp only [Try.underlying27, Value.cells]
  simp [cells_pr, cells_st, Program.keyLits, Try.underlying9, ha, hb]
set_option maxRecDepth 100000 in
theorem lits_st {n : Nat} {c : Value} {l : List Lit} (h : Try.prog.keyLits n 9 [c] = some l) : ∃ s, c = .string s := by
  cases n with
  | zero => simp [Program.keyLits] at h
  | succ n =>
    unfold Program.keyLits at h
    simp only [Try.underlying9] at h
    cases c <;> simp at h
    exact ⟨_, rfl⟩
set_option maxRecDepth 100000 in
theorem key_inv_pr : ∀ key kl, keyOf Try.prog 27 key = some kl → ∃ x : ByteArray × ByteArray, key = .agg #[.string x.1, .string x.2] := by
  intro key kl h
  obtain ⟨m, hm⟩ := size_pr
  unfold keyOf at h
  simp only [Try.underlying27] at h
  split at h
  · next hf =>
    simp only [Bool.and_eq_true] at hf
    have hf2 := hf.2
    cases key <;> simp [Value.formed, Try.underlying27] at hf2
    rename_i cs
    rw [cells_pr] at hf2
    rw [hm] at h
    obtain ⟨c, d, rfl⟩ : ∃ c d, cs = #[c, d] := by
      match cs, hf2 with
      | ⟨[c, d]⟩, _ => exact ⟨c, d, rfl⟩
    unfold Program.keyLits at h
    simp only [Try.underlying27, Value.cells] at h
    simp [cells_pr, cells_st] at h
    cases h1 : Try.prog.keyLits (m + 1) 9 [c] with
    | none => rw [h1] at h; simp at h
    | some l1 =>
      cases h2 : Try.prog.keyLits (m + 1) 9 [d] with
      | none => rw [h1, h2] at h; simp at h
      | some l2 =>
        obtain ⟨x, rfl⟩ := lits_st h1
        obtain ⟨y, rfl⟩ := lits_st h2
        exact ⟨(x, y), rfl⟩
  · cases h

/-- What a pair reads as, as a key. -/
def litP (p : Pr) : Lit := .string (keyBytes [.string p.1.str.data.toList, .string p.2.str.data.toList])
theorem key_pair {p : Pr} (h1 : p.1.carets ≤ 1000) (h2 : p.2.carets ≤ 1000) : keyOf Try.prog 27 (.agg #[.string p.1.str, .string p.2.str]) = some (litP p) := by
  have := p.1.str_size
  have := p.2.str_size
  exact key_pr0 (by unfold maxLen; omega) (by unfold maxLen; omega)
theorem tr_str_inj {t u : Tr} (h : t.str = u.str) : t = u := (Tr.text_inj (r := []) (q := []) (by have := congrArg (fun b : ByteArray => b.data.toList) h; simpa [Tr.str] using this)).1
theorem litP_inj {p q : Pr} (hp1 : p.1.carets ≤ 1000) (hp2 : p.2.carets ≤ 1000) (hq1 : q.1.carets ≤ 1000) (hq2 : q.2.carets ≤ 1000) (h : litP p = litP q) : p = q := by
  have e := law_pr.inj (key_pair hp1 hp2) (h ▸ key_pair hq1 hq2)
  simp only [Value.agg.injEq, Array.mk.injEq, List.cons.injEq, Value.string.injEq, and_true] at e
  exact Prod.ext (tr_str_inj e.1) (tr_str_inj e.2)
def setP (S : Pr → Prop) (x : Lit) : Prop := ∃ p, (p.1.carets ≤ 1000 ∧ p.2.carets ≤ 1000 ∧ S p) ∧ x = litP p
theorem setP_iff {S : Pr → Prop} {p : Pr} (h1 : p.1.carets ≤ 1000) (h2 : p.2.carets ≤ 1000) : setP S (litP p) ↔ S p :=
  ⟨fun ⟨q, ⟨a, b, hq⟩, e⟩ => by rw [litP_inj h1 h2 a b e]; exact hq, fun h => ⟨p, ⟨h1, h2, h⟩, rfl⟩⟩
/-- A map of pairs. -/
def SetP (w : World) (b n : Nat) (S : Pr → Prop) : Prop := SetM Try.prog 27 4 w b n (setP S)
theorem SetP.congr {w : World} {b n : Nat} {S T : Pr → Prop} (h : SetP w b n S) (hT : ∀ p, p.1.carets ≤ 1000 → p.2.carets ≤ 1000 → (S p ↔ T p)) : SetP w b n T :=
  SetM.congr h fun _ => ⟨fun ⟨p, ⟨a, b, hp⟩, e⟩ => ⟨p, ⟨a, b, (hT p a b).1 hp⟩, e⟩, fun ⟨p, ⟨a, b, hp⟩, e⟩ => ⟨p, ⟨a, b, (hT p a b).2 hp⟩, e⟩⟩
theorem SetP.tight {w : World} {b n : Nat} {S : Pr → Prop} (h : SetP w b n S) {L : List Pr} (hL : ∀ p, S p → p ∈ L) : SetP w b L.length S := by
  have h1 := SetM.tight h law_pr (L := L.map litP) (by rintro x ⟨p, ⟨_, _, hp⟩, rfl⟩; exact List.mem_map_of_mem (hL p hp))
  rwa [List.length_map] at h1
theorem zero_bool9 (w : World) : (zeroValue 4).run Try.prog w = .ok (.bool false) w := by kernel_rfl
end Go.Proofs.Yteflpaebckichaa

/-! EqP -/
namespace Go.Proofs.Yteflpaebckichaa

theorem red_first0 {p : Pr} (hl : 0 < (both p).length) : red p = red (dropP p ((both p).getD 0 0)) := by
  cases h : both p with
  | nil => rw [h] at hl; simp at hl
  | cons n ns =>
    have := redBy_step h []
    exact this
theorem mem_nd {x y : Tr} {n : Int} (h : ¬ (x = .lf ∧ y = .lf)) : n ∈ (Tr.nd x y).exps 0 ↔ n ∈ x.exps 0 ∨ n - x.leaves ∈ y.exps 0 := by
  have hb : (x.isLf && y.isLf) = false := by
    rw [Bool.eq_false_iff]
    exact fun e => h (both_lf e)
  rw [Tr.exps, hb]
  simp only [Bool.false_eq_true, if_false, List.nil_append, List.mem_append, Int.zero_add]
  rw [exps_shift_mem y]
theorem exps_ne {x : Tr} {n : Int} (h : n ∈ x.exps 0) : x ≠ .lf := by
  intro e
  rw [e] at h
  simp [Tr.exps] at h
theorem mem_left {x y : Tr} {n : Int} (h : n ∈ x.exps 0) : n ∈ (Tr.nd x y).exps 0 := (mem_nd (fun e => exps_ne h e.1)).2 (.inl h)
theorem mem_right {x y : Tr} {n : Int} (h : n - x.leaves ∈ y.exps 0) : n ∈ (Tr.nd x y).exps 0 := (mem_nd (fun e => exps_ne h e.2)).2 (.inr h)
theorem drop_left {x y : Tr} {n : Int} (h : n ∈ x.exps 0) : (Tr.nd x y).dropAt n = .nd (x.dropAt n) y := by
  have hb : (x.isLf && y.isLf) = false := by
    rw [Bool.eq_false_iff]
    exact fun e => exps_ne h (both_lf e).1
  have := exps_range x 0 n h
  rw [Tr.dropAt, hb, if_neg (by simp), if_pos (by omega)]
theorem drop_right {x y : Tr} {n : Int} (h : n - x.leaves ∈ y.exps 0) : (Tr.nd x y).dropAt n = .nd x (y.dropAt (n - x.leaves)) := by
  have hb : (x.isLf && y.isLf) = false := by
    rw [Bool.eq_false_iff]
    exact fun e => exps_ne h (both_lf e).2
  have := exps_range y 0 _ h
  rw [Tr.dropAt, hb, if_neg (by simp), if_neg (by omega)]
theorem mem_cases {x y : Tr} {n : Int} (h : n ∈ (Tr.nd x y).exps 0) : (x = .lf ∧ y = .lf ∧ n = 0) ∨ n ∈ x.exps 0 ∨ n - x.leaves ∈ y.exps 0 := by
  by_cases e : x = .lf ∧ y = .lf
  · obtain ⟨rfl, rfl⟩ := e
    simp [Tr.exps, Tr.isLf] at h
    exact .inl ⟨rfl, rfl, h⟩
  · exact .inr ((mem_nd e).1 h)
theorem drop_leaves {t : Tr} {n : Int} (h : n ∈ t.exps 0) : ((t.dropAt n).leaves : Int) = t.leaves - 1 := by
  have := dropAt_carets t n h
  unfold Tr.leaves
  omega

/-- Two exposed carets are dropped in either order. -/
theorem drop_two (t : Tr) : ∀ n m : Int, n ∈ t.exps 0 → m ∈ t.exps 0 → n < m →
    n ∈ (t.dropAt m).exps 0 ∧ m - 1 ∈ (t.dropAt n).exps 0 ∧ (t.dropAt m).dropAt n = (t.dropAt n).dropAt (m - 1) := by
  induction t with
  | lf => intro n m h; simp [Tr.exps] at h
  | nd x y ihx ihy =>
    intro n m hn hm hlt
    rcases mem_cases hn with ⟨rfl, rfl, rfl⟩ | hn | hn
    · rcases mem_cases hm with ⟨_, _, rfl⟩ | hm | hm
      · omega
      · simp [Tr.exps] at hm
      · simp [Tr.exps] at hm
    · rcases mem_cases hm with ⟨rfl, _, _⟩ | hm | hm
      · exact absurd rfl (exps_ne hn)
      · obtain ⟨h1, h2, h3⟩ := ihx n m hn hm hlt
        rw [drop_left hm, drop_left hn, drop_left h1, drop_left h2, h3]
        exact ⟨mem_left h1, mem_left h2, rfl⟩
      · have hl := drop_leaves hn
        have hr : m - 1 - ((x.dropAt n).leaves : Int) = m - x.leaves := by omega
        rw [drop_right hm, drop_left hn, drop_left hn, drop_right (by rw [hr]; exact hm), hr]
        exact ⟨mem_left hn, mem_right (by rw [hr]; exact hm), rfl⟩
    · rcases mem_cases hm with ⟨_, rfl, _⟩ | hm | hm
      · exact absurd rfl (exps_ne hn)
      · have h1 := exps_range x 0 m hm
        have h2 := exps_range y 0 _ hn
        omega
      · obtain ⟨h1, h2, h3⟩ := ihy _ _ hn hm (by omega)
        have e : m - 1 - (x.leaves : Int) = m - x.leaves - 1 := by omega
        rw [drop_right hm, drop_right hn, drop_right h1, drop_right (by rw [e]; exact h2), e, h3]
        exact ⟨mem_right h1, mem_right (by rw [e]; exact h2), rfl⟩

theorem both_two {p : Pr} {n m : Int} (hn : n ∈ both p) (hm : m ∈ both p) (h : n < m) :
    n ∈ both (dropP p m) ∧ m - 1 ∈ both (dropP p n) ∧ dropP (dropP p m) n = dropP (dropP p n) (m - 1) := by
  rw [mem_both] at hn hm
  obtain ⟨a1, a2, a3⟩ := drop_two p.1 n m hn.1 hm.1 h
  obtain ⟨b1, b2, b3⟩ := drop_two p.2 n m hn.2 hm.2 h
  exact ⟨mem_both.2 ⟨a1, b1⟩, mem_both.2 ⟨a2, b2⟩, by unfold dropP; dsimp only; rw [a3, b3]⟩

/-- Whatever is dropped first, the same reduced pair is left. -/
theorem red_drop : ∀ (k : Nat) (p : Pr), p.1.carets = k → ∀ n, n ∈ both p → red (dropP p n) = red p := by
  intro k
  induction k using Nat.strongRecOn with
  | _ k ih =>
    intro p hk n hn
    have hl : 0 < (both p).length := List.length_pos_of_mem hn
    have h0 := red_first0 hl
    have hm : (both p).getD 0 0 ∈ both p := by
      cases hb : both p with
      | nil => rw [hb] at hl; simp at hl
      | cons a l => simp
    generalize (both p).getD 0 0 = m at h0 hm
    rw [h0]
    have c1 := dropP_carets hn
    have c2 := dropP_carets hm
    rcases Int.lt_trichotomy n m with h | h | h
    · obtain ⟨h1, h2, h3⟩ := both_two hn hm h
      rw [← ih (dropP p m).1.carets (by omega) _ rfl n h1, ← ih (dropP p n).1.carets (by omega) _ rfl (m - 1) h2, h3]
    · rw [h]
    · obtain ⟨h1, h2, h3⟩ := both_two hm hn h
      rw [← ih (dropP p n).1.carets (by omega) _ rfl m h1, ← ih (dropP p m).1.carets (by omega) _ rfl (n - 1) h2, h3]

theorem fillR_app (t : Tr) : ∀ us vs : List Tr, us.length = t.leaves → t.fillR (us ++ vs) = (t.fill us, vs) := by
  induction t with
  | lf =>
    intro us vs h
    match us, h with
    | [u], _ => rfl
    | [], h => simp [Tr.leaves] at h
    | _ :: _ :: _, h => simp [Tr.leaves, Tr.carets] at h
  | nd l r ihl ihr =>
    intro us vs h
    rw [leaves_nd] at h
    have hA : (us.take l.leaves).length = l.leaves := by rw [List.length_take]; omega
    have hB : (us.drop l.leaves).length = r.leaves := by rw [List.length_drop]; omega
    have e := List.take_append_drop l.leaves us
    generalize us.take l.leaves = A at *
    generalize us.drop l.leaves = B at *
    subst e
    have h1 := ihl A (B ++ vs) hA
    have h2 := ihr B vs hB
    have h3 := ihl A B hA
    have h4 := ihr B [] hB
    rw [List.append_nil] at h4
    have e : Tr.fill (.nd l r) (A ++ B) = .nd (l.fill A) (r.fill B) := by
      show Tr.nd (l.fillR (A ++ B)).1 (r.fillR (l.fillR (A ++ B)).2).1 = _
      rw [h3, h4]
    rw [e, Tr.fillR, List.append_assoc, h1, h2]
theorem fill_nd {l r : Tr} {A B : List Tr} (hA : A.length = l.leaves) (hB : B.length = r.leaves) : Tr.fill (.nd l r) (A ++ B) = .nd (l.fill A) (r.fill B) := by
  have h3 := fillR_app l A B hA
  have h4 := fillR_app r B [] hB
  rw [List.append_nil] at h4
  show Tr.nd (l.fillR (A ++ B)).1 (r.fillR (l.fillR (A ++ B)).2).1 = _
  rw [h3, h4]
theorem fill_lf (u : Tr) : Tr.fill .lf [u] = u := rfl
/-- Leaves of a list of trees. -/
def sumL (us : List Tr) : Nat := (us.map Tr.leaves).sum
theorem sumL_cons (u : Tr) (us : List Tr) : sumL (u :: us) = u.leaves + sumL us := by simp [sumL]
theorem sumL_append (us vs : List Tr) : sumL (us ++ vs) = sumL us + sumL vs := by simp [sumL]
theorem sumL_eq (us : List Tr) : sumL us = sumC us + us.length := by
  induction us with
  | nil => rfl
  | cons u us ih => rw [sumL_cons, sumC_cons, ih, List.length_cons]; unfold Tr.leaves; omega
theorem fill_leaves {t : Tr} {us : List Tr} (h : us.length = t.leaves) : (t.fill us).leaves = sumL us := by
  rw [sumL_eq, h]
  unfold Tr.leaves
  rw [fill_carets t us h]
  omega
/-- The list of a caret's leaves, parted. -/
theorem partsT {l r : Tr} {us : List Tr} (h : us.length = (Tr.nd l r).leaves) : ∃ A B, us = A ++ B ∧ A.length = l.leaves ∧ B.length = r.leaves := by
  rw [leaves_nd] at h
  exact ⟨us.take l.leaves, us.drop l.leaves, (List.take_append_drop _ _).symm, by rw [List.length_take]; omega, by rw [List.length_drop]; omega⟩

/-- An exposed caret that was filled in. -/
theorem fill_drop (t : Tr) : ∀ (ps : List Tr) (u : Tr) (bs : List Tr) (m : Int), (ps ++ u :: bs).length = t.leaves → m ∈ u.exps 0 →
    ((sumL ps : Int) + m) ∈ (t.fill (ps ++ u :: bs)).exps 0 ∧ (t.fill (ps ++ u :: bs)).dropAt ((sumL ps : Int) + m) = t.fill (ps ++ u.dropAt m :: bs) := by
  induction t with
  | lf =>
    intro ps u bs m h hm
    match ps, bs, h with
    | [], [], _ =>
      have e : ((sumL [] : Nat) : Int) + m = m := by simp [sumL]
      rw [e]
      exact ⟨hm, rfl⟩
    | [], _ :: _, h => simp [Tr.leaves, Tr.carets] at h
    | _ :: _, _, h => simp [Tr.leaves, Tr.carets] at h
  | nd l r ihl ihr =>
    intro ps u bs m h hm
    rw [leaves_nd, List.length_append, List.length_cons] at h
    by_cases hlt : ps.length < l.leaves
    · have hb1 : (bs.take (l.leaves - ps.length - 1)).length = l.leaves - ps.length - 1 := by rw [List.length_take]; omega
      have hb2 : (bs.drop (l.leaves - ps.length - 1)).length = r.leaves := by rw [List.length_drop]; omega
      have e := List.take_append_drop (l.leaves - ps.length - 1) bs
      generalize bs.take (l.leaves - ps.length - 1) = b1 at *
      generalize bs.drop (l.leaves - ps.length - 1) = b2 at *
      subst e
      have hA : ∀ v : Tr, (ps ++ v :: b1).length = l.leaves := by intro v; rw [List.length_append, List.length_cons]; omega
      have ee : ∀ v : Tr, ps ++ v :: (b1 ++ b2) = (ps ++ v :: b1) ++ b2 := by intro v; simp
      obtain ⟨h1, h2⟩ := ihl ps u b1 m (hA u) hm
      rw [ee, ee, fill_nd (hA _) hb2, fill_nd (hA _) hb2, drop_left h1, h2]
      exact ⟨mem_left h1, rfl⟩
    · have ha1 : (ps.take l.leaves).length = l.leaves := by rw [List.length_take]; omega
      have ha2 : (ps.drop l.leaves).length + l.leaves = ps.length := by rw [List.length_drop]; omega
      have e := List.take_append_drop l.leaves ps
      generalize ps.take l.leaves = a1 at *
      generalize ps.drop l.leaves = a2 at *
      subst e
      have hB : ∀ v : Tr, (a2 ++ v :: bs).length = r.leaves := by intro v; rw [List.length_append, List.length_cons]; omega
      have ee : ∀ v : Tr, a1 ++ a2 ++ v :: bs = a1 ++ (a2 ++ v :: bs) := by intro v; simp
      obtain ⟨h1, h2⟩ := ihr a2 u bs m (hB u) hm
      have hl := fill_leaves ha1
      have es : ((sumL (a1 ++ a2) : Nat) : Int) + m - ((l.fill a1).leaves : Int) = (sumL a2 : Int) + m := by rw [sumL_append, hl]; omega
      rw [ee, ee, fill_nd ha1 (hB _), fill_nd ha1 (hB _), drop_right (by rw [es]; exact h1), es, h2]
      exact ⟨mem_right (by rw [es]; exact h1), rfl⟩

theorem ex_exps (t : Tr) : 0 < t.carets → ∃ m, m ∈ t.exps 0 := by
  induction t with
  | lf => intro h; simp [Tr.carets] at h
  | nd x y ihx ihy =>
    intro _
    by_cases hx : 0 < x.carets
    · obtain ⟨m, hm⟩ := ihx hx
      exact ⟨m, mem_left hm⟩
    · by_cases hy : 0 < y.carets
      · obtain ⟨m, hm⟩ := ihy hy
        exact ⟨m + x.leaves, mem_right (by rw [show m + (x.leaves : Int) - x.leaves = m by omega]; exact hm)⟩
      · have e1 : x = .lf := by cases x with
          | lf => rfl
          | nd _ _ => simp [Tr.carets] at hx
        have e2 : y = .lf := by cases y with
          | lf => rfl
          | nd _ _ => simp [Tr.carets] at hy
        subst e1; subst e2
        exact ⟨0, by simp [Tr.exps, Tr.isLf]⟩
theorem fill_lfs (t : Tr) : t.fill (List.replicate t.leaves .lf) = t := by
  induction t with
  | lf => rfl
  | nd l r ihl ihr => rw [leaves_nd, ← List.replicate_append_replicate, fill_nd (by simp) (by simp), ihl, ihr]
theorem all_lf (us : List Tr) (h : sumC us = 0) : us = List.replicate us.length .lf := by
  induction us with
  | nil => rfl
  | cons u us ih =>
    rw [sumC_cons] at h
    rw [List.length_cons, List.replicate_succ, ← ih (by omega)]
    cases u with
    | lf => rfl
    | nd _ _ => simp [Tr.carets] at h
theorem ex_caret (us : List Tr) : 0 < sumC us → ∃ ps u bs, us = ps ++ u :: bs ∧ 0 < u.carets := by
  induction us with
  | nil => intro h; simp [sumC] at h
  | cons u us ih =>
    intro h
    by_cases hu : 0 < u.carets
    · exact ⟨[], u, us, rfl, hu⟩
    · rw [sumC_cons] at h
      obtain ⟨ps, v, bs, rfl, hv⟩ := ih (by omega)
      exact ⟨u :: ps, v, bs, rfl, hv⟩
/-- A pair with trees at its leaves. -/
def expE (p : Pr) (us : List Tr) : Pr := (p.1.fill us, p.2.fill us)
theorem red_expE {p : Pr} (hp : okP p) : ∀ (k : Nat) (us : List Tr), sumC us = k → us.length = p.1.leaves → red (expE p us) = red p := by
  have hq : p.1.leaves = p.2.leaves := by unfold okP at hp; unfold Tr.leaves; omega
  intro k
  induction k with
  | zero =>
    intro us h hl
    have e := all_lf us h
    rw [hl] at e
    have : expE p us = p := by
      unfold expE
      rw [e, fill_lfs, hq, fill_lfs]
    rw [this]
  | succ k ih =>
    intro us h hl
    obtain ⟨ps, u, bs, rfl, hu⟩ := ex_caret us (by omega)
    obtain ⟨m, hm⟩ := ex_exps u hu
    obtain ⟨a1, a2⟩ := fill_drop p.1 ps u bs m hl hm
    obtain ⟨b1, b2⟩ := fill_drop p.2 ps u bs m (by omega) hm
    have hb : ((sumL ps : Int) + m) ∈ both (expE p (ps ++ u :: bs)) := mem_both.2 ⟨a1, b1⟩
    have hd : dropP (expE p (ps ++ u :: bs)) ((sumL ps : Int) + m) = expE p (ps ++ u.dropAt m :: bs) := by
      unfold dropP expE
      dsimp only
      rw [a2, b2]
    have hc := dropAt_carets u m hm
    rw [← red_drop _ _ rfl _ hb, hd]
    refine ih _ ?_ ?_
    · rw [sumC_append, sumC_cons] at h ⊢; omega
    · rw [← hl]; simp

/-- Trees with trees at their leaves. -/
def compT : List Tr → List Tr → List Tr
  | [], _ => []
  | u :: us, vs => u.fill (vs.take u.leaves) :: compT us (vs.drop u.leaves)
theorem compT_length (us : List Tr) : ∀ vs, (compT us vs).length = us.length := by
  induction us with
  | nil => intro vs; rfl
  | cons u us ih => intro vs; simp [compT, ih]
theorem compT_append (A : List Tr) : ∀ (B V W : List Tr), V.length = sumL A → compT (A ++ B) (V ++ W) = compT A V ++ compT B W := by
  induction A with
  | nil => intro B V W h; obtain rfl : V = [] := List.length_eq_zero_iff.1 (by simpa [sumL] using h); rfl
  | cons u A ih =>
    intro B V W h
    rw [sumL_cons] at h
    rw [List.cons_append, compT, compT, List.take_append_of_le_length (by omega), List.drop_append_of_le_length (by omega), ih _ _ _ (by rw [List.length_drop]; omega)]
    rfl
theorem fill_comp (t : Tr) : ∀ us vs : List Tr, us.length = t.leaves → vs.length = sumL us → t.fill (compT us vs) = (t.fill us).fill vs := by
  induction t with
  | lf =>
    intro us vs h hv
    match us, h with
    | [u], _ =>
      simp [sumL] at hv
      show Tr.fill .lf [u.fill (vs.take u.leaves)] = u.fill vs
      rw [fill_lf, List.take_of_length_le (by omega)]
    | [], h => simp [Tr.leaves] at h
    | _ :: _ :: _, h => simp [Tr.leaves, Tr.carets] at h
  | nd l r ihl ihr =>
    intro us vs h hv
    obtain ⟨A, B, rfl, hA, hB⟩ := partsT h
    rw [sumL_append] at hv
    have hV : (vs.take (sumL A)).length = sumL A := by rw [List.length_take]; omega
    have hW : (vs.drop (sumL A)).length = sumL B := by rw [List.length_drop]; omega
    have e := List.take_append_drop (sumL A) vs
    generalize vs.take (sumL A) = V at *
    generalize vs.drop (sumL A) = W at *
    subst e
    rw [compT_append _ _ _ _ hV, fill_nd (by rw [compT_length, hA]) (by rw [compT_length, hB]), fill_nd hA hB, fill_nd (by rw [hV, fill_leaves hA]) (by rw [hW, fill_leaves hB]), ihl A V hA hV, ihr B W hB hW]
theorem fill_subs (a : Tr) : ∀ g : Tr, a.part g = true → a.fill (a.subs g) = g := by
  induction a with
  | lf => intro g h; rfl
  | nd l r ihl ihr =>
    intro g h
    cases g with
    | lf => simp [Tr.part] at h
    | nd p q =>
      simp [Tr.part] at h
      rw [Tr.subs, fill_nd (below_carets l p h.1).2 (below_carets r q h.2).2, ihl p h.1, ihr q h.2]
theorem subs_fill (a : Tr) : ∀ us : List Tr, us.length = a.leaves → a.part (a.fill us) = true ∧ a.subs (a.fill us) = us := by
  induction a with
  | lf =>
    intro us h
    match us, h with
    | [u], _ => exact ⟨rfl, rfl⟩
    | [], h => simp [Tr.leaves] at h
    | _ :: _ :: _, h => simp [Tr.leaves, Tr.carets] at h
  | nd l r ihl ihr =>
    intro us h
    obtain ⟨A, B, rfl, hA, hB⟩ := partsT h
    rw [fill_nd hA hB]
    have h1 := ihl A hA
    have h2 := ihr B hB
    exact ⟨by simp [Tr.part, h1.1, h2.1], by rw [Tr.subs, h1.2, h2.2]⟩
theorem join_least (a : Tr) : ∀ b g : Tr, a.part g = true → b.part g = true → (a.join b).part g = true := by
  induction a with
  | lf => intro b g h k; exact k
  | nd l r ihl ihr =>
    intro b g h k
    cases b with
    | lf => exact h
    | nd p q =>
      cases g with
      | lf => simp [Tr.part] at h
      | nd x y =>
        simp [Tr.part] at h k
        simp [Tr.join, Tr.part, ihl p x h.1 k.1, ihr q y h.2 k.2]
theorem okP_leaves {p : Pr} (hp : okP p) : p.1.leaves = p.2.leaves := by unfold okP at hp; unfold Tr.leaves; omega
/-- The product by any tree in the middle. -/
theorem mulP_any {p q : Pr} (hp : okP p) (hq : okP q) {S T : List Tr} (hS : S.length = p.2.leaves) (hT : T.length = q.1.leaves) (h : p.2.fill S = q.1.fill T) :
    red (p.1.fill S, q.2.fill T) = mulP p q := by
  have hJ : (p.2.join q.1).part (p.2.fill S) = true := join_least _ _ _ (subs_fill p.2 S hS).1 (by rw [h]; exact (subs_fill q.1 T hT).1)
  have hU := below_carets _ _ hJ
  have hg := fill_subs _ _ hJ
  generalize (p.2.join q.1).subs (p.2.fill S) = U at hU hg
  have s1 := below_carets p.2 _ (part_join p.2 q.1)
  have s2 := below_carets q.1 _ (part_join' p.2 q.1)
  have f1 := fill_subs p.2 _ (part_join p.2 q.1)
  have f2 := fill_subs q.1 _ (part_join' p.2 q.1)
  have o1 := okP_leaves hp
  have o2 := okP_leaves hq
  have l1 : sumL (p.2.subs (p.2.join q.1)) = (p.2.join q.1).leaves := by rw [← fill_leaves s1.2, f1]
  have l2 : sumL (q.1.subs (p.2.join q.1)) = (p.2.join q.1).leaves := by rw [← fill_leaves s2.2, f2]
  unfold mulP
  have hr : rawP p q = (p.1.fill (p.2.subs (p.2.join q.1)), q.2.fill (q.1.subs (p.2.join q.1))) := rfl
  have c1 : compT (p.2.subs (p.2.join q.1)) U = S := by
    rw [← (subs_fill p.2 S hS).2, ← hg, ← (subs_fill p.2 (compT (p.2.subs (p.2.join q.1)) U) (by rw [compT_length, s1.2])).2, fill_comp _ _ _ s1.2 (by rw [hU.2, l1]), f1]
  have c2 : compT (q.1.subs (p.2.join q.1)) U = T := by
    rw [← (subs_fill q.1 T hT).2, ← h, ← hg, ← (subs_fill q.1 (compT (q.1.subs (p.2.join q.1)) U) (by rw [compT_length, s2.2])).2, fill_comp _ _ _ s2.2 (by rw [hU.2, l2]), f2]
  have e : (p.1.fill S, q.2.fill T) = expE (rawP p q) U := by
    rw [hr, ← c1, ← c2]
    unfold expE
    dsimp only
    rw [fill_comp _ _ _ (by rw [s1.2, o1]) (by rw [hU.2, l1]), fill_comp _ _ _ (by rw [s2.2, o2]) (by rw [hU.2, l2])]
  have hok : okP (rawP p q) := by
    have k1 := fill_leaves (t := p.1) (us := p.2.subs (p.2.join q.1)) (by rw [s1.2, o1])
    have k2 := fill_leaves (t := q.2) (us := q.1.subs (p.2.join q.1)) (by rw [s2.2, o2])
    rw [hr]
    unfold okP
    dsimp only
    rw [l1] at k1
    rw [l2] at k2
    unfold Tr.leaves at k1 k2
    omega
  rw [e]
  refine red_expE hok _ U rfl ?_
  rw [hU.2, hr]
  dsimp only
  rw [fill_leaves (by rw [s1.2, o1]), l1]

theorem expE_ok {p : Pr} (hp : okP p) {V : List Tr} (hV : V.length = p.1.leaves) : okP (expE p V) := by
  have o1 := okP_leaves hp
  have k1 := fill_leaves (t := p.1) (us := V) hV
  have k2 := fill_leaves (t := p.2) (us := V) (by omega)
  unfold okP expE
  dsimp only
  unfold Tr.leaves at k1 k2
  omega
theorem mulP_expL {p q : Pr} (hp : okP p) (hq : okP q) {V : List Tr} (hV : V.length = p.1.leaves) : mulP (expE p V) q = mulP p q := by
  have o1 := okP_leaves hp
  have s1 := below_carets (expE p V).2 _ (part_join (expE p V).2 q.1)
  have s2 := below_carets q.1 _ (part_join' (expE p V).2 q.1)
  have f1 := fill_subs (expE p V).2 _ (part_join (expE p V).2 q.1)
  have f2 := fill_subs q.1 _ (part_join' (expE p V).2 q.1)
  have hl : (expE p V).2.leaves = sumL V := fill_leaves (by omega)
  unfold mulP
  have hr : rawP (expE p V) q = ((expE p V).1.fill ((expE p V).2.subs ((expE p V).2.join q.1)), q.2.fill (q.1.subs ((expE p V).2.join q.1))) := rfl
  generalize (expE p V).2.subs ((expE p V).2.join q.1) = S at *
  generalize q.1.subs ((expE p V).2.join q.1) = T at *
  have e1 : (expE p V).1.fill S = p.1.fill (compT V S) := (fill_comp _ _ _ hV (by rw [s1.2, hl])).symm
  have e2 : (expE p V).2.fill S = p.2.fill (compT V S) := (fill_comp _ _ _ (by omega) (by rw [s1.2, hl])).symm
  rw [hr, e1]
  exact mulP_any hp hq (by rw [compT_length]; omega) s2.2 (by rw [← e2, f1, f2])
theorem mulP_expR {p q : Pr} (hp : okP p) (hq : okP q) {V : List Tr} (hV : V.length = q.1.leaves) : mulP p (expE q V) = mulP p q := by
  have o1 := okP_leaves hq
  have s1 := below_carets p.2 _ (part_join p.2 (expE q V).1)
  have s2 := below_carets (expE q V).1 _ (part_join' p.2 (expE q V).1)
  have f1 := fill_subs p.2 _ (part_join p.2 (expE q V).1)
  have f2 := fill_subs (expE q V).1 _ (part_join' p.2 (expE q V).1)
  have hl : (expE q V).1.leaves = sumL V := fill_leaves hV
  unfold mulP
  have hr : rawP p (expE q V) = (p.1.fill (p.2.subs (p.2.join (expE q V).1)), (expE q V).2.fill ((expE q V).1.subs (p.2.join (expE q V).1))) := rfl
  generalize p.2.subs (p.2.join (expE q V).1) = S at *
  generalize (expE q V).1.subs (p.2.join (expE q V).1) = T at *
  have e1 : (expE q V).1.fill T = q.1.fill (compT V T) := (fill_comp _ _ _ hV (by rw [s2.2, hl])).symm
  have e2 : (expE q V).2.fill T = q.2.fill (compT V T) := (fill_comp _ _ _ (by omega) (by rw [s2.2, hl])).symm
  rw [hr, e2]
  exact mulP_any hp hq s1.2 (by rw [compT_length]; omega) (by rw [← e1, f1, f2])

/-- So many leaves, but for a caret at one of them. -/
def bump (k n : Nat) : List Tr := List.replicate n .lf ++ .nd .lf .lf :: List.replicate (k - n - 1) .lf
theorem bump_length {k n : Nat} (h : n < k) : (bump k n).length = k := by simp [bump]; omega
theorem drop_fill (t : Tr) : ∀ n : Int, n ∈ t.exps 0 → (t.dropAt n).fill (bump (t.dropAt n).leaves n.toNat) = t := by
  induction t with
  | lf => intro n h; simp [Tr.exps] at h
  | nd x y ihx ihy =>
    intro n hn
    have hrg := exps_range _ 0 n hn
    rcases mem_cases hn with ⟨rfl, rfl, rfl⟩ | hn | hn
    · rfl
    · have h1 := exps_range x 0 n hn
      have hl := drop_leaves hn
      rw [drop_left hn]
      have e : bump (Tr.nd (x.dropAt n) y).leaves n.toNat = bump (x.dropAt n).leaves n.toNat ++ List.replicate y.leaves .lf := by
        rw [leaves_nd]
        unfold bump
        rw [List.append_assoc, List.cons_append, List.replicate_append_replicate]
        congr 3
        omega
      rw [e, fill_nd (bump_length (by omega)) (by simp), ihx n hn, fill_lfs]
    · have h1 := exps_range y 0 _ hn
      have hl := drop_leaves hn
      rw [drop_right hn]
      have e : bump (Tr.nd x (y.dropAt (n - x.leaves))).leaves n.toNat = List.replicate x.leaves .lf ++ bump (y.dropAt (n - x.leaves)).leaves (n - x.leaves).toNat := by
        rw [leaves_nd]
        unfold bump
        rw [← List.append_assoc, List.replicate_append_replicate]
        congr 3 <;> omega
      rw [e, fill_nd (by simp) (bump_length (by omega)), ihy _ hn, fill_lfs]
theorem drop_exp {p : Pr} (hp : okP p) {n : Int} (h : n ∈ both p) : okP (dropP p n) ∧ ∃ V, V.length = (dropP p n).1.leaves ∧ expE (dropP p n) V = p := by
  have hc := dropP_carets h
  have ho : okP (dropP p n) := by unfold okP at *; omega
  obtain ⟨h1, h2⟩ := mem_both.1 h
  have r1 := exps_range p.1 0 n h1
  have l1 := drop_leaves h1
  refine ⟨ho, bump (dropP p n).1.leaves n.toNat, bump_length (by show n.toNat < (p.1.dropAt n).leaves; omega), ?_⟩
  unfold expE
  rw [show (dropP p n).1.fill (bump (dropP p n).1.leaves n.toNat) = p.1 from drop_fill p.1 n h1, okP_leaves ho, show (dropP p n).2.fill (bump (dropP p n).2.leaves n.toNat) = p.2 from drop_fill p.2 n h2]
/-- A pair is made by the reduced one with trees at its leaves. -/
theorem red_exp : ∀ (k : Nat) (p : Pr), p.1.carets = k → okP p → okP (red p) ∧ ∃ V, V.length = (red p).1.leaves ∧ expE (red p) V = p := by
  intro k
  induction k using Nat.strongRecOn with
  | _ k ih =>
    intro p hk hp
    by_cases hl : 0 < (both p).length
    · have h0 := red_first0 hl
      have hm : (both p).getD 0 0 ∈ both p := by
        cases hb : both p with
        | nil => rw [hb] at hl; simp at hl
        | cons a l => simp
      generalize (both p).getD 0 0 = m at h0 hm
      have c2 := dropP_carets hm
      obtain ⟨ho, V, hV, hE⟩ := drop_exp hp hm
      obtain ⟨hr, U, hU, hF⟩ := ih (dropP p m).1.carets (by omega) _ rfl ho
      rw [h0]
      have hUl : sumL U = (dropP p m).1.leaves := by rw [← fill_leaves hU]; exact congrArg (fun x : Pr => x.1.leaves) hF
      refine ⟨hr, compT U V, by rw [compT_length, hU], ?_⟩
      have o1 := okP_leaves hr
      have g1 := fill_comp (red (dropP p m)).1 U V hU (by rw [hV, hUl])
      have g2 := fill_comp (red (dropP p m)).2 U V (by omega) (by rw [hV, hUl])
      unfold expE
      rw [g1, g2]
      rw [show (red (dropP p m)).1.fill U = (dropP p m).1 from congrArg Prod.fst hF, show (red (dropP p m)).2.fill U = (dropP p m).2 from congrArg Prod.snd hF]
      exact hE
    · have hb : both p = [] := List.length_eq_zero_iff.1 (by omega)
      have hr := (red_self p).2 hb
      rw [hr]
      have o1 := okP_leaves hp
      refine ⟨hp, List.replicate p.1.leaves .lf, by simp, ?_⟩
      unfold expE
      rw [fill_lfs, o1, fill_lfs]
theorem mulP_redL {p q : Pr} (hp : okP p) (hq : okP q) : mulP (red p) q = mulP p q := by
  obtain ⟨hr, V, hV, hE⟩ := red_exp _ p rfl hp
  have := mulP_expL hr hq hV
  rw [hE] at this
  exact this.symm
theorem mulP_redR {p q : Pr} (hp : okP p) (hq : okP q) : mulP p (red q) = mulP p q := by
  obtain ⟨hr, V, hV, hE⟩ := red_exp _ q rfl hq
  have := mulP_expR hp hr hV
  rw [hE] at this
  exact this.symm
end Go.Proofs.Yteflpaebckichaa

/-! CjP -/
namespace Go.Proofs.Yteflpaebckichaa

theorem red_inv : ∀ (k : Nat) (p : Pr), p.1.carets = k → red (invP p) = invP (red p) := by
  intro k
  induction k using Nat.strongRecOn with
  | _ k ih =>
    intro p hk
    by_cases hl : 0 < (both p).length
    · have h0 := red_first0 hl
      have hm : (both p).getD 0 0 ∈ both p := by
        cases hb : both p with
        | nil => rw [hb] at hl; simp at hl
        | cons a l => simp
      generalize (both p).getD 0 0 = m at h0 hm
      have c2 := dropP_carets hm
      have hm' : m ∈ both (invP p) := mem_both.2 ⟨(mem_both.1 hm).2, (mem_both.1 hm).1⟩
      have e1 := red_drop _ (invP p) rfl m hm'
      have e2 := ih (dropP p m).1.carets (by omega) (dropP p m) rfl
      rw [h0, ← e2, ← e1]
      rfl
    · have hb : both p = [] := List.length_eq_zero_iff.1 (by omega)
      have hb' : both (invP p) = [] := by
        cases h : both (invP p) with
        | nil => rfl
        | cons a l =>
          have ha : a ∈ both (invP p) := by rw [h]; simp
          have : a ∈ both p := mem_both.2 ⟨(mem_both.1 ha).2, (mem_both.1 ha).1⟩
          rw [hb] at this; simp at this
      rw [(red_self p).2 hb, (red_self (invP p)).2 hb']
theorem raw_inv (p q : Pr) : rawP (invP q) (invP p) = invP (rawP p q) := by
  unfold rawP invP
  dsimp only
  rw [join_comm q.1 p.2]
theorem inv_mul (p q : Pr) : invP (mulP p q) = mulP (invP q) (invP p) := by
  unfold mulP
  rw [raw_inv, red_inv _ _ rfl]
theorem inv_ok {p : Pr} (h : okP p) : okP (invP p) := h.symm
theorem mul_assoc {p q r : Pr} (hp : okP p) (hq : okP q) (hr : okP r) : mulP (mulP p q) r = mulP p (mulP q r) := by
  have s1 := below_carets p.2 _ (part_join p.2 q.1)
  have s2 := below_carets q.1 _ (part_join' p.2 q.1)
  have f1 := fill_subs p.2 _ (part_join p.2 q.1)
  have f2 := fill_subs q.1 _ (part_join' p.2 q.1)
  have o1 := okP_leaves hp
  have o2 := okP_leaves hq
  have o3 := okP_leaves hr
  have hraw := rawP_ok hp hq
  have eR : rawP p q = (p.1.fill (p.2.subs (p.2.join q.1)), q.2.fill (q.1.subs (p.2.join q.1))) := rfl
  have l1 : sumL (p.2.subs (p.2.join q.1)) = (p.2.join q.1).leaves := by rw [← fill_leaves s1.2, f1]
  have l2 : sumL (q.1.subs (p.2.join q.1)) = (p.2.join q.1).leaves := by rw [← fill_leaves s2.2, f2]
  rw [show mulP p q = red (rawP p q) from rfl, mulP_redL hraw hr]
  generalize p.2.subs (p.2.join q.1) = S at *
  generalize q.1.subs (p.2.join q.1) = T at *
  generalize p.2.join q.1 = M at *
  have k1 : (p.1.fill S).leaves = M.leaves := by rw [fill_leaves (by rw [s1.2, o1]), l1]
  have k2 : (q.2.fill T).leaves = M.leaves := by rw [fill_leaves (by rw [s2.2, o2]), l2]
  have t1 := below_carets (q.2.fill T) _ (part_join (q.2.fill T) r.1)
  have t2 := below_carets r.1 _ (part_join' (q.2.fill T) r.1)
  have g1 := fill_subs (q.2.fill T) _ (part_join (q.2.fill T) r.1)
  have g2 := fill_subs r.1 _ (part_join' (q.2.fill T) r.1)
  generalize (q.2.fill T).subs ((q.2.fill T).join r.1) = U at *
  generalize r.1.subs ((q.2.fill T).join r.1) = V at *
  have n1 : sumL U = ((q.2.fill T).join r.1).leaves := by rw [← fill_leaves t1.2, g1]
  have n2 : sumL V = ((q.2.fill T).join r.1).leaves := by rw [← fill_leaves t2.2, g2]
  generalize (q.2.fill T).join r.1 = N at *
  have c1 := fill_comp p.1 S U (by rw [s1.2, o1]) (by rw [t1.2, k2, l1])
  have c2 := fill_comp p.2 S U s1.2 (by rw [t1.2, k2, l1])
  have c3 := fill_comp q.1 T U s2.2 (by rw [t1.2, k2, l2])
  have c4 := fill_comp q.2 T U (by rw [s2.2, o2]) (by rw [t1.2, k2, l2])
  have e1 := mulP_any (p := rawP p q) (q := r) hraw hr (S := U) (T := V) (by rw [eR]; exact t1.2) t2.2 (by rw [eR]; exact g1.trans g2.symm)
  have e2 := mulP_any hq hr (S := compT T U) (T := V) (by rw [compT_length, s2.2, o2]) t2.2 (by rw [c4]; exact g1.trans g2.symm)
  have hX : okP (q.1.fill (compT T U), r.2.fill V) := by
    have a1 := fill_leaves (t := q.1) (us := compT T U) (by rw [compT_length, s2.2])
    have a2 := fill_leaves (t := q.2) (us := compT T U) (by rw [compT_length, s2.2, o2])
    have a3 := fill_leaves (t := r.2) (us := V) (by rw [t2.2, o3])
    rw [c4, g1] at a2
    unfold okP
    dsimp only
    unfold Tr.leaves at *
    omega
  rw [← e2, mulP_redR hp hX, ← e1, eR]
  dsimp only
  have e3 := mulP_any hp hX (S := compT S U) (T := List.replicate (q.1.fill (compT T U)).leaves .lf) (by rw [compT_length, s1.2]) (by simp) (by rw [fill_lfs, c2, c3, f1, f2])
  rw [← e3, c1]
  dsimp only
  congr 2
  have : (q.1.fill (compT T U)).leaves = (r.2.fill V).leaves := okP_leaves hX
  rw [this, fill_lfs]

def idP : Pr := (.lf, .lf)
theorem id_ok : okP idP := rfl
theorem lf_both : both ((.lf, .lf) : Pr) = [] := rfl
theorem red_id : red idP = idP := (red_self _).2 rfl
theorem red_same (t : Tr) : red (t, t) = idP := by
  have h : expE idP [t] = (t, t) := rfl
  rw [← h, red_expE id_ok _ [t] rfl rfl, red_id]
theorem subs_lf (a : Tr) : a.subs a = List.replicate a.leaves .lf := by
  have h := subs_fill a (List.replicate a.leaves .lf) (by simp)
  rw [fill_lfs] at h
  exact h.2
theorem join_self (a : Tr) : a.join a = a := by
  induction a with
  | lf => rfl
  | nd x y ihx ihy => simp [Tr.join, ihx, ihy]
theorem mul_inv {p : Pr} (hp : okP p) : mulP p (invP p) = idP := by
  have e : rawP p (invP p) = (p.1, p.1) := by
    have o := okP_leaves hp
    unfold rawP invP
    dsimp only
    rw [join_self, subs_lf, ← o, fill_lfs]
  unfold mulP
  rw [e, red_same]
theorem join_lf' (t : Tr) : t.join .lf = t := by cases t <;> rfl
theorem mul_id {p : Pr} (hp : okP p) : mulP p idP = red p := by
  have e : rawP p idP = p := by
    have o := okP_leaves hp
    show (p.1.fill (p.2.subs (p.2.join .lf)), Tr.fill .lf (Tr.subs .lf (p.2.join .lf))) = p
    rw [join_lf', subs_lf, ← o, fill_lfs]
    rfl
  unfold mulP
  rw [e]
theorem id_mul {p : Pr} (hp : okP p) : mulP idP p = red p := by
  have h := mul_id (inv_ok hp)
  have h2 := inv_mul (invP p) idP
  have h3 : invP (invP p) = p := rfl
  have h4 : invP idP = idP := rfl
  rw [h3, h4] at h2
  rw [← h2, h, red_inv _ p rfl]
  rfl
theorem red_red (p : Pr) : red (red p) = red p := (red_self _).2 (red_both p [])
theorem mul_red (p q : Pr) : red (mulP p q) = mulP p q := red_red _

/-- The conjugate of p by q. -/
def conP (p q : Pr) : Pr := mulP (mulP (invP q) p) q
theorem conP_ok {p q : Pr} (hp : okP p) (hq : okP q) : okP (conP p q) := mulP_ok (mulP_ok (inv_ok hq) hp) hq
theorem conP_carets {p q : Pr} (hp : okP p) (hq : okP q) : (conP p q).1.carets ≤ q.1.carets + p.1.carets + q.1.carets := by
  have h1 := mulP_carets (inv_ok hq) hp
  have h2 := mulP_carets (mulP_ok (inv_ok hq) hp) hq
  have h3 : (mulP (invP q) p).1.carets = (mulP (invP q) p).2.carets := mulP_ok (inv_ok hq) hp
  have h4 : (invP q).2.carets = q.1.carets := rfl
  unfold conP
  omega
theorem conP_red {p q : Pr} (hp : okP p) (hq : okP q) : conP (red p) q = conP p q := by
  unfold conP
  rw [mulP_redR (inv_ok hq) hp]
theorem con_con {p a b : Pr} (hp : okP p) (ha : okP a) (hb : okP b) : conP (conP p a) b = conP p (mulP a b) := by
  unfold conP
  have ia := inv_ok ha
  have ib := inv_ok hb
  rw [inv_mul, ← mul_assoc ib (mulP_ok ia hp) ha, ← mul_assoc ib ia hp, ← mul_assoc (mulP_ok (mulP_ok ib ia) hp) ha hb]
theorem con_id {p : Pr} (hp : okP p) : conP p idP = red p := by
  unfold conP
  have hr : okP (red p) := red_ok hp []
  rw [show invP idP = idP from rfl, id_mul hp, mul_id hr, red_red]
theorem con_self (p q : Pr) : red (conP p q) = conP p q := mul_red _ _
theorem con_back {p a : Pr} (hp : okP p) (ha : okP a) : conP (conP p a) (invP a) = red p := by
  rw [con_con hp ha (inv_ok ha), mul_inv ha, con_id hp]
end Go.Proofs.Yteflpaebckichaa

/-! CjN -/
namespace Go.Proofs.Yteflpaebckichaa

/-- The letters in their order. -/
def ltAt (j : Nat) : Int := if j = 0 then 1 else if j = 1 then -1 else if j = 2 then 2 else -2
/-- The word of a number. -/
def wdN : Nat → List Int
  | 0 => []
  | m + 1 => wdN (m / 4) ++ [ltAt (m % 4)]
theorem wdN_step (m j : Nat) (h : j < 4) : wdN (4 * m + 1 + j) = wdN m ++ [ltAt j] := by
  have e : 4 * m + 1 + j = (4 * m + j) + 1 := by omega
  rw [e, wdN, show (4 * m + j) / 4 = m by omega, show (4 * m + j) % 4 = j by omega]
/-- The first number of a word of so many letters. -/
def bnd : Nat → Nat
  | 0 => 0
  | n + 1 => 4 * bnd n + 1
theorem wdN_len : ∀ (n m : Nat), bnd n ≤ m → m < bnd (n + 1) → (wdN m).length = n := by
  intro n
  induction n with
  | zero => intro m _ h; have : m = 0 := by simp [bnd] at h; omega
            subst this; simp [wdN]
  | succ n ih =>
    intro m h1 h2
    have e1 : bnd (n + 1) = 4 * bnd n + 1 := rfl
    have e2 : bnd (n + 1 + 1) = 4 * bnd (n + 1) + 1 := rfl
    obtain ⟨k, rfl⟩ : ∃ k, m = k + 1 := ⟨m - 1, by omega⟩
    rw [wdN]
    simp [ih (k / 4) (by omega) (by omega)]
theorem bnd_mono (n : Nat) : bnd n < bnd (n + 1) := by
  induction n with
  | zero => decide
  | succ n ih => have e1 : bnd (n + 1) = 4 * bnd n + 1 := rfl
                 have e2 : bnd (n + 1 + 1) = 4 * bnd (n + 1) + 1 := rfl
                 omega
theorem bnd_le {a b : Nat} (h : a ≤ b) : bnd a ≤ bnd b := by
  induction h with
  | refl => exact Nat.le_refl _
  | step _ ih => exact Nat.le_trans ih (Nat.le_of_lt (bnd_mono _))
theorem wdN_ex (m : Nat) : ∃ n, bnd n ≤ m ∧ m < bnd (n + 1) := by
  induction m using Nat.strongRecOn with
  | _ m ih =>
    cases m with
    | zero => exact ⟨0, Nat.le_refl _, by decide⟩
    | succ k =>
      obtain ⟨n, h1, h2⟩ := ih (k / 4) (by omega)
      refine ⟨n + 1, ?_, ?_⟩
      · show 4 * bnd n + 1 ≤ k + 1; omega
      · show k + 1 < 4 * bnd (n + 1) + 1; omega
theorem wdN_lt {m n : Nat} : (wdN m).length < n ↔ m < bnd n := by
  obtain ⟨k, h1, h2⟩ := wdN_ex m
  rw [wdN_len k m h1 h2]
  constructor
  · intro h; exact Nat.lt_of_lt_of_le h2 (bnd_le h)
  · intro h
    rcases Nat.lt_or_ge k n with h3 | h3
    · exact h3
    · have := bnd_le h3; omega

section
variable {α : Type} (val : Nat → α)
/-- A row of numbers, increasing, whose values are those of all numbers less than c: each the first with its value. -/
structure Row4 (L : List Nat) (c : Nat) : Prop where
  inc : L.Pairwise (· < ·)
  fst : ∀ v ∈ L, ∀ u, u < v → val u ≠ val v
  cov : ∀ u, u < c → ∃ v ∈ L, v ≤ u ∧ val v = val u
  low : ∀ v ∈ L, v < c
variable {val}
theorem Row4.start : Row4 val [0] 1 := ⟨by simp, by simp, fun u h => ⟨0, by simp, by omega, by rw [show u = 0 by omega]⟩, by simp⟩
theorem Row4.old {L : List Nat} {c : Nat} (h : Row4 val L c) (k : ∃ v ∈ L, val v = val c) : Row4 val L (c + 1) := by
  refine ⟨h.inc, h.fst, fun u hu => ?_, fun v hv => Nat.lt_succ_of_lt (h.low v hv)⟩
  rcases Nat.lt_or_ge u c with h1 | h1
  · exact h.cov u h1
  · obtain ⟨v, h2, h3⟩ := k
    have e : u = c := by omega
    subst e
    exact ⟨v, h2, Nat.le_of_lt (h.low v h2), h3⟩
theorem Row4.firstOf {L : List Nat} {c : Nat} (h : Row4 val L c) (k : ∀ v ∈ L, val v ≠ val c) : ∀ u, u < c → val u ≠ val c := by
  intro u hu e
  obtain ⟨v, h1, _, h2⟩ := h.cov u hu
  exact k v h1 (h2.trans e)
theorem Row4.new {L : List Nat} {c : Nat} (h : Row4 val L c) (k : ∀ v ∈ L, val v ≠ val c) : Row4 val (L ++ [c]) (c + 1) := by
  refine ⟨?_, ?_, fun u hu => ?_, ?_⟩
  · rw [List.pairwise_append]
    exact ⟨h.inc, by simp, fun a ha b hb => by simp at hb; subst hb; exact h.low a ha⟩
  · intro v hv u hu
    simp at hv
    rcases hv with hv | rfl
    · exact h.fst v hv u hu
    · exact h.firstOf k u hu
  · rcases Nat.lt_or_ge u c with h1 | h1
    · obtain ⟨v, h2, h3, h4⟩ := h.cov u h1
      exact ⟨v, by simp [h2], h3, h4⟩
    · have e : u = c := by omega
      subst e
      exact ⟨u, by simp, Nat.le_refl _, rfl⟩
  · intro v hv
    simp at hv
    rcases hv with hv | rfl
    · exact Nat.lt_succ_of_lt (h.low v hv)
    · omega
theorem Row4.sorted {L : List Nat} {c : Nat} (h : Row4 val L c) {i j : Nat} (hi : i < j) (hj : j < L.length) : L.getD i 0 < L.getD j 0 := by
  have := List.pairwise_iff_getElem.1 h.inc i j (by omega) hj hi
  simpa [List.getD_eq_getElem?_getD, show i < L.length by omega, hj] using this
/-- Numbers behind the children of the one at i are covered up to those of the next one, or all of them behind the last one. -/
theorem Row4.skip (step : Nat → α → α) (hs : ∀ m j, j < 4 → val (4 * m + 1 + j) = step j (val m)) {L : List Nat} {i : Nat} (hi : i < L.length) (h : Row4 val L (4 * L.getD i 0 + 5)) (N : Nat) (hN : i + 1 < L.length → N = 4 * L.getD (i + 1) 0 + 1) (hge : 4 * L.getD i 0 + 5 ≤ N) : Row4 val L N := by
  refine ⟨h.inc, h.fst, ?_, fun v hv => Nat.lt_of_lt_of_le (h.low v hv) hge⟩
  intro u
  induction u using Nat.strongRecOn with
  | _ u ih =>
    intro hu
    rcases Nat.lt_or_ge u (4 * L.getD i 0 + 5) with h1 | h1
    · exact h.cov u h1
    · obtain ⟨v, hv, hle, he⟩ := ih ((u - 1) / 4) (by omega) (by omega)
      obtain ⟨k, hk, rfl⟩ := List.mem_iff_getElem.1 hv
      have hk' : L.getD k 0 = L[k] := by simp [List.getD_eq_getElem?_getD, hk]
      have hki : L.getD k 0 ≤ L.getD i 0 := by
        rcases Nat.lt_trichotomy k i with h2 | h2 | h2
        · exact Nat.le_of_lt (h.sorted h2 hi)
        · rw [h2]; exact Nat.le_refl _
        · have hN' := hN (by omega)
          rcases Nat.lt_or_ge (i + 1) k with h3 | h3
          · have := h.sorted h3 hk; omega
          · have e : k = i + 1 := by omega
            rw [← e] at hN'; omega
      obtain ⟨v2, hv2, hle2, he2⟩ := h.cov (4 * L[k] + 1 + (u - 1) % 4) (by omega)
      refine ⟨v2, hv2, by omega, ?_⟩
      rw [he2, hs _ _ (by omega), he, ← hs _ _ (by omega)]
      congr 1
      omega
end
end Go.Proofs.Yteflpaebckichaa

/-! CjM -/
namespace Go.Proofs.Yteflpaebckichaa

/-- The conjugate by a word, letter by letter. -/
def conW (g : Int → Pr) (p : Pr) (w : List Int) : Pr := w.foldl (fun r x => conP r (g x)) (red p)
def wdP (g : Int → Pr) (w : List Int) : Pr := w.foldl (fun r x => mulP r (g x)) idP
theorem conW_snoc (g : Int → Pr) (p : Pr) (w : List Int) (x : Int) : conW g p (w ++ [x]) = conP (conW g p w) (g x) := by simp [conW]
theorem wdP_snoc (g : Int → Pr) (w : List Int) (x : Int) : wdP g (w ++ [x]) = mulP (wdP g w) (g x) := by simp [wdP]
theorem list_snoc {α : Type} {P : List α → Prop} (h0 : P []) (h1 : ∀ w x, P w → P (w ++ [x])) : ∀ w, P w := by
  intro w
  have h : ∀ n (w : List α), w.length = n → P w := by
    intro n
    induction n with
    | zero => intro w hw; rw [List.length_eq_zero_iff.1 hw]; exact h0
    | succ n ih =>
      intro w hw
      have hne : w ≠ [] := by intro e; rw [e] at hw; simp at hw
      rw [← List.dropLast_concat_getLast hne]
      exact h1 _ _ (ih _ (by simp [hw]))
  exact h _ w rfl
theorem wdP_ok {g : Int → Pr} (hg : ∀ x, okP (g x)) (w : List Int) : okP (wdP g w) := by
  induction w using list_snoc with
  | h0 => exact id_ok
  | h1 w x ih => rw [wdP_snoc]; exact mulP_ok ih (hg x)
theorem conW_ok {g : Int → Pr} (hg : ∀ x, okP (g x)) {p : Pr} (hp : okP p) (w : List Int) : okP (conW g p w) := by
  induction w using list_snoc with
  | h0 => exact red_ok hp []
  | h1 w x ih => rw [conW_snoc]; exact conP_ok ih (hg x)
theorem conW_red {g : Int → Pr} {p : Pr} (w : List Int) : red (conW g p w) = conW g p w := by
  induction w using list_snoc with
  | h0 => exact red_red p
  | h1 w x ih => rw [conW_snoc]; exact con_self _ _
theorem con_word {g : Int → Pr} (hg : ∀ x, okP (g x)) {p : Pr} (hp : okP p) (w : List Int) : conP p (wdP g w) = conW g p w := by
  induction w using list_snoc with
  | h0 => exact con_id hp
  | h1 w x ih => rw [wdP_snoc, conW_snoc, ← con_con hp (wdP_ok hg w) (hg x), ih]
theorem conW_append (g : Int → Pr) (p : Pr) (a b : List Int) : conW g p (a ++ b) = b.foldl (fun r x => conP r (g x)) (conW g p a) := by simp [conW]
theorem conW_skip {g : Int → Pr} (hg : ∀ x, okP (g x)) (hi : ∀ x, g (-x) = invP (g x)) {p : Pr} (hp : okP p) (a b : List Int) (x : Int) : conW g p (a ++ x :: -x :: b) = conW g p (a ++ b) := by
  rw [conW_append, conW_append]
  simp only [List.foldl_cons]
  rw [hi, con_back (conW_ok hg hp a) (hg x), conW_red]

/-- Is a list of letters without a letter and its inverse behind it? -/
def freeL (w : List Int) : Prop := ∀ a x b, w ≠ a ++ x :: -x :: b
/-- Is it a list of the four letters? -/
def isFour (w : List Int) : Prop := ∀ x ∈ w, x = 1 ∨ x = -1 ∨ x = 2 ∨ x = -2
theorem wdN_four (m : Nat) : isFour (wdN m) := by
  induction m using Nat.strongRecOn with
  | _ m ih =>
    cases m with
    | zero => intro x hx; simp [wdN] at hx
    | succ k =>
      intro x hx
      rw [wdN] at hx
      simp at hx
      rcases hx with hx | hx
      · exact ih (k / 4) (by omega) x hx
      · subst hx
        unfold ltAt
        have := Nat.mod_lt k (show 0 < 4 by omega)
        split
        · simp
        · split
          · simp
          · split <;> simp
theorem four_at {x : Int} (h : x = 1 ∨ x = -1 ∨ x = 2 ∨ x = -2) : ∃ j, j < 4 ∧ ltAt j = x := by
  rcases h with rfl | rfl | rfl | rfl
  · exact ⟨0, by omega, rfl⟩
  · exact ⟨1, by omega, rfl⟩
  · exact ⟨2, by omega, rfl⟩
  · exact ⟨3, by omega, rfl⟩
theorem wdN_num (w : List Int) : isFour w → ∃ m, wdN m = w := by
  induction w using list_snoc with
  | h0 => intro _; exact ⟨0, by rw [wdN]⟩
  | h1 w x ih =>
    intro h
    obtain ⟨m, hm⟩ := ih (fun y hy => h y (by simp [hy]))
    obtain ⟨j, hj, hx⟩ := four_at (h x (by simp))
    exact ⟨4 * m + 1 + j, by rw [wdN_step m j hj, hm, hx]⟩
theorem wdN_short {u m : Nat} (h : (wdN u).length < (wdN m).length) : u < m := by
  have h1 := wdN_lt.1 h
  have h2 : ¬ m < bnd (wdN m).length := fun h => by have := wdN_lt.2 h; omega
  omega
/-- The first number of a goal has a free word. -/
theorem first_free {g : Int → Pr} (hg : ∀ x, okP (g x)) (hi : ∀ x, g (-x) = invP (g x)) {p : Pr} (hp : okP p) {m : Nat} (h : ∀ u, u < m → conW g p (wdN u) ≠ conW g p (wdN m)) : freeL (wdN m) := by
  intro a x b e
  have h4 := wdN_four m
  rw [e] at h4
  obtain ⟨u, hu⟩ := wdN_num (a ++ b) (fun y hy => h4 y (by simp at hy ⊢; rcases hy with hy | hy <;> simp [hy]))
  have hlt : u < m := wdN_short (by rw [hu, e]; simp only [List.length_append, List.length_cons]; omega)
  exact h u hlt (by rw [hu, e, conW_skip hg hi hp])

/-- May this letter come behind the word of a number? -/
def nextOk (m j : Nat) : Bool := (wdN m).getLast? != some (-(ltAt j))
/-- The numbers of free words of so many letters, in order. -/
def freeN : Nat → List Nat
  | 0 => [0]
  | n + 1 => (freeN n).flatMap fun m => ([0, 1, 2, 3].filter (nextOk m)).map fun j => 4 * m + 1 + j
theorem freeN_mem (n : Nat) : ∀ m, m ∈ freeN n → bnd n ≤ m ∧ m < bnd (n + 1) := by
  induction n with
  | zero => intro m h; simp [freeN] at h; subst h; exact ⟨Nat.le_refl _, by decide⟩
  | succ n ih =>
    intro m h
    simp only [freeN, List.mem_flatMap, List.mem_map, List.mem_filter] at h
    obtain ⟨k, hk, j, ⟨hj, _⟩, rfl⟩ := h
    have := ih k hk
    have hj4 : j < 4 := by simp at hj; omega
    have e1 : bnd (n + 1) = 4 * bnd n + 1 := rfl
    have e2 : bnd (n + 1 + 1) = 4 * bnd (n + 1) + 1 := rfl
    omega
theorem freeN_all (n : Nat) : ∀ m, bnd n ≤ m → m < bnd (n + 1) → freeL (wdN m) → m ∈ freeN n := by
  induction n with
  | zero => intro m _ h _; have : m = 0 := by simp [bnd] at h; omega
            subst this; simp [freeN]
  | succ n ih =>
    intro m h1 h2 hf
    have e1 : bnd (n + 1) = 4 * bnd n + 1 := rfl
    have e2 : bnd (n + 1 + 1) = 4 * bnd (n + 1) + 1 := rfl
    obtain ⟨k, j, hj, rfl⟩ : ∃ k j, j < 4 ∧ m = 4 * k + 1 + j := ⟨(m - 1) / 4, (m - 1) % 4, by omega, by omega⟩
    rw [wdN_step k j hj] at hf
    have hk : freeL (wdN k) := by
      intro a x b e
      exact hf a x (b ++ [ltAt j]) (by rw [e]; simp)
    have hm := ih k (by omega) (by omega) hk
    simp only [freeN, List.mem_flatMap, List.mem_map, List.mem_filter]
    refine ⟨k, hm, j, ⟨by simp; omega, ?_⟩, rfl⟩
    unfold nextOk
    simp only [bne_iff_ne, ne_eq]
    intro e
    obtain ⟨c, hc⟩ := List.getLast?_eq_some_iff.1 e
    exact hf c (-(ltAt j)) [] (by rw [hc]; simp)
theorem freeN_inc (n : Nat) : (freeN n).Pairwise (· < ·) := by
  induction n with
  | zero => simp [freeN]
  | succ n ih =>
    rw [freeN, List.pairwise_flatMap]
    refine ⟨fun m _ => ?_, ?_⟩
    · rw [List.pairwise_map]
      refine List.Pairwise.imp (fun h => by omega) (List.Pairwise.filter (R := (· < ·)) _ (by decide))
    · refine List.Pairwise.imp (fun {a b} h x hx y hy => ?_) ih
      simp only [List.mem_map, List.mem_filter] at hx hy
      obtain ⟨j, ⟨hj, _⟩, rfl⟩ := hx
      obtain ⟨i, ⟨hi, _⟩, rfl⟩ := hy
      have hj4 : j < 4 := by simp at hj; omega
      omega

/-- The first word of at most so many letters by which the conjugate is the goal. -/
noncomputable def findW (g : Int → Pr) (p goal : Pr) (most : Nat) : Option (List Int) := ((List.range (bnd (most + 1))).find? fun m => @decide (conW g p (wdN m) = goal) (Classical.propDecidable _)).map wdN
theorem findW_some {g : Int → Pr} {p goal : Pr} {most m : Nat} (h1 : m < bnd (most + 1)) (h2 : conW g p (wdN m) = goal) (h3 : ∀ u, u < m → conW g p (wdN u) ≠ goal) : findW g p goal most = some (wdN m) := by
  unfold findW
  have : (List.range (bnd (most + 1))).find? (fun m => @decide (conW g p (wdN m) = goal) (Classical.propDecidable _)) = some m := by
    rw [List.find?_range_eq_some]
    exact ⟨by simp [h2], by simp [h1], fun j hj => by simp [h3 j hj]⟩
  rw [this]
  rfl
theorem findW_none {g : Int → Pr} {p goal : Pr} {most : Nat} (h : ∀ u, u < bnd (most + 1) → conW g p (wdN u) ≠ goal) : findW g p goal most = none := by
  unfold findW
  have : (List.range (bnd (most + 1))).find? (fun m => @decide (conW g p (wdN m) = goal) (Classical.propDecidable _)) = none := by
    rw [List.find?_eq_none]
    intro x hx
    simp [h x (by simpa using hx)]
  rw [this]
  rfl
/-- If free words find it at a number, and at none before, it is the first one of all. -/
theorem free_first {g : Int → Pr} (hg : ∀ x, okP (g x)) (hi : ∀ x, g (-x) = invP (g x)) {p : Pr} (hp : okP p) {goal : Pr} (N : Nat) (h : ∀ n m, m ∈ freeN n → m < N → conW g p (wdN m) ≠ goal) : ∀ u, u < N → conW g p (wdN u) ≠ goal := by
  intro u
  induction u using Nat.strongRecOn with
  | _ u ih =>
    intro hu e
    have hf := first_free hg hi hp (m := u) (fun v hv e2 => ih v hv (by omega) (e2.trans e))
    obtain ⟨n, h1, h2⟩ := wdN_ex u
    exact h n u (freeN_all n u h1 h2 hf) hu e
end Go.Proofs.Yteflpaebckichaa

/-! SpP -/
namespace Go.Proofs.Yteflpaebckichaa

/-- The depth of the last leaf. -/
def ldT : Tr → Nat
  | .lf => 0
  | .nd _ r => ldT r + 1
theorem ld_fill (t : Tr) : ∀ us : List Tr, us.length = t.leaves → ldT (t.fill us) = ldT t + ldT (us.getLastD .lf) := by
  induction t with
  | lf =>
    intro us h
    match us, h with
    | [u], _ => show ldT u = 0 + ldT u; omega
  | nd l r _ ihr =>
    intro us h
    obtain ⟨A, B, rfl, hA, hB⟩ := partsT h
    have hne : B ≠ [] := by intro e; rw [e] at hB; unfold Tr.leaves at hB; simp at hB
    rw [fill_nd hA hB]
    show ldT (r.fill B) + 1 = ldT r + 1 + _
    rw [ihr B hB]
    have : (A ++ B).getLastD .lf = B.getLastD .lf := by
      simp [List.getLastD_eq_getLast?, List.getLast?_append, List.getLast?_eq_some_getLast hne]
    rw [this]; omega
def chi (p : Pr) : Int := (ldT p.1 : Int) - ldT p.2
theorem chi_expE {p : Pr} (hp : okP p) {V : List Tr} (hV : V.length = p.1.leaves) : chi (expE p V) = chi p := by
  have o := okP_leaves hp
  unfold chi expE
  dsimp only
  rw [ld_fill _ _ hV, ld_fill _ _ (by omega)]
  omega
theorem chi_red {p : Pr} (hp : okP p) : chi (red p) = chi p := by
  obtain ⟨h1, V, hV, he⟩ := red_exp _ p rfl hp
  conv => rhs; rw [← he]
  exact (chi_expE h1 hV).symm
theorem chi_mul {p q : Pr} (hp : okP p) (hq : okP q) : chi (mulP p q) = chi p + chi q := by
  unfold mulP
  rw [chi_red (rawP_ok hp hq)]
  have s1 := below_carets p.2 _ (part_join p.2 q.1)
  have s2 := below_carets q.1 _ (part_join' p.2 q.1)
  have f1 := fill_subs p.2 _ (part_join p.2 q.1)
  have f2 := fill_subs q.1 _ (part_join' p.2 q.1)
  have o1 := okP_leaves hp
  have o2 := okP_leaves hq
  have g1 := ld_fill p.2 _ s1.2
  have g2 := ld_fill q.1 _ s2.2
  rw [f1] at g1
  rw [f2] at g2
  unfold chi rawP
  dsimp only
  rw [ld_fill _ _ (by rw [s1.2, o1]), ld_fill _ _ (by rw [s2.2, o2])]
  omega

section
variable (g : Int → Pr)
/-- The pair of some word of so many letters. -/
def Rch (n : Nat) (p : Pr) : Prop := ∃ w, isFour w ∧ w.length = n ∧ wdP g w = p
/-- .. and of none with fewer. -/
def Sph (n : Nat) (p : Pr) : Prop := Rch g n p ∧ ∀ m, m < n → ¬ Rch g m p
variable {g}
theorem Rch.red {n : Nat} {p : Pr} (h : Rch g n p) : red p = p := by
  obtain ⟨w, _, _, rfl⟩ := h
  induction w using list_snoc with
  | h0 => exact (red_self _).2 rfl
  | h1 w x _ => rw [wdP_snoc]; exact mul_red _ _
theorem Rch.ok (hg : ∀ x, okP (g x)) {n : Nat} {p : Pr} (h : Rch g n p) : okP p := by obtain ⟨w, _, _, rfl⟩ := h; exact wdP_ok hg w
theorem Rch.chi (hg : ∀ x, okP (g x)) (hc : ∀ x, isFour [x] → chi (g x) % 2 = 1) {n : Nat} {p : Pr} (h : Rch g n p) : Proofs.Yteflpaebckichaa.chi p % 2 = (n : Int) % 2 := by
  obtain ⟨w, hw, rfl, rfl⟩ := h
  induction w using list_snoc with
  | h0 => rfl
  | h1 w x ih =>
    have h1 := ih (fun y hy => hw y (by simp [hy]))
    have h2 := hc x (fun y hy => hw y (by simp at hy; simp [hy]))
    rw [wdP_snoc, chi_mul (wdP_ok hg w) (hg x)]
    simp only [List.length_append, List.length_cons, List.length_nil]
    omega
theorem Rch.next {n : Nat} {p : Pr} (h : Rch g n p) {x : Int} (hx : isFour [x]) : Rch g (n + 1) (mulP p (g x)) := by
  obtain ⟨w, hw, rfl, rfl⟩ := h
  exact ⟨w ++ [x], fun y hy => by rcases List.mem_append.1 hy with h | h; exact hw y h; exact hx y h, by simp, wdP_snoc g w x⟩
theorem Rch.last {n : Nat} {p : Pr} (h : Rch g (n + 1) p) : ∃ q x, Rch g n q ∧ isFour [x] ∧ p = mulP q (g x) := by
  obtain ⟨w, hw, hl, rfl⟩ := h
  have hne : w ≠ [] := by intro e; rw [e] at hl; simp at hl
  have e := (List.dropLast_concat_getLast hne).symm
  refine ⟨wdP g w.dropLast, w.getLast hne, ⟨w.dropLast, fun y hy => hw y (List.dropLast_subset w hy), by simp [hl], rfl⟩, fun y hy => ?_, ?_⟩
  · simp at hy; rw [hy]; exact hw _ (List.getLast_mem hne)
  · conv => lhs; rw [e]
    exact wdP_snoc g _ _
theorem four_neg {x : Int} (h : isFour [x]) : isFour [-x] := by
  intro y hy
  simp at hy
  have := h x (by simp)
  omega
theorem Rch.back (hg : ∀ x, okP (g x)) (hi : ∀ x, g (-x) = invP (g x)) {n m : Nat} {q : Pr} (hq : Rch g n q) {x : Int} (hx : isFour [x]) (h : Rch g m (mulP q (g x))) : Rch g (m + 1) q := by
  have h1 := h.next (four_neg hx)
  have e : mulP (mulP q (g x)) (g (-x)) = q := by
    rw [hi, mul_assoc (hq.ok hg) (hg x) (inv_ok (hg x)), mul_inv (hg x), mul_id (hq.ok hg), hq.red]
  rwa [e] at h1
theorem sph_least {n : Nat} {p : Pr} (h : Rch g n p) : ∃ m, m ≤ n ∧ Sph g m p := by
  induction n using Nat.strongRecOn with
  | _ n ih =>
    by_cases k : ∃ m, m < n ∧ Rch g m p
    · obtain ⟨m, h1, h2⟩ := k
      obtain ⟨j, h3, h4⟩ := ih m h1 h2
      exact ⟨j, by omega, h4⟩
    · exact ⟨n, Nat.le_refl _, h, fun m h1 h2 => k ⟨m, h1, h2⟩⟩
theorem sph_uniq {n m : Nat} {p : Pr} (h : Sph g n p) (k : Sph g m p) : n = m := by
  rcases Nat.lt_trichotomy n m with h1 | h1 | h1
  · exact absurd h.1 (k.2 n h1)
  · exact h1
  · exact absurd k.1 (h.2 m h1)
theorem sph_last {n : Nat} {p : Pr} (h : Sph g (n + 1) p) : ∃ q x, Sph g n q ∧ isFour [x] ∧ p = mulP q (g x) := by
  obtain ⟨q, x, h1, h2, rfl⟩ := h.1.last
  exact ⟨q, x, ⟨h1, fun m hm hk => h.2 (m + 1) (by omega) (hk.next h2)⟩, h2, rfl⟩
theorem sph_near (hg : ∀ x, okP (g x)) (hi : ∀ x, g (-x) = invP (g x)) {n : Nat} {q : Pr} (hq : Sph g n q) {x : Int} (hx : isFour [x]) : ∃ m, Sph g m (mulP q (g x)) ∧ m ≤ n + 1 ∧ n ≤ m + 1 := by
  obtain ⟨m, h1, h2⟩ := sph_least (hq.1.next hx)
  refine ⟨m, h2, h1, ?_⟩
  rcases Nat.lt_or_ge (m + 1) n with h3 | h3
  · exact absurd (Rch.back hg hi hq.1 hx h2.1) (hq.2 _ h3)
  · exact h3
/-- The next sphere, told without a look at evenness. -/
theorem sph_step (hg : ∀ x, okP (g x)) (hi : ∀ x, g (-x) = invP (g x)) {n : Nat} {p : Pr} : Sph g (n + 1) p ↔ (∃ q x, Sph g n q ∧ isFour [x] ∧ p = mulP q (g x)) ∧ ¬ Sph g n p ∧ ∀ m, n = m + 1 → ¬ Sph g m p := by
  constructor
  · intro h
    exact ⟨sph_last h, fun k => by have := sph_uniq h k; omega, fun m _ k => by have := sph_uniq h k; omega⟩
  · rintro ⟨⟨q, x, h1, h2, rfl⟩, h3, h4⟩
    obtain ⟨m, k1, k2, k3⟩ := sph_near hg hi h1 h2
    rcases Nat.lt_trichotomy m n with e | e | e
    · exact absurd k1 (h4 m (by omega))
    · exact absurd (e ▸ k1) h3
    · rwa [show m = n + 1 by omega] at k1
/-- .. and with it. -/
theorem sph_step2 (hg : ∀ x, okP (g x)) (hi : ∀ x, g (-x) = invP (g x)) (hc : ∀ x, isFour [x] → chi (g x) % 2 = 1) {n : Nat} {p : Pr} : Sph g (n + 1) p ↔ (∃ q x, Sph g n q ∧ isFour [x] ∧ p = mulP q (g x)) ∧ ∀ m, n = m + 1 → ¬ Sph g m p := by
  rw [sph_step hg hi]
  refine and_congr_right fun ⟨q, x, h1, h2, e⟩ => ⟨fun h => h.2, fun h => ⟨fun k => ?_, h⟩⟩
  have c1 := (h1.1.next h2).chi hg hc
  rw [← e] at c1
  have c2 := k.1.chi hg hc
  omega
theorem sph_zero {p : Pr} : Sph g 0 p ↔ p = idP := by
  constructor
  · rintro ⟨⟨w, _, h, rfl⟩, _⟩
    rw [List.length_eq_zero_iff.1 h]; rfl
  · rintro rfl
    exact ⟨⟨[], fun x hx => by simp at hx, rfl, rfl⟩, fun m hm => by omega⟩
/-- All of a sphere are on a list. -/
theorem sph_list {n : Nat} {p : Pr} (h : Sph g n p) : p ∈ (List.range (bnd (n + 1))).map fun m => wdP g (wdN m) := by
  obtain ⟨⟨w, hw, hl, rfl⟩, _⟩ := h
  obtain ⟨m, rfl⟩ := wdN_num w hw
  rw [List.mem_map]
  exact ⟨m, by rw [List.mem_range]; exact wdN_lt.1 (by omega), rfl⟩
end
end Go.Proofs.Yteflpaebckichaa

/-! WdP -/
namespace Go.Proofs.Yteflpaebckichaa

/-- A letter with a number less than m. -/
def okL (m : Int) (x : Int) : Bool := !(x == 0) && (decide (-m ≤ x) && decide (x ≤ m))
theorem okL_iff {m x : Int} : okL m x = true ↔ x ≠ 0 ∧ -m ≤ x ∧ x ≤ m := by simp [okL]
theorem okL_false {m x : Int} : okL m x = false ↔ x = 0 ∨ x < -m ∨ m < x := by
  rw [Bool.eq_false_iff, Ne, okL_iff]; omega
def isW (m : Int) (w : List Int) : Bool := w.all (okL m)
/-- Is it a word? -/
def goodW (w : List Int) : Bool := decide (w.length ≤ 20) && isW 21 w
theorem goodW_iff {w : List Int} : goodW w = true ↔ w.length ≤ 20 ∧ ∀ x ∈ w, x ≠ 0 ∧ -21 ≤ x ∧ x ≤ 21 := by
  simp only [goodW, isW, Bool.and_eq_true, decide_eq_true_eq, List.all_eq_true, okL_iff]
theorem isW_drop {m : Int} {w : List Int} {k : Nat} (h : k < w.length) : isW m (w.drop k) = (okL m (w.getD k 0) && isW m (w.drop (k + 1))) := by
  unfold isW; rw [List.drop_eq_getElem_cons h, List.all_cons]; simp [h]
theorem isW_end (m : Int) (w : List Int) : isW m (w.drop w.length) = true := by simp [isW]

/-- The word of all inverses, backwards. -/
def invW (w : List Int) : List Int := (w.map fun x => -x).reverse
theorem invW_length (w : List Int) : (invW w).length = w.length := by simp [invW]

/-- One letter more behind a word without letters and inverses next to each other. -/
def free1 (out : List Int) (x : Int) : List Int := if out.getLast? = some (-x) then out.dropLast else out ++ [x]
def freeW (w : List Int) : List Int := w.foldl free1 []
theorem free1_length (out : List Int) (x : Int) : (free1 out x).length ≤ out.length + 1 := by
  unfold free1; split <;> simp; omega
theorem freeW_take {w : List Int} {k : Nat} (h : k < w.length) : freeW (w.take (k + 1)) = free1 (freeW (w.take k)) (w.getD k 0) := by
  unfold freeW
  rw [List.take_succ_eq_append_getElem h, List.foldl_append]
  simp [h]
theorem freeW_length (w : List Int) : (freeW w).length ≤ w.length := by
  have : ∀ (l a : List Int), (l.foldl free1 a).length ≤ a.length + l.length := by
    intro l
    induction l with
    | nil => intro a; simp
    | cons x l ih => intro a; have := ih (free1 a x); have := free1_length a x; simp only [List.foldl_cons, List.length_cons]; omega
  have := this w []
  simpa [freeW] using this
theorem free1_last {out : List Int} {x : Int} (h : 0 < out.length) : free1 out x = if out.getD (out.length - 1) 0 = -x then out.take (out.length - 1) else out ++ [x] := by
  unfold free1
  rw [List.getLast?_eq_getElem?, List.getElem?_eq_getElem (by omega)]
  have : out.getD (out.length - 1) 0 = out[out.length - 1]'(by omega) := by simp [List.getD_eq_getElem?_getD, List.getElem?_eq_getElem (show out.length - 1 < out.length by omega)]
  rw [this, List.dropLast_eq_take]
  simp

/-- What two letters next to each other become. -/
def ruleO (x y : Int) : Option (List Int) :=
  if x = -y then some []
  else if 0 < x ∧ 0 < y ∧ y < x then some [y, x + 1]
  else if x < 0 ∧ y < 0 ∧ -x < -y then some [y - 1, x]
  else if x < 0 ∧ 0 < y ∧ -x < y then some [y + 1, x]
  else if x < 0 ∧ 0 < y ∧ y < -x then some [y, x - 1]
  else none
/-- A word behind the first rule. -/
def stepO : List Int → Option (List Int)
  | x :: y :: r => match ruleO x y with
    | some b => some (b ++ r)
    | none => (stepO (y :: r)).map (x :: ·)
  | _ => none

/-- Letters with numbers that are greater by so much. -/
def up (k : Int) (x : Int) : Int := if x < 0 then x - k else x + k
def upW (k : Int) (w : List Int) : List Int := w.map (up k)

/-- A word, if it is one. -/
def ifW (w : List Int) : Option (List Int) := if goodW w = true then some w else none

/-- The sums of a word: of x(0), of all others. -/
def sgn (x : Int) : Int := if x < 0 then -1 else 1
def num (x : Int) : Int := (if x < 0 then -x else x) - 1
def sumZ (w : List Int) : Int := (w.map fun x => if num x = 0 then sgn x else 0).sum
def sumO (w : List Int) : Int := (w.map fun x => if num x = 0 then 0 else sgn x).sum

end Go.Proofs.Yteflpaebckichaa

/-! In0 -/
namespace Go.Proofs.Yteflpaebckichaa
open Go.RowKit

theorem l1In_yes (n lo hi : Int) (w : World) (h1 : lo ≤ n) (h2 : n ≤ hi) :
    Calls Try.prog 21 #[.int .i64 n, .int .i64 lo, .int .i64 hi] w fun e w' => e = .returned (.bool true) ∧ w = w' := by
  go_enter Try.func21, Try.ntmps21
  go_wp2_with fail
  go_ret
  exact ⟨rfl, rfl⟩
theorem l1In_no (n lo hi : Int) (w : World) (h : n < lo ∨ hi < n) :
    Calls Try.prog 21 #[.int .i64 n, .int .i64 lo, .int .i64 hi] w fun e w' => e = .returned (.bool false) ∧ w = w' := by
  by_cases h1 : n < lo
  · clear h
    go_enter Try.func21, Try.ntmps21
    go_wp2_with fail
    go_ret
    exact ⟨rfl, rfl⟩
  · have h1' : lo ≤ n := by omega
    have h2 : hi < n := by omega
    clear h h1
    go_enter Try.func21, Try.ntmps21
    go_wp2_with fail
    go_ret
    exact ⟨ret_bool (by simp; omega), rfl⟩

end Go.Proofs.Yteflpaebckichaa

/-! Quiet -/
namespace Go.Proofs.Yteflpaebckichaa
open Go.RowKit

theorem quiet_eq {P : Program} {f : FuncId} {args : Array Value} {w : World} {n : Nat} {v : Value} (h : Calls P f args (w.drewN n) fun e w' => e = .returned v ∧ w.drewN n = w') :
    Calls P f args (w.drewN n) fun e w'' => e = .returned v ∧ ∃ m, w'' = w.drewN m :=
  h.mono fun _ _ ⟨he, hm⟩ => ⟨he, n, hm.symm⟩

def Quietly (v : Value) (w : World) (e : Ending) (w' : World) : Prop := e = .returned v ∧ ∃ n, w' = w.drewN n
end Go.Proofs.Yteflpaebckichaa
