/- Texts that the claim needs, part 1. -/
import Derived.WalkKit
import Derived.Lib.Strings
import Derived.Maps.OwnSet
import Derived.Maps.RangeWalk
import Derived.Maps.Ext
import Derived.Below
import Derived.Shelf.Sort.Plain
import Derived.Shelf.Slices.In.SortNone
import Derived.Test.YtllnfbenaeeloaaProg
import Derived.Test.YtllnfbenaeeloaaRows
import Derived.WalkSpells
import Derived.Lib.Hide
import Derived.Deep.Light
import Derived.Deep.Draws
import Derived.Sort.OwnSorted
import Derived.Deep.QuietTactic
import Derived.BigQuiet
import Derived.Deep.RegionHeld3
/-! Pure -/
namespace Go.Proofs.Ytllnfbenaeeloaa

/-- The byte at an index of a text (0 behind its end). -/
def byteAt (s : ByteArray) (a : Int) : Int := if h : a.toNat < s.size then ((s[a.toNat]'h).toNat : Int) else 0

theorem byteAt_eq (s : ByteArray) (a : Int) (h : a.toNat < s.size) : byteAt s a = ((s[a.toNat]'h).toNat : Int) := by unfold byteAt; rw [dif_pos h]

/-- The index behind the tree at an index, or -1 (k: the depth that is left). -/
def endI : Nat → ByteArray → Int → Int
  | 0, _, _ => -1
  | k + 1, s, a =>
    if a < s.size then
      if byteAt s a = 46 then a + 1
      else if byteAt s a ≠ 40 then -1
      else if endI k s (a + 1) < 0 then -1
      else if endI k s (endI k s (a + 1)) < 0 then -1
      else if (s.size : Int) ≤ endI k s (endI k s (a + 1)) then -1
      else if byteAt s (endI k s (endI k s (a + 1))) ≠ 41 then -1
      else endI k s (endI k s (a + 1)) + 1
    else -1

theorem endI_le (k : Nat) : ∀ (s : ByteArray) (a : Int), 0 ≤ a → -1 ≤ endI k s a ∧ endI k s a ≤ s.size := by
  induction k with
  | zero => intro s a _; simp [endI]
  | succ k ih =>
    intro s a ha
    have h1 := ih s (a + 1) (by omega)
    have h2 := fun h => ih s (endI k s (a + 1)) h
    rw [endI]
    repeat' split
    all_goals first | omega | (have := h2 (by omega); omega)

/-- How many of the first k bytes are carets' beginnings. -/
def cnt (s : ByteArray) : Nat → Int
  | 0 => 0
  | k + 1 => cnt s k + if byteAt s k = 40 then 1 else 0

theorem cnt_le (s : ByteArray) (k : Nat) : 0 ≤ cnt s k ∧ cnt s k ≤ k := by
  induction k with
  | zero => simp [cnt]
  | succ k ih => rw [cnt]; split <;> omega

/-- The text is a tree, as the spec tells it. -/
def isTreeB (s : ByteArray) : Bool := decide ((s.size : Int) ≤ 33) && decide (cnt s s.size ≤ 8) && endI 61 s 0 == (s.size : Int)

theorem isTreeB_size {s : ByteArray} (h : isTreeB s = true) : s.size ≤ 33 := by
  unfold isTreeB at h; simp at h; omega

end Go.Proofs.Ytllnfbenaeeloaa

/-! Tr -/
namespace Go.Proofs.Ytllnfbenaeeloaa

inductive Tr where
  | lf
  | nd (l r : Tr)

namespace Tr
def text : Tr → List UInt8
  | lf => [46]
  | nd l r => 40 :: (l.text ++ (r.text ++ [41]))
def carets : Tr → Nat
  | lf => 0
  | nd l r => l.carets + r.carets + 1
def str (t : Tr) : ByteArray := ⟨t.text.toArray⟩
end Tr

theorem Tr.text_len (t : Tr) : t.text.length = 3 * t.carets + 1 := by
  induction t with
  | lf => rfl
  | nd l r ihl ihr => simp [Tr.text, Tr.carets, ihl, ihr]; omega

theorem Tr.str_list (t : Tr) : t.str.data.toList = t.text := by simp [Tr.str]
theorem Tr.str_size (t : Tr) : t.str.size = 3 * t.carets + 1 := by
  rw [← Tr.text_len]; show t.str.data.size = _; simp [Tr.str]
theorem ba_ext {a b : ByteArray} (h : a.data.toList = b.data.toList) : a = b := by
  cases a; cases b; simpa using h

/-- Reading a tree at the beginning of a text. -/
def parseN : Nat → List UInt8 → Option (Tr × List UInt8)
  | 0, _ => none
  | _ + 1, [] => none
  | k + 1, c :: r =>
    if c = 46 then some (.lf, r)
    else if c = 40 then
      match parseN k r with
      | none => none
      | some (t1, r1) =>
        match parseN k r1 with
        | none => none
        | some (t2, r2) =>
          match r2 with
          | [] => none
          | d :: r3 => if d = 41 then some (.nd t1 t2, r3) else none
    else none

theorem parseN_sound (k : Nat) : ∀ (l : List UInt8) (t : Tr) (r : List UInt8), parseN k l = some (t, r) → l = t.text ++ r := by
  induction k with
  | zero => intro l t r h; simp [parseN] at h
  | succ k ih =>
    intro l t r h
    match l with
    | [] => simp [parseN] at h
    | c :: l' =>
      rw [parseN] at h
      split at h
      · next hc => simp at h; obtain ⟨rfl, rfl⟩ := h; simp [Tr.text, hc]
      · split at h
        · next hc =>
          split at h
          · simp at h
          · next t1 r1 h1 =>
            split at h
            · simp at h
            · next t2 r2 h2 =>
              split at h
              · simp at h
              · next d r3 =>
                split at h
                · next hd =>
                  simp at h
                  obtain ⟨rfl, rfl⟩ := h
                  rw [ih _ _ _ h1, ih _ _ _ h2, hc, hd]
                  simp [Tr.text]
                · simp at h
        · simp at h

theorem parseN_complete (t : Tr) : ∀ (k : Nat) (r : List UInt8), t.text.length ≤ k → parseN k (t.text ++ r) = some (t, r) := by
  induction t with
  | lf => intro k r h; cases k with | zero => simp [Tr.text] at h | succ k => simp [Tr.text, parseN]
  | nd a b iha ihb =>
    intro k r h
    cases k with
    | zero => simp [Tr.text] at h
    | succ k =>
      have h' : a.text.length + b.text.length + 2 ≤ k + 1 := by simp [Tr.text] at h; omega
      show parseN (k + 1) (40 :: (a.text ++ (b.text ++ [41])) ++ r) = _
      have e : (40 : UInt8) :: (a.text ++ (b.text ++ [41])) ++ r = 40 :: (a.text ++ (b.text ++ (41 :: r))) := by simp
      rw [e, parseN, if_neg (by decide), if_pos rfl, iha k _ (by omega)]
      show (match parseN k (b.text ++ (41 :: r)) with | none => none | some (t2, r2) => _) = _
      rw [ihb k _ (by omega)]
      simp

theorem Tr.text_inj {t u : Tr} {r q : List UInt8} (h : t.text ++ r = u.text ++ q) : t = u ∧ r = q := by
  have h1 := parseN_complete t (t.text.length + u.text.length) r (by omega)
  have h2 := parseN_complete u (t.text.length + u.text.length) q (by omega)
  rw [h, h2] at h1
  simp at h1
  exact ⟨h1.1.symm, h1.2.symm⟩

theorem parseN_len {k : Nat} {l : List UInt8} {t : Tr} {r : List UInt8} (h : parseN k l = some (t, r)) : r.length + 1 ≤ l.length := by
  have := parseN_sound k l t r h
  have := t.text_len
  subst l; simp; omega

end Go.Proofs.Ytllnfbenaeeloaa

/-! TrOf -/
namespace Go.Proofs.Ytllnfbenaeeloaa

theorem ext_end (s : ByteArray) (k : Nat) : (s.extract k s.size).data.toList = s.data.toList.drop k := by
  rw [Lib.extract_data]
  exact List.take_of_length_le (by rw [List.length_drop, ← Lib.size_eq]; exact Nat.le_refl _)

theorem byteAt_drop {s : ByteArray} {a : Nat} {c : UInt8} {r : List UInt8} (h : s.data.toList.drop a = c :: r) : a < s.size ∧ byteAt s a = c.toNat := by
  have hl : a < s.data.toList.length := by
    have := congrArg List.length h
    simp at this
    simp; omega
  have hz : a < s.size := by rw [Lib.size_eq]; exact hl
  refine ⟨hz, ?_⟩
  rw [byteAt_eq s a (by simpa using hz)]
  have hc : s.data.toList[a] = c := by
    rw [List.drop_eq_getElem_cons hl] at h
    injection h
  have : (s[((a : Int)).toNat]'(by simpa using hz)) = s.data.toList[a] := by simp; rfl
  rw [this, hc]

theorem drop_of_byteAt {s : ByteArray} {a : Nat} (h : a < s.size) : ∃ c r, s.data.toList.drop a = c :: r ∧ byteAt s a = (c.toNat : Int) ∧ s.data.toList.drop (a + 1) = r := by
  have hl : a < s.data.toList.length := by rw [← Lib.size_eq]; exact h
  have e := List.drop_eq_getElem_cons hl
  exact ⟨_, _, e, (byteAt_drop e).2, rfl⟩

theorem u8_eq {c : UInt8} {n : Nat} (hn : n < 256) (h : (c.toNat : Int) = (n : Int)) : c = UInt8.ofNat n := by
  have h : c.toNat = n := by omega
  subst h; simp

theorem drop_succ {l r : List UInt8} {a : Nat} {c : UInt8} (h : l.drop a = c :: r) : l.drop (a + 1) = r := by
  rw [← List.drop_drop, h]; rfl

theorem drop_add_of {l x y : List UInt8} {a : Nat} (h : l.drop a = x ++ y) : l.drop (a + x.length) = y := by
  rw [← List.drop_drop, h]; simp

theorem endI_complete (t : Tr) : ∀ (k : Nat) (s : ByteArray) (a : Nat) (r : List UInt8), t.carets < k → s.data.toList.drop a = t.text ++ r → endI k s a = a + t.text.length := by
  induction t with
  | lf =>
    intro k s a r hk h
    cases k with
    | zero => omega
    | succ k =>
      have hb := byteAt_drop (show s.data.toList.drop a = 46 :: r from h)
      rw [endI, if_pos (by omega), if_pos (by rw [hb.2]; rfl)]
      rfl
  | nd l rr ihl ihr =>
    intro k s a q hk h
    cases k with
    | zero => omega
    | succ k =>
      have hk' : l.carets < k ∧ rr.carets < k := by simp [Tr.carets] at hk; omega
      have h0 : s.data.toList.drop a = 40 :: (l.text ++ (rr.text ++ (41 :: q))) := by rw [h]; simp [Tr.text]
      have hb := byteAt_drop h0
      have h1 := drop_succ h0
      have e1 := ihl k s (a + 1) _ hk'.1 h1
      have h2 := drop_add_of h1
      have e2 := ihr k s (a + 1 + l.text.length) _ hk'.2 h2
      have h3 := drop_add_of h2
      have hb3 := byteAt_drop h3
      have c1 : endI k s ((a : Int) + 1) = ((a + 1 + l.text.length : Nat) : Int) := by
        have : ((a : Int) + 1) = ((a + 1 : Nat) : Int) := by omega
        rw [this, e1]; omega
      have c2 : endI k s ((a + 1 + l.text.length : Nat) : Int) = ((a + 1 + l.text.length + rr.text.length : Nat) : Int) := by
        rw [e2]; omega
      rw [endI, if_pos (by omega), if_neg (by rw [hb.2]; decide), if_neg (by rw [hb.2]; decide), c1, if_neg (by omega), c2, if_neg (by omega), if_neg (by omega), if_neg (by rw [hb3.2]; decide)]
      simp [Tr.text]; omega

theorem endI_sound (k : Nat) : ∀ (s : ByteArray) (a : Nat), 0 ≤ endI k s a → ∃ t : Tr, ∃ r, s.data.toList.drop a = t.text ++ r ∧ endI k s a = a + t.text.length := by
  induction k with
  | zero => intro s a h; simp [endI] at h
  | succ k ih =>
    intro s a h
    rw [endI] at h ⊢
    split at h
    · next hlt =>
      obtain ⟨c, r, hd, hb, hd1⟩ := drop_of_byteAt (s := s) (a := a) (by omega)
      split at h
      · next h46 =>
        rw [hb] at h46
        have := u8_eq (n := 46) (by omega) h46
        refine ⟨.lf, r, ?_, ?_⟩
        · rw [hd, this]; rfl
        · rw [if_pos hlt, if_pos (by rw [hb]; exact h46)]; rfl
      · next h46 =>
        split at h
        · omega
        · next h40 =>
          split at h
          · omega
          · next hl =>
            have cast1 : ((a : Int) + 1) = ((a + 1 : Nat) : Int) := by omega
            have hl' : 0 ≤ endI k s ((a + 1 : Nat) : Int) := by rw [← cast1]; omega
            obtain ⟨t1, r1, e1, f1⟩ := ih s (a + 1) hl'
            have g1 : endI k s ((a : Int) + 1) = ((a + 1 + t1.text.length : Nat) : Int) := by rw [cast1, f1]; omega
            split at h
            · omega
            · next hr =>
              rw [g1] at hr
              obtain ⟨t2, r2, e2, f2⟩ := ih s (a + 1 + t1.text.length) (by omega)
              have g2 : endI k s (endI k s ((a : Int) + 1)) = ((a + 1 + t1.text.length + t2.text.length : Nat) : Int) := by rw [g1, f2]; omega
              split at h
              · omega
              · next hz =>
                split at h
                · omega
                · next h41 =>
                  rw [g2] at hz h41
                  obtain ⟨d, q, e3, b3, _⟩ := drop_of_byteAt (s := s) (a := a + 1 + t1.text.length + t2.text.length) (by omega)
                  have hd41 := u8_eq (n := 41) (by omega) (show ((d.toNat : Int)) = ((41 : Nat) : Int) by rw [← b3]; simpa using h41)
                  have hc40 := u8_eq (n := 40) (by omega) (show ((c.toNat : Int)) = ((40 : Nat) : Int) by rw [← hb]; simpa using h40)
                  refine ⟨.nd t1 t2, q, ?_, ?_⟩
                  · have x2 := drop_add_of e1
                    rw [e2] at x2
                    have x3 := drop_add_of e2
                    rw [e3] at x3
                    rw [hd, hc40]
                    have : r = t1.text ++ (t2.text ++ (41 :: q)) := by
                      rw [← hd1, e1, ← x2, ← x3, hd41]; rfl
                    rw [this]; simp [Tr.text]
                  · rw [if_pos hlt, if_neg h46, if_neg h40, if_neg hl, if_neg (by omega), if_neg (by omega), if_neg (by rw [g2]; exact h41), g2]
                    simp [Tr.text]; omega
    · omega

theorem text_count (t : Tr) : t.text.count 40 = t.carets := by
  induction t with
  | lf => rfl
  | nd l r ihl ihr => simp [Tr.text, Tr.carets, List.count_append, ihl, ihr]

theorem cnt_count (s : ByteArray) (k : Nat) (hk : k ≤ s.size) : cnt s k = ((s.data.toList.take k).count 40 : Nat) := by
  induction k with
  | zero => simp [cnt]
  | succ k ih =>
    obtain ⟨c, r, hd, hb, _⟩ := drop_of_byteAt (s := s) (a := k) (by omega)
    have hl : k < s.data.toList.length := by rw [← Lib.size_eq]; omega
    have hc : s.data.toList[k] = c := by
      rw [List.drop_eq_getElem_cons hl] at hd
      injection hd
    rw [cnt, ih (by omega), hb, List.take_succ_eq_append_getElem hl, hc, List.count_append]
    by_cases h : c = 40
    · subst h; simp
    · have h' : ¬ ((c.toNat : Int) = 40) := fun e => h (u8_eq (n := 40) (by omega) e)
      rw [if_neg h']
      simp [h]

theorem cnt_str (t : Tr) : cnt t.str t.str.size = t.carets := by
  rw [cnt_count _ _ (Nat.le_refl _), ← text_count, ← Tr.str_list, List.take_of_length_le]
  rw [Lib.size_eq]; exact Nat.le_refl _

/-- The tree of a text, if it is one. -/
def treeOf (s : ByteArray) : Option Tr :=
  match parseN (s.size + 1) s.data.toList with
  | some (t, []) => if t.carets ≤ 8 then some t else none
  | _ => none

theorem str_of_list {s : ByteArray} {t : Tr} (h : s.data.toList = t.text) : s = t.str := ba_ext (by rw [h, Tr.str_list])

theorem treeOf_some {s : ByteArray} {t : Tr} (h : treeOf s = some t) : s = t.str ∧ t.carets ≤ 8 := by
  unfold treeOf at h
  split at h
  · next u hp =>
    split at h
    · next hc =>
      injection h with h
      subst h
      have := parseN_sound _ _ _ _ hp
      exact ⟨str_of_list (by simpa using this), hc⟩
    · simp at h
  · simp at h

theorem parse_str (t : Tr) (k : Nat) (h : t.text.length ≤ k) : parseN k t.str.data.toList = some (t, []) := by
  have := parseN_complete t k [] h
  rwa [List.append_nil, ← Tr.str_list] at this

theorem treeOf_str (t : Tr) (h : t.carets ≤ 8) : treeOf t.str = some t := by
  unfold treeOf
  rw [parse_str t _ (by have := t.str_size; have := t.text_len; omega)]
  simp [h]

theorem endI_str (t : Tr) (h : t.carets ≤ 8) : endI 61 t.str 0 = t.str.size := by
  have := endI_complete t 61 t.str 0 [] (by omega) (by rw [Tr.str_list]; simp)
  rw [Tr.str_size, ← Tr.text_len]
  simpa using this

theorem isTreeB_str (t : Tr) (h : t.carets ≤ 8) : isTreeB t.str = true := by
  unfold isTreeB
  rw [cnt_str, endI_str t h, Tr.str_size]
  simp; omega

theorem treeOf_of_isTreeB {s : ByteArray} (h : isTreeB s = true) : ∃ t : Tr, s = t.str ∧ t.carets ≤ 8 := by
  unfold isTreeB at h
  simp at h
  obtain ⟨⟨h1, h2⟩, h3⟩ := h
  obtain ⟨t, r, e, f⟩ := endI_sound 61 s 0 (by rw [show ((0 : Nat) : Int) = 0 from rfl, h3]; omega)
  have hz : s.size = t.text.length := by
    rw [show ((0 : Nat) : Int) = 0 from rfl] at f
    omega
  have hr : r = [] := by
    have := congrArg List.length e
    simp only [List.drop_zero, List.length_append, ← Lib.size_eq] at this
    exact List.length_eq_zero_iff.1 (by omega)
  have hs : s = t.str := str_of_list (by rw [hr] at e; simpa using e)
  refine ⟨t, hs, ?_⟩
  rw [hs, cnt_str] at h2
  omega

theorem isTreeB_eq (s : ByteArray) : isTreeB s = (treeOf s).isSome := by
  cases h : treeOf s with
  | some t =>
    obtain ⟨rfl, hc⟩ := treeOf_some h
    exact isTreeB_str t hc
  | none =>
    cases hb : isTreeB s with
    | false => rfl
    | true =>
      obtain ⟨t, rfl, hc⟩ := treeOf_of_isTreeB hb
      rw [treeOf_str t hc] at h
      simp at h

end Go.Proofs.Ytllnfbenaeeloaa

/-! TrFn -/
namespace Go.Proofs.Ytllnfbenaeeloaa
namespace Tr
def mir : Tr → Tr
  | lf => lf
  | nd l r => nd r.mir l.mir
def join : Tr → Tr → Tr
  | lf, b => b
  | nd l r, lf => nd l r
  | nd l r, nd p q => nd (join l p) (join r q)
def com : Tr → Tr → Tr
  | lf, _ => lf
  | nd _ _, lf => lf
  | nd l r, nd p q => nd (com l p) (com r q)
def part : Tr → Tr → Bool
  | lf, _ => true
  | nd _ _, lf => false
  | nd l r, nd p q => part l p && part r q
def isLf : Tr → Bool
  | lf => true
  | nd _ _ => false
end Tr

theorem mir_carets (t : Tr) : t.mir.carets = t.carets := by
  induction t with
  | lf => rfl
  | nd l r ihl ihr => simp [Tr.mir, Tr.carets, ihl, ihr]; omega

theorem join_carets (a : Tr) : ∀ b : Tr, (a.join b).carets ≤ a.carets + b.carets := by
  induction a with
  | lf => intro b; simp [Tr.join]
  | nd l r ihl ihr =>
    intro b
    cases b with
    | lf => simp [Tr.join]
    | nd p q => have := ihl p; have := ihr q; simp [Tr.join, Tr.carets]; omega

theorem com_carets (a : Tr) : ∀ b : Tr, (a.com b).carets ≤ a.carets := by
  induction a with
  | lf => intro b; simp [Tr.com]
  | nd l r ihl ihr =>
    intro b
    cases b with
    | lf => simp [Tr.com, Tr.carets]
    | nd p q => have := ihl p; have := ihr q; simp [Tr.com, Tr.carets]; omega

theorem com_eq_part (a : Tr) : ∀ b : Tr, a.com b = a ↔ a.part b = true := by
  induction a with
  | lf => intro b; simp [Tr.com, Tr.part]
  | nd l r ihl ihr =>
    intro b
    cases b with
    | lf => simp [Tr.com, Tr.part]
    | nd p q => simp [Tr.com, Tr.part, ihl, ihr]

end Go.Proofs.Ytllnfbenaeeloaa

/-! AtP -/
namespace Go.Proofs.Ytllnfbenaeeloaa
def Tr.sub : Tr → List UInt8 → Option Tr
  | t, [] => some t
  | .lf, _ :: _ => none
  | .nd l r, c :: cs => if c = 48 then l.sub cs else if c = 49 then r.sub cs else none

theorem sub_carets : ∀ (l : List UInt8) (t u : Tr), t.sub l = some u → u.carets + l.length ≤ t.carets := by
  intro l
  induction l with
  | nil => intro t u h; simp [Tr.sub] at h; subst h; simp
  | cons c cs ih =>
    intro t u h
    cases t with
    | lf => simp [Tr.sub] at h
    | nd a b =>
      rw [Tr.sub] at h
      split at h
      · have := ih _ _ h; simp [Tr.carets]; omega
      · split at h
        · have := ih _ _ h; simp [Tr.carets]; omega
        · simp at h
end Go.Proofs.Ytllnfbenaeeloaa

/-! BrP -/
namespace Go.Proofs.Ytllnfbenaeeloaa
namespace Tr
/-- Rotated at the top, or back (true). -/
def rot : Bool → Tr → Option Tr
  | false, .nd (.nd a b) c => some (.nd a (.nd b c))
  | true, .nd a (.nd b c) => some (.nd (.nd a b) c)
  | _, _ => none
def rotAt (k : Bool) : Tr → List UInt8 → Option Tr
  | t, [] => t.rot k
  | .lf, _ :: _ => none
  | .nd l r, c :: cs => if c = 48 then (l.rotAt k cs).map (fun x => .nd x r) else if c = 49 then (r.rotAt k cs).map (fun x => .nd l x) else none
def here1 (k : Bool) (t : Tr) (here : ByteArray) : List ByteArray := if (t.rot k).isSome then [here] else []
def spots (k : Bool) : Tr → ByteArray → List ByteArray
  | .lf, _ => []
  | .nd l r, here => here1 k (.nd l r) here ++ (spots k l (here ++ ⟨#[48]⟩) ++ spots k r (here ++ ⟨#[49]⟩))
/-- The carets in all left sides. -/
def lw : Tr → Nat
  | .lf => 0
  | .nd l r => l.lw + r.lw + l.carets
end Tr

theorem rot_carets {k : Bool} {t u : Tr} (h : t.rot k = some u) : u.carets = t.carets := by
  unfold Tr.rot at h
  split at h
  · injection h with h; subst h; simp [Tr.carets]; omega
  · injection h with h; subst h; simp [Tr.carets]; omega
  · simp at h

theorem rotAt_nil (k : Bool) (t : Tr) : t.rotAt k [] = t.rot k := by cases t <;> rfl

theorem rotAt_carets {k : Bool} : ∀ (p : List UInt8) {t u : Tr}, t.rotAt k p = some u → u.carets = t.carets := by
  intro p
  induction p with
  | nil => intro t u h; rw [rotAt_nil] at h; exact rot_carets h
  | cons c cs ih =>
    intro t u h
    cases t with
    | lf => simp [Tr.rotAt] at h
    | nd l r =>
      rw [Tr.rotAt] at h
      split at h
      · cases g : l.rotAt k cs with
        | none => rw [g] at h; simp at h
        | some x => rw [g] at h; simp at h; subst h; have := ih g; simp [Tr.carets, this]
      · split at h
        · cases g : r.rotAt k cs with
          | none => rw [g] at h; simp at h
          | some x => rw [g] at h; simp at h; subst h; have := ih g; simp [Tr.carets, this]
        · simp at h

theorem rotAt_long {k : Bool} : ∀ (p : List UInt8) {t : Tr}, t.carets < p.length → t.rotAt k p = none := by
  intro p
  induction p with
  | nil => intro t h; simp at h
  | cons c cs ih =>
    intro t h
    cases t with
    | lf => rfl
    | nd l r =>
      simp [Tr.carets] at h
      rw [Tr.rotAt, ih (by omega), ih (by omega)]
      simp

theorem rot_lw {t u : Tr} (h : t.rot false = some u) : u.lw < t.lw := by
  unfold Tr.rot at h
  split at h
  · injection h with h; subst h; simp [Tr.lw, Tr.carets]; omega
  · simp at *
  · simp at h

theorem rotAt_lw : ∀ (p : List UInt8) {t u : Tr}, t.rotAt false p = some u → u.lw < t.lw := by
  intro p
  induction p with
  | nil => intro t u h; rw [rotAt_nil] at h; exact rot_lw h
  | cons c cs ih =>
    intro t u h
    cases t with
    | lf => simp [Tr.rotAt] at h
    | nd l r =>
      rw [Tr.rotAt] at h
      split at h
      · cases g : l.rotAt false cs with
        | none => rw [g] at h; simp at h
        | some x => rw [g] at h; simp at h; subst h; have := ih g; have := rotAt_carets _ g; simp [Tr.lw]; omega
      · split at h
        · cases g : r.rotAt false cs with
          | none => rw [g] at h; simp at h
          | some x => rw [g] at h; simp at h; subst h; have := ih g; simp [Tr.lw]; omega
        · simp at h

theorem lw_le (t : Tr) : t.lw ≤ t.carets * t.carets := by
  induction t with
  | lf => simp [Tr.lw]
  | nd l r ihl ihr =>
    simp only [Tr.lw, Tr.carets]
    have e : (l.carets + r.carets + 1) * (l.carets + r.carets + 1) = l.carets * l.carets + r.carets * r.carets + 2 * (l.carets * r.carets) + 2 * l.carets + 2 * r.carets + 1 := by
      simp [Nat.add_mul, Nat.mul_add]
      have := Nat.mul_comm l.carets r.carets
      omega
    have := Nat.zero_le (l.carets * r.carets)
    omega

theorem rot_lf (k : Bool) : Tr.lf.rot k = none := by cases k <;> rfl

/-- Where a tree can be rotated, it can be rotated there. -/
theorem spots_mem {k : Bool} : ∀ (t : Tr) (here a : ByteArray), a ∈ t.spots k here → ∃ p, a.data.toList = here.data.toList ++ p ∧ (t.rotAt k p).isSome = true := by
  intro t
  induction t with
  | lf => intro here a h; simp [Tr.spots] at h
  | nd l r ihl ihr =>
    intro here a h
    rw [Tr.spots, List.mem_append, List.mem_append] at h
    have e : ∀ c : UInt8, (here ++ (⟨#[c]⟩ : ByteArray)).data.toList = here.data.toList ++ [c] := fun c => by simp
    rcases h with h | h | h
    · unfold Tr.here1 at h
      split at h
      · next g => simp at h; subst h; exact ⟨[], by simp, by rw [rotAt_nil]; exact g⟩
      · simp at h
    · obtain ⟨p, hp, hs⟩ := ihl _ _ h
      refine ⟨48 :: p, by rw [hp, e]; simp, ?_⟩
      rw [Tr.rotAt, if_pos rfl]
      cases g : l.rotAt k p with
      | none => rw [g] at hs; simp at hs
      | some x => rfl
    · obtain ⟨p, hp, hs⟩ := ihr _ _ h
      refine ⟨49 :: p, by rw [hp, e]; simp, ?_⟩
      rw [Tr.rotAt, if_neg (by decide), if_pos rfl]
      cases g : r.rotAt k p with
      | none => rw [g] at hs; simp at hs
      | some x => rfl

theorem spots_mem0 {k : Bool} {t : Tr} {a : ByteArray} (h : a ∈ t.spots k ⟨#[]⟩) : ∃ u, t.rotAt k a.data.toList = some u := by
  obtain ⟨p, hp, hs⟩ := spots_mem t _ a h
  have : a.data.toList = p := by simpa using hp
  rw [this]
  exact Option.isSome_iff_exists.1 hs

theorem here1_len (k : Bool) (t : Tr) (here : ByteArray) : (t.here1 k here).length ≤ 1 := by unfold Tr.here1; split <;> simp
theorem spots_len {k : Bool} (t : Tr) : ∀ here, (t.spots k here).length ≤ t.carets := by
  induction t with
  | lf => intro here; simp [Tr.spots]
  | nd l r ihl ihr =>
    intro here
    have h1 := here1_len k (.nd l r) here
    have h2 := ihl (here ++ ⟨#[48]⟩)
    have h3 := ihr (here ++ ⟨#[49]⟩)
    simp only [Tr.spots, Tr.carets, List.length_append]; omega
theorem spots_size {k : Bool} (t : Tr) : ∀ here, ∀ s ∈ t.spots k here, s.size ≤ here.size + t.carets := by
  induction t with
  | lf => intro here s h; simp [Tr.spots] at h
  | nd l r ihl ihr =>
    intro here s h
    rw [Tr.spots, List.mem_append, List.mem_append] at h
    have e0 : ∀ c : UInt8, (here ++ (⟨#[c]⟩ : ByteArray)).size = here.size + 1 := fun c => ByteArray.size_append
    simp only [Tr.carets]
    rcases h with h | h | h
    · unfold Tr.here1 at h
      split at h
      · simp at h; subst h; omega
      · simp at h
    · have := ihl _ s h; rw [e0] at this; omega
    · have := ihr _ s h; rw [e0] at this; omega

/-- The tree behind a rotation at the first place, if there is one. -/
def nextT (t : Tr) : Option Tr :=
  match t.spots false ⟨#[]⟩ with
  | [] => none
  | a :: _ => t.rotAt false a.data.toList
theorem nextT_lw {t u : Tr} (h : nextT t = some u) : u.lw < t.lw := by
  unfold nextT at h
  split at h
  · simp at h
  · exact rotAt_lw _ h
theorem nextT_carets {t u : Tr} (h : nextT t = some u) : u.carets = t.carets := by
  unfold nextT at h
  split at h
  · simp at h
  · exact rotAt_carets _ h
theorem nextT_nil {t : Tr} (h : t.spots false ⟨#[]⟩ = []) : nextT t = none := by unfold nextT; rw [h]
theorem nextT_cons {t : Tr} {a : ByteArray} {as1 : List ByteArray} (h : t.spots false ⟨#[]⟩ = a :: as1) : ∃ u, t.rotAt false a.data.toList = some u ∧ nextT t = some u := by
  obtain ⟨u, hu⟩ := spots_mem0 (k := false) (t := t) (a := a) (by rw [h]; simp)
  exact ⟨u, hu, by unfold nextT; rw [h]; exact hu⟩

def chainF : Nat → Tr → List Tr
  | 0, t => [t]
  | k + 1, t => match nextT t with
    | none => [t]
    | some u => t :: chainF k u
def chainT (t : Tr) : List Tr := chainF t.lw t
theorem chainF_eq (k : Nat) : ∀ (j : Nat) (t : Tr), t.lw ≤ k → t.lw ≤ j → chainF k t = chainF j t := by
  induction k with
  | zero =>
    intro j t h h2
    cases j with
    | zero => rfl
    | succ j =>
      rw [chainF, chainF]
      cases g : nextT t with
      | none => rfl
      | some u => have := nextT_lw g; omega
  | succ k ih =>
    intro j t h h2
    cases j with
    | zero =>
      rw [chainF, chainF]
      cases g : nextT t with
      | none => rfl
      | some u => have := nextT_lw g; omega
    | succ j =>
      rw [chainF, chainF]
      cases g : nextT t with
      | none => rfl
      | some u => have := nextT_lw g; simp only; rw [ih j u (by omega) (by omega)]
theorem chainT_none {t : Tr} (h : nextT t = none) : chainT t = [t] := by
  unfold chainT
  cases g : t.lw with
  | zero => rfl
  | succ k => rw [chainF, h]
theorem chainT_some {t u : Tr} (h : nextT t = some u) : chainT t = t :: chainT u := by
  have := nextT_lw h
  unfold chainT
  obtain ⟨k, hk⟩ : ∃ k, t.lw = k + 1 := ⟨t.lw - 1, by omega⟩
  rw [hk, chainF, h]
  simp only
  rw [chainF_eq k u.lw u (by omega) (by omega)]
theorem chainF_len (k : Nat) : ∀ t, (chainF k t).length ≤ k + 1 ∧ 1 ≤ (chainF k t).length := by
  induction k with
  | zero => intro t; simp [chainF]
  | succ k ih =>
    intro t
    rw [chainF]
    split
    · simp
    · next u _ => have := ih u; simp; omega
theorem chainT_len (t : Tr) : (chainT t).length ≤ t.carets * t.carets + 1 ∧ 1 ≤ (chainT t).length := by
  have := chainF_len t.lw t
  have := lw_le t
  unfold chainT; omega
theorem chainF_carets (k : Nat) : ∀ t, ∀ u ∈ chainF k t, u.carets = t.carets := by
  induction k with
  | zero => intro t u h; simp [chainF] at h; rw [h]
  | succ k ih =>
    intro t u h
    rw [chainF] at h
    split at h
    · simp at h; rw [h]
    · next x g =>
      simp at h
      rcases h with h | h
      · rw [h]
      · rw [ih x u h, nextT_carets g]
theorem chainT_carets {t u : Tr} (h : u ∈ chainT t) : u.carets = t.carets := chainF_carets _ _ _ h
end Go.Proofs.Ytllnfbenaeeloaa

/-! NrP -/
namespace Go.Proofs.Ytllnfbenaeeloaa

/-- Texts in order. -/
def leB (a b : ByteArray) : Bool := decide (¬ b.data.toList < a.data.toList)
theorem u8_irrefl (a : UInt8) : ¬ a < a := UInt8.lt_irrefl a
theorem leB_total (a b : ByteArray) : leB a b = true ∨ leB b a = true := by
  unfold leB
  by_cases h : b.data.toList < a.data.toList
  · right
    simp only [decide_eq_true_eq]
    exact List.lt_asymm h
  · left; simpa using h
theorem leB_trans {a b c : ByteArray} (h : leB a b = true) (k : leB b c = true) : leB a c = true := by
  unfold leB at *
  simp only [decide_eq_true_eq] at *
  exact List.le_trans (α := UInt8) h k
theorem leB_antisymm {a b : ByteArray} (h : leB a b = true) (k : leB b a = true) : a = b := by
  unfold leB at *
  simp only [decide_eq_true_eq] at *
  exact ba_ext (List.le_antisymm (α := UInt8) h k)

/-- How many texts at the beginning are less. -/
def frontB (x : ByteArray) (l : List ByteArray) : Nat := (l.takeWhile (fun y => decide (y.data.toList < x.data.toList))).length
def insB (x : ByteArray) (l : List ByteArray) : List ByteArray := l.take (frontB x l) ++ [x] ++ l.drop (frontB x l)
theorem frontB_nil (x : ByteArray) : frontB x [] = 0 := rfl
theorem insB_cons (x y : ByteArray) (l : List ByteArray) : insB x (y :: l) = if y.data.toList < x.data.toList then y :: insB x l else x :: y :: l := by
  unfold insB frontB
  rw [List.takeWhile_cons]
  by_cases h : y.data.toList < x.data.toList
  · simp [h]
  · simp [h]
theorem frontB_cons (x y : ByteArray) (l : List ByteArray) : frontB x (y :: l) = if y.data.toList < x.data.toList then frontB x l + 1 else 0 := by
  unfold frontB
  rw [List.takeWhile_cons]
  by_cases h : y.data.toList < x.data.toList
  · simp [h]
  · simp [h]
theorem frontB_le (x : ByteArray) (l : List ByteArray) : frontB x l ≤ l.length := by
  unfold frontB; exact (List.takeWhile_sublist _).length_le
theorem frontB_lt {x : ByteArray} : ∀ {l : List ByteArray} {k : Nat}, k < frontB x l → (l.getD k ⟨#[]⟩).data.toList < x.data.toList := by
  intro l
  induction l with
  | nil => intro k h; rw [frontB_nil] at h; omega
  | cons y l ih =>
    intro k h
    rw [frontB_cons] at h
    split at h
    · next g =>
      cases k with
      | zero => exact g
      | succ k => exact ih (by omega)
    · omega
theorem frontB_at {x : ByteArray} : ∀ {l : List ByteArray}, frontB x l < l.length → ¬ (l.getD (frontB x l) ⟨#[]⟩).data.toList < x.data.toList := by
  intro l
  induction l with
  | nil => intro h; simp at h
  | cons y l ih =>
    intro h
    rw [frontB_cons] at h ⊢
    split
    · next g => rw [if_pos g] at h; exact ih (by simpa using h)
    · next g => exact g
theorem insB_perm (x : ByteArray) (l : List ByteArray) : List.Perm (insB x l) (x :: l) := by
  unfold insB
  have h1 : List.Perm (l.take (frontB x l) ++ [x] ++ l.drop (frontB x l)) (x :: (l.take (frontB x l) ++ l.drop (frontB x l))) := by
    rw [List.append_assoc]
    exact List.perm_middle
  rwa [List.take_append_drop] at h1
theorem insB_length (x : ByteArray) (l : List ByteArray) : (insB x l).length = l.length + 1 := by simpa using (insB_perm x l).length_eq
theorem insB_sorted {x : ByteArray} : ∀ {l : List ByteArray}, l.Pairwise (fun a b => leB a b = true) → (insB x l).Pairwise (fun a b => leB a b = true) := by
  intro l
  induction l with
  | nil => intro _; simp [insB, frontB]
  | cons y l ih =>
    intro h
    rw [List.pairwise_cons] at h
    rw [insB_cons]
    split
    · next g =>
      rw [List.pairwise_cons]
      refine ⟨fun z hz => ?_, ih h.2⟩
      have := (insB_perm x l).mem_iff.1 hz
      rcases List.mem_cons.1 this with rfl | hz
      · unfold leB; simp only [decide_eq_true_eq]; exact List.lt_asymm g
      · exact h.1 z hz
    · next g =>
      have hxy : leB x y = true := by unfold leB; simpa using g
      rw [List.pairwise_cons]
      refine ⟨fun z hz => ?_, by rw [List.pairwise_cons]; exact h⟩
      rcases List.mem_cons.1 hz with rfl | hz
      · exact hxy
      · exact leB_trans hxy (h.1 z hz)
/-- All put in order one by one. -/
def insAll (l acc : List ByteArray) : List ByteArray := l.foldl (fun acc x => insB x acc) acc
theorem insAll_perm (l : List ByteArray) : ∀ acc, List.Perm (insAll l acc) (l ++ acc) := by
  induction l with
  | nil => intro acc; exact List.Perm.refl _
  | cons x l ih =>
    intro acc
    show List.Perm (insAll l (insB x acc)) _
    refine (ih (insB x acc)).trans ?_
    refine ((insB_perm x acc).append_left l).trans ?_
    exact List.perm_middle
theorem insAll_sorted (l : List ByteArray) : ∀ acc, acc.Pairwise (fun a b => leB a b = true) → (insAll l acc).Pairwise (fun a b => leB a b = true) := by
  induction l with
  | nil => intro acc h; exact h
  | cons x l ih => intro acc h; exact ih _ (insB_sorted h)
theorem insAll_length (l acc : List ByteArray) : (insAll l acc).length = l.length + acc.length := by rw [(insAll_perm l acc).length_eq, List.length_append]
theorem insAll_append (l m acc : List ByteArray) : insAll (l ++ m) acc = insAll m (insAll l acc) := by unfold insAll; rw [List.foldl_append]
theorem insAll_one (x : ByteArray) (acc : List ByteArray) : insAll [x] acc = insB x acc := rfl
/-- Whatever is in order and holds the same texts is that list. -/
theorem insAll_unique {l m : List ByteArray} (hp : List.Perm m l) (hs : m.Pairwise (fun a b => leB a b = true)) : m = insAll l [] := by
  have h1 : List.Perm m (insAll l []) := hp.trans (by have := insAll_perm l []; rw [List.append_nil] at this; exact this.symm)
  exact List.Perm.eq_of_pairwise (fun a b _ _ h k => leB_antisymm h k) hs (insAll_sorted l [] List.Pairwise.nil) h1

/-- The trees behind turns at addresses (those that can be made). -/
def turnL (k : Bool) (t : Tr) (as1 : List ByteArray) : List ByteArray := as1.map fun a => match t.rotAt k a.data.toList with | some u => u.str | none => ⟨#[]⟩
def reachT (t : Tr) : List ByteArray := turnL false t (t.spots false ⟨#[]⟩) ++ turnL true t (t.spots true ⟨#[]⟩)
def nearT (t : Tr) : List ByteArray := insAll (reachT t) []
theorem turnL_len (k : Bool) (t : Tr) (as1 : List ByteArray) : (turnL k t as1).length = as1.length := by simp [turnL]
theorem reachT_len (t : Tr) : (reachT t).length ≤ 2 * t.carets := by
  have h1 := spots_len (k := false) t ⟨#[]⟩
  have h2 := spots_len (k := true) t ⟨#[]⟩
  unfold reachT; rw [List.length_append, turnL_len, turnL_len]; omega
theorem nearT_len (t : Tr) : (nearT t).length ≤ 2 * t.carets := by
  have := reachT_len t
  unfold nearT; rw [insAll_length]; simpa using this
end Go.Proofs.Ytllnfbenaeeloaa

/-! ChP -/
namespace Go.Proofs.Ytllnfbenaeeloaa
/-- The right comb. -/
def combR8 : Nat → Tr
  | 0 => .lf
  | n + 1 => .nd .lf (combR8 n)
theorem spots_none_comb (t : Tr) : ∀ here, t.spots false here = [] → t = combR8 t.carets := by
  induction t with
  | lf => intro here _; rfl
  | nd l r _ ihr =>
    intro here h
    rw [Tr.spots, List.append_eq_nil_iff, List.append_eq_nil_iff] at h
    have hr := ihr _ h.2.2
    cases l with
    | lf =>
      simp only [Tr.carets, Nat.zero_add]
      show Tr.nd .lf r = .nd .lf (combR8 r.carets)
      rw [← hr]
    | nd a b =>
      exfalso
      have h1 := h.1
      unfold Tr.here1 at h1
      rw [if_pos (by rfl)] at h1
      simp at h1
theorem nextT_none_comb {t : Tr} (h : nextT t = none) : t = combR8 t.carets := by
  cases k : t.spots false ⟨#[]⟩ with
  | nil => exact spots_none_comb t _ k
  | cons a as1 =>
    obtain ⟨u, _, h2⟩ := nextT_cons k
    rw [h] at h2; cases h2
theorem chainF_last (k : Nat) : ∀ t : Tr, t.lw ≤ k → (chainF k t).getLast? = some (combR8 t.carets) := by
  induction k with
  | zero =>
    intro t h
    have hn : nextT t = none := by
      cases g : nextT t with
      | none => rfl
      | some u => have := nextT_lw g; omega
    show [t].getLast? = _
    rw [← nextT_none_comb hn]; rfl
  | succ k ih =>
    intro t h
    rw [chainF]
    cases g : nextT t with
    | none => show [t].getLast? = _; rw [← nextT_none_comb g]; rfl
    | some u =>
      have h1 := nextT_lw g
      have h2 := ih u (by omega)
      rw [nextT_carets g] at h2
      have h3 := (chainF_len k u).2
      simp only
      rw [List.getLast?_cons, h2]; rfl
theorem chainT_last (t : Tr) : (chainT t).getLast? = some (combR8 t.carets) := chainF_last _ t (Nat.le_refl _)
theorem dropLast_last {α : Type} {l : List α} {x : α} (h : l.getLast? = some x) : l = l.dropLast ++ [x] := by
  induction l with
  | nil => simp at h
  | cons a l ih =>
    cases l with
    | nil => simp at h; subst h; rfl
    | cons b l =>
      rw [List.getLast?_cons_cons] at h
      rw [List.dropLast_cons_cons, List.cons_append, ← ih h]
/-- From one to the other over the right comb. -/
def betweenT (a b : Tr) : List Tr := chainT a ++ (chainT b).dropLast.reverse
theorem between_eq {a b : Tr} (h : a.carets = b.carets) : (chainT a).dropLast ++ (chainT b).reverse = betweenT a b := by
  have h1 := dropLast_last (chainT_last a)
  have h2 := dropLast_last (chainT_last b)
  unfold betweenT
  rw [show (chainT b).reverse = combR8 b.carets :: (chainT b).dropLast.reverse by
    conv => lhs; rw [h2]
    simp]
  conv => rhs; rw [h1]
  rw [h]; simp
end Go.Proofs.Ytllnfbenaeeloaa

/-! DiP -/
namespace Go.Proofs.Ytllnfbenaeeloaa

theorem rot_back {k : Bool} {t u : Tr} (h : t.rot k = some u) : u.rot (!k) = some t := by
  unfold Tr.rot at h
  split at h
  · injection h with h; subst h; rfl
  · injection h with h; subst h; rfl
  · simp at h
theorem rotAt_back {k : Bool} : ∀ (p : List UInt8) {t u : Tr}, t.rotAt k p = some u → u.rotAt (!k) p = some t := by
  intro p
  induction p with
  | nil => intro t u h; rw [rotAt_nil] at h ⊢; exact rot_back h
  | cons c cs ih =>
    intro t u h
    cases t with
    | lf => simp [Tr.rotAt] at h
    | nd l r =>
      rw [Tr.rotAt] at h
      split at h
      · next hc =>
        cases g : l.rotAt k cs with
        | none => rw [g] at h; simp at h
        | some x => rw [g] at h; simp at h; subst h; rw [Tr.rotAt, if_pos hc, ih g]; rfl
      · next hc =>
        split at h
        · next hd =>
          cases g : r.rotAt k cs with
          | none => rw [g] at h; simp at h
          | some x => rw [g] at h; simp at h; subst h; rw [Tr.rotAt, if_neg hc, if_pos hd, ih g]; rfl
        · simp at h
/-- Each address at which a tree can be rotated is among the places. -/
theorem spots_all {k : Bool} : ∀ (p : List UInt8) (t : Tr) (here : ByteArray), (t.rotAt k p).isSome = true → ∃ a ∈ t.spots k here, a.data.toList = here.data.toList ++ p := by
  intro p
  induction p with
  | nil =>
    intro t here h
    rw [rotAt_nil] at h
    cases t with
    | lf => rw [rot_lf] at h; simp at h
    | nd l r => exact ⟨here, by rw [Tr.spots]; unfold Tr.here1; rw [if_pos h]; simp, by simp⟩
  | cons c cs ih =>
    intro t here h
    have e : ∀ c : UInt8, (here ++ (⟨#[c]⟩ : ByteArray)).data.toList = here.data.toList ++ [c] := fun c => by simp
    cases t with
    | lf => simp [Tr.rotAt] at h
    | nd l r =>
      rw [Tr.rotAt] at h
      split at h
      · next hc =>
        subst hc
        obtain ⟨a, ha, hd⟩ := ih l (here ++ ⟨#[48]⟩) (by simpa using h)
        exact ⟨a, by rw [Tr.spots]; simp [ha], by rw [hd, e]; simp⟩
      · split at h
        · next hc =>
          subst hc
          obtain ⟨a, ha, hd⟩ := ih r (here ++ ⟨#[49]⟩) (by simpa using h)
          exact ⟨a, by rw [Tr.spots]; simp [ha], by rw [hd, e]; simp⟩
        · simp at h

/-- One turn. -/
def Turn (t u : Tr) : Prop := ∃ k p, t.rotAt k p = some u
theorem Turn.back {t u : Tr} : Turn t u → Turn u t := fun ⟨k, p, h⟩ => ⟨!k, p, rotAt_back p h⟩
theorem Turn.carets {t u : Tr} : Turn t u → u.carets = t.carets := fun ⟨_, p, h⟩ => rotAt_carets p h
theorem turnL_mem {k : Bool} {t : Tr} {s : ByteArray} : s ∈ turnL k t (t.spots k ⟨#[]⟩) ↔ ∃ p u, t.rotAt k p = some u ∧ s = u.str := by
  unfold turnL
  rw [List.mem_map]
  constructor
  · rintro ⟨a, ha, hs⟩
    obtain ⟨u, hu⟩ := spots_mem0 ha
    rw [hu] at hs
    exact ⟨_, u, hu, hs.symm⟩
  · rintro ⟨p, u, hu, rfl⟩
    obtain ⟨a, ha, hd⟩ := spots_all p t ⟨#[]⟩ (by rw [hu]; rfl)
    refine ⟨a, ha, ?_⟩
    have : a.data.toList = p := by simpa using hd
    rw [this, hu]
theorem nearT_mem {t : Tr} {s : ByteArray} : s ∈ nearT t ↔ ∃ u, Turn t u ∧ s = u.str := by
  have hp := insAll_perm (reachT t) []
  unfold nearT
  rw [hp.mem_iff, List.append_nil]
  unfold reachT
  rw [List.mem_append, turnL_mem, turnL_mem]
  constructor
  · rintro (⟨p, u, h, rfl⟩ | ⟨p, u, h, rfl⟩)
    · exact ⟨u, ⟨_, p, h⟩, rfl⟩
    · exact ⟨u, ⟨_, p, h⟩, rfl⟩
  · rintro ⟨u, ⟨k, p, h⟩, rfl⟩
    cases k with
    | false => exact Or.inl ⟨p, u, h, rfl⟩
    | true => exact Or.inr ⟨p, u, h, rfl⟩

/-- The trees of the neighbours' texts. -/
def nearL (t : Tr) : List Tr := (nearT t).map fun s => (treeOf s).getD .lf
theorem nearL_str {t : Tr} (ht : t.carets ≤ 8) : (nearL t).map Tr.str = nearT t := by
  unfold nearL
  rw [List.map_map]
  conv => rhs; rw [← List.map_id (nearT t)]
  refine List.map_congr_left fun s hs => ?_
  obtain ⟨u, hu, rfl⟩ := nearT_mem.1 hs
  have := hu.carets
  simp [treeOf_str u (by omega)]
theorem nearL_mem {t u : Tr} (ht : t.carets ≤ 8) : u ∈ nearL t ↔ Turn t u := by
  unfold nearL
  rw [List.mem_map]
  constructor
  · rintro ⟨s, hs, rfl⟩
    obtain ⟨u, hu, rfl⟩ := nearT_mem.1 hs
    have := hu.carets
    rw [treeOf_str u (by omega)]; exact hu
  · intro hu
    have := hu.carets
    exact ⟨u.str, nearT_mem.2 ⟨u, hu, rfl⟩, by rw [treeOf_str u (by omega)]; rfl⟩
theorem nearL_carets {t u : Tr} (ht : t.carets ≤ 8) (h : u ∈ nearL t) : u.carets = t.carets := ((nearL_mem ht).1 h).carets
theorem nearL_len (t : Tr) : (nearL t).length ≤ 2 * t.carets := by unfold nearL; rw [List.length_map]; exact nearT_len t

/-- A walk of so many turns. -/
def Wk : Nat → Tr → Tr → Prop
  | 0, a, b => a = b
  | n + 1, a, b => ∃ c, Wk n a c ∧ Turn c b
theorem Wk.carets : ∀ {n : Nat} {a b : Tr}, Wk n a b → b.carets = a.carets := by
  intro n
  induction n with
  | zero => intro a b h; rw [show a = b from h]
  | succ n ih => rintro a b ⟨c, h1, h2⟩; rw [h2.carets, ih h1]
theorem Wk.trans : ∀ {n : Nat} {m : Nat} {a b c : Tr}, Wk m a b → Wk n b c → Wk (m + n) a c := by
  intro n
  induction n with
  | zero => intro m a b c h k; rw [← (show b = c from k)]; exact h
  | succ n ih => rintro m a b c h ⟨d, k1, k2⟩; exact ⟨d, ih h k1, k2⟩
theorem Wk.one {a b : Tr} (h : Turn a b) : Wk 1 a b := ⟨a, rfl, h⟩
theorem Wk.back : ∀ {n : Nat} {a b : Tr}, Wk n a b → Wk n b a := by
  intro n
  induction n with
  | zero => intro a b h; exact (show a = b from h).symm
  | succ n ih => rintro a b ⟨c, h1, h2⟩; have := (Wk.one h2.back).trans (ih h1); rwa [Nat.add_comm] at this
theorem Wk.part : ∀ {n : Nat} {m : Nat} {a b : Tr}, Wk (m + n) a b → ∃ c, Wk m a c ∧ Wk n c b := by
  intro n
  induction n with
  | zero => intro m a b h; exact ⟨b, h, rfl⟩
  | succ n ih => rintro m a b ⟨d, h1, h2⟩; obtain ⟨c, k1, k2⟩ := ih h1; exact ⟨c, k1, d, k2, h2⟩
theorem nextT_turn {t u : Tr} (h : nextT t = some u) : Turn t u := by
  unfold nextT at h
  split at h
  · simp at h
  · next a _ _ => exact ⟨false, a.data.toList, h⟩
theorem wk_comb (n : Nat) : ∀ t : Tr, t.lw ≤ n → ∃ k, k ≤ t.lw ∧ Wk k t (combR8 t.carets) := by
  induction n with
  | zero =>
    intro t h
    cases g : nextT t with
    | none => exact ⟨0, Nat.zero_le _, nextT_none_comb g⟩
    | some u => have := nextT_lw g; omega
  | succ n ih =>
    intro t h
    cases g : nextT t with
    | none => exact ⟨0, Nat.zero_le _, nextT_none_comb g⟩
    | some u =>
      have h1 := nextT_lw g
      obtain ⟨k, hk1, hk⟩ := ih u (by omega)
      rw [nextT_carets g] at hk
      exact ⟨1 + k, by omega, (Wk.one (nextT_turn g)).trans hk⟩
theorem wk_ex9 {a b : Tr} (h : a.carets = b.carets) : ∃ n, n ≤ a.lw + b.lw ∧ Wk n a b := by
  obtain ⟨m, h1, hm⟩ := wk_comb _ a (Nat.le_refl _)
  obtain ⟨n, h2, hn⟩ := wk_comb _ b (Nat.le_refl _)
  rw [← h] at hn
  exact ⟨_, by omega, hm.trans hn.back⟩
theorem wk_ex {a b : Tr} (h : a.carets = b.carets) : ∃ n, Wk n a b := let ⟨n, _, hn⟩ := wk_ex9 h; ⟨n, hn⟩
theorem least_ex {P : Nat → Prop} (h : ∃ n, P n) : ∃ n, P n ∧ ∀ m, m < n → ¬ P m := by
  obtain ⟨n, hn⟩ := h
  induction n using Nat.strongRecOn with
  | _ n ih =>
    by_cases k : ∃ m, m < n ∧ P m
    · obtain ⟨m, h1, h2⟩ := k; exact ih m h1 h2
    · exact ⟨n, hn, fun m h1 h2 => k ⟨m, h1, h2⟩⟩
/-- The distance. -/
noncomputable def wkD (a b : Tr) : Nat := if h : a.carets = b.carets then Classical.choose (least_ex (wk_ex h)) else 0
theorem wkD_is {a b : Tr} (h : a.carets = b.carets) : Wk (wkD a b) a b ∧ ∀ m, m < wkD a b → ¬ Wk m a b := by
  unfold wkD; rw [dif_pos h]; exact Classical.choose_spec (least_ex (wk_ex h))

theorem wkD_le {a b : Tr} (h : a.carets = b.carets) : wkD a b ≤ a.lw + b.lw := by
  obtain ⟨n, h1, h2⟩ := wk_ex9 h
  rcases Nat.lt_or_ge n (wkD a b) with h3 | h3
  · exact absurd h2 ((wkD_is h).2 n h3)
  · omega
theorem wkD_le50 {a b : Tr} (h : a.carets = b.carets) (h5 : a.carets ≤ 5) : wkD a b ≤ 50 := by
  have h1 := wkD_le h
  have h2 := lw_le a
  have h3 := lw_le b
  have h4 : a.carets * a.carets ≤ 5 * 5 := Nat.mul_le_mul h5 h5
  rw [← h] at h3
  omega
/-- First reached with so many turns. -/
def Fst (n : Nat) (a b : Tr) : Prop := Wk n a b ∧ ∀ m, m < n → ¬ Wk m a b
theorem fst_some {a b : Tr} {d i : Nat} (h : Fst d a b) (hi : i ≤ d) : ∃ c, Fst i a c := by
  obtain ⟨n, rfl⟩ : ∃ n, d = i + n := ⟨d - i, by omega⟩
  obtain ⟨c, h1, h2⟩ := h.1.part
  exact ⟨c, h1, fun m hm k => h.2 (m + n) (by omega) (k.trans h2)⟩
theorem fst_succ {a t : Tr} {i : Nat} : Fst (i + 1) a t ↔ (∃ c, Fst i a c ∧ Turn c t) ∧ ∀ m, m ≤ i → ¬ Wk m a t := by
  constructor
  · rintro ⟨⟨c, h1, h2⟩, h3⟩
    exact ⟨⟨c, ⟨h1, fun m hm k => h3 (m + 1) (by omega) ⟨c, k, h2⟩⟩, h2⟩, fun m hm => h3 m (by omega)⟩
  · rintro ⟨⟨c, h1, h2⟩, h3⟩
    exact ⟨⟨c, h1.1, h2⟩, fun m hm => h3 m (by omega)⟩

theorem nodup_sub_len {α : Type} : ∀ {l m : List α}, l.Pairwise (· ≠ ·) → (∀ x ∈ l, x ∈ m) → l.length ≤ m.length := by
  intro l
  induction l with
  | nil => intro m _ _; simp
  | cons a l ih =>
    intro m h hs
    rw [List.pairwise_cons] at h
    obtain ⟨p, q, rfl⟩ := List.append_of_mem (hs a (by simp))
    have := ih (m := p ++ q) h.2 (fun x hx => by
      have h1 := hs x (by simp [hx])
      simp only [List.mem_append, List.mem_cons] at h1 ⊢
      rcases h1 with h1 | h1 | h1
      · exact Or.inl h1
      · exact absurd h1.symm (h.1 x hx)
      · exact Or.inr h1)
    simp only [List.length_append, List.length_cons] at this ⊢
    omega
end Go.Proofs.Ytllnfbenaeeloaa

/-! MpS -/
namespace Go.Proofs.Ytllnfbenaeeloaa
open Go.RowKit
open Go.Maps (Keyed)

/-- A block is a map of at most n entries, all true, whose keys are those of S. -/
def SetM (P : Program) (k e : TypeId) (w : World) (b n : Nat) (S : Lit → Prop) : Prop :=
  ∃ D : DataW Unit, w.ownsMap P k (plainElem P e) b n D ∧ (∀ x, Maps.has D x = true ↔ S x) ∧ ∀ x z, S x → D.atKey x z = .lit (.bool true)

section
variable {P : Program} {k e t : TypeId} {w : World} {b n : Nat} {S : Lit → Prop}

theorem SetM.made (P : Program) (k e : TypeId) (w : World) : SetM P k e (w.alloc (.map #[] 0)) w.heap.size 0 (fun _ => False) :=
  ⟨.map [], World.ownsMap_made w P k _, fun x => by simp [Maps.has], fun x z h => h.elim⟩
theorem SetM.mono (h : SetM P k e w b n S) {m : Nat} (hn : n ≤ m) : SetM P k e w b m S := by
  obtain ⟨D, h1, h2⟩ := h; exact ⟨D, h1.mono hn, h2⟩
theorem SetM.lt (h : SetM P k e w b n S) : b < w.heap.size := by obtain ⟨D, h1, _⟩ := h; exact h1.lt
theorem SetM.kept {w' : World} {row : Option Nat} (h : SetM P k e w b n S) (hg : w.grownBy w' row) (hne : some b ≠ row) : SetM P k e w' b n S := by
  obtain ⟨D, h1, h2⟩ := h; exact ⟨D, h1.kept hg hne, h2⟩
theorem SetM.heap {w' : World} (h : SetM P k e w b n S) (hb : w'.heap[b]? = w.heap[b]?) : SetM P k e w' b n S := by
  obtain ⟨D, ⟨es, clock, h1, h3⟩, h2⟩ := h; exact ⟨D, ⟨es, clock, hb.trans h1, h3⟩, h2⟩
theorem SetM.below {w' : World} (h : SetM P k e w b n S) (hb : Below w.heap.size w w') : SetM P k e w' b n S := h.heap (hb.block b h.lt)
theorem SetM.alloc (h : SetM P k e w b n S) (o : Obj) : SetM P k e (w.alloc o) b n S := h.kept (World.grownBy_alloc w o none) (by simp)
theorem SetM.drew (h : SetM P k e w b n S) : SetM P k e w.drew b n S := h
theorem SetM.congr {T : Lit → Prop} (h : SetM P k e w b n S) (hT : ∀ x, S x ↔ T x) : SetM P k e w b n T := by
  obtain ⟨D, h1, h2, h3⟩ := h; exact ⟨D, h1, fun x => (h2 x).trans (hT x), fun x z hx => h3 x z ((hT x).2 hx)⟩
theorem SetM.setCell (h : SetM P k e w b n S) {a : Addr} (ha : b ≠ a.block) (u : Value) : SetM P k e (w.setCell a u) b n S := by
  obtain ⟨D, h1, h2⟩ := h; exact ⟨D, h1.setCell ha u, h2⟩

theorem any_of_mem {es : List (Lit × DataW Unit)} {p : Lit × DataW Unit} (hp : p ∈ es) (hk : WideAt.IsKeyLit p.1) : Maps.has (.map es) p.1 = true :=
  List.any_eq_true.2 ⟨p, hp, WideAt.sameKey_self hk⟩
theorem keys_sub : ∀ {es : List (Lit × DataW Unit)} {L : List Lit}, es.Pairwise (fun p q => p.1 ≠ q.1) → (∀ p ∈ es, p.1 ∈ L) → es.length ≤ L.length
  | [], _, _, _ => Nat.zero_le _
  | a :: r, L, h, hs => by
    rw [List.pairwise_cons] at h
    obtain ⟨p, q, rfl⟩ := List.append_of_mem (hs a (by simp))
    have := keys_sub (es := r) (L := p ++ q) h.2 (fun x hx => by
      have h1 := hs x (by simp [hx])
      simp only [List.mem_append, List.mem_cons] at h1 ⊢
      rcases h1 with h1 | h1 | h1
      · exact Or.inl h1
      · exact absurd h1.symm (h.1 x hx)
      · exact Or.inr h1)
    simp only [List.length_append, List.length_cons] at this ⊢
    omega
theorem size_sub {D : DataW Unit} (h : w.ownsMap P k (plainElem P e) b n D) (K : Keyed P k) {L : List Lit} (hL : ∀ x, Maps.has D x = true → x ∈ L) : Maps.size D ≤ L.length := by
  obtain ⟨es, rfl, h1, h2⟩ := h.entries K
  exact keys_sub h1 (fun p hp => hL _ (any_of_mem hp (h2 p hp)))
theorem lits_sub : ∀ {L : List Lit} {es : List (Lit × DataW Unit)}, L.Pairwise (· ≠ ·) → (∀ x ∈ L, ∃ p ∈ es, p.1 = x) → L.length ≤ es.length
  | [], _, _, _ => Nat.zero_le _
  | a :: r, es, h, hs => by
    rw [List.pairwise_cons] at h
    obtain ⟨p, hp, hpa⟩ := hs a (by simp)
    obtain ⟨u, v, rfl⟩ := List.append_of_mem hp
    have := lits_sub (L := r) (es := u ++ v) h.2 (fun x hx => by
      obtain ⟨q, hq, hqx⟩ := hs x (by simp [hx])
      simp only [List.mem_append, List.mem_cons] at hq
      rcases hq with hq | rfl | hq
      · exact ⟨q, by simp [hq], hqx⟩
      · exact absurd (hpa.symm.trans hqx) (h.1 x hx)
      · exact ⟨q, by simp [hq], hqx⟩)
    simp only [List.length_append, List.length_cons] at this ⊢
    omega
/-- How many entries there are. -/
theorem size_is {D : DataW Unit} (h : w.ownsMap P k (plainElem P e) b n D) (K : Keyed P k) {L : List Lit} (hn : L.Pairwise (· ≠ ·)) (hL : ∀ x, Maps.has D x = true ↔ x ∈ L) : Maps.size D = L.length := by
  refine Nat.le_antisymm (size_sub h K fun x hx => (hL x).1 hx) ?_
  obtain ⟨es, rfl, h1, h2⟩ := h.entries K
  refine lits_sub hn fun x hx => ?_
  obtain ⟨p, hp, hs⟩ := List.any_eq_true.1 ((hL x).2 hx)
  exact ⟨p, hp, WideAt.sameKey_eq hs⟩
/-- A map has no more entries than a list that has all members. -/
theorem SetM.tight (h : SetM P k e w b n S) (K : Keyed P k) {L : List Lit} (hL : ∀ x, S x → x ∈ L) : SetM P k e w b L.length S := by
  obtain ⟨D, h1, h2, h3⟩ := h
  have hs := size_sub h1 K (L := L) (fun x hx => hL x ((h2 x).1 hx))
  refine ⟨D, ?_, h2, h3⟩
  obtain ⟨es, clock, hb, F, hs1, rfl⟩ := h1
  exact ⟨es, clock, hb, F, by simpa [Maps.size, length_sorted] using hs, rfl⟩

theorem plainElem_bool_inv (he : P.underlying e = some .bool) {v : Value} {z : DataW Unit × List MemPlace} (h : plainElem P e v = some z) : ∃ c, v = .bool c ∧ z = (.lit (.bool c), []) := by
  unfold plainElem at h
  rw [he] at h
  cases v <;> simp at h
  exact ⟨_, rfl, h.symm⟩
theorem SetM.look (h : SetM P k e w b n S) (K : Keyed P k) (ht : P.underlying t = some (.map k e)) (he : P.underlying e = some .bool) (hz : (zeroValue e).run P w = .ok (.bool false) w) {key : Value} {kl : Lit} (hkey : keyOf P k key = some kl) :
    ∃ c, (Instr.lookup t (.map (some b)) key false).run P w = .ok (.bool c) w ∧ (c = true ↔ S kl) := by
  obtain ⟨D, h1, h2, h3⟩ := h
  obtain ⟨v, ps, hrun, hv⟩ := h1.lookup K ht hz (plainElem_bool he false) hkey
  obtain ⟨c, rfl, hc⟩ := plainElem_bool_inv he hv
  simp only [Prod.mk.injEq] at hc
  refine ⟨c, hrun, ?_⟩
  constructor
  · intro hct
    refine (h2 kl).1 ?_
    cases hh : Maps.has D kl
    · have := Maps.atKey_of_not_has hh (.lit (.bool false))
      rw [hc.1, hct] at this
      cases this
    · rfl
  · intro hs
    have := h3 kl (.lit (.bool false)) hs
    rw [hc.1] at this
    cases this
    rfl
theorem SetM.put (h : SetM P k e w b n S) (K : Keyed P k) (ht : P.underlying t = some (.map k e)) (he : P.underlying e = some .bool) (hn : n < maxLen) {key : Value} {kl : Lit} (hkey : keyOf P k key = some kl) :
    ∃ w', (Instr.mapUpdate t (.map (some b)) key (.bool true)).run P w = .ok () w' ∧ SetM P k e w' b (n + 1) (fun x => S x ∨ x = kl) ∧ w.grownBy w' (some b) := by
  obtain ⟨D, h1, h2, h3⟩ := h
  obtain ⟨w', hrun, r1, r2⟩ := h1.update K ht hn hkey (plainElem_bool he true)
  have hk := K.key hkey
  refine ⟨w', hrun, ⟨_, r1, fun x => ?_, fun x z hx => ?_⟩, r2⟩
  · by_cases hxk : x = kl
    · subst hxk; rw [Maps.has_put_same h1.isMap hk]; simp
    · rw [Maps.has_put_other hxk, h2 x]; simp [hxk]
  · by_cases hxk : x = kl
    · subst hxk; exact Maps.atKey_put_same h1.isMap hk _ _
    · rw [Maps.atKey_put_other hxk]; exact h3 x z (hx.resolve_right hxk)
theorem SetM.drop (h : SetM P k e w b n S) (K : Keyed P k) (ht : P.underlying t = some (.map k e)) {key : Value} {kl : Lit} (hkey : keyOf P k key = some kl) (ty : TypeId) :
    ∃ w', (Builtin.delete_ #[t, k] ty #[.map (some b), key]).run P w = .ok (.tuple #[]) w' ∧ SetM P k e w' b n (fun x => S x ∧ x ≠ kl) ∧ w.grownBy w' (some b) := by
  obtain ⟨D, h1, h2, h3⟩ := h
  obtain ⟨w', hrun, r1, r2⟩ := h1.drop K ht hkey ty
  refine ⟨w', hrun, ⟨_, r1, fun x => ?_, fun x z hx => ?_⟩, r2.grown⟩
  · by_cases hxk : x = kl
    · subst hxk; rw [Maps.has_del_same]; simp
    · rw [Maps.has_del_other hxk, h2 x]; simp [hxk]
  · rw [Maps.atKey_del_other hx.2]; exact h3 x z hx.1
end

/-- A loop over such a map under way: L are the keys still to come. -/
def SetR (P : Program) (k e : TypeId) (w : World) (b r n cnt : Nat) (S L : Lit → Prop) : Prop :=
  ∃ (D : DataW Unit) (left : Lit → Bool), w.ranges P k (plainElem P e) b r n D left cnt ∧ (∀ x, Maps.has D x = true ↔ S x) ∧ (∀ x z, S x → D.atKey x z = .lit (.bool true)) ∧ ∀ x, left x = true ↔ L x

section
variable {P : Program} {k e t : TypeId} {w : World} {b r n cnt : Nat} {S L : Lit → Prop}
theorem SetR.set (h : SetR P k e w b r n cnt S L) : SetM P k e w b n S := by
  obtain ⟨D, left, h1, h2, h3, _⟩ := h; exact ⟨D, h1.owns, h2, h3⟩
theorem SetR.lt (h : SetR P k e w b r n cnt S L) : r < w.heap.size := by obtain ⟨D, left, h1, _⟩ := h; exact h1.lt
theorem SetR.kept {w' : World} {row : Option Nat} (h : SetR P k e w b r n cnt S L) (hg : w.grownBy w' row) (hb : some b ≠ row) (hr : some r ≠ row) : SetR P k e w' b r n cnt S L := by
  obtain ⟨D, left, h1, h2⟩ := h; exact ⟨D, left, h1.kept hg hb hr, h2⟩
theorem SetR.heap {w' : World} (h : SetR P k e w b r n cnt S L) (hb : w'.heap[b]? = w.heap[b]?) (hr : w'.heap[r]? = w.heap[r]?) : SetR P k e w' b r n cnt S L := by
  obtain ⟨D, left, ⟨es, clock, since, seen, c0, a1, a2, a3, a4, a5, a6⟩, h2⟩ := h
  exact ⟨D, left, ⟨es, clock, since, seen, c0, hb.trans a1, a2, a3, a4, hr.trans a5, a6⟩, h2⟩
theorem SetR.below {w' : World} (h : SetR P k e w b r n cnt S L) (hb : Below w.heap.size w w') : SetR P k e w' b r n cnt S L := h.heap (hb.block b h.set.lt) (hb.block r h.lt)
theorem SetR.alloc (h : SetR P k e w b r n cnt S L) (o : Obj) : SetR P k e (w.alloc o) b r n cnt S L := h.kept (World.grownBy_alloc w o none) (by simp) (by simp)
theorem SetR.drew (h : SetR P k e w b r n cnt S L) : SetR P k e w.drew b r n cnt S L := h
theorem SetR.left_eq (h : SetR P k e w b r n cnt S L) : w.rangeLeft b r = cnt := by obtain ⟨D, left, h1, _⟩ := h; exact h1.left_eq
theorem SetR.sub (K : Keyed P k) (h : SetR P k e w b r n cnt S L) : ∀ x, L x → S x := by
  obtain ⟨D, left, h1, h2, _, h4⟩ := h
  obtain ⟨es, clock, since, seen, c0, _, F, _, rfl, _, _, _, _, hl2, _⟩ := h1
  intro x hx
  obtain ⟨y, hy, rfl⟩ := hl2 x ((h4 x).2 hx)
  obtain ⟨z, hz⟩ := F.reads y hy
  exact (h2 _).1 (List.any_eq_true.2 ⟨_, mem_sorted.2 (List.mem_map.2 ⟨y, hy, rfl⟩), WideAt.sameKey_self (by rw [WideElems.rg_of hz]; exact K.key (WideElems.rd_key hz))⟩)

/-- .. at the operations, for the walk. -/
theorem wpList_look_set {ops : Array Oper} {rest : List Oper} {o : Oper} {a : Act} {Q : Exit → Act → World → Prop} (hg : o.guard = none) (m x : Operand) (t : TypeId) (hop : o.op = Op.lookup t m x false)
    (K : Keyed P k) (ht : P.underlying t = some (.map k e)) (he : P.underlying e = some .bool) (hz : (zeroValue e).run P w = .ok (.bool false) w)
    (hm : a.eval m = .map (some b)) (h : SetM P k e w b n S) (key : Value) (kl : Lit) (hx : a.eval x = key) (hkey : keyOf P k key = some kl)
    (hK : ∀ c : Bool, (c = true ↔ S kl) → wpList P ops Q rest (a.put o.dst (.bool c)) w) : wpList P ops Q (o :: rest) a w := by
  refine wpList_plain hg fun K' hK' => ?_
  obtain ⟨c, hrun, hc⟩ := h.look K ht he hz hkey
  unfold Oper.wp
  simp [execOp, hop, hm, hx, hrun, Result.andThen]
  exact hK' _ _ (hK c hc)
theorem wpList_put_set {ops : Array Oper} {rest : List Oper} {o : Oper} {a : Act} {Q : Exit → Act → World → Prop} (hg : o.guard = none) (m x v : Operand) (t : TypeId) (hop : o.op = Op.mapUpdate t m x v)
    (K : Keyed P k) (ht : P.underlying t = some (.map k e)) (he : P.underlying e = some .bool)
    (hm : a.eval m = .map (some b)) (h : SetM P k e w b n S) (hn : n < maxLen) (key : Value) (kl : Lit) (hx : a.eval x = key) (hv : a.eval v = .bool true) (hkey : keyOf P k key = some kl)
    (hK : ∀ w', SetM P k e w' b (n + 1) (fun x => S x ∨ x = kl) → w.grownBy w' (some b) → wpList P ops Q rest (a.put o.dst undef) w') : wpList P ops Q (o :: rest) a w := by
  refine wpList_plain hg fun K' hK' => ?_
  obtain ⟨w', hrun, r1, r2⟩ := h.put K ht he hn hkey
  unfold Oper.wp
  simp [execOp, hop, hm, hx, hv, hrun, Result.andThen]
  exact hK' _ _ (hK w' r1 r2)
theorem wpList_drop_set {ops : Array Oper} {rest : List Oper} {o : Oper} {a : Act} {Q : Exit → Act → World → Prop} (hg : o.guard = none) (m x : Operand) (t k : TypeId) (hop : o.op = Op.call { callee := Callee.builtin Builtin.delete, args := #[m, x], argTypes := #[t, k] })
    (K : Keyed P k) (ht : P.underlying t = some (.map k e))
    (hm : a.eval m = .map (some b)) (h : SetM P k e w b n S) (key : Value) (kl : Lit) (hx : a.eval x = key) (hkey : keyOf P k key = some kl)
    (hK : ∀ w', SetM P k e w' b n (fun x => S x ∧ x ≠ kl) → w.grownBy w' (some b) → wpList P ops Q rest (a.put o.dst (.tuple #[])) w') : wpList P ops Q (o :: rest) a w := by
  refine wpList_plain hg fun K' hK' => ?_
  obtain ⟨w', hrun, r1, r2⟩ := h.drop K ht hkey o.type
  unfold Oper.wp
  simp [execOp, hop, resolve, invoke, builtin, hm, hx, hrun, Result.andThen]
  exact hK' _ _ (hK w' r1 r2)
theorem wpList_range_set {ops : Array Oper} {rest : List Oper} {o : Oper} {a : Act} {Q : Exit → Act → World → Prop} (hg : o.guard = none) (m : Operand) (t : TypeId) (hop : o.op = Op.range t m)
    (K : Keyed P k) (ht : P.underlying t = some (.map k e)) (hm : a.eval m = .map (some b)) (h : SetM P k e w b n S)
    (hK : ∀ w' cnt, SetR P k e w' b w.heap.size n cnt S S → w.grownBy w' none → w'.heap.size = w.heap.size + 1 → wpList P ops Q rest (a.put o.dst (.pointer (some ⟨w.heap.size, 0, none⟩))) w') : wpList P ops Q (o :: rest) a w := by
  obtain ⟨D, h1, h2, h3⟩ := h
  exact wpList_range_own w hg m t hop k e K ht (plainElem P e) b n D hm h1 fun w' hr hg' hs => hK w' _ ⟨D, _, hr, h2, h3, h2⟩ hg' hs
theorem wpList_next_set {α : Type} {ops : Array Oper} {rest : List Oper} {o : Oper} {a : Act} {Q : Exit → Act → World → Prop} (hg : o.guard = none) (it : Operand) (hop : o.op = Op.next it false) (K : Keyed P k) (he : P.underlying e = some .bool)
    (mkK : α → Value) (invK : ∀ key kl, keyOf P k key = some kl → ∃ x, key = mkK x)
    (hit : a.eval it = .pointer (some ⟨r, 0, none⟩)) (h : SetR P k e w b r n cnt S L)
    (hDone : (∀ kl, ¬ L kl) → wpList P ops Q rest (a.put o.dst (.tuple #[.bool false])) w)
    (hMore : ∀ (x : α) (kl : Lit) (w' : World) (cnt' : Nat), keyOf P k (mkK x) = some kl → L kl → SetR P k e w' b r n cnt' S (fun z => L z ∧ z ≠ kl) → cnt' < cnt →
      w.grownBy w' (some r) → w'.heap.size = w.heap.size → (Instr.entry (.pointer (some ⟨r, 0, none⟩))).run P w' = .ok (.tuple #[mkK x, .bool true]) w' → wpList P ops Q rest (a.put o.dst (.tuple #[.bool true, mkK x, .bool true])) w') :
    wpList P ops Q (o :: rest) a w := by
  obtain ⟨D, left, h1, h2, h3, h4⟩ := h
  refine wpList_next_ranges w hg it hop k K (plainElem P e) mkK Value.bool invK (fun v y hv => by obtain ⟨c, rfl, _⟩ := plainElem_bool_inv he hv; exact ⟨c, rfl⟩) b r n D left cnt hit h1
    (fun _ hl => hDone fun kl hk => by have := (h4 kl).2 hk; rw [hl kl] at this; cases this) ?_
  intro x c kl y w' cnt' hkey hl hv hat hr hlt hgr hsz hen
  have hLk : L kl := (h4 kl).1 hl
  have hSk : S kl := SetR.sub K ⟨D, left, h1, h2, h3, h4⟩ kl hLk
  obtain ⟨c', hc', hy⟩ := plainElem_bool_inv he hv
  cases hc'
  have : (DataW.lit (.bool c) : DataW Unit) = .lit (.bool true) := by
    have e1 := hat (.lit (.bool true))
    rw [h3 kl _ hSk, hy] at e1
    exact e1.symm
  cases this
  refine hMore x kl w' cnt' hkey hLk ⟨D, _, hr, h2, h3, fun z => ?_⟩ hlt hgr hsz hen
  show (left z && !z.sameKey kl) = true ↔ _
  rw [Bool.and_eq_true, h4 z]
  refine and_congr_right fun _ => ?_
  constructor
  · intro hs e1
    rw [e1, WideAt.sameKey_self (K.key hkey)] at hs
    cases hs
  · intro hne
    rw [Maps.sameKey_ne hne]; rfl
end
end Go.Proofs.Ytllnfbenaeeloaa

/-! ShelfSort -/
namespace Go.Proofs
open Go.Shelf
def Try.lays190_ren : Go.Shelf.Ren := ⟨fun | 190 => 98 | 125 => 114 | 258 => 113 | 128 => 139 | 129 => 140 | 302 => 130 | 303 => 131 | 304 => 132 | 305 => 133 | 306 => 134 | 307 => 135 | 308 => 136 | 309 => 137 | 310 => 138 | 333 => 149 | 329 => 150 | 330 => 151 | 334 => 152 | 335 => 153 | 336 => 154 | 344 => 160 | n => n, fun | 31 => 49 | 9 => 9 | 3 => 3 | 46 => 133 | 0 => 0 | 51 => 146 | 53 => 148 | 4 => 4 | 183 => 140 | 182 => 139 | 131 => 35 | 5 => 5 | 218 => 162 | 222 => 166 | 228 => 172 | 229 => 173 | n => n, fun | n => n⟩
theorem Try.lays190 : Go.Proofs.Lays.n190 Try.prog Try.lays190_ren := {
  mixed := by kernel_rfl
  f125 := Try.func114.trans (congrArg some (by kernel_rfl))
  f128 := Try.func139.trans (congrArg some (by kernel_rfl))
  f129 := Try.func140.trans (congrArg some (by kernel_rfl))
  f190 := Try.func98.trans (congrArg some (by kernel_rfl))
  f258 := Try.func113.trans (congrArg some (by kernel_rfl))
  f302 := Try.func130.trans (congrArg some (by kernel_rfl))
  f303 := Try.func131.trans (congrArg some (by kernel_rfl))
  f304 := Try.func132.trans (congrArg some (by kernel_rfl))
  f305 := Try.func133.trans (congrArg some (by kernel_rfl))
  f306 := Try.func134.trans (congrArg some (by kernel_rfl))
  f307 := Try.func135.trans (congrArg some (by kernel_rfl))
  f308 := Try.func136.trans (congrArg some (by kernel_rfl))
  f309 := Try.func137.trans (congrArg some (by kernel_rfl))
  f310 := Try.func138.trans (congrArg some (by kernel_rfl))
  f329 := Try.func150.trans (congrArg some (by kernel_rfl))
  f330 := Try.func151.trans (congrArg some (by kernel_rfl))
  f333 := Try.func149.trans (congrArg some (by kernel_rfl))
  f334 := Try.func152.trans (congrArg some (by kernel_rfl))
  f335 := Try.func153.trans (congrArg some (by kernel_rfl))
  f336 := Try.func154.trans (congrArg some (by kernel_rfl))
  f344 := Try.func160.trans (congrArg some (by kernel_rfl))
  t0 := Try.underlying0
  a0 := Try.isAgg0
  z0 := Try.sizeOf0
  v0 := Try.zeroValue0
  t3 := Try.underlying3
  a3 := Try.isAgg3
  z3 := Try.sizeOf3
  v3 := Try.zeroValue3
  t4 := Try.underlying4
  a4 := Try.isAgg4
  z4 := Try.sizeOf4
  v4 := Try.zeroValue4
  t5 := Try.underlying5
  a5 := Try.isAgg5
  z5 := Try.sizeOf5
  v5 := Try.zeroValue5
  t9 := Try.underlying9
  a9 := Try.isAgg9
  z9 := Try.sizeOf9
  v9 := Try.zeroValue9
  t31 := Try.underlying49
  a31 := Try.isAgg49
  z31 := Try.sizeOf49
  v31 := Try.zeroValue49
  t46 := Try.underlying133
  a46 := Try.isAgg133
  z46 := Try.sizeOf133
  v46 := Try.zeroValue133
  t51 := Try.underlying146
  a51 := Try.isAgg146
  z51 := Try.sizeOf146
  v51 := Try.zeroValue146
  t53 := Try.underlying148
  a53 := Try.isAgg148
  z53 := Try.sizeOf148
  v53 := Try.zeroValue148
  t131 := Try.underlying35
  a131 := Try.isAgg35
  z131 := Try.sizeOf35
  v131 := Try.zeroValue35
  t182 := Try.underlying139
  a182 := Try.isAgg139
  z182 := Try.sizeOf139
  v182 := Try.zeroValue139
  t183 := Try.underlying140
  a183 := Try.isAgg140
  z183 := Try.sizeOf140
  v183 := Try.zeroValue140
  t218 := Try.underlying162
  a218 := Try.isAgg162
  z218 := Try.sizeOf162
  v218 := Try.zeroValue162
  t222 := Try.underlying166
  a222 := Try.isAgg166
  z222 := Try.sizeOf166
  v222 := Try.zeroValue166
  t228 := Try.underlying172
  a228 := Try.isAgg172
  z228 := Try.sizeOf172
  v228 := Try.zeroValue172
  t229 := Try.underlying173
  a229 := Try.isAgg173
  z229 := Try.sizeOf173
  v229 := Try.zeroValue173 }
open Go.Sort Go.RowKit in
theorem Try.slices_Sort_string (blk off cap : Nat) (ss : List (List UInt8)) (w : World) (hH : Holds encStr w blk off ss.toArray) (hblk : blk < w.heap.size) (hsz : ss.length < 4611686018427387904) :
    Calls Try.prog 98 #[.slice (some ⟨blk, off, none⟩) ss.length cap] w fun e w' =>
      e = .returned (.tuple #[]) ∧ ∃ n os, w' = grow (putRow encStr (Sort.ahead w n) blk off (ss.mergeSort fun x y => decide (x ≤ y)).toArray) os := Any.slices_Sort_string Try.lays190 blk off cap ss w hH hblk hsz
open Go.RowKit Go.Sort in
theorem Try.slices_Sort_string_none (p : Option Addr) (cap : Nat) (w : World) :
    Calls Try.prog 98 #[.slice p 0 cap] w fun e w' => e = .returned (.tuple #[]) ∧ w' = w := Any.slices_Sort_string_none Try.lays190 p cap w
end Go.Proofs

/-! Base -/
namespace Go.Proofs.Ytllnfbenaeeloaa
open Go.RowKit

theorem ret_int {k : IntKind} {a b : Int} (h : a = b) : Ending.returned (.int k a) = .returned (.int k b) := by rw [h]
theorem ret_bool {a b : Bool} (h : a = b) : Ending.returned (.bool a) = .returned (.bool b) := by rw [h]
theorem ret_str {a b : ByteArray} (h : a = b) : Ending.returned (.string a) = .returned (.string b) := by rw [h]

theorem i64_bounds {n : Int} (h : (Lit.int .i64 n).wf = true) : -9223372036854775808 ≤ n ∧ n ≤ 9223372036854775807 := by
  simpa [Lit.wf, IntKind.min, IntKind.max, IntKind.signed, IntKind.bits] using h

theorem nx {w w1 w2 : World} (h : Below w.heap.size w w1) (k : Below w1.heap.size w1 w2) : Below w.heap.size w w2 := h.trans (k.mono h.size)
theorem nxAlloc {w w1 : World} (h : Below w.heap.size w w1) (o : Obj) : Below w.heap.size w (w1.alloc o) := nx h ((Below.refl _ _).alloc (Nat.le_refl _) o)

theorem drewB {w w1 : World} (h : Below w.heap.size w w1) (n : Nat) : Below w.heap.size w (w1.drewN n) := ⟨h.os, h.tape, h.output, h.size, h.block⟩

/-- Calls that hand back a value and leave what was there. -/
def Gives (v : Value) (w : World) (e : Ending) (w' : World) : Prop := e = .returned v ∧ Below w.heap.size w w'

end Go.Proofs.Ytllnfbenaeeloaa

/-! Row -/
namespace Go.Proofs.Ytllnfbenaeeloaa
open Go.RowKit

theorem info_int : (Try.prog.info? 3).map (fun i => (i.zero, i.size, i.bytes)) = some (some (.int .i64 0), 1, 8) := by kernel_rfl

/-- v is a slice of the integers xs, in a block from base on that the call has made. -/
def OwnI (base : Nat) (w : World) (v : Value) (xs : List Int) : Prop := w.ownsRow base 3 1 v xs.length (xs.map (Value.int .i64))

theorem ownsRow_keep {w w' : World} {base : Nat} {e : TypeId} {size : Nat} {v : Value} {n : Nat} {xs : List Value} (h : w.ownsRow base e size v n xs) (hb : Below w.heap.size w w') : w'.ownsRow base e size v n xs := by
  obtain ⟨h1, h2⟩ := h
  refine ⟨h1, ?_⟩
  rcases h2 with h2 | ⟨g, cap, cur, hv, hg, hh, r⟩
  · exact .inl h2
  · exact .inr ⟨g, cap, cur, hv, hg, (hb.block g (lt_of_block hh)).trans hh, r⟩

theorem OwnI.keep {base : Nat} {w w' : World} {v : Value} {xs : List Int} (h : OwnI base w v xs) (hb : Below w.heap.size w w') : OwnI base w' v xs := ownsRow_keep h hb

theorem OwnI.nil (base : Nat) (w : World) : OwnI base w (.slice none 0 0) [] := World.ownsRow_nil _ _ _ _

/-- What can be read of such a slice. -/
def CellsI (base : Nat) (w : World) (v : Value) (xs : List Int) : Prop :=
  (v = .slice none 0 0 ∧ xs = []) ∨ ∃ g cap : Nat, v = .slice (some ⟨g, 0, none⟩) xs.length cap ∧ base ≤ g ∧ g < w.heap.size ∧ xs.length ≤ cap ∧ cap ≤ maxLen ∧
    (∀ i, i < xs.length → w.cell? ⟨g, i, none⟩ = some (.int .i64 (xs.getD i 0))) ∧ ∀ i, w.frozen? ⟨g, i, none⟩ = false

theorem OwnI.cells {base : Nat} {w : World} {v : Value} {xs : List Int} (h : OwnI base w v xs) : CellsI base w v xs := by
  have h0 := h
  obtain ⟨h1, h2⟩ := h
  rcases h2 with ⟨hv, hn⟩ | ⟨g, cap, cur, hv, hg, hh, r1, r2, r3⟩
  · exact .inl ⟨hv, List.length_eq_zero_iff.1 hn⟩
  · subst hv
    refine .inr ⟨g, cap, rfl, hg, lt_of_block hh, r1, r2, fun i hi => ?_, fun i => World.ownsRow.frozenAt h0 i⟩
    have := World.ownsRow.cellAt h0 i (by omega)
    rw [this]
    simp [List.getElem?_eq_getElem hi]

/-! What an append of one integer to such a slice asks and leaves. -/
theorem new1 (w : World) (v : Value) (e : TypeId) : ∀ (j : Nat) (u : Value), [v][j]? = some u → (w.alloc (.cells #[v] e)).cell? ((⟨w.heap.size, 0, none⟩ : Addr).add j) = some u := by
  intro j u hj
  match j, hj with
  | 0, hj => simp at hj; subst hj; simp [Addr.add]
  | j + 1, hj => simp at hj
theorem one1 (m : Int) : ∀ u ∈ [Value.int .i64 m], u.oneCell' = true := by intro u hu; simp at hu; subst hu; rfl
theorem size_al {w w1 : World} (h : Below w.heap.size w w1) (o : Obj) : w.heap.size ≤ (w1.alloc o).heap.size := by have := h.size; simp; omega

theorem ownsRow_ge {w : World} {base : Nat} {e : TypeId} {size : Nat} {v : Value} {n : Nat} {xs : List Value} (h : w.ownsRow base e size v n xs) : ∀ k, v.ownBlock = some k → base ≤ k := by
  intro k hk
  rcases h.2 with ⟨hv, _⟩ | ⟨g, cap, cur, hv, hg, _⟩
  · subst hv; simp [Value.ownBlock] at hk
  · subst hv; simp [Value.ownBlock] at hk; omega

theorem OwnI.snoc {base : Nat} {w : World} {v : Value} {xs : List Int} {m : Int} (h : w.ownsRow base 3 1 v (xs.length + 1) (xs.map (Value.int .i64) ++ [Value.int .i64 m])) : OwnI base w v (xs ++ [m]) := by
  unfold OwnI; rw [List.length_append, List.map_append]; exact h

theorem below_app {w wr w1 : World} {base : Nat} {e e2 : TypeId} {size : Nat} {v u : Value} {n : Nat} {xs : List Value} (h : Below w.heap.size w wr) (hown : wr.ownsRow base e size v n xs) (hbase : w.heap.size ≤ base)
    (hg : (wr.alloc (.cells #[u] e2)).grownBy w1 v.ownBlock) : Below w.heap.size w w1 :=
  (nxAlloc h (.cells #[u] e2)).grown hg (size_al h _) (fun k hk => Nat.le_trans hbase (ownsRow_ge hown k hk))

/-- A call that hands back a slice of integers of its own. -/
def GivesInts (xs : List Int) (w : World) (e : Ending) (w' : World) : Prop :=
  ∃ v, OwnI w.heap.size w' v xs ∧ Below w.heap.size w w' ∧ e = .returned v

/-- An answer of a slice of the call's own and a bool. -/
def AnsI2 (xs : List Int) (ok : Bool) (w : World) (e : Ending) (w' : World) : Prop :=
  ∃ v, OwnI w.heap.size w' v xs ∧ Below w.heap.size w w' ∧ e = .returned (.tuple #[v, .bool ok])
def AnsIs (o : Option (List Int)) (w : World) (e : Ending) (w' : World) : Prop := AnsI2 (o.getD []) o.isSome w e w'

end Go.Proofs.Ytllnfbenaeeloaa

/-! RowS -/
namespace Go.Proofs.Ytllnfbenaeeloaa
open Go.RowKit

theorem info_str : (Try.prog.info? 9).map (fun i => (i.zero, i.size, i.bytes)) = some (some (.string ⟨#[]⟩), 1, 16) := by kernel_rfl

/-- v is a slice of the texts ss, in a block from base on that the call has made. -/
def OwnS (base : Nat) (w : World) (v : Value) (ss : List ByteArray) : Prop := w.ownsRow base 9 1 v ss.length (ss.map Value.string)

theorem OwnS.keep {base : Nat} {w w' : World} {v : Value} {ss : List ByteArray} (h : OwnS base w v ss) (hb : Below w.heap.size w w') : OwnS base w' v ss := ownsRow_keep h hb
theorem OwnS.nil (base : Nat) (w : World) : OwnS base w (.slice none 0 0) [] := World.ownsRow_nil _ _ _ _

theorem ownsRow_mono {w : World} {base base' : Nat} {e : TypeId} {size : Nat} {v : Value} {n : Nat} {xs : List Value} (h : w.ownsRow base e size v n xs) (hb : base' ≤ base) : w.ownsRow base' e size v n xs := by
  obtain ⟨h1, h2⟩ := h
  refine ⟨h1, ?_⟩
  rcases h2 with h2 | ⟨g, cap, cur, hv, hg, r⟩
  · exact .inl h2
  · exact .inr ⟨g, cap, cur, hv, Nat.le_trans hb hg, r⟩
theorem OwnS.mono {base base' : Nat} {w : World} {v : Value} {ss : List ByteArray} (h : OwnS base w v ss) (hb : base' ≤ base) : OwnS base' w v ss := ownsRow_mono h hb
theorem OwnI.mono {base base' : Nat} {w : World} {v : Value} {xs : List Int} (h : OwnI base w v xs) (hb : base' ≤ base) : OwnI base' w v xs := ownsRow_mono h hb

/-- What can be read of such a slice. -/
def CellsS (base : Nat) (w : World) (v : Value) (ss : List ByteArray) : Prop :=
  (v = .slice none 0 0 ∧ ss = []) ∨ ∃ g cap : Nat, v = .slice (some ⟨g, 0, none⟩) ss.length cap ∧ base ≤ g ∧ g < w.heap.size ∧ ss.length ≤ cap ∧ cap ≤ maxLen ∧
    (∀ i, i < ss.length → w.cell? ⟨g, i, none⟩ = some (.string (ss.getD i ⟨#[]⟩))) ∧ ∀ i, w.frozen? ⟨g, i, none⟩ = false

theorem OwnS.cells {base : Nat} {w : World} {v : Value} {ss : List ByteArray} (h : OwnS base w v ss) : CellsS base w v ss := by
  have h0 := h
  obtain ⟨h1, h2⟩ := h
  rcases h2 with ⟨hv, hn⟩ | ⟨g, cap, cur, hv, hg, hh, r1, r2, r3⟩
  · exact .inl ⟨hv, List.length_eq_zero_iff.1 hn⟩
  · subst hv
    refine .inr ⟨g, cap, rfl, hg, lt_of_block hh, r1, r2, fun i hi => ?_, fun i => World.ownsRow.frozenAt h0 i⟩
    have := World.ownsRow.cellAt h0 i (by omega)
    rw [this]
    simp [List.getElem?_eq_getElem hi]

theorem OwnS.shape {base : Nat} {w : World} {v : Value} {ss : List ByteArray} (h : OwnS base w v ss) (hn : 0 < ss.length) : ∃ g cap, v = .slice (some ⟨g, 0, none⟩) ss.length cap := by
  rcases h.2 with ⟨_, h2⟩ | ⟨g, cap, cur, hv, _⟩
  · omega
  · exact ⟨g, cap, hv⟩

/-- One text in a new block. -/
theorem OwnS.one (w : World) (s : ByteArray) : OwnS w.heap.size (w.alloc (.cells #[.string s] 9 (0, 0))) (.slice (some ⟨w.heap.size, 0, none⟩) 1 1) [s] := by
  refine ⟨rfl, .inr ⟨w.heap.size, 1, #[.string s], rfl, Nat.le_refl _, ?_, Nat.le_refl _, by unfold maxLen; omega, rfl, rfl⟩⟩
  show (w.heap.push _)[w.heap.size]? = _
  simp

theorem addr_add (g j : Nat) : (⟨g, 0, none⟩ : Addr).add j = ⟨g, j, none⟩ := by
  unfold Addr.add
  split
  · next h => rw [h]
  · simp

theorem OwnS.news {base : Nat} {w : World} {g cap n : Nat} {ss : List ByteArray} (h : OwnS base w (.slice (some ⟨g, 0, none⟩) n cap) ss) (hn : ss.length = n) :
    ∀ (j : Nat) (u : Value), (ss.map Value.string)[j]? = some u → w.cell? ((⟨g, 0, none⟩ : Addr).add j) = some u := by
  intro j u hj
  subst hn
  have hlt : j < ss.length := by
    rcases Nat.lt_or_ge j ss.length with h | h
    · exact h
    · rw [List.getElem?_eq_none (by simpa using h)] at hj; simp at hj
  have := World.ownsRow.cellAt h j (by omega)
  rw [addr_add, this, hj]
theorem oneS (ss : List ByteArray) : ∀ u ∈ ss.map Value.string, u.oneCell' = true := by
  intro u hu
  rw [List.mem_map] at hu
  obtain ⟨s, _, rfl⟩ := hu
  rfl
theorem OwnS.app {base : Nat} {w : World} {v : Value} {A B : List ByteArray} (h : w.ownsRow base 9 1 v (A.length + B.length) (A.map Value.string ++ B.map Value.string)) : OwnS base w v (A ++ B) := by
  unfold OwnS; rw [List.length_append, List.map_append]; exact h

theorem below_app0 {w wr w1 : World} {base : Nat} {e : TypeId} {size : Nat} {v : Value} {n : Nat} {xs : List Value} (h : Below w.heap.size w wr) (hown : wr.ownsRow base e size v n xs) (hbase : w.heap.size ≤ base)
    (hg : wr.grownBy w1 v.ownBlock) : Below w.heap.size w w1 :=
  h.grown hg h.size (fun k hk => Nat.le_trans hbase (ownsRow_ge hown k hk))

/-- A call that hands back a slice of texts of its own, not empty. -/
def GivesTexts (ss : List ByteArray) (w : World) (e : Ending) (w' : World) : Prop :=
  ∃ g cap : Nat, OwnS w.heap.size w' (.slice (some ⟨g, 0, none⟩) ss.length cap) ss ∧ Below w.heap.size w w' ∧ e = .returned (.slice (some ⟨g, 0, none⟩) ss.length cap)

/-- An answer of a slice of texts of the call's own and a bool. -/
def AnsS2 (ss : List ByteArray) (ok : Bool) (w : World) (e : Ending) (w' : World) : Prop :=
  ∃ v, OwnS w.heap.size w' v ss ∧ Below w.heap.size w w' ∧ e = .returned (.tuple #[v, .bool ok])
def AnsSs (o : Option (List ByteArray)) (w : World) (e : Ending) (w' : World) : Prop := AnsS2 (o.getD []) o.isSome w e w'
end Go.Proofs.Ytllnfbenaeeloaa

/-! Nb3 -/
namespace Go.Proofs.Ytllnfbenaeeloaa
open Go.RowKit Go.Sort

def bytesL (x : ByteArray) : List UInt8 := x.data.toList
def textL (l : List UInt8) : ByteArray := ⟨l.toArray⟩
theorem textL_bytesL (x : ByteArray) : textL (bytesL x) = x := by cases x; simp [textL, bytesL]
theorem encStr_textL (l : List UInt8) : encStr l = .string (textL l) := rfl
theorem map_enc (L : List ByteArray) : (L.map bytesL).map encStr = L.map Value.string := by
  rw [List.map_map]
  apply List.map_congr_left
  intro x _
  show encStr (bytesL x) = _
  rw [encStr_textL, textL_bytesL]
theorem sorted_is (L : List ByteArray) : ((L.map bytesL).mergeSort fun x y => decide (x ≤ y)).map textL = insAll L [] := by
  refine insAll_unique ?_ ?_
  · have h1 := (List.mergeSort_perm (L.map bytesL) (fun x y => decide (x ≤ y))).map textL
    rw [List.map_map] at h1
    have h2 : L.map (textL ∘ bytesL) = L := by
      conv => rhs; rw [← List.map_id L]
      apply List.map_congr_left
      intro x _
      exact textL_bytesL x
    rwa [h2] at h1
  · have h1 := List.pairwise_mergeSort (le := fun (x y : List UInt8) => decide (x ≤ y)) (fun a b c h k => by
      simp only [decide_eq_true_eq] at h k ⊢
      exact List.le_trans (α := UInt8) h k) (fun a b => by
      rcases List.le_total (α := UInt8) a b with h | h <;> simp [h]) (L.map bytesL)
    rw [List.pairwise_map]
    refine h1.imp ?_
    intro a b h
    unfold leB
    simpa [textL] using h
theorem sorted_enc (L : List ByteArray) : ((L.map bytesL).mergeSort fun x y => decide (x ≤ y)).map encStr = (insAll L []).map Value.string := by
  rw [← sorted_is, List.map_map]
  rfl

/-- A call that leaves the slice v with its texts in order; no other block turns. -/
def SortedS (base : Nat) (v : Value) (L : List ByteArray) (w : World) (e : Ending) (w' : World) : Prop := e = .returned (.tuple #[]) ∧ OwnS base w' v (insAll L []) ∧ w.grownBy w' v.ownBlock

theorem sort_any (base : Nat) (v : Value) (L : List ByteArray) (w : World) (hl : L.length ≤ 1000000) (h : OwnS base w v L) :
    Calls Try.prog 98 #[v] w (SortedS base v L w) := by
  rcases h.2 with ⟨hv, hn⟩ | ⟨g, cap, cur, hv, hb, hh, h1, h2, h3, h4⟩
  · subst hv
    have h0 : L = [] := List.length_eq_zero_iff.1 hn
    subst h0
    refine (Try.slices_Sort_string_none none 0 w).mono ?_
    rintro e w' ⟨rfl, rfl⟩
    exact ⟨rfl, OwnS.nil _ _, ⟨rfl, rfl, rfl, Nat.le_refl _, fun _ _ _ => rfl⟩⟩
  · subst hv
    have hlen : (L.map bytesL).length = L.length := List.length_map _
    have h4' : cur.toList.take (L.map bytesL).length = (L.map bytesL).map encStr := by
      rw [hlen, map_enc]
      simpa using h4
    have hs := Try.slices_Sort_string g 0 cap (L.map bytesL) w (holds_of_block hh h4') (Array.getElem?_eq_some_iff.1 hh).1 (by rw [hlen]; omega)
    rw [hlen] at hs
    refine hs.mono ?_
    rintro e w' ⟨rfl, n, os, rfl⟩
    have hts : ((L.map bytesL).mergeSort fun x y => decide (x ≤ y)).length = (L.map bytesL).length := by rw [List.length_mergeSort]
    have hown := ownsRow_sorted (w := w) (n := n) (os := os) (ss := L.map bytesL) hts hb hh (by rw [hlen]; exact h1) h2 h3
    rw [hlen, sorted_enc] at hown
    refine ⟨rfl, ?_, grownBy_sorted _⟩
    unfold OwnS
    have e9 : (insAll L []).length = L.length := by rw [insAll_length]; simp
    rw [e9]
    exact hown
end Go.Proofs.Ytllnfbenaeeloaa

/-! Cut -/
namespace Go.Proofs.Ytllnfbenaeeloaa
open Go.RowKit


theorem hasPrefix_one (s : ByteArray) (c : UInt8) (w : World) (hs : s.size ≤ 9223372036854775806) :
    Calls Try.prog 116 #[.string s, .string ⟨#[c]⟩] w fun e w' => e = .returned (.bool (s.data.toList.head? == some c)) ∧ w = w' := by
  by_cases h : 1 ≤ s.size
  all_goals
    go_enter Try.func116, Try.ntmps116
    go_wp2
    go_ret
  · refine ⟨ret_bool ?_, rfl⟩
    rw [Lib.extract_toList]
    cases hl : s.data.toList <;> simp
  · refine ⟨ret_bool ?_, rfl⟩
    have : s.data.toList.length = 0 := by rw [← Lib.size_eq]; omega
    rw [List.length_eq_zero_iff.1 this]
    rfl

def CutOk (s : ByteArray) (r : List UInt8) (w : World) (e : Ending) (w' : World) : Prop :=
  ∃ s' : ByteArray, s'.data.toList = r ∧ s'.size < s.size ∧ e = .returned (.tuple #[.string s', .bool true]) ∧ w = w'

theorem stringsliteCut_yes (s : ByteArray) (c : UInt8) (r : List UInt8) (w : World) (hs : s.size ≤ 9223372036854775806) (h : s.data.toList = c :: r) :
    Calls Try.prog 128 #[.string s, .string ⟨#[c]⟩] w (CutOk s r w) := by
  have hz : 1 ≤ s.size := by rw [Lib.size_eq, h]; simp
  have hb : (s.data.toList.head? == some c) = true := by simp [h]
  have H := Lib.hid h
  clear h
  go_enter Try.func128, Try.ntmps128
  go_wp2_with (go_at_call 116; refine (hasPrefix_one s c _ hs).mono ?_; rintro e w' ⟨rfl, rfl⟩)
  go_ret2
  refine ⟨_, ?_, ?_, rfl, rfl⟩
  · rw [Lib.extract_data, H.out, List.take_of_length_le]
    · rfl
    · rw [Lib.size_eq, H.out]; simp
  · rw [Lib.size_eq, Lib.extract_data, Lib.size_eq, H.out]; simp

theorem stringsliteCut_no (s : ByteArray) (c : UInt8) (w : World) (hs : s.size ≤ 9223372036854775806) (h : (s.data.toList.head? == some c) = false) :
    Calls Try.prog 128 #[.string s, .string ⟨#[c]⟩] w fun e w' => e = .returned (.tuple #[.string s, .bool false]) ∧ w = w' := by
  go_enter Try.func128, Try.ntmps128
  go_wp2_with (go_at_call 116; refine (hasPrefix_one s c _ hs).mono ?_; rintro e w' ⟨rfl, rfl⟩)
  go_ret2
  exact ⟨rfl, rfl⟩

theorem cut_yes (s : ByteArray) (c : UInt8) (r : List UInt8) (w : World) (hs : s.size ≤ 9223372036854775806) (h : s.data.toList = c :: r) :
    Calls Try.prog 110 #[.string s, .string ⟨#[c]⟩] w (CutOk s r w) := by
  have H := Lib.hid h
  clear h
  go_enter Try.func110, Try.ntmps110
  go_wp2_with (go_at_call 128; refine (stringsliteCut_yes s c r _ hs H.out).mono ?_; rintro e w' ⟨s', h1, h2, rfl, rfl⟩; have H1 := Lib.hid h1; clear h1)
  go_ret2
  exact ⟨_, H1.out, h2, rfl, rfl⟩

theorem cut_no (s : ByteArray) (c : UInt8) (w : World) (hs : s.size ≤ 9223372036854775806) (h : (s.data.toList.head? == some c) = false) :
    Calls Try.prog 110 #[.string s, .string ⟨#[c]⟩] w fun e w' => e = .returned (.tuple #[.string s, .bool false]) ∧ w = w' := by
  go_enter Try.func110, Try.ntmps110
  go_wp2_with (go_at_call 128; refine (stringsliteCut_no s c _ hs h).mono ?_; rintro e w' ⟨rfl, rfl⟩)
  go_ret2
  exact ⟨rfl, rfl⟩
end Go.Proofs.Ytllnfbenaeeloaa

/-! Node -/
namespace Go.Proofs.Ytllnfbenaeeloaa
open Go.RowKit

/-- Block b is a node of the tree, and so on down. -/
def NodeAt (w : World) : Tr → Nat → Prop
  | .lf, b => w.heap[b]? = some (.cells #[.pointer none, .pointer none] 128 (0, 0))
  | .nd l r, b => ∃ bl br, w.heap[b]? = some (.cells #[.pointer (some ⟨bl, 0, none⟩), .pointer (some ⟨br, 0, none⟩)] 128 (0, 0)) ∧ NodeAt w l bl ∧ NodeAt w r br

theorem NodeAt.lt {w : World} {t : Tr} {b : Nat} (h : NodeAt w t b) : b < w.heap.size := by
  cases t with
  | lf => exact lt_of_block h
  | nd l r => obtain ⟨_, _, h, _⟩ := h; exact lt_of_block h

theorem NodeAt.keep {w w' : World} (hb : Below w.heap.size w w') : ∀ {t : Tr} {b : Nat}, NodeAt w t b → NodeAt w' t b := by
  intro t
  induction t with
  | lf => intro b h; exact (hb.block b h.lt).trans h
  | nd l r ihl ihr =>
    intro b h
    have hl := h.lt
    obtain ⟨bl, br, h, h1, h2⟩ := h
    exact ⟨bl, br, (hb.block b hl).trans h, ihl h1, ihr h2⟩

theorem two_left {w : World} {b : Nat} {u v : Value} {t : TypeId} (h : w.heap[b]? = some (.cells #[u, v] t (0, 0))) : w.cell? ⟨b, 0, none⟩ = some u := by simp [World.cell?, h]
theorem two_right {w : World} {b : Nat} {u v : Value} {t : TypeId} (h : w.heap[b]? = some (.cells #[u, v] t (0, 0))) : w.cell? ⟨b, 1, none⟩ = some v := by simp [World.cell?, h]

theorem heap_alloc_at (w : World) (o : Obj) : (w.alloc o).heap[w.heap.size]? = some o := by
  show (w.heap.push o)[w.heap.size]? = _
  simp

theorem node_new {w1 w2 : World} {l r : Tr} {b1 b2 : Nat} (h1 : NodeAt w1 l b1) (hb : Below w1.heap.size w1 w2) (h2 : NodeAt w2 r b2) :
    NodeAt (w2.alloc (.cells #[.pointer (some ⟨b1, 0, none⟩), .pointer (some ⟨b2, 0, none⟩)] 128 (0, 0))) (.nd l r) w2.heap.size := by
  have hb3 : Below w2.heap.size w2 (w2.alloc (.cells #[.pointer (some ⟨b1, 0, none⟩), .pointer (some ⟨b2, 0, none⟩)] 128 (0, 0))) := (Below.refl _ _).alloc (Nat.le_refl _) _
  exact ⟨b1, b2, heap_alloc_at _ _, (h1.keep hb).keep hb3, h2.keep hb3⟩

/-- What readPlace leaves where there is a tree. -/
def PlaceOk (t : Tr) (r : List UInt8) (s : ByteArray) (w : World) (e : Ending) (w' : World) : Prop :=
  ∃ (b : Nat) (s' : ByteArray), s'.data.toList = r ∧ s'.size < s.size ∧ NodeAt w' t b ∧ Below w.heap.size w w' ∧ e = .returned (.tuple #[.pointer (some ⟨b, 0, none⟩), .string s'])
def PlaceNo (w : World) (e : Ending) (w' : World) : Prop :=
  Below w.heap.size w w' ∧ e = .returned (.tuple #[.pointer none, .string ⟨#[]⟩])
def PlacePost (o : Option (Tr × List UInt8)) (s : ByteArray) (w : World) (e : Ending) (w' : World) : Prop :=
  match o with
  | some (t, r) => PlaceOk t r s w e w'
  | none => PlaceNo w e w'

end Go.Proofs.Ytllnfbenaeeloaa

/-! End -/
namespace Go.Proofs.Ytllnfbenaeeloaa
open Go.RowKit


set_option maxHeartbeats 400000 in
theorem end_any (k : Nat) : ∀ (s : ByteArray) (a d : Int) (w : World), s.size ≤ 9223372036854775806 → 0 ≤ d → d + k = 61 → 0 ≤ a →
    Calls Try.prog 75 #[.string s, .int .i64 a, .int .i64 d] w fun e w' => e = .returned (.int .i64 (endI k s a)) ∧ w = w' := by
  induction k with
  | zero =>
    intro s a d w hs hd0 hd ha
    by_cases h : a < s.size
    all_goals
      go_enter Try.func75, Try.ntmps75
      go_wp2_with fail
      go_ret
      exact ⟨rfl, rfl⟩
  | succ k ih =>
    intro s a d w hs hd0 hd ha
    have b1 := endI_le k s (a + 1) (by omega)
    have b2 := fun h => endI_le k s (endI k s (a + 1)) h
    by_cases h : a < s.size
    · go_enter Try.func75, Try.ntmps75
      go_wp2_with (go_at_call 75; refine (ih s _ _ _ hs (by omega) (by omega) (by omega)).mono ?_; rintro e w' ⟨rfl, rfl⟩)
      all_goals
        go_ret
        refine ⟨ret_int ?_, rfl⟩
        go_light
        clear ih b2
        have e1 := byteAt_eq s a (by omega)
        have e2 := byteAt_eq s (endI k s (endI k s (a + 1)))
        simp only [beq_iff_eq, beq_eq_false_iff_ne, ne_eq, bne_iff_ne, bne_eq_false_iff_eq] at *
        rw [endI]
        repeat' split
        all_goals first | omega | (have := e2 (by omega); omega)
    · go_enter Try.func75, Try.ntmps75
      go_wp2_with fail
      go_ret
      exact ⟨ret_int (by rw [endI, if_neg (by omega)]), rfl⟩
end Go.Proofs.Ytllnfbenaeeloaa

/-! Carets -/
namespace Go.Proofs.Ytllnfbenaeeloaa
open Go.RowKit

set_option maxHeartbeats 400000 in
theorem carets_any (s : ByteArray) (w : World) (hs : s.size ≤ 9223372036854775806) :
    Calls Try.prog 37 #[.string s] w fun e w' => e = .returned (.int .i64 (cnt s s.size)) ∧ w = w' := by
  go_enter Try.func37, Try.ntmps37
  go_wp2
  go_loop [3, 4] (fun n i => ∃ k : Nat, k ≤ s.size ∧ i = .int .i64 k ∧ n = .int .i64 (cnt s k)) (fun _ i => s.size - (intOf i).toNat)
  case atStart => exact ⟨0, Nat.zero_le _, rfl, rfl⟩
  case round =>
    obtain ⟨k, hk, rfl, rfl⟩ := hrel
    have hc := cnt_le s k
    by_cases hlt : k < s.size
    · have e1 : Hid (byteAt s k = ((s[k]'hlt).toNat : Int)) := byteAt_eq s k hlt
      go_wp2
      all_goals
        go_round
        case rel => exact ⟨k + 1, by omega, by go_num, by rw [cnt, e1.out]; first | rw [if_pos (by simpa using ‹(_ == (40:Int)) = true›)] | (rw [if_neg (by simpa using ‹(_ == (40:Int)) = false›)]; go_num)⟩
        case measure => simp [intOf]; omega
    · obtain rfl : k = s.size := by omega
      go_wp2
      go_ret
      exact ⟨rfl, rfl⟩
set_option maxHeartbeats 400000 in
theorem trIs_any (s : ByteArray) (w : World) (hs : s.size ≤ 9223372036854775806) :
    Calls Try.prog 51 #[.string s] w fun e w' => e = .returned (.bool (isTreeB s)) ∧ w = w' := by
  have hc := cnt_le s s.size
  have he := endI_le 61 s 0 (by omega)
  by_cases a : (s.size : Int) ≤ 33 <;> by_cases b : cnt s s.size ≤ 8
  all_goals
    go_enter Try.func51, Try.ntmps51
    go_wp2_with (first | (go_at_call 37; refine (carets_any s _ hs).mono ?_; rintro e w' ⟨rfl, rfl⟩) | (go_at_call 75; refine (end_any 61 s _ _ _ hs (by omega) (by omega) (by omega)).mono ?_; rintro e w' ⟨rfl, rfl⟩))
    go_ret
    exact ⟨ret_bool (by unfold isTreeB; rw [Bool.eq_iff_iff]; simp; try omega), rfl⟩

end Go.Proofs.Ytllnfbenaeeloaa

/-! SpecTr -/
namespace Go.Proofs.Ytllnfbenaeeloaa
open Go.RowKit

theorem isLf_eq (t : Tr) : (t.str.toList == [46]) = t.isLf := by
  rw [Lib.toList_data, Tr.str_list]
  cases t <;> simp [Tr.text, Tr.isLf]

theorem str_lf : Tr.lf.str = ⟨#[46]⟩ := rfl
theorem str_nd (l r : Tr) : (Tr.nd l r).str = ⟨#[40]⟩ ++ l.str ++ r.str ++ ⟨#[41]⟩ := by
  apply ba_ext
  simp [Tr.str, Tr.text]

theorem trLeaf_any (t : Tr) (w : World) :
    Calls Try.prog 85 #[.string t.str] w fun e w' => e = .returned (.bool t.isLf) ∧ w = w' := by
  go_enter Try.func85, Try.ntmps85
  go_wp2_with fail
  go_ret
  exact ⟨ret_bool (isLf_eq t), rfl⟩

theorem trOf_any (l r : Tr) (w : World) (h : l.carets + r.carets ≤ 3000000) :
    Calls Try.prog 88 #[.string l.str, .string r.str] w fun e w' => e = .returned (.string (Tr.nd l r).str) ∧ w = w' := by
  have h1 := l.str_size
  have h2 := r.str_size
  go_enter Try.func88, Try.ntmps88
  go_wp2_with fail
  go_ret
  exact ⟨by rw [str_nd]; rfl, rfl⟩

theorem ret_str2 {a b c d : ByteArray} (h : a = c) (k : b = d) : Ending.returned (.tuple #[.string a, .string b]) = .returned (.tuple #[.string c, .string d]) := by rw [h, k]

theorem side_left (l r : Tr) (e : Nat) (he : e = 3 * l.carets + 2) : (Tr.nd l r).str.extract 1 e = l.str := by
  apply ba_ext
  rw [Lib.extract_data, Tr.str_list, Tr.str_list]
  have : e - 1 = l.text.length := by rw [l.text_len]; omega
  rw [this]
  simp [Tr.text]

theorem side_right (l r : Tr) (e f : Nat) (he : e = 3 * l.carets + 2) (hf : f = 3 * l.carets + 3 * r.carets + 3) : (Tr.nd l r).str.extract e f = r.str := by
  apply ba_ext
  rw [Lib.extract_data, Tr.str_list, Tr.str_list]
  have h1 : e = l.text.length + 1 := by rw [l.text_len]; omega
  have h2 : f - e = r.text.length := by rw [r.text_len]; omega
  rw [h2, h1]
  show ((40 :: (l.text ++ (r.text ++ [41]))).drop (l.text.length + 1)).take _ = _
  rw [List.drop_succ_cons, List.drop_left, List.take_left]

theorem trSides_any (l r : Tr) (w : World) (h : l.carets + r.carets ≤ 60) :
    Calls Try.prog 87 #[.string (Tr.nd l r).str] w fun e w' => e = .returned (.tuple #[.string l.str, .string r.str]) ∧ Below w.heap.size w w' := by
  have h1 := (Tr.nd l r).str_size
  simp only [Tr.carets] at h1
  have he := endI_complete l 61 (Tr.nd l r).str 1 (r.text ++ [41]) (by omega) (by rw [Tr.str_list]; rfl)
  have hl := l.text_len
  have he' : endI 61 (Tr.nd l r).str 1 = (3 * l.carets + 2 : Nat) := by
    have : ((1 : Nat) : Int) = 1 := rfl
    rw [this] at he; rw [he]; omega
  have HE := Lib.hid he'
  clear he he' hl
  go_enter Try.func87, Try.ntmps87
  go_wp2_with fail
  refine (end_any 61 (Tr.nd l r).str _ _ _ (by omega) (by omega) (by omega) (by omega)).mono ?_; rintro e w' ⟨rfl, rfl⟩
  rw [HE.out]
  go_wp2_with fail
  go_region
  all_goals (try go_wp2_with fail)
  all_goals go_ret2
  exact ⟨ret_str2 (side_left l r _ (by omega)) (side_right l r _ _ (by omega) (by omega)), (Below.refl _ _).drew⟩
end Go.Proofs.Ytllnfbenaeeloaa

/-! Quiet -/
namespace Go.Proofs.Ytllnfbenaeeloaa
open Go.RowKit

theorem quiet_eq {P : Program} {f : FuncId} {args : Array Value} {w : World} {n : Nat} {v : Value} (h : Calls P f args (w.drewN n) fun e w' => e = .returned v ∧ w.drewN n = w') :
    Calls P f args (w.drewN n) fun e w'' => e = .returned v ∧ ∃ m, w'' = w.drewN m :=
  h.mono fun _ _ ⟨he, hm⟩ => ⟨he, n, hm.symm⟩

def Quietly (v : Value) (w : World) (e : Ending) (w' : World) : Prop := e = .returned v ∧ ∃ n, w' = w.drewN n
end Go.Proofs.Ytllnfbenaeeloaa

/-! Text -/
namespace Go.Proofs.Ytllnfbenaeeloaa
open Go.RowKit

theorem isLeaf_any (t : Tr) (b : Nat) (w : World) (h : NodeAt w t b) :
    Calls Try.prog 111 #[.pointer (some ⟨b, 0, none⟩)] w fun e w' => e = .returned (.bool t.isLf) ∧ w = w' := by
  cases t with
  | lf =>
    have h1 := two_left h
    have H := Lib.hid h
    clear h
    go_enter Try.func111, Try.ntmps111
    go_wp2_with fail
    go_ret
    exact ⟨rfl, rfl⟩
  | nd l r =>
    obtain ⟨bl, br, h, hl, hr⟩ := h
    have h1 := two_left h
    have H := Lib.hid h
    clear h
    go_enter Try.func111, Try.ntmps111
    go_wp2_with fail
    go_ret
    exact ⟨rfl, rfl⟩

theorem NodeAt.heap {w w' : World} (e : w'.heap = w.heap) : ∀ {t : Tr} {b : Nat}, NodeAt w t b → NodeAt w' t b := by
  intro t
  induction t with
  | lf => intro b h; unfold NodeAt at *; rw [e]; exact h
  | nd l r ihl ihr =>
    intro b h
    obtain ⟨bl, br, h, h1, h2⟩ := h
    exact ⟨bl, br, by rw [e]; exact h, ihl h1, ihr h2⟩
theorem NodeAt.drewN {w : World} (n : Nat) {t : Tr} {b : Nat} (h : NodeAt w t b) : NodeAt (w.drewN n) t b := NodeAt.heap (w := w) (w' := w.drewN n) rfl h

set_option maxHeartbeats 400000 in
theorem text_any (t : Tr) : ∀ (b : Nat) (w : World), NodeAt w t b → t.carets ≤ 1000 →
    Calls Try.prog 97 #[.pointer (some ⟨b, 0, none⟩)] w (Quietly (.string t.str) w) := by
  induction t with
  | lf =>
    intro b w h hc
    have H := Lib.hid h
    clear h
    go_enter Try.func97, Try.ntmps97
    go_wp2_with fail
    refine (isLeaf_any .lf b _ H.out).mono ?_; rintro e w1 ⟨rfl, rfl⟩
    simp only [Tr.isLf]
    go_wp2_with fail
    go_ret
    exact ⟨rfl, 0, rfl⟩
  | nd l r ihl ihr =>
    intro b w h hc
    have hc' : l.carets + r.carets + 1 ≤ 1000 := hc
    have sl := l.str_size
    have sr := r.str_size
    have H := Lib.hid h
    obtain ⟨bl, br, h, hl, hr⟩ := h
    have h1 := two_left h
    have h2 := two_right h
    clear h
    go_enter Try.func97, Try.ntmps97
    go_wp2_with fail
    refine (isLeaf_any (.nd l r) b _ H.out).mono ?_; rintro e w1 ⟨rfl, rfl⟩
    simp only [Tr.isLf]
    go_wp2_with fail
    go_quiet ((go_at_call 97; first | exact Calls.quiet_of (ihl _ _ (hl.drewN _) (by omega)) | exact Calls.quiet_of (ihr _ _ (hr.drewN _) (by omega))))
    go_wp2_with fail
    go_ret
    exact ⟨by rw [str_nd]; rfl, _, rfl⟩
end Go.Proofs.Ytllnfbenaeeloaa

/-! Place -/
namespace Go.Proofs.Ytllnfbenaeeloaa
open Go.RowKit

theorem head_of {l : List UInt8} {c : UInt8} (h : (l.head? == some c) = true) : ∃ r, l = c :: r := by
  cases l with
  | nil => simp at h
  | cons a r => simp at h; exact ⟨r, by rw [h]⟩

set_option maxHeartbeats 1000000 in
theorem place_any (k : Nat) : ∀ (s : ByteArray) (w : World), s.size < k → s.size ≤ 9223372036854775806 →
    Calls Try.prog 92 #[.string s] w (PlacePost (parseN k s.data.toList) s w) := by
  induction k with
  | zero => intro s w h; omega
  | succ k ih =>
    intro s w hk hs
    have ih_no : ∀ (s : ByteArray) (w : World), s.size < k → s.size ≤ 9223372036854775806 → parseN k s.data.toList = none → Calls Try.prog 92 #[.string s] w (PlaceNo w) := by
      intro s w h1 h2 h3
      have := ih s w h1 h2
      rw [h3] at this
      exact this
    have ih_yes : ∀ (s : ByteArray) (w : World) (t : Tr) (r : List UInt8), s.size < k → s.size ≤ 9223372036854775806 → parseN k s.data.toList = some (t, r) → Calls Try.prog 92 #[.string s] w (PlaceOk t r s w) := by
      intro s w t r h1 h2 h3
      have := ih s w h1 h2
      rw [h3] at this
      exact this
    clear ih
    cases h46 : (s.data.toList.head? == some 46) with
    | true =>
      obtain ⟨r, hr⟩ := head_of h46
      have HP : parseN (k + 1) s.data.toList = some (.lf, r) := by rw [hr, parseN, if_pos rfl]
      rw [HP]
      show Calls _ _ _ _ (PlaceOk .lf r s w)
      have HR := Lib.hid hr
      clear hr HP h46
      go_enter Try.func92, Try.ntmps92
      go_wp2_with (go_at_call 110; refine (cut_yes s _ r _ hs HR.out).mono ?_; rintro e w' ⟨s', h1, h2, rfl, rfl⟩; have H1 := Lib.hid h1; clear h1)
      go_ret2
      exact ⟨_, _, H1.out, h2, heap_alloc_at _ _, (Below.refl _ _).alloc (Nat.le_refl _) _, rfl⟩
    | false =>
      cases h40 : (s.data.toList.head? == some 40) with
      | false =>
        have HP : parseN (k + 1) s.data.toList = none := by
          cases hl : s.data.toList with
          | nil => rfl
          | cons c r =>
            rw [hl] at h46 h40
            have h1 : ¬ c = 46 := by simpa using h46
            have h2 : ¬ c = 40 := by simpa using h40
            rw [parseN, if_neg h1, if_neg h2]
        rw [HP]
        show Calls _ _ _ _ (PlaceNo w)
        go_enter Try.func92, Try.ntmps92
        go_wp2_with fail
        refine (cut_no s 46 _ hs h46).mono ?_; rintro e w' ⟨rfl, rfl⟩
        go_wp2_with fail
        refine (cut_no s 40 _ hs h40).mono ?_; rintro e w' ⟨rfl, rfl⟩
        go_wp2_with fail
        go_ret2
        exact ⟨Below.refl _ _, rfl⟩
      | true =>
        obtain ⟨r, hr⟩ := head_of h40
        have HR := Lib.hid hr
        have hz : s.size = r.length + 1 := by rw [Lib.size_eq, hr]; rfl
        have HZ := Lib.hid hz
        clear h40 hz
        cases hp1 : parseN k r with
        | none =>
          have HP : parseN (k + 1) s.data.toList = none := by rw [hr, parseN, if_neg (by decide), if_pos rfl, hp1]
          rw [HP]
          show Calls _ _ _ _ (PlaceNo w)
          have H1 := Lib.hid hp1
          clear HP hr hp1
          go_enter Try.func92, Try.ntmps92
          go_wp2_with fail
          refine (cut_no s 46 _ hs h46).mono ?_; rintro e w' ⟨rfl, rfl⟩
          go_wp2_with fail
          refine (cut_yes s 40 r _ hs HR.out).mono ?_; rintro e w' ⟨s1, hs1, hz1, rfl, rfl⟩; have HS1 := Lib.hid hs1; clear hs1
          go_wp2_with fail
          refine (ih_no s1 _ (by omega) (by omega) (by rw [HS1.out]; exact H1.out)).mono ?_; rintro e w1 ⟨hb1, rfl⟩
          go_wp2_with fail
          go_ret2
          exact ⟨hb1, rfl⟩
        | some p1 =>
          obtain ⟨t1, r1⟩ := p1
          have hl1 := parseN_len hp1
          cases hp2 : parseN k r1 with
          | none =>
            have HP : parseN (k + 1) s.data.toList = none := by rw [hr, parseN, if_neg (by decide), if_pos rfl, hp1]; show (match parseN k r1 with | none => none | some (t2, r2) => _) = _; rw [hp2]
            rw [HP]
            show Calls _ _ _ _ (PlaceNo w)
            have H1 := Lib.hid hp1
            have H2 := Lib.hid hp2
            clear HP hr hp1 hp2
            go_enter Try.func92, Try.ntmps92
            go_wp2_with fail
            refine (cut_no s 46 _ hs h46).mono ?_; rintro e w' ⟨rfl, rfl⟩
            go_wp2_with fail
            refine (cut_yes s 40 r _ hs HR.out).mono ?_; rintro e w' ⟨s1, hs1, hz1, rfl, rfl⟩; have HS1 := Lib.hid hs1; clear hs1
            go_wp2_with fail
            refine (ih_yes s1 _ _ _ (by omega) (by omega) (by rw [HS1.out]; exact H1.out)).mono ?_; rintro e w1 ⟨b1, s2, hs2, hz2, hn1, hb1, rfl⟩; have HS2 := Lib.hid hs2; clear hs2
            go_wp2_with fail
            refine (ih_no s2 _ (by omega) (by omega) (by rw [HS2.out]; exact H2.out)).mono ?_; rintro e w2 ⟨hb2, rfl⟩
            go_wp2_with fail
            go_ret2
            exact ⟨hb1.trans (hb2.mono hb1.size), rfl⟩
          | some p2 =>
            obtain ⟨t2, r2⟩ := p2
            have hl2 := parseN_len hp2
            cases h41 : (r2.head? == some 41) with
            | false =>
              have HP : parseN (k + 1) s.data.toList = none := by
                rw [hr, parseN, if_neg (by decide), if_pos rfl, hp1]
                show (match parseN k r1 with | none => none | some (t2, r2) => _) = _
                rw [hp2]
                cases r2 with
                | nil => rfl
                | cons c r3 =>
                  have h1 : ¬ c = 41 := by simpa using h41
                  simp [h1]
              rw [HP]
              show Calls _ _ _ _ (PlaceNo w)
              have H1 := Lib.hid hp1
              have H2 := Lib.hid hp2
              have H3 := Lib.hid h41
              clear HP hr hp1 hp2 h41
              go_enter Try.func92, Try.ntmps92
              go_wp2_with fail
              refine (cut_no s 46 _ hs h46).mono ?_; rintro e w' ⟨rfl, rfl⟩
              go_wp2_with fail
              refine (cut_yes s 40 r _ hs HR.out).mono ?_; rintro e w' ⟨s1, hs1, hz1, rfl, rfl⟩; have HS1 := Lib.hid hs1; clear hs1
              go_wp2_with fail
              refine (ih_yes s1 _ _ _ (by omega) (by omega) (by rw [HS1.out]; exact H1.out)).mono ?_; rintro e w1 ⟨b1, s2, hs2, hz2, hn1, hb1, rfl⟩; have HS2 := Lib.hid hs2; clear hs2
              go_wp2_with fail
              refine (ih_yes s2 _ _ _ (by omega) (by omega) (by rw [HS2.out]; exact H2.out)).mono ?_; rintro e w2 ⟨b2, s3, hs3, hz3, hn2, hb2, rfl⟩; have HS3 := Lib.hid hs3; clear hs3
              go_wp2_with fail
              refine (cut_no s3 41 _ (by omega) (by rw [HS3.out]; exact H3.out)).mono ?_; rintro e w' ⟨rfl, rfl⟩
              go_wp2_with fail
              go_ret2
              exact ⟨hb1.trans (hb2.mono hb1.size), rfl⟩
            | true =>
              obtain ⟨r3, hr3⟩ := head_of h41
              have HP : parseN (k + 1) s.data.toList = some (.nd t1 t2, r3) := by
                rw [hr, parseN, if_neg (by decide), if_pos rfl, hp1]
                show (match parseN k r1 with | none => none | some (t2, r2) => _) = _
                rw [hp2, hr3]
                simp
              rw [HP]
              show Calls _ _ _ _ (PlaceOk (.nd t1 t2) r3 s w)
              have H1 := Lib.hid hp1
              have H2 := Lib.hid hp2
              have H3 := Lib.hid hr3
              clear HP hr hp1 hp2 h41 hr3
              go_enter Try.func92, Try.ntmps92
              go_wp2_with fail
              refine (cut_no s 46 _ hs h46).mono ?_; rintro e w' ⟨rfl, rfl⟩
              go_wp2_with fail
              refine (cut_yes s 40 r _ hs HR.out).mono ?_; rintro e w' ⟨s1, hs1, hz1, rfl, rfl⟩; have HS1 := Lib.hid hs1; clear hs1
              go_wp2_with fail
              refine (ih_yes s1 _ _ _ (by omega) (by omega) (by rw [HS1.out]; exact H1.out)).mono ?_; rintro e w1 ⟨b1, s2, hs2, hz2, hn1, hb1, rfl⟩; have HS2 := Lib.hid hs2; clear hs2
              go_wp2_with fail
              refine (ih_yes s2 _ _ _ (by omega) (by omega) (by rw [HS2.out]; exact H2.out)).mono ?_; rintro e w2 ⟨b2, s3, hs3, hz3, hn2, hb2, rfl⟩; have HS3 := Lib.hid hs3; clear hs3
              go_wp2_with fail
              refine (cut_yes s3 41 r3 _ (by omega) (by rw [HS3.out]; exact H3.out)).mono ?_; rintro e w' ⟨s4, hs4, hz4, rfl, rfl⟩; have HS4 := Lib.hid hs4; clear hs4
              go_wp2_with fail
              go_ret2
              have hb3 : Below w2.heap.size w2 (w2.alloc (.cells #[.pointer (some ⟨b1, 0, none⟩), .pointer (some ⟨b2, 0, none⟩)] 128 (0, 0))) := (Below.refl _ _).alloc (Nat.le_refl _) _
              exact ⟨_, _, HS4.out, by omega, ⟨b1, b2, heap_alloc_at _ _, (hn1.keep hb2).keep hb3, hn2.keep hb3⟩, (hb1.trans (hb2.mono hb1.size)).trans (hb3.mono (Nat.le_trans hb1.size hb2.size)), rfl⟩
end Go.Proofs.Ytllnfbenaeeloaa

/-! Read -/
namespace Go.Proofs.Ytllnfbenaeeloaa
open Go.RowKit

def ReadOk (t : Tr) (w : World) (e : Ending) (w' : World) : Prop :=
  ∃ b : Nat, NodeAt w' t b ∧ Below w.heap.size w w' ∧ e = .returned (.tuple #[.pointer (some ⟨b, 0, none⟩), .bool true])
def ReadNo (w : World) (e : Ending) (w' : World) : Prop :=
  Below w.heap.size w w' ∧ e = .returned (.tuple #[.pointer none, .bool false])

theorem treeOf_of_parse {s : ByteArray} {t : Tr} (h : parseN (s.size + 1) s.data.toList = some (t, [])) (hz : s.size ≤ 25) : treeOf s = some t := by
  have e := str_of_list (show s.data.toList = t.text by simpa using parseN_sound _ _ _ _ h)
  subst e
  exact treeOf_str t (by rw [Tr.str_size] at hz; omega)

theorem read_yes (t : Tr) (w : World) (h : t.carets ≤ 8) :
    Calls Try.prog 70 #[.string t.str] w (ReadOk t w) := by
  have hz := t.str_size
  have hp := place_any (t.str.size + 1) t.str
  rw [parse_str t _ (by have := t.text_len; omega)] at hp
  have hp' : ∀ w, Calls Try.prog 92 #[.string t.str] w (PlaceOk t [] t.str w) := fun w => hp w (by omega) (by omega)
  have hz' : t.str.size ≤ 25 := by omega
  clear hz hp
  go_enter Try.func70, Try.ntmps70
  go_wp2_with fail
  refine (hp' _).mono ?_; rintro e w1 ⟨b1, s1, hs1, hz1, hn1, hb1, rfl⟩; have e1 : s1.toList.isEmpty = true := by rw [Lib.toList_data, hs1]; rfl
  have e2 : s1.toList = [] := by rw [Lib.toList_data, hs1]
  clear hs1
  go_wp2_with fail
  go_ret2
  exact ⟨b1, hn1, hb1, rfl⟩

theorem read_no (s : ByteArray) (w : World) (hs : s.size ≤ 9223372036854775806) (h : treeOf s = none) :
    Calls Try.prog 70 #[.string s] w (ReadNo w) := by
  by_cases hz : (s.size : Int) ≤ 25
  · have hp := place_any (s.size + 1) s
    cases hq : parseN (s.size + 1) s.data.toList with
    | none =>
      rw [hq] at hp
      have hp' : ∀ w, Calls Try.prog 92 #[.string s] w (PlaceNo w) := fun w => hp w (by omega) hs
      clear hp h hq
      go_enter Try.func70, Try.ntmps70
      go_wp2_with fail
      refine (hp' _).mono ?_; rintro e w1 ⟨hb1, rfl⟩
      go_wp2_with fail
      go_ret2
      exact ⟨hb1, rfl⟩
    | some p =>
      obtain ⟨t, r⟩ := p
      rw [hq] at hp
      have hp' : ∀ w, Calls Try.prog 92 #[.string s] w (PlaceOk t r s w) := fun w => hp w (by omega) hs
      cases r with
      | nil => rw [treeOf_of_parse hq (by omega)] at h; simp at h
      | cons c r =>
        clear hp h hq
        go_enter Try.func70, Try.ntmps70
        go_wp2_with fail
        refine (hp' _).mono ?_; rintro e w1 ⟨b1, s1, hs1, hz1, hn1, hb1, rfl⟩; have e1 : s1.toList.isEmpty = false := by rw [Lib.toList_data, hs1]; rfl
        clear hs1
        go_wp2_with fail
        go_ret2
        exact ⟨hb1, rfl⟩
  · clear h
    go_enter Try.func70, Try.ntmps70
    go_wp2_with fail
    go_ret2
    exact ⟨Below.refl _ _, rfl⟩

theorem implIsTree_yes (t : Tr) (w : World) (h : t.carets ≤ 8) :
    Calls Try.prog 46 #[.string t.str] w fun e w' => Below w.heap.size w w' ∧ e = .returned (.bool true) := by
  go_enter Try.func46, Try.ntmps46
  go_wp2_with fail
  refine (read_yes t _ h).mono ?_; rintro e w1 ⟨b1, hn1, hb1, rfl⟩
  go_wp2_with fail
  go_ret
  exact ⟨hb1, rfl⟩

theorem implIsTree_no (s : ByteArray) (w : World) (hs : s.size ≤ 9223372036854775806) (h : treeOf s = none) :
    Calls Try.prog 46 #[.string s] w fun e w' => Below w.heap.size w w' ∧ e = .returned (.bool false) := by
  have H := Lib.hid h
  clear h
  go_enter Try.func46, Try.ntmps46
  go_wp2_with fail
  refine (read_no s _ hs H.out).mono ?_; rintro e w1 ⟨hb1, rfl⟩
  go_wp2_with fail
  go_ret
  exact ⟨hb1, rfl⟩

end Go.Proofs.Ytllnfbenaeeloaa

/-! SpecMir -/
namespace Go.Proofs.Ytllnfbenaeeloaa
open Go.RowKit

set_option maxHeartbeats 400000 in
theorem trJoin_any (a : Tr) : ∀ (b : Tr) (w : World), a.carets ≤ 60 → b.carets ≤ 60 →
    Calls Try.prog 80 #[.string a.str, .string b.str] w (Gives (.string (a.join b).str) w) := by
  induction a with
  | lf =>
    intro b w ha hb
    go_enter Try.func80, Try.ntmps80
    go_wp2_with fail
    refine (trLeaf_any .lf _).mono ?_; rintro e w1 ⟨rfl, rfl⟩
    simp only [Tr.isLf]
    go_wp2_with fail
    go_ret
    exact ⟨rfl, Below.refl _ _⟩
  | nd l r ihl ihr =>
    intro b w ha hb
    have h' : l.carets + r.carets + 1 ≤ 60 := ha
    cases b with
    | lf =>
      go_enter Try.func80, Try.ntmps80
      go_wp2_with fail
      refine (trLeaf_any (.nd l r) _).mono ?_; rintro e w1 ⟨rfl, rfl⟩
      simp only [Tr.isLf]
      go_wp2_with fail
      refine (trLeaf_any .lf _).mono ?_; rintro e w1 ⟨rfl, rfl⟩
      simp only [Tr.isLf]
      go_wp2_with fail
      go_ret
      exact ⟨rfl, Below.refl _ _⟩
    | nd p q =>
      have h2 : p.carets + q.carets + 1 ≤ 60 := hb
      have ml := join_carets l p
      have mr := join_carets r q
      go_enter Try.func80, Try.ntmps80
      go_wp2_with fail
      refine (trLeaf_any (.nd l r) _).mono ?_; rintro e w1 ⟨rfl, rfl⟩
      simp only [Tr.isLf]
      go_wp2_with fail
      refine (trLeaf_any (.nd p q) _).mono ?_; rintro e w1 ⟨rfl, rfl⟩
      simp only [Tr.isLf]
      go_wp2_with fail
      refine (trSides_any l r _ (by omega)).mono ?_; rintro e w1 ⟨rfl, hb1⟩
      go_wp2_with fail
      refine (trSides_any p q _ (by omega)).mono ?_; rintro e w2 ⟨rfl, hb2⟩
      go_wp2_with fail
      refine (ihl p _ (by omega) (by omega)).mono ?_; rintro e w3 ⟨rfl, hb3⟩
      go_wp2_with fail
      refine (ihr q _ (by omega) (by omega)).mono ?_; rintro e w4 ⟨rfl, hb4⟩
      go_wp2_with fail
      refine (trOf_any (l.join p) (r.join q) _ (by omega)).mono ?_; rintro e w5 ⟨rfl, rfl⟩
      go_wp2_with fail
      go_ret
      exact ⟨rfl, nx (nx (nx hb1 hb2) hb3) hb4⟩

end Go.Proofs.Ytllnfbenaeeloaa

/-! Ans -/
namespace Go.Proofs.Ytllnfbenaeeloaa
open Go.RowKit

def trS : Option Tr → ByteArray
  | some t => t.str
  | none => ⟨#[]⟩
def trB : Option Tr → Bool
  | some _ => true
  | none => false
/-- An answer of a text and a bool. -/
def ansV (o : Option Tr) : Value := .tuple #[.string (trS o), .bool (trB o)]
/-- A tree, if it has no more carets than allowed. -/
def lim (t : Tr) : Option Tr := if t.carets ≤ 8 then some t else none

theorem trIs_yes (t : Tr) (w : World) (h : t.carets ≤ 8) : Calls Try.prog 51 #[.string t.str] w fun e w' => e = .returned (.bool true) ∧ w = w' := by
  have := trIs_any t.str w (by have := t.str_size; omega)
  rwa [isTreeB_str t h] at this
theorem trIs_no (s : ByteArray) (w : World) (hs : s.size ≤ 9223372036854775806) (h : treeOf s = none) : Calls Try.prog 51 #[.string s] w fun e w' => e = .returned (.bool false) ∧ w = w' := by
  have := trIs_any s w hs
  rwa [isTreeB_eq, h] at this
theorem carets_str (t : Tr) (w : World) (h : t.carets ≤ 1000) : Calls Try.prog 37 #[.string t.str] w fun e w' => e = .returned (.int .i64 t.carets) ∧ w = w' := by
  have := carets_any t.str w (by have := t.str_size; omega)
  rwa [cnt_str] at this

theorem limit_yes (t : Tr) (w : World) (h : t.carets ≤ 8) : Calls Try.prog 158 #[.string t.str] w fun e w' => e = .returned (.tuple #[.string t.str, .bool true]) ∧ w = w' := by
  have hz := t.str_size
  have hz' : t.str.size ≤ 25 := by omega
  clear hz
  go_enter Try.func158, Try.ntmps158
  go_wp2_with fail
  go_ret2
  exact ⟨rfl, rfl⟩
theorem limit_no (t : Tr) (w : World) (h : 8 < t.carets) : Calls Try.prog 158 #[.string t.str] w fun e w' => e = .returned (.tuple #[.string ⟨#[]⟩, .bool false]) ∧ w = w' := by
  have hz := t.str_size
  have hz' : 25 < t.str.size := by omega
  clear hz
  go_enter Try.func158, Try.ntmps158
  go_wp2_with fail
  go_ret2
  exact ⟨rfl, rfl⟩
theorem limit_any (t : Tr) (w : World) : Calls Try.prog 158 #[.string t.str] w fun e w' => e = .returned (ansV (lim t)) ∧ w = w' := by
  by_cases h : t.carets ≤ 8
  · have := limit_yes t w h
    rw [show ansV (lim t) = .tuple #[.string t.str, .bool true] by simp [lim, h, ansV, trS, trB]]
    exact this
  · have := limit_no t w (by omega)
    rw [show ansV (lim t) = .tuple #[.string ⟨#[]⟩, .bool false] by simp [lim, h, ansV, trS, trB]]
    exact this

def TreesOk (t u : Tr) (w : World) (e : Ending) (w' : World) : Prop :=
  ∃ b c : Nat, NodeAt w' t b ∧ NodeAt w' u c ∧ Below w.heap.size w w' ∧ e = .returned (.tuple #[.pointer (some ⟨b, 0, none⟩), .pointer (some ⟨c, 0, none⟩), .bool true])
def TreesNo (w : World) (e : Ending) (w' : World) : Prop :=
  Below w.heap.size w w' ∧ e = .returned (.tuple #[.pointer none, .pointer none, .bool false])

theorem trees_yes (t u : Tr) (w : World) (h : t.carets ≤ 8) (k : u.carets ≤ 8) :
    Calls Try.prog 64 #[.string t.str, .string u.str] w (TreesOk t u w) := by
  go_enter Try.func64, Try.ntmps64
  go_wp2_with fail
  refine (read_yes t _ h).mono ?_; rintro e w1 ⟨b1, hn1, hb1, rfl⟩
  go_wp2_with fail
  refine (read_yes u _ k).mono ?_; rintro e w2 ⟨b2, hn2, hb2, rfl⟩
  go_wp2_with fail
  go_ret3
  exact ⟨b1, b2, hn1.keep hb2, hn2, nx hb1 hb2, rfl⟩

theorem trees_no1 (s u : ByteArray) (w : World) (hs : s.size ≤ 9223372036854775806) (h : treeOf s = none) :
    Calls Try.prog 64 #[.string s, .string u] w (TreesNo w) := by
  have H := Lib.hid h
  clear h
  go_enter Try.func64, Try.ntmps64
  go_wp2_with fail
  refine (read_no s _ hs H.out).mono ?_; rintro e w1 ⟨hb1, rfl⟩
  go_wp2_with fail
  go_ret3
  exact ⟨hb1, rfl⟩

theorem trees_no2 (t : Tr) (s : ByteArray) (w : World) (k : t.carets ≤ 8) (hs : s.size ≤ 9223372036854775806) (h : treeOf s = none) :
    Calls Try.prog 64 #[.string t.str, .string s] w (TreesNo w) := by
  have H := Lib.hid h
  clear h
  go_enter Try.func64, Try.ntmps64
  go_wp2_with fail
  refine (read_yes t _ k).mono ?_; rintro e w1 ⟨b1, hn1, hb1, rfl⟩
  go_wp2_with fail
  refine (read_no s _ hs H.out).mono ?_; rintro e w2 ⟨hb2, rfl⟩
  go_wp2_with fail
  go_ret3
  exact ⟨nx hb1 hb2, rfl⟩
end Go.Proofs.Ytllnfbenaeeloaa

/-! HeldW -/
namespace Go.Proofs.Ytllnfbenaeeloaa
open Go.RowKit

section
variable {P : Program} {ops : Array Oper} {Q : Exit → Act → World → Prop} {md : Region.Mode}

theorem held_mono {S S' : World → Prop} (hSS : ∀ w, S' w → S w) : ∀ (fuel : Nat) (listed : Array Bool) (a : Act) (w : World),
    wpAnyH P md ops Q S' fuel listed a w → wpAnyH P md ops Q S fuel listed a w
  | 0, _, _, _, h => h
  | fuel + 1, _, _, _, h => ⟨h.1, fun i hi => wpOp_mono (fun a' w' h' => ⟨hSS _ h'.1, held_mono hSS fuel _ a' w' h'.2⟩) (h.2 i hi)⟩

/-- One operation alone may come up; behind it the condition may be another one. -/
theorem held_one {S : World → Prop} {fuel : Nat} {listed : Array Bool} {a : Act} {w : World} (i : Nat) {o : Oper} (ho : ops[i]? = some o) (hr : Region.ready md ops listed = [i])
    (h : ∀ K' : Act → World → Prop, Shut (∀ (S' : World → Prop) a w, (∀ w, S' w → S w) → S' w → wpAnyH P md ops Q S' fuel (listed.setIfInBounds i true) a w → K' a w) → if Region.wanted o (yielded ops a.tmps) = true then Oper.wp P o a w K' Q else K' (a.put o.dst undef) w) :
    wpAnyH P md ops Q S (fuel + 1) listed a w :=
  wpAnyH_ready hr (by simp) (AllReadyH.cons ho (fun K hK => h K (fun _ a w hSS hS hW => hK.out a w (hSS _ hS) (fun _ => held_mono hSS _ _ _ _ hW))) AllReadyH.nil)
/-- Two operations may come up, whichever first. -/
theorem held_two {S : World → Prop} {fuel : Nat} {listed : Array Bool} {a : Act} {w : World} (i j : Nat) {oi oj : Oper} (hoi : ops[i]? = some oi) (hoj : ops[j]? = some oj) (hr : Region.ready md ops listed = [i, j])
    (h : ∀ K' : Act → World → Prop, Shut (∀ (S' : World → Prop) a w, (∀ w, S' w → S w) → S' w → wpAnyH P md ops Q S' fuel (listed.setIfInBounds i true) a w → K' a w) → if Region.wanted oi (yielded ops a.tmps) = true then Oper.wp P oi a w K' Q else K' (a.put oi.dst undef) w)
    (k : ∀ K' : Act → World → Prop, Shut (∀ (S' : World → Prop) a w, (∀ w, S' w → S w) → S' w → wpAnyH P md ops Q S' fuel (listed.setIfInBounds j true) a w → K' a w) → if Region.wanted oj (yielded ops a.tmps) = true then Oper.wp P oj a w K' Q else K' (a.put oj.dst undef) w) :
    wpAnyH P md ops Q S (fuel + 1) listed a w :=
  wpAnyH_ready hr (by simp) (AllReadyH.cons hoi (fun K hK => h K (fun _ a w hSS hS hW => hK.out a w (hSS _ hS) (fun _ => held_mono hSS _ _ _ _ hW)))
    (AllReadyH.cons hoj (fun K hK => k K (fun _ a w hSS hS hW => hK.out a w (hSS _ hS) (fun _ => held_mono hSS _ _ _ _ hW))) AllReadyH.nil))
end
end Go.Proofs.Ytllnfbenaeeloaa
