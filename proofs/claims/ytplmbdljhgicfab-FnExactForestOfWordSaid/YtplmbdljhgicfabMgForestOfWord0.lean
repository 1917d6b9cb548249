/- Texts that the claim needs, part 1. -/
import Derived.WalkKit
import Derived.Lib.Strings
import Derived.Test.YtplmbdljhgicfabRows
import Derived.WalkSpells
import Derived.Lib.Hide
import Derived.Deep.Light
import Derived.Deep.Draws
import Derived.Deep.QuietTactic
import Derived.BigQuiet
import Derived.Deep.RegionHeld3
/-! Pure -/
namespace Go.Proofs.Ytplmbdljhgicfab

/-- The byte at an index of a text (0 behind its end). -/
def byteAt (s : ByteArray) (a : Int) : Int := if h : a.toNat < s.size then ((s[a.toNat]'h).toNat : Int) else 0

theorem byteAt_eq (s : ByteArray) (a : Int) (h : a.toNat < s.size) : byteAt s a = ((s[a.toNat]'h).toNat : Int) := by unfold byteAt; rw [dif_pos h]

/-- The index behind the tree at an index, or -1 (k: the depth that is left). -/
def endI : Nat → ByteArray → Int → Int
  | 0, _, _ => -1
  | k + 1, s, a =>
    if a < s.size then
      if byteAt s a = 46 then a + 1
      else if byteAt s a ≠ 40 then -1
      else if endI k s (a + 1) < 0 then -1
      else if endI k s (endI k s (a + 1)) < 0 then -1
      else if (s.size : Int) ≤ endI k s (endI k s (a + 1)) then -1
      else if byteAt s (endI k s (endI k s (a + 1))) ≠ 41 then -1
      else endI k s (endI k s (a + 1)) + 1
    else -1

theorem endI_le (k : Nat) : ∀ (s : ByteArray) (a : Int), 0 ≤ a → -1 ≤ endI k s a ∧ endI k s a ≤ s.size := by
  induction k with
  | zero => intro s a _; simp [endI]
  | succ k ih =>
    intro s a ha
    have h1 := ih s (a + 1) (by omega)
    have h2 := fun h => ih s (endI k s (a + 1)) h
    rw [endI]
    repeat' split
    all_goals first | omega | (have := h2 (by omega); omega)

/-- How many of the first k bytes are carets' beginnings. -/
def cnt (s : ByteArray) : Nat → Int
  | 0 => 0
  | k + 1 => cnt s k + if byteAt s k = 40 then 1 else 0

theorem cnt_le (s : ByteArray) (k : Nat) : 0 ≤ cnt s k ∧ cnt s k ≤ k := by
  induction k with
  | zero => simp [cnt]
  | succ k ih => rw [cnt]; split <;> omega

/-- The text is a tree, as the spec tells it. -/
def isTreeB (s : ByteArray) : Bool := decide ((s.size : Int) ≤ 33) && decide (cnt s s.size ≤ 8) && endI 61 s 0 == (s.size : Int)

theorem isTreeB_size {s : ByteArray} (h : isTreeB s = true) : s.size ≤ 33 := by
  unfold isTreeB at h; simp at h; omega

end Go.Proofs.Ytplmbdljhgicfab

/-! Tr -/
namespace Go.Proofs.Ytplmbdljhgicfab

inductive Tr where
  | lf
  | nd (l r : Tr)

namespace Tr
def text : Tr → List UInt8
  | lf => [46]
  | nd l r => 40 :: (l.text ++ (r.text ++ [41]))
def carets : Tr → Nat
  | lf => 0
  | nd l r => l.carets + r.carets + 1
def str (t : Tr) : ByteArray := ⟨t.text.toArray⟩
end Tr

theorem Tr.text_len (t : Tr) : t.text.length = 3 * t.carets + 1 := by
  induction t with
  | lf => rfl
  | nd l r ihl ihr => simp [Tr.text, Tr.carets, ihl, ihr]; omega

theorem Tr.str_list (t : Tr) : t.str.data.toList = t.text := by simp [Tr.str]
theorem Tr.str_size (t : Tr) : t.str.size = 3 * t.carets + 1 := by
  rw [← Tr.text_len]; show t.str.data.size = _; simp [Tr.str]
theorem ba_ext {a b : ByteArray} (h : a.data.toList = b.data.toList) : a = b := by
  cases a; cases b; simpa using h

/-- Reading a tree at the beginning of a text. -/
def parseN : Nat → List UInt8 → Option (Tr × List UInt8)
  | 0, _ => none
  | _ + 1, [] => none
  | k + 1, c :: r =>
    if c = 46 then some (.lf, r)
    else if c = 40 then
      match parseN k r with
      | none => none
      | some (t1, r1) =>
        match parseN k r1 with
        | none => none
        | some (t2, r2) =>
          match r2 with
          | [] => none
          | d :: r3 => if d = 41 then some (.nd t1 t2, r3) else none
    else none

theorem parseN_sound (k : Nat) : ∀ (l : List UInt8) (t : Tr) (r : List UInt8), parseN k l = some (t, r) → l = t.text ++ r := by
  induction k with
  | zero => intro l t r h; simp [parseN] at h
  | succ k ih =>
    intro l t r h
    match l with
    | [] => simp [parseN] at h
    | c :: l' =>
      rw [parseN] at h
      split at h
      · next hc => simp at h; obtain ⟨rfl, rfl⟩ := h; simp [Tr.text, hc]
      · split at h
        · next hc =>
          split at h
          · simp at h
          · next t1 r1 h1 =>
            split at h
            · simp at h
            · next t2 r2 h2 =>
              split at h
              · simp at h
              · next d r3 =>
                split at h
                · next hd =>
                  simp at h
                  obtain ⟨rfl, rfl⟩ := h
                  rw [ih _ _ _ h1, ih _ _ _ h2, hc, hd]
                  simp [Tr.text]
                · simp at h
        · simp at h

theorem parseN_complete (t : Tr) : ∀ (k : Nat) (r : List UInt8), t.text.length ≤ k → parseN k (t.text ++ r) = some (t, r) := by
  induction t with
  | lf => intro k r h; cases k with | zero => simp [Tr.text] at h | succ k => simp [Tr.text, parseN]
  | nd a b iha ihb =>
    intro k r h
    cases k with
    | zero => simp [Tr.text] at h
    | succ k =>
      have h' : a.text.length + b.text.length + 2 ≤ k + 1 := by simp [Tr.text] at h; omega
      show parseN (k + 1) (40 :: (a.text ++ (b.text ++ [41])) ++ r) = _
      have e : (40 : UInt8) :: (a.text ++ (b.text ++ [41])) ++ r = 40 :: (a.text ++ (b.text ++ (41 :: r))) := by simp
      rw [e, parseN, if_neg (by decide), if_pos rfl, iha k _ (by omega)]
      show (match parseN k (b.text ++ (41 :: r)) with | none => none | some (t2, r2) => _) = _
      rw [ihb k _ (by omega)]
      simp

theorem Tr.text_inj {t u : Tr} {r q : List UInt8} (h : t.text ++ r = u.text ++ q) : t = u ∧ r = q := by
  have h1 := parseN_complete t (t.text.length + u.text.length) r (by omega)
  have h2 := parseN_complete u (t.text.length + u.text.length) q (by omega)
  rw [h, h2] at h1
  simp at h1
  exact ⟨h1.1.symm, h1.2.symm⟩

theorem parseN_len {k : Nat} {l : List UInt8} {t : Tr} {r : List UInt8} (h : parseN k l = some (t, r)) : r.length + 1 ≤ l.length := by
  have := parseN_sound k l t r h
  have := t.text_len
  subst l; simp; omega

end Go.Proofs.Ytplmbdljhgicfab

/-! TrOf -/
namespace Go.Proofs.Ytplmbdljhgicfab

theorem ext_end (s : ByteArray) (k : Nat) : (s.extract k s.size).data.toList = s.data.toList.drop k := by
  rw [Lib.extract_data]
  exact List.take_of_length_le (by rw [List.length_drop, ← Lib.size_eq]; exact Nat.le_refl _)

theorem byteAt_drop {s : ByteArray} {a : Nat} {c : UInt8} {r : List UInt8} (h : s.data.toList.drop a = c :: r) : a < s.size ∧ byteAt s a = c.toNat := by
  have hl : a < s.data.toList.length := by
    have := congrArg List.length h
    simp at this
    simp; omega
  have hz : a < s.size := by rw [Lib.size_eq]; exact hl
  refine ⟨hz, ?_⟩
  rw [byteAt_eq s a (by simpa using hz)]
  have hc : s.data.toList[a] = c := by
    rw [List.drop_eq_getElem_cons hl] at h
    injection h
  have : (s[((a : Int)).toNat]'(by simpa using hz)) = s.data.toList[a] := by simp; rfl
  rw [this, hc]

theorem drop_of_byteAt {s : ByteArray} {a : Nat} (h : a < s.size) : ∃ c r, s.data.toList.drop a = c :: r ∧ byteAt s a = (c.toNat : Int) ∧ s.data.toList.drop (a + 1) = r := by
  have hl : a < s.data.toList.length := by rw [← Lib.size_eq]; exact h
  have e := List.drop_eq_getElem_cons hl
  exact ⟨_, _, e, (byteAt_drop e).2, rfl⟩

theorem u8_eq {c : UInt8} {n : Nat} (hn : n < 256) (h : (c.toNat : Int) = (n : Int)) : c = UInt8.ofNat n := by
  have h : c.toNat = n := by omega
  subst h; simp

theorem drop_succ {l r : List UInt8} {a : Nat} {c : UInt8} (h : l.drop a = c :: r) : l.drop (a + 1) = r := by
  rw [← List.drop_drop, h]; rfl

theorem drop_add_of {l x y : List UInt8} {a : Nat} (h : l.drop a = x ++ y) : l.drop (a + x.length) = y := by
  rw [← List.drop_drop, h]; simp

theorem endI_complete (t : Tr) : ∀ (k : Nat) (s : ByteArray) (a : Nat) (r : List UInt8), t.carets < k → s.data.toList.drop a = t.text ++ r → endI k s a = a + t.text.length := by
  induction t with
  | lf =>
    intro k s a r hk h
    cases k with
    | zero => omega
    | succ k =>
      have hb := byteAt_drop (show s.data.toList.drop a = 46 :: r from h)
      rw [endI, if_pos (by omega), if_pos (by rw [hb.2]; rfl)]
      rfl
  | nd l rr ihl ihr =>
    intro k s a q hk h
    cases k with
    | zero => omega
    | succ k =>
      have hk' : l.carets < k ∧ rr.carets < k := by simp [Tr.carets] at hk; omega
      have h0 : s.data.toList.drop a = 40 :: (l.text ++ (rr.text ++ (41 :: q))) := by rw [h]; simp [Tr.text]
      have hb := byteAt_drop h0
      have h1 := drop_succ h0
      have e1 := ihl k s (a + 1) _ hk'.1 h1
      have h2 := drop_add_of h1
      have e2 := ihr k s (a + 1 + l.text.length) _ hk'.2 h2
      have h3 := drop_add_of h2
      have hb3 := byteAt_drop h3
      have c1 : endI k s ((a : Int) + 1) = ((a + 1 + l.text.length : Nat) : Int) := by
        have : ((a : Int) + 1) = ((a + 1 : Nat) : Int) := by omega
        rw [this, e1]; omega
      have c2 : endI k s ((a + 1 + l.text.length : Nat) : Int) = ((a + 1 + l.text.length + rr.text.length : Nat) : Int) := by
        rw [e2]; omega
      rw [endI, if_pos (by omega), if_neg (by rw [hb.2]; decide), if_neg (by rw [hb.2]; decide), c1, if_neg (by omega), c2, if_neg (by omega), if_neg (by omega), if_neg (by rw [hb3.2]; decide)]
      simp [Tr.text]; omega

theorem endI_sound (k : Nat) : ∀ (s : ByteArray) (a : Nat), 0 ≤ endI k s a → ∃ t : Tr, ∃ r, s.data.toList.drop a = t.text ++ r ∧ endI k s a = a + t.text.length := by
  induction k with
  | zero => intro s a h; simp [endI] at h
  | succ k ih =>
    intro s a h
    rw [endI] at h ⊢
    split at h
    · next hlt =>
      obtain ⟨c, r, hd, hb, hd1⟩ := drop_of_byteAt (s := s) (a := a) (by omega)
      split at h
      · next h46 =>
        rw [hb] at h46
        have := u8_eq (n := 46) (by omega) h46
        refine ⟨.lf, r, ?_, ?_⟩
        · rw [hd, this]; rfl
        · rw [if_pos hlt, if_pos (by rw [hb]; exact h46)]; rfl
      · next h46 =>
        split at h
        · omega
        · next h40 =>
          split at h
          · omega
          · next hl =>
            have cast1 : ((a : Int) + 1) = ((a + 1 : Nat) : Int) := by omega
            have hl' : 0 ≤ endI k s ((a + 1 : Nat) : Int) := by rw [← cast1]; omega
            obtain ⟨t1, r1, e1, f1⟩ := ih s (a + 1) hl'
            have g1 : endI k s ((a : Int) + 1) = ((a + 1 + t1.text.length : Nat) : Int) := by rw [cast1, f1]; omega
            split at h
            · omega
            · next hr =>
              rw [g1] at hr
              obtain ⟨t2, r2, e2, f2⟩ := ih s (a + 1 + t1.text.length) (by omega)
              have g2 : endI k s (endI k s ((a : Int) + 1)) = ((a + 1 + t1.text.length + t2.text.length : Nat) : Int) := by rw [g1, f2]; omega
              split at h
              · omega
              · next hz =>
                split at h
                · omega
                · next h41 =>
                  rw [g2] at hz h41
                  obtain ⟨d, q, e3, b3, _⟩ := drop_of_byteAt (s := s) (a := a + 1 + t1.text.length + t2.text.length) (by omega)
                  have hd41 := u8_eq (n := 41) (by omega) (show ((d.toNat : Int)) = ((41 : Nat) : Int) by rw [← b3]; simpa using h41)
                  have hc40 := u8_eq (n := 40) (by omega) (show ((c.toNat : Int)) = ((40 : Nat) : Int) by rw [← hb]; simpa using h40)
                  refine ⟨.nd t1 t2, q, ?_, ?_⟩
                  · have x2 := drop_add_of e1
                    rw [e2] at x2
                    have x3 := drop_add_of e2
                    rw [e3] at x3
                    rw [hd, hc40]
                    have : r = t1.text ++ (t2.text ++ (41 :: q)) := by
                      rw [← hd1, e1, ← x2, ← x3, hd41]; rfl
                    rw [this]; simp [Tr.text]
                  · rw [if_pos hlt, if_neg h46, if_neg h40, if_neg hl, if_neg (by omega), if_neg (by omega), if_neg (by rw [g2]; exact h41), g2]
                    simp [Tr.text]; omega
    · omega

theorem text_count (t : Tr) : t.text.count 40 = t.carets := by
  induction t with
  | lf => rfl
  | nd l r ihl ihr => simp [Tr.text, Tr.carets, List.count_append, ihl, ihr]

theorem cnt_count (s : ByteArray) (k : Nat) (hk : k ≤ s.size) : cnt s k = ((s.data.toList.take k).count 40 : Nat) := by
  induction k with
  | zero => simp [cnt]
  | succ k ih =>
    obtain ⟨c, r, hd, hb, _⟩ := drop_of_byteAt (s := s) (a := k) (by omega)
    have hl : k < s.data.toList.length := by rw [← Lib.size_eq]; omega
    have hc : s.data.toList[k] = c := by
      rw [List.drop_eq_getElem_cons hl] at hd
      injection hd
    rw [cnt, ih (by omega), hb, List.take_succ_eq_append_getElem hl, hc, List.count_append]
    by_cases h : c = 40
    · subst h; simp
    · have h' : ¬ ((c.toNat : Int) = 40) := fun e => h (u8_eq (n := 40) (by omega) e)
      rw [if_neg h']
      simp [h]

theorem cnt_str (t : Tr) : cnt t.str t.str.size = t.carets := by
  rw [cnt_count _ _ (Nat.le_refl _), ← text_count, ← Tr.str_list, List.take_of_length_le]
  rw [Lib.size_eq]; exact Nat.le_refl _

/-- The tree of a text, if it is one. -/
def treeOf (s : ByteArray) : Option Tr :=
  match parseN (s.size + 1) s.data.toList with
  | some (t, []) => if t.carets ≤ 8 then some t else none
  | _ => none

theorem str_of_list {s : ByteArray} {t : Tr} (h : s.data.toList = t.text) : s = t.str := ba_ext (by rw [h, Tr.str_list])

theorem treeOf_some {s : ByteArray} {t : Tr} (h : treeOf s = some t) : s = t.str ∧ t.carets ≤ 8 := by
  unfold treeOf at h
  split at h
  · next u hp =>
    split at h
    · next hc =>
      injection h with h
      subst h
      have := parseN_sound _ _ _ _ hp
      exact ⟨str_of_list (by simpa using this), hc⟩
    · simp at h
  · simp at h

theorem parse_str (t : Tr) (k : Nat) (h : t.text.length ≤ k) : parseN k t.str.data.toList = some (t, []) := by
  have := parseN_complete t k [] h
  rwa [List.append_nil, ← Tr.str_list] at this

theorem treeOf_str (t : Tr) (h : t.carets ≤ 8) : treeOf t.str = some t := by
  unfold treeOf
  rw [parse_str t _ (by have := t.str_size; have := t.text_len; omega)]
  simp [h]

theorem endI_str (t : Tr) (h : t.carets ≤ 8) : endI 61 t.str 0 = t.str.size := by
  have := endI_complete t 61 t.str 0 [] (by omega) (by rw [Tr.str_list]; simp)
  rw [Tr.str_size, ← Tr.text_len]
  simpa using this

theorem isTreeB_str (t : Tr) (h : t.carets ≤ 8) : isTreeB t.str = true := by
  unfold isTreeB
  rw [cnt_str, endI_str t h, Tr.str_size]
  simp; omega

theorem treeOf_of_isTreeB {s : ByteArray} (h : isTreeB s = true) : ∃ t : Tr, s = t.str ∧ t.carets ≤ 8 := by
  unfold isTreeB at h
  simp at h
  obtain ⟨⟨h1, h2⟩, h3⟩ := h
  obtain ⟨t, r, e, f⟩ := endI_sound 61 s 0 (by rw [show ((0 : Nat) : Int) = 0 from rfl, h3]; omega)
  have hz : s.size = t.text.length := by
    rw [show ((0 : Nat) : Int) = 0 from rfl] at f
    omega
  have hr : r = [] := by
    have := congrArg List.length e
    simp only [List.drop_zero, List.length_append, ← Lib.size_eq] at this
    exact List.length_eq_zero_iff.1 (by omega)
  have hs : s = t.str := str_of_list (by rw [hr] at e; simpa using e)
  refine ⟨t, hs, ?_⟩
  rw [hs, cnt_str] at h2
  omega

theorem isTreeB_eq (s : ByteArray) : isTreeB s = (treeOf s).isSome := by
  cases h : treeOf s with
  | some t =>
    obtain ⟨rfl, hc⟩ := treeOf_some h
    exact isTreeB_str t hc
  | none =>
    cases hb : isTreeB s with
    | false => rfl
    | true =>
      obtain ⟨t, rfl, hc⟩ := treeOf_of_isTreeB hb
      rw [treeOf_str t hc] at h
      simp at h

end Go.Proofs.Ytplmbdljhgicfab

/-! TrFn -/
namespace Go.Proofs.Ytplmbdljhgicfab
namespace Tr
def mir : Tr → Tr
  | lf => lf
  | nd l r => nd r.mir l.mir
def join : Tr → Tr → Tr
  | lf, b => b
  | nd l r, lf => nd l r
  | nd l r, nd p q => nd (join l p) (join r q)
def com : Tr → Tr → Tr
  | lf, _ => lf
  | nd _ _, lf => lf
  | nd l r, nd p q => nd (com l p) (com r q)
def part : Tr → Tr → Bool
  | lf, _ => true
  | nd _ _, lf => false
  | nd l r, nd p q => part l p && part r q
def isLf : Tr → Bool
  | lf => true
  | nd _ _ => false
end Tr

theorem mir_carets (t : Tr) : t.mir.carets = t.carets := by
  induction t with
  | lf => rfl
  | nd l r ihl ihr => simp [Tr.mir, Tr.carets, ihl, ihr]; omega

theorem join_carets (a : Tr) : ∀ b : Tr, (a.join b).carets ≤ a.carets + b.carets := by
  induction a with
  | lf => intro b; simp [Tr.join]
  | nd l r ihl ihr =>
    intro b
    cases b with
    | lf => simp [Tr.join]
    | nd p q => have := ihl p; have := ihr q; simp [Tr.join, Tr.carets]; omega

theorem com_carets (a : Tr) : ∀ b : Tr, (a.com b).carets ≤ a.carets := by
  induction a with
  | lf => intro b; simp [Tr.com]
  | nd l r ihl ihr =>
    intro b
    cases b with
    | lf => simp [Tr.com, Tr.carets]
    | nd p q => have := ihl p; have := ihr q; simp [Tr.com, Tr.carets]; omega

theorem com_eq_part (a : Tr) : ∀ b : Tr, a.com b = a ↔ a.part b = true := by
  induction a with
  | lf => intro b; simp [Tr.com, Tr.part]
  | nd l r ihl ihr =>
    intro b
    cases b with
    | lf => simp [Tr.com, Tr.part]
    | nd p q => simp [Tr.com, Tr.part, ihl, ihr]

end Go.Proofs.Ytplmbdljhgicfab

/-! AddrP -/
namespace Go.Proofs.Ytplmbdljhgicfab
def Tr.addrs : Tr → ByteArray → List ByteArray
  | .lf, here => [here]
  | .nd l r, here => l.addrs (here ++ ⟨#[48]⟩) ++ r.addrs (here ++ ⟨#[49]⟩)
theorem addrs_length (t : Tr) : ∀ here, (t.addrs here).length = t.carets + 1 := by
  induction t with
  | lf => intro here; rfl
  | nd l r ihl ihr => intro here; simp [Tr.addrs, Tr.carets, ihl, ihr]; omega
theorem addrs_size (t : Tr) : ∀ here, ∀ s ∈ t.addrs here, here.size ≤ s.size ∧ s.size ≤ here.size + t.carets := by
  induction t with
  | lf => intro here s hs; simp [Tr.addrs] at hs; subst hs; simp [Tr.carets]
  | nd l r ihl ihr =>
    intro here s hs
    rw [Tr.addrs, List.mem_append] at hs
    rcases hs with hs | hs
    · have := ihl _ s hs
      have e0 : ∀ c : UInt8, (here ++ (⟨#[c]⟩ : ByteArray)).size = here.size + 1 := fun c => ByteArray.size_append
      rw [e0] at this
      simp only [Tr.carets]; omega
    · have := ihr _ s hs
      have e0 : ∀ c : UInt8, (here ++ (⟨#[c]⟩ : ByteArray)).size = here.size + 1 := fun c => ByteArray.size_append
      rw [e0] at this
      simp only [Tr.carets]; omega
end Go.Proofs.Ytplmbdljhgicfab

/-! WayP -/
namespace Go.Proofs.Ytplmbdljhgicfab

/-- The exponents of the leaves, where a way of so many left sides leads to the tree. -/
def Tr.expN : Tr → Nat → List Nat
  | .lf, w => [w]
  | .nd l r, w => l.expN (w + 1) ++ r.expN 0
/-- Those of a whole tree. -/
def Tr.expR : Tr → List Nat
  | .lf => [0]
  | .nd l r => l.expN 0 ++ r.expR
theorem expN_length (t : Tr) : ∀ w, (t.expN w).length = t.carets + 1 := by
  induction t with
  | lf => intro w; rfl
  | nd l r ihl ihr => intro w; simp [Tr.expN, Tr.carets, ihl, ihr]; omega
theorem expR_length (t : Tr) : t.expR.length = t.carets + 1 := by
  induction t with
  | lf => rfl
  | nd l r ihl ihr => simp [Tr.expR, Tr.carets, expN_length, ihr]; omega
theorem expN_sum (t : Tr) : ∀ w, (t.expN w).sum = w + t.carets := by
  induction t with
  | lf => intro w; simp [Tr.expN, Tr.carets]
  | nd l r ihl ihr => intro w; simp [Tr.expN, Tr.carets, ihl, ihr]; omega
theorem expR_sum (t : Tr) : t.expR.sum ≤ t.carets := by
  induction t with
  | lf => simp [Tr.expR]
  | nd l r ihl ihr => simp [Tr.expR, Tr.carets, expN_sum]; omega

/-! The program's exponent of a leaf, from its address: letters '0' and '1'. -/
/-- How many '0' a list ends in. -/
def zerosR (l : List UInt8) : Nat := (l.reverse.takeWhile (· == 48)).length
def topL (l : List UInt8) : List UInt8 := l.take (l.length - zerosR l)
def expoL (l : List UInt8) : Nat := if 0 < zerosR l ∧ ¬ (48 : UInt8) ∈ topL l then zerosR l - 1 else zerosR l
theorem zerosR_le (l : List UInt8) : zerosR l ≤ l.length := by
  unfold zerosR
  have := (List.takeWhile_prefix (p := (· == (48 : UInt8))) (l := l.reverse)).length_le
  simpa using this
theorem zerosR_zero (l : List UInt8) : zerosR (l ++ [48]) = zerosR l + 1 := by simp [zerosR]
theorem zerosR_one (l : List UInt8) : zerosR (l ++ [49]) = 0 := by simp [zerosR]
theorem topL_zero (l : List UInt8) : topL (l ++ [48]) = topL l := by
  have := zerosR_le l
  unfold topL
  rw [zerosR_zero, List.length_append, List.take_append_of_le_length (by simp; try omega)]
  congr 1
  simp
theorem topL_one (l : List UInt8) : topL (l ++ [49]) = l ++ [49] := by
  unfold topL
  rw [zerosR_one, Nat.sub_zero, List.take_length]

theorem expoL_zero (l : List UInt8) (h : (48 : UInt8) ∈ topL l) : expoL (l ++ [48]) = zerosR l + 1 := by
  unfold expoL; rw [zerosR_zero, topL_zero, if_neg (fun k => k.2 h)]

def expsL (t : Tr) (here : List UInt8) : List Nat := (t.addrs ⟨here.toArray⟩).map fun a => expoL a.data.toList

theorem addrs_push (here : List UInt8) (c : UInt8) : (⟨here.toArray⟩ : ByteArray) ++ ⟨#[c]⟩ = ⟨(here ++ [c]).toArray⟩ := ba_ext (by simp)

theorem expsL_nd (l r : Tr) (here : List UInt8) : expsL (.nd l r) here = expsL l (here ++ [48]) ++ expsL r (here ++ [49]) := by
  unfold expsL
  rw [Tr.addrs, addrs_push, addrs_push, List.map_append]
theorem expsL_lf (here : List UInt8) : expsL .lf here = [expoL here] := by simp [expsL, Tr.addrs]

theorem mem_topL_zero {l : List UInt8} (h : (48 : UInt8) ∈ topL l) : (48 : UInt8) ∈ topL (l ++ [48]) := by rwa [topL_zero]
theorem mem_topL_one {l : List UInt8} (h : (48 : UInt8) ∈ l) : (48 : UInt8) ∈ topL (l ++ [49]) := by rw [topL_one]; simp [h]
theorem mem_of_topL {l : List UInt8} (h : (48 : UInt8) ∈ topL l) : (48 : UInt8) ∈ l := List.mem_of_mem_take h

/-- Below a place that some '0' and a '1' lead to. -/
theorem exps_in (t : Tr) : ∀ here : List UInt8, (48 : UInt8) ∈ topL here → expsL t here = t.expN (zerosR here) := by
  induction t with
  | lf => intro here h; rw [expsL_lf]; simp [expoL, h, Tr.expN]
  | nd l r ihl ihr =>
    intro here h
    rw [expsL_nd, ihl _ (mem_topL_zero h), ihr _ (mem_topL_one (mem_of_topL h)), zerosR_zero, zerosR_one]
    rfl
/-- Below a place that '1's and then '0's lead to. -/
theorem exps_left (t : Tr) : ∀ (here : List UInt8) (k : Nat), ¬ (48 : UInt8) ∈ topL here → zerosR here = k + 1 → expsL t here = t.expN k := by
  induction t with
  | lf => intro here k h hk; rw [expsL_lf]; simp [expoL, h, hk, Tr.expN]
  | nd l r ihl ihr =>
    intro here k h hk
    have h48 : (48 : UInt8) ∈ here := by
      have h1 : zerosR here ≠ 0 := by omega
      unfold zerosR at h1
      cases hr : here.reverse with
      | nil => rw [hr] at h1; simp at h1
      | cons c rest =>
        rw [hr, List.takeWhile_cons] at h1
        split at h1
        · next hc =>
          have : c ∈ here := by rw [← List.mem_reverse, hr]; simp
          rw [beq_iff_eq] at hc
          rwa [hc] at this
        · simp at h1
    rw [expsL_nd, ihl _ (k + 1) (by rw [topL_zero]; exact h) (by rw [zerosR_zero, hk]), exps_in r _ (mem_topL_one h48), zerosR_one]
    rfl
theorem exps_right (t : Tr) : ∀ here : List UInt8, ¬ (48 : UInt8) ∈ here → zerosR here = 0 → expsL t here = t.expR := by
  induction t with
  | lf => intro here h hz; rw [expsL_lf]; simp [expoL, hz, Tr.expR]
  | nd l r ihl ihr =>
    intro here h hz
    have ht : ¬ (48 : UInt8) ∈ topL (here ++ [48]) := by rw [topL_zero]; exact fun k => h (mem_of_topL k)
    rw [expsL_nd, exps_left l _ 0 ht (by rw [zerosR_zero, hz]), ihr _ (by simp [h]) (zerosR_one _)]
    rfl
/-- The program's exponents are those of the tree. -/
theorem exps_all (t : Tr) : (t.addrs ⟨#[]⟩).map (fun a => expoL a.data.toList) = t.expR := exps_right t [] (by simp) rfl

/-! Trees of exponents. -/
/-- Joins of the first two trees of a list. -/
def joinJ : Nat → List Tr → List Tr
  | 0, s => s
  | n + 1, t :: u :: r => joinJ n (.nd t u :: r)
  | _ + 1, s => s
/-- The trees of exponents, over n leaves behind them. -/
def stackD (n : Nat) : List Nat → List Tr
  | [] => List.replicate n .lf
  | e :: L => joinJ e (.lf :: stackD n L)
theorem joinJ_length : ∀ (e : Nat) (s : List Tr), e < s.length → (joinJ e s).length + e = s.length := by
  intro e
  induction e with
  | zero => intro s _; rfl
  | succ e ih =>
    intro s h
    match s, h with
    | [], h => simp at h
    | [_], h => simp at h
    | t :: u :: r, h => rw [joinJ]; have := ih (.nd t u :: r) (by simp at h ⊢; omega); simp at this ⊢; omega
theorem joinJ_app : ∀ (e : Nat) (s r : List Tr), e < s.length → joinJ e (s ++ r) = joinJ e s ++ r := by
  intro e
  induction e with
  | zero => intro s r _; rfl
  | succ e ih =>
    intro s r h
    match s, h with
    | [], h => simp at h
    | [_], h => simp at h
    | t :: u :: q, h =>
      show joinJ (e + 1) (t :: u :: (q ++ r)) = _
      rw [joinJ, joinJ]
      exact ih (.nd t u :: q) r (by simp at h ⊢; omega)
theorem stackD_length (n : Nat) : ∀ L : List Nat, L.sum ≤ n → (stackD n L).length + L.sum = n + L.length := by
  intro L
  induction L with
  | nil => intro _; simp [stackD]
  | cons e L ih =>
    intro h
    rw [List.sum_cons] at h
    have h1 := ih (by omega)
    have h2 := joinJ_length e (.lf :: stackD n L) (by simp; omega)
    rw [stackD]
    simp at h2 ⊢; omega
theorem stackD_more (n m : Nat) : ∀ L : List Nat, L.sum ≤ n → stackD (n + m) L = stackD n L ++ List.replicate m .lf := by
  intro L
  induction L with
  | nil => intro _; simp [stackD, List.replicate_append_replicate]
  | cons e L ih =>
    intro h
    rw [List.sum_cons] at h
    have h1 := stackD_length n L (by omega)
    rw [stackD, ih (by omega), stackD]
    exact joinJ_app e (.lf :: stackD n L) _ (by simp; omega)
theorem stackD_zeros (n m : Nat) : ∀ L : List Nat, stackD n (L ++ List.replicate m 0) = stackD (n + m) L := by
  intro L
  induction L with
  | nil =>
    show stackD n (List.replicate m 0) = List.replicate (n + m) .lf
    induction m with
    | zero => rfl
    | succ m ih => rw [List.replicate_succ, stackD, joinJ, ih]; rfl
  | cons e L ih => rw [List.cons_append, stackD, stackD, ih]
theorem stackD_expN (n : Nat) (t : Tr) : ∀ (w : Nat) (X : List Nat), stackD n (t.expN w ++ X) = joinJ w (t :: stackD n X) := by
  induction t with
  | lf => intro w X; rfl
  | nd l r ihl ihr =>
    intro w X
    rw [Tr.expN, List.append_assoc, ihl, ihr]
    rfl

/-- The tree with trees at the left sides of its right side. -/
def combT : List Tr → Tr
  | [] => .lf
  | t :: r => .nd t (combT r)
def sidesT : Tr → List Tr
  | .lf => []
  | .nd l r => l :: sidesT r
theorem comb_sides (t : Tr) : combT (sidesT t) = t := by
  induction t with
  | lf => rfl
  | nd l r _ ihr => rw [sidesT, combT, ihr]
theorem stackD_expR (n : Nat) (t : Tr) : stackD n t.expR = sidesT t ++ List.replicate (n + 1) Tr.lf := by
  induction t with
  | lf => rfl
  | nd l r _ ihr => rw [Tr.expR, stackD_expN, joinJ, ihr]; rfl
/-- A list of trees without leaves at its end. -/
def stripT (s : List Tr) : List Tr := (s.reverse.dropWhile Tr.isLf).reverse
theorem stripT_lf (s : List Tr) : ∀ m : Nat, stripT (s ++ List.replicate m Tr.lf) = stripT s := by
  intro m
  induction m with
  | zero => simp
  | succ m ih =>
    rw [List.replicate_succ', ← List.append_assoc]
    unfold stripT
    rw [List.reverse_append]
    show ((Tr.lf :: (s ++ List.replicate m Tr.lf).reverse).dropWhile Tr.isLf).reverse = _
    rw [List.dropWhile_cons_of_pos (by rfl)]
    exact ih
theorem stripT_last (s : List Tr) (t : Tr) (h : t.isLf = false) : stripT (s ++ [t]) = s ++ [t] := by
  unfold stripT
  rw [List.reverse_append]
  show ((t :: s.reverse).dropWhile Tr.isLf).reverse = _
  rw [List.dropWhile_cons_of_neg (by rw [h]; decide)]
  simp
/-- The tree of exponents as the model makes it. -/
def treeE (L : List Nat) : Tr := combT (stripT (stackD (L.sum + 1) L))
theorem treeE_of (L : List Nat) (t : Tr) (j : Nat) (h : t.expR = L ++ List.replicate j 0) (hl : t = .lf ∨ ∃ s u, sidesT t = s ++ [u] ∧ u.isLf = false) : treeE L = t := by
  have h1 := stackD_expR (L.sum + 1) t
  rw [h, stackD_zeros, stackD_more (L.sum + 1) j L (by omega)] at h1
  have h2 := congrArg stripT h1
  rw [stripT_lf, stripT_lf] at h2
  unfold treeE
  rw [h2]
  rcases hl with rfl | ⟨s, u, hs, hu⟩
  · rfl
  · rw [hs, stripT_last s u hu, ← hs, comb_sides]

end Go.Proofs.Ytplmbdljhgicfab

/-! Dots -/
namespace Go.Proofs.Ytplmbdljhgicfab

/-- The index of the leaf n in a text that begins at 'off', or -1. -/
def posFrom : List UInt8 → Nat → Int → Int
  | [], _, _ => -1
  | c :: r, off, n => if c = 46 then (if n = 0 then off else posFrom r (off + 1) (n - 1)) else posFrom r (off + 1) n

theorem posFrom_range : ∀ (l : List UInt8) (off : Nat) (n : Int), posFrom l off n = -1 ∨ (off ≤ posFrom l off n ∧ posFrom l off n < off + l.length) := by
  intro l
  induction l with
  | nil => intro off n; exact .inl rfl
  | cons c r ih =>
    intro off n
    rw [posFrom]
    have h1 := ih (off + 1) n
    have h2 := ih (off + 1) (n - 1)
    simp only [List.length_cons]
    repeat' split
    all_goals omega

theorem posFrom_neg : ∀ (l : List UInt8) (off : Nat) (n : Int), n < 0 → posFrom l off n = -1 := by
  intro l
  induction l with
  | nil => intro off n _; rfl
  | cons c r ih =>
    intro off n h
    rw [posFrom, ih _ _ h, ih _ (n - 1) (by omega)]
    have h0 : ¬ n = 0 := by omega
    simp [h0]

theorem posFrom_big : ∀ (l : List UInt8) (off : Nat) (n : Int), (l.count 46 : Int) ≤ n → posFrom l off n = -1 := by
  intro l
  induction l with
  | nil => intro off n _; rfl
  | cons c r ih =>
    intro off n h
    rw [posFrom]
    rw [List.count_cons] at h
    split
    · next hc => rw [if_neg (by simp [hc] at h; omega)]; exact ih _ _ (by simp [hc] at h; omega)
    · next hc => exact ih _ _ (by simp [hc] at h; omega)

theorem posFrom_in : ∀ (l : List UInt8) (off : Nat) (n : Int), 0 ≤ n → n < (l.count 46 : Int) → off ≤ posFrom l off n := by
  intro l
  induction l with
  | nil => intro off n h k; simp at k; omega
  | cons c r ih =>
    intro off n h k
    rw [posFrom]
    rw [List.count_cons] at k
    split
    · next hc =>
      split
      · omega
      · have := ih (off + 1) (n - 1) (by omega) (by simp [hc] at k; omega); omega
    · next hc => have := ih (off + 1) n h (by simp [hc] at k; omega); omega

theorem text_dots (t : Tr) : t.text.count 46 = t.carets + 1 := by
  induction t with
  | lf => rfl
  | nd l r ihl ihr => simp [Tr.text, Tr.carets, List.count_append, ihl, ihr]; omega

/-- The text of a tree with another text in place of a leaf. -/
def graftS (s : ByteArray) (n : Int) (o : ByteArray) : ByteArray :=
  s.extract 0 (posFrom s.data.toList 0 n).toNat ++ o ++ s.extract ((posFrom s.data.toList 0 n).toNat + 1) s.size

theorem pos_str (t : Tr) (n : Int) : (0 ≤ n ∧ n ≤ t.carets ∧ 0 ≤ posFrom t.str.data.toList 0 n ∧ posFrom t.str.data.toList 0 n < t.str.size) ∨ ((n < 0 ∨ t.carets < n) ∧ posFrom t.str.data.toList 0 n = -1) := by
  rw [Tr.str_list]
  have hr := posFrom_range t.text 0 n
  have hz := t.str_size
  have hl := t.text_len
  have hd := text_dots t
  by_cases h1 : n < 0
  · exact .inr ⟨.inl h1, posFrom_neg _ _ _ h1⟩
  · by_cases h2 : (t.carets : Int) < n
    · exact .inr ⟨.inr h2, posFrom_big _ _ _ (by rw [hd]; omega)⟩
    · have := posFrom_in t.text 0 n (by omega) (by rw [hd]; omega)
      exact .inl (by omega)

theorem graft_size (t : Tr) (n : Int) (o : ByteArray) (h : 0 ≤ posFrom t.str.data.toList 0 n) (k : posFrom t.str.data.toList 0 n < t.str.size) : (graftS t.str n o).size = t.str.size - 1 + o.size := by
  unfold graftS
  simp only [ByteArray.size_append, ByteArray.size_extract]
  omega

end Go.Proofs.Ytplmbdljhgicfab

/-! ExpoP -/
namespace Go.Proofs.Ytplmbdljhgicfab

/-- Does a text begin with an exposed caret? -/
def expB (l : List UInt8) : Bool := l.take 4 == [40, 46, 46, 41]

/-- The left leaves of the exposed carets of a text, n leaves being in front of it. -/
def exL : List UInt8 → Int → List Int
  | [], _ => []
  | c :: r, n => (if expB (c :: r) then [n] else []) ++ exL r (if c = 46 then n + 1 else n)

theorem exL_length : ∀ (l : List UInt8) (n : Int), (exL l n).length ≤ l.length := by
  intro l
  induction l with
  | nil => intro n; simp [exL]
  | cons c r ih => intro n; have := ih (if c = 46 then n + 1 else n); rw [exL]; simp only [List.length_append, List.length_cons]; split <;> simp <;> omega

/-- What the spec's scan, which looks one byte back, has still to tell at index k. -/
def pend (l : List UInt8) (k : Nat) (n : Int) : List Int := if 0 < k ∧ expB (l.drop (k - 1)) = true then [n] else []

theorem expB_cons {c : UInt8} {r : List UInt8} (h : expB (c :: r) = true) : c = 40 ∧ 3 ≤ r.length := by
  unfold expB at h
  simp only [beq_iff_eq] at h
  have h1 := congrArg List.length h
  have h2 := congrArg List.head? h
  simp at h1 h2
  exact ⟨h2, by omega⟩

theorem exL_step {l r : List UInt8} {k : Nat} {c : UInt8} {n : Int} (h : l.drop k = c :: r) :
    exL (l.drop k) n = pend l (k + 1) (if c = 46 then n + 1 else n) ++ exL (l.drop (k + 1)) (if c = 46 then n + 1 else n) := by
  have hr : l.drop (k + 1) = r := drop_succ h
  rw [hr, h, exL]
  congr 1
  unfold pend
  rw [Nat.add_sub_cancel, h]
  cases hb : expB (c :: r) with
  | false => simp
  | true =>
    have := (expB_cons hb).1
    subst this
    simp

theorem expB_extract (s : ByteArray) (k : Nat) (h : 0 < k) : expB (s.data.toList.drop (k - 1)) = ((s.extract (k - 1) (k + 3)).toList == [40, 46, 46, 41]) := by
  unfold expB
  rw [Lib.extract_toList]
  have : k + 3 - (k - 1) = 4 := by omega
  rw [this]

theorem expB_here (s : ByteArray) (k : Nat) : expB (s.data.toList.drop k) = ((s.data.toList.drop k).take 4 == [40, 46, 46, 41]) := rfl

theorem expB_drop {l : List UInt8} {k : Nat} (h : expB (l.drop k) = true) : k + 4 ≤ l.length := by
  cases hd : l.drop k with
  | nil => rw [hd] at h; simp [expB] at h
  | cons c r =>
    rw [hd] at h
    have := (expB_cons h).2
    have := congrArg List.length hd
    simp at this
    omega

theorem pend_zero (l : List UInt8) (n : Int) : pend l 0 n = [] := by simp [pend]

end Go.Proofs.Ytplmbdljhgicfab

/-! DropP -/
namespace Go.Proofs.Ytplmbdljhgicfab

theorem posFrom_shift : ∀ (l : List UInt8) (off : Nat) (q : Int), posFrom l off q = if posFrom l 0 q = -1 then -1 else posFrom l 0 q + off := by
  intro l
  induction l with
  | nil => intro off q; rfl
  | cons c r ih =>
    intro off q
    have h1 := ih (off + 1) (q - 1)
    have h2 := ih (0 + 1) (q - 1)
    have h3 := ih (off + 1) q
    have h4 := ih (0 + 1) q
    have r1 := posFrom_range r 0 (q - 1)
    have r2 := posFrom_range r 0 q
    rw [posFrom, posFrom, h1, h2, h3, h4]
    repeat' split
    all_goals omega

/-- The leaf q is the left one of an exposed caret. -/
def dropB (l : List UInt8) (q : Int) : Bool := decide (1 ≤ posFrom l 0 q) && expB (l.drop ((posFrom l 0 q).toNat - 1))

theorem expB_two {c : UInt8} {r : List UInt8} (h : expB (c :: r) = true) : ∃ r', r = 46 :: r' := by
  unfold expB at h
  simp only [beq_iff_eq] at h
  match r with
  | [] => simp at h
  | d :: r' =>
    simp at h
    exact ⟨r', by rw [h.2.1]⟩

theorem mem_exL : ∀ (l : List UInt8) (n m : Int), n ∈ exL l m ↔ dropB l (n - m) = true := by
  intro l
  induction l with
  | nil => intro n m; simp [exL, dropB, posFrom]
  | cons c r ih =>
    intro n m
    have ih0 := ih n m
    have ih1 := ih n (m + 1)
    have e1 : n - (m + 1) = n - m - 1 := by omega
    rw [e1] at ih1
    rw [exL, List.mem_append]
    by_cases hc : c = 46
    · have hx : expB (c :: r) = false := by
        cases h : expB (c :: r) with
        | false => rfl
        | true => have := (expB_cons h).1; rw [hc] at this; exact absurd this (by decide)
      rw [hx, if_pos hc, ih1]
      simp only [Bool.false_eq_true, if_false, List.not_mem_nil, false_or]
      unfold dropB
      rw [posFrom, if_pos hc]
      by_cases hz : n - m = 0
      · rw [if_pos hz, posFrom_neg r 0 (n - m - 1) (by omega)]
        simp
      · rw [if_neg hz, posFrom_shift r (0 + 1)]
        have hr := posFrom_range r 0 (n - m - 1)
        by_cases h1 : posFrom r 0 (n - m - 1) = -1
        · rw [if_pos h1, h1]; simp
        · rw [if_neg h1]
          by_cases h0 : posFrom r 0 (n - m - 1) = 0
          · rw [h0]
            simp [hx]
          · have h2 : 1 ≤ posFrom r 0 (n - m - 1) := by omega
            obtain ⟨p, hp⟩ : ∃ p : Nat, posFrom r 0 (n - m - 1) = (p : Int) + 1 := ⟨(posFrom r 0 (n - m - 1)).toNat - 1, by omega⟩
            rw [hp]
            have t1 : ((p : Int) + 1 + ((0 + 1 : Nat) : Int)).toNat - 1 = p + 1 := by omega
            have t2 : ((p : Int) + 1).toNat - 1 = p := by omega
            rw [t1, t2, List.drop_succ_cons]
            have d1 : decide (1 ≤ (p : Int) + 1) = true := decide_eq_true (by omega)
            have d2 : decide (1 ≤ (p : Int) + 1 + ((0 + 1 : Nat) : Int)) = true := decide_eq_true (by omega)
            rw [d1, d2]
    · rw [if_neg hc, ih0]
      unfold dropB
      rw [posFrom, if_neg hc, posFrom_shift r (0 + 1)]
      have hr := posFrom_range r 0 (n - m)
      have hzero : expB (c :: r) = true → posFrom r 0 (n - m) = 0 → n = m := by
        intro h h'
        obtain ⟨r', rfl⟩ := expB_two h
        rw [posFrom, if_pos rfl] at h'
        by_cases hz : n - m = 0
        · omega
        · rw [if_neg hz, posFrom_shift r' (0 + 1)] at h'
          have := posFrom_range r' 0 (n - m - 1)
          split at h' <;> omega
      have hzero' : expB (c :: r) = true → n = m → posFrom r 0 (n - m) = 0 := by
        intro h h'
        obtain ⟨r', rfl⟩ := expB_two h
        rw [posFrom, if_pos rfl, if_pos (by omega)]; rfl
      by_cases h1 : posFrom r 0 (n - m) = -1
      · rw [if_pos h1, h1]
        simp only [show decide ((1 : Int) ≤ -1) = false from rfl, Bool.false_and, Bool.false_eq_true, or_false, iff_false]
        intro h
        split at h
        · next he =>
          have := hzero' he (by simpa using h)
          omega
        · simp at h
      · rw [if_neg h1]
        by_cases h0 : posFrom r 0 (n - m) = 0
        · rw [h0]
          simp only [show decide ((1 : Int) ≤ 0) = false from rfl, Bool.false_and, Bool.false_eq_true, or_false]
          have t1 : ((0 : Int) + ((0 + 1 : Nat) : Int)).toNat - 1 = 0 := by omega
          rw [t1, List.drop_zero]
          have d2 : decide (1 ≤ (0 : Int) + ((0 + 1 : Nat) : Int)) = true := decide_eq_true (by omega)
          rw [d2]
          cases he : expB (c :: r) with
          | false => simp
          | true => simp; exact hzero he h0
        · obtain ⟨p, hp⟩ : ∃ p : Nat, posFrom r 0 (n - m) = (p : Int) + 1 := ⟨(posFrom r 0 (n - m)).toNat - 1, by omega⟩
          rw [hp]
          have t1 : ((p : Int) + 1 + ((0 + 1 : Nat) : Int)).toNat - 1 = p + 1 := by omega
          have t2 : ((p : Int) + 1).toNat - 1 = p := by omega
          rw [t1, t2, List.drop_succ_cons]
          have d1 : decide (1 ≤ (p : Int) + 1) = true := decide_eq_true (by omega)
          have d2 : decide (1 ≤ (p : Int) + 1 + ((0 + 1 : Nat) : Int)) = true := decide_eq_true (by omega)
          rw [d1, d2]
          constructor
          · rintro (h | h)
            · split at h
              · next he =>
                have := hzero' he (by simpa using h)
                omega
              · simp at h
            · exact h
          · exact .inr

/-- The text of a tree with a leaf in place of the exposed caret that begins at index q. -/
def dropS (s : ByteArray) (q : Nat) : ByteArray := s.extract 0 q ++ ⟨#[46]⟩ ++ s.extract (q + 4) s.size

/-- Of a text, the answer of DropExposed. -/
def dropO (s : ByteArray) (n : Int) : Option ByteArray :=
  if dropB s.data.toList n = true then some (dropS s ((posFrom s.data.toList 0 n).toNat - 1)) else none

theorem dropB_true {s : ByteArray} {n : Int} (h : dropB s.data.toList n = true) : ∃ q : Nat, posFrom s.data.toList 0 n = (q : Int) + 1 ∧ q + 4 ≤ s.size ∧ expB (s.data.toList.drop q) = true ∧ 0 ≤ n := by
  unfold dropB at h
  simp only [Bool.and_eq_true, decide_eq_true_eq] at h
  obtain ⟨h1, h2⟩ := h
  refine ⟨(posFrom s.data.toList 0 n).toNat - 1, by omega, ?_, h2, ?_⟩
  · have := expB_drop h2; rw [← Lib.size_eq] at this; exact this
  · rcases Int.lt_or_le n 0 with hn | hn
    · rw [posFrom_neg _ _ _ hn] at h1; omega
    · exact hn
end Go.Proofs.Ytplmbdljhgicfab

/-! PrT -/
namespace Go.Proofs.Ytplmbdljhgicfab
namespace Tr
def leaves (t : Tr) : Nat := t.carets + 1
/-- The left leaves of the exposed carets, n leaves being in front. -/
def exps : Tr → Int → List Int
  | lf, _ => []
  | nd l r, n => (if l.isLf && r.isLf then [n] else []) ++ (l.exps n ++ r.exps (n + l.leaves))
/-- The tree with a leaf in place of the exposed caret with the left leaf n. -/
def dropAt : Tr → Int → Tr
  | lf, _ => lf
  | nd l r, n => if l.isLf && r.isLf then lf else if n < l.leaves then nd (l.dropAt n) r else nd l (r.dropAt (n - l.leaves))
/-- The tree with u in place of the leaf n. -/
def graft : Tr → Int → Tr → Tr
  | lf, _, u => u
  | nd l r, n, u => if n < l.leaves then nd (l.graft n u) r else nd l (r.graft (n - l.leaves) u)
end Tr

theorem leaves_nd (l r : Tr) : (Tr.nd l r).leaves = l.leaves + r.leaves := by simp [Tr.leaves, Tr.carets]; omega
theorem leaves_pos (t : Tr) : 1 ≤ t.leaves := by simp [Tr.leaves]
theorem isLf_iff (t : Tr) : t.isLf = true ↔ t = .lf := by cases t <;> simp [Tr.isLf]
theorem both_lf {l r : Tr} (h : (l.isLf && r.isLf) = true) : l = .lf ∧ r = .lf := by
  simp only [Bool.and_eq_true, isLf_iff] at h; exact h

theorem expB_len {l : List UInt8} (h : l.length < 4) : expB l = false := by
  unfold expB
  rw [beq_eq_false_iff_ne]
  intro e
  have := congrArg List.length e
  simp at this
  omega

theorem text_head (t : Tr) : (t = .lf ∧ t.text = [46]) ∨ ∃ r, t.text = 40 :: r := by
  cases t with
  | lf => exact .inl ⟨rfl, rfl⟩
  | nd l r => exact .inr ⟨_, rfl⟩

theorem expB_nd (l r : Tr) (q : List UInt8) : expB (40 :: (l.text ++ (r.text ++ (41 :: q)))) = (l.isLf && r.isLf) := by
  cases l with
  | lf =>
    cases r with
    | lf => rfl
    | nd a b => simp [expB, Tr.text, Tr.isLf]
  | nd a b => simp [expB, Tr.text, Tr.isLf]

theorem exL_text (t : Tr) : ∀ (q : List UInt8) (m : Int), exL (t.text ++ q) m = t.exps m ++ exL q (m + t.leaves) := by
  induction t with
  | lf => intro q m; simp [Tr.text, exL, Tr.exps, expB, Tr.leaves, Tr.carets]
  | nd l r ihl ihr =>
    intro q m
    have e : (Tr.nd l r).text ++ q = 40 :: (l.text ++ (r.text ++ (41 :: q))) := by simp [Tr.text]
    rw [e, exL, expB_nd, if_neg (show ¬ (40 : UInt8) = 46 by decide), ihl, ihr, exL, if_neg (show ¬ (41 : UInt8) = 46 by decide)]
    have h41 : expB (41 :: q) = false := by
      cases h : expB (41 :: q) with
      | false => rfl
      | true => exact absurd (expB_cons h).1 (by decide)
    rw [h41]
    have e2 : m + (l.leaves : Int) + (r.leaves : Int) = m + ((Tr.nd l r).leaves : Int) := by rw [leaves_nd]; omega
    rw [e2]
    simp [Tr.exps]

theorem exps_text (t : Tr) (m : Int) : exL t.text m = t.exps m := by
  have := exL_text t [] m
  simpa [exL] using this

theorem exps_range (t : Tr) : ∀ (n m : Int), m ∈ t.exps n → n ≤ m ∧ m + 1 < n + t.leaves := by
  induction t with
  | lf => intro n m h; simp [Tr.exps] at h
  | nd l r ihl ihr =>
    intro n m h
    have h1 := leaves_pos l
    have h2 := leaves_pos r
    rw [Tr.exps, List.mem_append, List.mem_append] at h
    rw [leaves_nd]
    rcases h with h | h | h
    · split at h
      · simp at h; omega
      · simp at h
    · have := ihl _ _ h; omega
    · have := ihr _ _ h; omega

theorem exps_shift (t : Tr) : ∀ (n d : Int), t.exps (n + d) = (t.exps n).map (· + d) := by
  induction t with
  | lf => intro n d; rfl
  | nd l r ihl ihr =>
    intro n d
    have e : n + d + (l.leaves : Int) = n + (l.leaves : Int) + d := by omega
    rw [Tr.exps, Tr.exps, ihl n d, e, ihr, List.map_append, List.map_append]
    split <;> simp

theorem exps_shift_mem (t : Tr) (n m : Int) : m ∈ t.exps n ↔ m - n ∈ t.exps 0 := by
  have := exps_shift t 0 n
  rw [Int.zero_add] at this
  rw [this, List.mem_map]
  constructor
  · rintro ⟨a, ha, rfl⟩; have : a + n - n = a := by omega
    rw [this]; exact ha
  · intro h; exact ⟨m - n, h, by omega⟩

theorem exps_length (t : Tr) : ∀ n, (t.exps n).length ≤ t.carets := by
  induction t with
  | lf => intro n; simp [Tr.exps]
  | nd l r ihl ihr =>
    intro n
    have h1 := ihl n
    have h2 := ihr (n + l.leaves)
    rw [Tr.exps]
    simp only [List.length_append, Tr.carets]
    split <;> simp <;> omega

/-- An exposed caret in a text: what is in front of it and behind it. -/
theorem exps_split (t : Tr) : ∀ n : Int, n ∈ t.exps 0 → ∃ x y : List UInt8, t.text = x ++ (40 :: 46 :: 46 :: 41 :: y) ∧ ((x.count 46 : Nat) : Int) = n ∧ (t.dropAt n).text = x ++ (46 :: y) := by
  induction t with
  | lf => intro n h; simp [Tr.exps] at h
  | nd l r ihl ihr =>
    intro n h
    rw [Tr.exps, List.mem_append, List.mem_append] at h
    cases hb : l.isLf && r.isLf with
    | true =>
      obtain ⟨rfl, rfl⟩ := both_lf hb
      simp [Tr.exps, Tr.isLf] at h
      subst h
      exact ⟨[], [], rfl, rfl, rfl⟩
    | false =>
      rw [hb] at h
      rcases h with h | h | h
      · simp at h
      · have hr := exps_range l _ _ h
        obtain ⟨x, y, e1, e2, e3⟩ := ihl n h
        refine ⟨40 :: x, y ++ (r.text ++ [41]), ?_, ?_, ?_⟩
        · simp [Tr.text, e1]
        · simp [e2]
        · rw [Tr.dropAt, hb, if_neg (by decide), if_pos (by omega)]
          simp [Tr.text, e3]
      · have hr := exps_range r _ _ h
        rw [Int.zero_add] at h hr
        obtain ⟨x, y, e1, e2, e3⟩ := ihr (n - l.leaves) ((exps_shift_mem r _ _).1 h)
        refine ⟨40 :: (l.text ++ x), y ++ [41], ?_, ?_, ?_⟩
        · simp [Tr.text, e1]
        · have := text_dots l
          simp only [List.count_cons, List.count_append]
          simp [Tr.leaves] at *
          omega
        · rw [Tr.dropAt, hb, if_neg (by decide), if_neg (by omega)]
          simp [Tr.text, e3]

/-- A leaf in a text. -/
theorem leaf_split (t : Tr) : ∀ n : Int, 0 ≤ n → n < t.leaves → ∃ x y : List UInt8, t.text = x ++ (46 :: y) ∧ ((x.count 46 : Nat) : Int) = n ∧ ∀ u : Tr, (t.graft n u).text = x ++ (u.text ++ y) := by
  induction t with
  | lf =>
    intro n h k
    simp [Tr.leaves, Tr.carets] at k
    obtain rfl : n = 0 := by omega
    exact ⟨[], [], rfl, rfl, fun u => by simp [Tr.graft]⟩
  | nd l r ihl ihr =>
    intro n h k
    rw [leaves_nd] at k
    by_cases hl : n < l.leaves
    · obtain ⟨x, y, e1, e2, e3⟩ := ihl n h hl
      refine ⟨40 :: x, y ++ (r.text ++ [41]), ?_, ?_, fun u => ?_⟩
      · simp [Tr.text, e1]
      · simp [e2]
      · rw [Tr.graft, if_pos hl]; simp [Tr.text, e3]
    · obtain ⟨x, y, e1, e2, e3⟩ := ihr (n - l.leaves) (by omega) (by omega)
      refine ⟨40 :: (l.text ++ x), y ++ [41], ?_, ?_, fun u => ?_⟩
      · simp [Tr.text, e1]
      · have := text_dots l
        simp only [List.count_cons, List.count_append]
        simp [Tr.leaves] at *
        omega
      · rw [Tr.graft, if_neg hl]; simp [Tr.text, e3]

theorem posFrom_count : ∀ (x y : List UInt8) (off : Nat), posFrom (x ++ 46 :: y) off (x.count 46 : Nat) = ((off + x.length : Nat) : Int) := by
  intro x
  induction x with
  | nil => intro y off; simp [posFrom]
  | cons c r ih =>
    intro y off
    rw [List.cons_append, posFrom]
    by_cases hc : c = 46
    · subst hc
      have hcount : ((List.count 46 (46 :: r) : Nat) : Int) = (r.count 46 : Nat) + 1 := by simp
      rw [if_pos rfl, hcount, if_neg (by omega), Int.add_sub_cancel, ih]
      simp; omega
    · have hcount : List.count 46 (c :: r) = r.count 46 := by rw [List.count_cons]; simp [hc]
      rw [if_neg hc, hcount, ih]
      simp; omega

theorem dropS_list (s : ByteArray) (q : Nat) : (dropS s q).data.toList = s.data.toList.take q ++ (46 :: s.data.toList.drop (q + 4)) := by
  unfold dropS
  simp only [ByteArray.data_append, Array.toList_append]
  rw [ext_end, Lib.extract_data]
  simp

theorem drop_str (t : Tr) (n : Int) (h : n ∈ t.exps 0) : 1 ≤ posFrom t.str.data.toList 0 n ∧ dropS t.str ((posFrom t.str.data.toList 0 n).toNat - 1) = (t.dropAt n).str := by
  obtain ⟨x, y, e1, e2, e3⟩ := exps_split t n h
  have e1' : t.text = (x ++ [40]) ++ 46 :: (46 :: 41 :: y) := by simp [e1]
  have hp : posFrom t.str.data.toList 0 n = ((x.length + 1 : Nat) : Int) := by
    have := posFrom_count (x ++ [40]) (46 :: 41 :: y) 0
    rw [← e1'] at this
    rw [Tr.str_list, ← e2]
    simpa using this
  rw [hp]
  refine ⟨by omega, ba_ext ?_⟩
  rw [dropS_list, Tr.str_list, Tr.str_list, e3, e1]
  have : ((x.length + 1 : Nat) : Int).toNat - 1 = x.length := by omega
  rw [this]
  have e4 : x ++ 40 :: 46 :: 46 :: 41 :: y = (x ++ [40, 46, 46, 41]) ++ y := by simp
  rw [List.take_left, e4, List.drop_left' (by simp)]

theorem dropB_str (t : Tr) (n : Int) : dropB t.str.data.toList n = true ↔ n ∈ t.exps 0 := by
  rw [← exps_text, mem_exL, Tr.str_list]; simp

theorem graft_str (t u : Tr) (n : Int) (h : 0 ≤ n) (k : n < t.leaves) : graftS t.str n u.str = (t.graft n u).str := by
  obtain ⟨x, y, e1, e2, e3⟩ := leaf_split t n h k
  have hp : posFrom t.str.data.toList 0 n = ((x.length : Nat) : Int) := by
    have := posFrom_count x y 0
    rw [← e1] at this
    rw [Tr.str_list, ← e2]
    simpa using this
  refine ba_ext ?_
  unfold graftS
  rw [hp]
  simp only [ByteArray.data_append, Array.toList_append]
  rw [ext_end, Lib.extract_data]
  simp only [Tr.str_list, e3, e1]
  have e4 : x ++ 46 :: y = (x ++ [46]) ++ y := by simp
  simp only [Int.toNat_natCast, Nat.sub_zero, List.drop_zero, List.take_left]
  rw [e4, List.drop_left' (by simp)]
  simp

theorem dropAt_carets (t : Tr) : ∀ n : Int, n ∈ t.exps 0 → (t.dropAt n).carets + 1 = t.carets := by
  intro n h
  obtain ⟨x, y, e1, e2, e3⟩ := exps_split t n h
  have h1 := t.text_len
  have h2 := (t.dropAt n).text_len
  have := congrArg List.length e1
  have := congrArg List.length e3
  simp at *
  omega

theorem graft_carets (t u : Tr) (n : Int) (h : 0 ≤ n) (k : n < t.leaves) : (t.graft n u).carets = t.carets + u.carets := by
  obtain ⟨x, y, e1, e2, e3⟩ := leaf_split t n h k
  have e3 := e3 u
  have h1 := t.text_len
  have h2 := (t.graft n u).text_len
  have h3 := u.text_len
  have := congrArg List.length e1
  have := congrArg List.length e3
  simp at *
  omega
end Go.Proofs.Ytplmbdljhgicfab

/-! WayQ -/
namespace Go.Proofs.Ytplmbdljhgicfab

/-- A left comb. -/
def lcT : Nat → Tr
  | 0 => .lf
  | n + 1 => .nd (lcT n) .lf
theorem lcT_carets (n : Nat) : (lcT n).carets = n := by induction n with | zero => rfl | succ n ih => simp [lcT, Tr.carets, ih]
theorem lcT_exps (e : Nat) : ∀ x, (lcT e).expN x = (x + e) :: List.replicate e 0 := by
  induction e with
  | zero => intro x; rfl
  | succ e ih => intro x; rw [lcT, Tr.expN, ih, Tr.expN, List.replicate_succ']; simp; omega

theorem expN_graft (u c : Tr) : ∀ (w : Nat) (X Y : List Nat) (x : Nat), u.expN w = X ++ x :: Y → (u.graft (X.length : Int) c).expN w = X ++ (c.expN x ++ Y) := by
  induction u with
  | lf =>
    intro w X Y x h
    rw [Tr.expN] at h
    cases X with
    | nil => simp at h; obtain ⟨rfl, rfl⟩ := h; simp [Tr.graft]
    | cons a X => simp at h
  | nd l r ihl ihr =>
    intro w X Y x h
    have hl := expN_length l (w + 1)
    rw [Tr.expN] at h
    rw [Tr.graft]
    by_cases hc : (X.length : Int) < l.leaves
    · rw [if_pos hc]
      simp only [Tr.leaves] at hc
      have h1 : l.expN (w + 1) = X ++ x :: Y.take (l.carets - X.length) := by
        have h2 := congrArg (List.take (l.carets + 1)) h
        rw [List.take_append_of_le_length (by omega), ← hl, List.take_length, List.take_append, List.take_of_length_le (by omega)] at h2
        rw [h2]
        have : (l.expN (w + 1)).length - X.length = (l.carets - X.length) + 1 := by omega
        rw [this, List.take_succ_cons]
      have h3 : Y = Y.take (l.carets - X.length) ++ r.expN 0 := by
        rw [h1] at h
        simp only [List.append_assoc, List.cons_append] at h
        have h4 := List.append_cancel_left h
        injection h4 with _ h4
        exact h4.symm
      rw [Tr.expN, ihl _ _ _ _ h1]
      rw [List.append_assoc, List.append_assoc, ← h3]
    · rw [if_neg hc]
      simp only [Tr.leaves] at hc
      have h1 : X = l.expN (w + 1) ++ X.drop (l.carets + 1) := by
        have h2 := congrArg (List.take (l.carets + 1)) h
        rw [List.take_append_of_le_length (by omega), ← hl, List.take_length, List.take_append_of_le_length (by omega)] at h2
        rw [h2, hl, List.take_append_drop]
      have h3 : r.expN 0 = X.drop (l.carets + 1) ++ x :: Y := by
        rw [h1] at h
        rw [List.append_assoc] at h
        exact List.append_cancel_left h
      have h4 := ihr _ _ _ _ h3
      have h5 : ((X.drop (l.carets + 1)).length : Int) = (X.length : Int) - l.leaves := by
        rw [List.length_drop]; simp only [Tr.leaves]; omega
      rw [h5] at h4
      rw [Tr.expN, h4]
      rw [← List.append_assoc, ← h1]

/-- The exponents of a list of trees. -/
def expF (s : List Tr) : List Nat := s.flatMap fun t => t.expN 0
theorem expR_sides (t : Tr) : t.expR = expF (sidesT t) ++ [0] := by
  induction t with
  | lf => rfl
  | nd l r _ ihr => rw [Tr.expR, ihr, sidesT]; simp [expF]
def combS (s : List Tr) : Tr := combT s
theorem sides_comb (s : List Tr) : sidesT (combT s) = s := by
  induction s with
  | nil => rfl
  | cons t s ih => rw [combT, sidesT, ih]
theorem expF_app (s u : List Tr) : expF (s ++ u) = expF s ++ expF u := by simp [expF]
theorem expF_one (u : Tr) : expF [u] = u.expN 0 := by simp [expF]

/-- A graft behind the first sides. -/
theorem graft_comb (c : Tr) : ∀ (s : List Tr) (u : Tr) (i : Nat), (combT (s ++ [u])).graft (((expF s).length + i : Nat) : Int) c = if i ≤ u.carets then combT (s ++ [u.graft i c]) else combT (s ++ [u]) |>.graft (((expF s).length + i : Nat) : Int) c := by
  intro s
  induction s with
  | nil =>
    intro u i
    split
    · next h =>
      show (Tr.nd u .lf).graft _ c = Tr.nd (u.graft i c) .lf
      rw [Tr.graft, if_pos (by simp [expF, Tr.leaves]; omega)]
      simp [expF]
    · rfl
  | cons t s ih =>
    intro u i
    split
    · next h =>
      have h1 := ih u i
      rw [if_pos h] at h1
      have h2 : (expF (t :: s)).length = t.carets + 1 + (expF s).length := by
        show (expF ([t] ++ s)).length = _
        rw [expF_app, List.length_append, expF_one, expN_length]
      show (Tr.nd t (combT (s ++ [u]))).graft _ c = Tr.nd t (combT (s ++ [u.graft i c]))
      rw [Tr.graft, if_neg (by rw [h2]; simp only [Tr.leaves]; omega), ← h1]
      congr 2
      rw [h2]; simp only [Tr.leaves]; omega
    · rfl
theorem graft_last (c : Tr) : ∀ s : List Tr, (combT s).graft ((expF s).length : Int) (.nd c .lf) = combT (s ++ [c]) := by
  intro s
  induction s with
  | nil => rfl
  | cons t s ih =>
    have h2 : (expF (t :: s)).length = t.carets + 1 + (expF s).length := by
      show (expF ([t] ++ s)).length = _
      rw [expF_app, List.length_append, expF_one, expN_length]
    show (Tr.nd t (combT s)).graft _ _ = Tr.nd t (combT (s ++ [c]))
    rw [Tr.graft, if_neg (by rw [h2]; simp only [Tr.leaves]; omega), ← ih]
    congr 2
    rw [h2]; simp only [Tr.leaves]; omega

/-- One exponent more. -/
def stepE (t : Tr) (k e : Nat) : Tr := if k = t.carets then t.graft k (.nd (lcT e) .lf) else t.graft k (lcT e)
def foldE : Tr → Nat → List Nat → Tr
  | t, _, [] => t
  | t, k, e :: L => foldE (stepE t k e) (k + 1) L

theorem comb_carets (s : List Tr) : (combT s).carets = (expF s).length := by
  induction s with
  | nil => rfl
  | cons t s ih =>
    show t.carets + (combT s).carets + 1 = (expF ([t] ++ s)).length
    rw [expF_app, List.length_append, expF_one, expN_length, ih]; omega

theorem stepE_carets (t : Tr) (k e : Nat) (h : k ≤ t.carets) : t.carets + e ≤ (stepE t k e).carets ∧ (k = t.carets → (stepE t k e).carets = t.carets + e + 1) ∧ k + 1 ≤ (stepE t k e).carets := by
  unfold stepE
  split
  · next hk =>
    rw [graft_carets t _ k (by omega) (by simp [Tr.leaves]; omega)]
    simp [Tr.carets, lcT_carets]; omega
  · next hk =>
    rw [graft_carets t _ k (by omega) (by simp [Tr.leaves]; omega)]
    simp [lcT_carets]; omega

/-- What holds of the tree made of the exponents A. -/
def InvE (A : List Nat) (t : Tr) : Prop :=
  (A = [] ∧ t = .lf) ∨ ∃ s u j, t = combT (s ++ [u]) ∧ (expF s).length < A.length ∧ expF (s ++ [u]) = A ++ List.replicate j 0

theorem invE_carets {A : List Nat} {t : Tr} (h : InvE A t) : A.length ≤ t.carets := by
  rcases h with ⟨rfl, rfl⟩ | ⟨s, u, j, rfl, _, h2⟩
  · exact Nat.le_refl _
  · rw [comb_carets, h2]; simp

theorem invE_step {A : List Nat} {t : Tr} (h : InvE A t) (e : Nat) : InvE (A ++ [e]) (stepE t A.length e) := by
  rcases h with ⟨rfl, rfl⟩ | ⟨s, u, j, rfl, h1, h2⟩
  · refine .inr ⟨[], lcT e, e, rfl, by simp [expF], ?_⟩
    rw [List.nil_append, expF_one, lcT_exps]; simp
  · have hc : (combT (s ++ [u])).carets = A.length + j := by rw [comb_carets, h2]; simp
    unfold stepE
    by_cases hj : j = 0
    · subst hj
      rw [if_pos (by omega)]
      have hl : (expF (s ++ [u])).length = A.length := by rw [h2]; simp
      have := graft_last (lcT e) (s ++ [u])
      rw [hl] at this
      rw [this]
      refine .inr ⟨s ++ [u], lcT e, e, rfl, by rw [hl]; simp, ?_⟩
      rw [expF_app, h2, expF_one, lcT_exps]; simp
    · rw [if_neg (by omega)]
      obtain ⟨i, hi⟩ : ∃ i, A.length = (expF s).length + i := ⟨A.length - (expF s).length, by omega⟩
      have hu : u.carets + 1 + (expF s).length = A.length + j := by
        have := congrArg List.length h2
        rw [expF_app, expF_one] at this
        simp [expN_length] at this; omega
      have hg := graft_comb (lcT e) s u i
      rw [if_pos (by omega), ← hi] at hg
      rw [hg]
      have hx : u.expN 0 = A.drop (expF s).length ++ 0 :: List.replicate (j - 1) 0 := by
        have h3 := congrArg (List.drop (expF s).length) h2
        rw [expF_app, expF_one, List.drop_left, List.drop_append_of_le_length (by omega)] at h3
        rw [h3, ← List.replicate_succ]
        congr 2; omega
      have hs : expF s = A.take (expF s).length := by
        have h3 := congrArg (List.take (expF s).length) h2
        rw [expF_app, List.take_left, List.take_append_of_le_length (by omega)] at h3
        exact h3
      have hgr := expN_graft u (lcT e) 0 _ _ _ hx
      have hlen : ((A.drop (expF s).length).length : Int) = (i : Int) := by rw [List.length_drop]; omega
      rw [hlen, lcT_exps] at hgr
      refine .inr ⟨s, u.graft i (lcT e), e + (j - 1), rfl, by simp; omega, ?_⟩
      rw [expF_app, expF_one, hgr, hs]
      simp only [List.length_take]
      rw [Nat.min_eq_left (by omega), ← List.append_assoc, List.take_append_drop]
      simp [List.replicate_append_replicate]

theorem invE_all : ∀ (L A : List Nat) (t : Tr), InvE A t → InvE (A ++ L) (foldE t A.length L) := by
  intro L
  induction L with
  | nil => intro A t h; simpa [foldE] using h
  | cons e L ih =>
    intro A t h
    have h1 := ih (A ++ [e]) _ (invE_step h e)
    rw [List.length_append, List.append_assoc] at h1
    exact h1

theorem invE_end {A : List Nat} {t : Tr} (h : InvE A t) (ha : ∀ B, A ≠ B ++ [0]) : treeE A = t := by
  rcases h with ⟨rfl, rfl⟩ | ⟨s, u, j, rfl, h1, h2⟩
  · exact treeE_of [] .lf 1 rfl (.inl rfl)
  · refine treeE_of A _ (j + 1) ?_ (.inr ⟨s, u, sides_comb _, ?_⟩)
    · rw [expR_sides, sides_comb, h2, List.replicate_succ']; simp
    · cases u with
      | nd l r => rfl
      | lf =>
        exfalso
        rw [expF_app] at h2
        have hl := congrArg List.length h2
        simp [expF_one, Tr.expN] at hl
        have hj : j = 0 := by omega
        subst hj
        exact ha (expF s) (by rw [expF_one, Tr.expN] at h2; simpa using h2.symm)
theorem foldE_tree (L : List Nat) (ha : ∀ B, L ≠ B ++ [0]) : foldE .lf 0 L = treeE L := by
  have h := invE_all L [] .lf (.inl ⟨rfl, rfl⟩)
  exact (invE_end h ha).symm

end Go.Proofs.Ytplmbdljhgicfab

/-! TeP -/
namespace Go.Proofs.Ytplmbdljhgicfab

theorem joinJ_succ : ∀ (a : Nat) (s : List Tr) (t u : Tr) (r : List Tr), joinJ a s = t :: u :: r → a < s.length → joinJ (a + 1) s = .nd t u :: r := by
  intro a
  induction a with
  | zero => intro s t u r h _; rw [joinJ] at h; rw [h]; rfl
  | succ a ih =>
    intro s t u r h hl
    match s, hl with
    | [], hl => simp at hl
    | [x], hl => simp at hl
    | x :: y :: q, hl =>
      rw [joinJ] at h
      show joinJ (a + 1) (.nd x y :: q) = _
      exact ih _ _ _ _ h (by simp at hl ⊢; omega)
def sumT (s : List Tr) : Nat := (s.map Tr.carets).sum
theorem sumT_cons (t : Tr) (s : List Tr) : sumT (t :: s) = t.carets + sumT s := by simp [sumT]
theorem sumT_app (s u : List Tr) : sumT (s ++ u) = sumT s + sumT u := by simp [sumT]
theorem sumT_lf (n : Nat) : sumT (List.replicate n .lf) = 0 := by
  induction n with
  | zero => rfl
  | succ n ih => rw [List.replicate_succ, sumT_cons, ih]; rfl
theorem sumT_mem {s : List Tr} {t : Tr} (h : t ∈ s) : t.carets ≤ sumT s := by
  induction s with
  | nil => simp at h
  | cons x s ih =>
    rw [sumT_cons]
    rcases List.mem_cons.1 h with rfl | h
    · omega
    · have := ih h; omega
theorem sumT_join : ∀ (a : Nat) (s : List Tr), a < s.length → sumT (joinJ a s) = sumT s + a := by
  intro a
  induction a with
  | zero => intro s _; rfl
  | succ a ih =>
    intro s h
    match s, h with
    | [], h => simp at h
    | [_], h => simp at h
    | x :: y :: q, h =>
      rw [joinJ, ih _ (by simp at h ⊢; omega), sumT_cons, sumT_cons, sumT_cons]
      simp [Tr.carets]; omega
theorem sumT_stack (n : Nat) : ∀ L : List Nat, L.sum ≤ n → sumT (stackD n L) = L.sum := by
  intro L
  induction L with
  | nil => intro _; exact sumT_lf n
  | cons e L ih =>
    intro h
    rw [List.sum_cons] at h
    have hl := stackD_length n L (by omega)
    rw [stackD, sumT_join _ _ (by simp; omega), sumT_cons, ih (by omega), List.sum_cons]
    simp [Tr.carets]; omega
theorem foldE_carets : ∀ (L A : List Nat) (t : Tr), InvE A t → t.carets ≤ (foldE t A.length L).carets := by
  intro L
  induction L with
  | nil => intro A t _; exact Nat.le_refl _
  | cons e L ih =>
    intro A t h
    have h1 := ih (A ++ [e]) _ (invE_step h e)
    rw [List.length_append] at h1
    have h2 := (stepE_carets t A.length e (invE_carets h)).1
    show _ ≤ (foldE (stepE t A.length e) (A.length + 1) L).carets
    rw [show A.length + [e].length = A.length + 1 from rfl] at h1
    omega
theorem stripT_take {s : List Tr} {n : Nat} {t : Tr} (h : s[n]? = some t) (ht : t.isLf = true) : stripT (s.take (n + 1)) = stripT (s.take n) := by
  obtain ⟨hn, rfl⟩ := List.getElem?_eq_some_iff.1 h
  rw [List.take_succ_eq_append_getElem hn]
  have := (isLf_iff _).1 ht
  rw [this]
  exact stripT_lf (s.take n) 1
theorem stripT_stop {s : List Tr} {n : Nat} {t : Tr} (h : s[n]? = some t) (ht : t.isLf = false) : stripT (s.take (n + 1)) = s.take (n + 1) := by
  obtain ⟨hn, rfl⟩ := List.getElem?_eq_some_iff.1 h
  rw [List.take_succ_eq_append_getElem hn]
  exact stripT_last _ _ ht

/-- Is a list one of exponents? -/
def exOk (L : List Int) : Bool := decide (L.length ≤ 9) && (L.all (fun x => decide (0 ≤ x) && decide (x ≤ 8)) && !(L.getLast? == some 0))
theorem exOk_iff {L : List Int} : exOk L = true ↔ L.length ≤ 9 ∧ (∀ x ∈ L, 0 ≤ x ∧ x ≤ 8) ∧ L.getLast? ≠ some 0 := by simp [exOk]
def toN (L : List Int) : List Nat := L.map Int.toNat
theorem toN_length (L : List Int) : (toN L).length = L.length := by simp [toN]
theorem toN_sum {L : List Int} (h : ∀ x ∈ L, 0 ≤ x ∧ x ≤ 8) : (toN L).sum ≤ 8 * L.length := by
  induction L with
  | nil => simp [toN]
  | cons x L ih =>
    have h1 := h x (by simp)
    have h2 := ih (fun y hy => h y (by simp [hy]))
    have h3 : (toN (x :: L)).sum = x.toNat + (toN L).sum := by simp [toN]
    rw [h3, List.length_cons]; omega
theorem toN_end {L : List Int} (h : L.getLast? ≠ some 0) (hp : ∀ x ∈ L, 0 ≤ x ∧ x ≤ 8) : ∀ B, toN L ≠ B ++ [0] := by
  intro B hB
  apply h
  have h1 := congrArg List.getLast? hB
  rw [List.getLast?_append] at h1
  simp only [toN, List.getLast?_map, List.getLast?_singleton, Option.or] at h1
  cases hl : L.getLast? with
  | none => rw [hl] at h1; simp at h1
  | some x =>
    rw [hl] at h1
    simp only [Option.map_some, Option.some.injEq] at h1
    have := hp x (List.mem_of_getLast? hl)
    congr 1; omega
end Go.Proofs.Ytplmbdljhgicfab

/-! PrP -/
namespace Go.Proofs.Ytplmbdljhgicfab

/-- A pair of trees. -/
abbrev Pr := Tr × Tr

/-- The left leaves with which both trees have exposed carets. -/
def both (p : Pr) : List Int := (p.1.exps 0).filter fun n => (p.2.exps 0).contains n

/-- Both carets dropped. -/
def dropP (p : Pr) (n : Int) : Pr := (p.1.dropAt n, p.2.dropAt n)

/-- Which of so many a step takes: the first choice modulo their number, or the first one. -/
def pickI (cs : List Int) (k : Nat) : Nat := match cs with
  | [] => 0
  | c :: _ => (c % k).toNat

/-- The reduced pair by choices (fuel: the number of steps that are left at most). -/
def redF : Nat → Pr → List Int → Pr
  | 0, p, _ => p
  | k + 1, p, cs => match both p with
    | [] => p
    | n :: ns => redF k (dropP p ((n :: ns).getD (pickI cs (ns.length + 1)) 0)) cs.tail
def redBy (p : Pr) (cs : List Int) : Pr := redF p.1.carets p cs
def red (p : Pr) : Pr := redBy p []

theorem mem_both {p : Pr} {n : Int} : n ∈ both p ↔ n ∈ p.1.exps 0 ∧ n ∈ p.2.exps 0 := by
  simp [both]

theorem both_length (p : Pr) : (both p).length ≤ p.1.carets :=
  Nat.le_trans (List.length_filter_le _ _) (exps_length _ _)

theorem both_empty {p : Pr} (h : p.1.carets = 0) : both p = [] := by
  have := both_length p
  exact List.length_eq_zero_iff.1 (by omega)

theorem pickI_lt (cs : List Int) (k : Nat) (h : 0 < k) : pickI cs k < k := by
  unfold pickI
  split
  · exact h
  · next c _ =>
    have h1 := Int.emod_lt_of_pos c (show (0 : Int) < k by omega)
    have h2 := Int.emod_nonneg c (show (k : Int) ≠ 0 by omega)
    omega

theorem pick_mem {p : Pr} {n : Int} {ns : List Int} (h : both p = n :: ns) (cs : List Int) : (n :: ns).getD (pickI cs (ns.length + 1)) 0 ∈ both p := by
  rw [h]
  have := pickI_lt cs (ns.length + 1) (by omega)
  rw [List.getD_eq_getElem?_getD, List.getElem?_eq_getElem (by simpa using this)]
  exact List.getElem_mem _

theorem dropP_carets {p : Pr} {n : Int} (h : n ∈ both p) : (dropP p n).1.carets + 1 = p.1.carets ∧ (dropP p n).2.carets + 1 = p.2.carets :=
  ⟨dropAt_carets _ _ (mem_both.1 h).1, dropAt_carets _ _ (mem_both.1 h).2⟩

/-- One step. -/
theorem redBy_step {p : Pr} {n : Int} {ns : List Int} (h : both p = n :: ns) (cs : List Int) :
    redBy p cs = redBy (dropP p ((n :: ns).getD (pickI cs (ns.length + 1)) 0)) cs.tail := by
  have hc := (dropP_carets (pick_mem h cs)).1
  unfold redBy
  obtain ⟨k, hk⟩ : ∃ k, p.1.carets = k + 1 := ⟨p.1.carets - 1, by omega⟩
  rw [hk, redF, h]
  have : (dropP p ((n :: ns).getD (pickI cs (ns.length + 1)) 0)).1.carets = k := by omega
  rw [this]
theorem redBy_end {p : Pr} (h : both p = []) (cs : List Int) : redBy p cs = p := by
  unfold redBy
  cases hk : p.1.carets with
  | zero => rfl
  | succ k => rw [redF, h]

theorem redF_carets (k : Nat) : ∀ (p : Pr) (cs : List Int), (redF k p cs).1.carets ≤ p.1.carets ∧ (redF k p cs).2.carets ≤ p.2.carets ∧ (redF k p cs).1.carets + p.2.carets = (redF k p cs).2.carets + p.1.carets := by
  induction k with
  | zero => intro p cs; simp [redF]; omega
  | succ k ih =>
    intro p cs
    rw [redF]
    split
    · refine ⟨Nat.le_refl _, Nat.le_refl _, by omega⟩
    · next n ns h =>
      have h1 := dropP_carets (pick_mem h cs)
      have h2 := ih (dropP p ((n :: ns).getD (pickI cs (ns.length + 1)) 0)) cs.tail
      omega
theorem redBy_carets (p : Pr) (cs : List Int) : (redBy p cs).1.carets ≤ p.1.carets ∧ (redBy p cs).2.carets ≤ p.2.carets ∧ (redBy p cs).1.carets + p.2.carets = (redBy p cs).2.carets + p.1.carets := redF_carets _ p cs

theorem redF_both (k : Nat) : ∀ (p : Pr) (cs : List Int), p.1.carets ≤ k → both (redF k p cs) = [] := by
  induction k with
  | zero => intro p cs h; rw [redF]; exact both_empty (by omega)
  | succ k ih =>
    intro p cs hk
    rw [redF]
    split
    · next h => exact h
    · next n ns h =>
      have h1 := dropP_carets (pick_mem h cs)
      exact ih _ _ (by omega)
theorem red_both (p : Pr) (cs : List Int) : both (redBy p cs) = [] := redF_both _ p cs (Nat.le_refl _)

/-- A pair is what is left of it just if it is reduced. -/
theorem red_self (p : Pr) : red p = p ↔ both p = [] := by
  constructor
  · intro h; rw [← h]; exact red_both p []
  · exact fun h => redBy_end h []

namespace Tr
/-- What a greater tree has at the leaves of one that is part of it. -/
def subs : Tr → Tr → List Tr
  | lf, g => [g]
  | nd l r, nd p q => l.subs p ++ r.subs q
  | nd _ _, lf => []
/-- A tree with others in place of its leaves, and those that are left. -/
def fillR : Tr → List Tr → Tr × List Tr
  | lf, [] => (lf, [])
  | lf, u :: us => (u, us)
  | nd l r, us => (nd (l.fillR us).1 (r.fillR (l.fillR us).2).1, (r.fillR (l.fillR us).2).2)
def fill (t : Tr) (us : List Tr) : Tr := (t.fillR us).1
end Tr

theorem below_length (a : Tr) : ∀ b : Tr, (a.subs (a.join b)).length = a.leaves := by
  induction a with
  | lf => intro b; rfl
  | nd l r ihl ihr =>
    intro b
    cases b with
    | lf =>
      have h1 := ihl .lf
      have h2 := ihr .lf
      rw [leaves_nd]
      have j : ∀ t : Tr, t.join .lf = t := fun t => by cases t <;> rfl
      rw [j] at h1 h2
      show ((Tr.nd l r).subs (.nd l r)).length = _
      simp [Tr.subs, h1, h2]
    | nd p q =>
      rw [leaves_nd]
      simp [Tr.join, Tr.subs, ihl p, ihr q]

theorem join_comm (a : Tr) : ∀ b : Tr, a.join b = b.join a := by
  induction a with
  | lf => intro b; cases b <;> rfl
  | nd l r ihl ihr =>
    intro b
    cases b with
    | lf => rfl
    | nd p q => simp [Tr.join, ihl p, ihr q]

/-- a is part of g, whose texts below a are told. -/
def sumC (us : List Tr) : Nat := (us.map Tr.carets).sum

theorem sumC_cons (u : Tr) (us : List Tr) : sumC (u :: us) = u.carets + sumC us := by simp [sumC]
theorem sumC_append (us vs : List Tr) : sumC (us ++ vs) = sumC us + sumC vs := by simp [sumC]

theorem below_carets (a : Tr) : ∀ g : Tr, a.part g = true → a.carets + sumC (a.subs g) = g.carets ∧ (a.subs g).length = a.leaves := by
  induction a with
  | lf => intro g _; simp [Tr.subs, sumC, Tr.carets, Tr.leaves]
  | nd l r ihl ihr =>
    intro g h
    cases g with
    | lf => simp [Tr.part] at h
    | nd p q =>
      simp [Tr.part] at h
      have h1 := ihl p h.1
      have h2 := ihr q h.2
      rw [leaves_nd]
      simp only [Tr.subs, sumC_append, Tr.carets, List.length_append]
      omega

theorem part_refl (a : Tr) : a.part a = true := by
  induction a with
  | lf => rfl
  | nd l r ihl ihr => simp [Tr.part, ihl, ihr]

theorem part_join (a : Tr) : ∀ b : Tr, a.part (a.join b) = true := by
  induction a with
  | lf => intro b; rfl
  | nd l r ihl ihr =>
    intro b
    cases b with
    | lf => show (Tr.nd l r).part (.nd l r) = true; exact part_refl _
    | nd p q => simp [Tr.join, Tr.part, ihl p, ihr q]
theorem part_join' (a b : Tr) : b.part (a.join b) = true := by rw [join_comm]; exact part_join b a

theorem fillR_carets (t : Tr) : ∀ us : List Tr, t.leaves ≤ us.length → (t.fillR us).1.carets + sumC (t.fillR us).2 = t.carets + sumC us ∧ (t.fillR us).2.length + t.leaves = us.length := by
  induction t with
  | lf =>
    intro us h
    cases us with
    | nil => simp [Tr.leaves] at h
    | cons u us => simp [Tr.fillR, sumC_cons, Tr.carets, Tr.leaves]
  | nd l r ihl ihr =>
    intro us h
    rw [leaves_nd] at *
    have h1 := ihl us (by omega)
    have h2 := ihr (l.fillR us).2 (by omega)
    simp only [Tr.fillR, Tr.carets]
    omega

theorem fill_carets (t : Tr) (us : List Tr) (h : us.length = t.leaves) : (t.fill us).carets = t.carets + sumC us := by
  have h1 := fillR_carets t us (by omega)
  have : (t.fillR us).2 = [] := List.length_eq_zero_iff.1 (by omega)
  rw [this] at h1
  have h2 := h1.1
  show (t.fillR us).1.carets = _
  simp [sumC] at h2 ⊢
  exact h2

/-- The text of a tree with texts in place of its leaves: the texts that are left. -/
def fillL : List UInt8 → List ByteArray → List UInt8
  | [], _ => []
  | c :: r, us => if c = 46 then (us.getD 0 ⟨#[]⟩).data.toList ++ fillL r us.tail else c :: fillL r us

theorem fillL_text (t : Tr) : ∀ (us : List Tr) (q : List UInt8), t.leaves ≤ us.length → fillL (t.text ++ q) (us.map Tr.str) = (t.fillR us).1.text ++ fillL q ((t.fillR us).2.map Tr.str) := by
  induction t with
  | lf =>
    intro us q h
    cases us with
    | nil => simp [Tr.leaves] at h
    | cons u us => simp [Tr.fillR, Tr.text, fillL, Tr.str_list]
  | nd l r ihl ihr =>
    intro us q h
    rw [leaves_nd] at h
    have e : (Tr.nd l r).text ++ q = 40 :: (l.text ++ (r.text ++ (41 :: q))) := by simp [Tr.text]
    have h1 := fillR_carets l us (by omega)
    rw [e, fillL, if_neg (by decide), ihl us _ (by omega), ihr _ _ (by omega), fillL, if_neg (by decide)]
    simp [Tr.fillR, Tr.text]

theorem fill_text (t : Tr) (us : List Tr) (h : us.length = t.leaves) : fillL t.text (us.map Tr.str) = (t.fill us).text := by
  have := fillL_text t us [] (by omega)
  show _ = (t.fillR us).1.text
  simpa [fillL] using this

/-- The product, before it is reduced. -/
def rawP (p q : Pr) : Pr := (p.1.fill (p.2.subs (p.2.join q.1)), q.2.fill (q.1.subs (p.2.join q.1)))
/-- The product. -/
def mulP (p q : Pr) : Pr := red (rawP p q)
def invP (p : Pr) : Pr := (p.2, p.1)
/-- A pair: as many leaves. -/
def okP (p : Pr) : Prop := p.1.carets = p.2.carets

theorem rawP_carets {p q : Pr} (hp : okP p) (hq : okP q) : (rawP p q).1.carets = (p.2.join q.1).carets ∧ (rawP p q).2.carets = (p.2.join q.1).carets := by
  unfold okP at *
  have h1 := below_carets p.2 _ (part_join p.2 q.1)
  have h2 := below_carets q.1 _ (part_join' p.2 q.1)
  have f1 := fill_carets p.1 (p.2.subs (p.2.join q.1)) (by rw [h1.2]; simp [Tr.leaves, hp])
  have f2 := fill_carets q.2 (q.1.subs (p.2.join q.1)) (by rw [h2.2]; simp [Tr.leaves, hq])
  show (p.1.fill _).carets = _ ∧ (q.2.fill _).carets = _
  omega
theorem rawP_ok {p q : Pr} (hp : okP p) (hq : okP q) : okP (rawP p q) := by
  have := rawP_carets hp hq; unfold okP; omega
theorem red_ok {p : Pr} (hp : okP p) (cs : List Int) : okP (redBy p cs) := by
  have := redBy_carets p cs; unfold okP at *; omega
theorem mulP_ok {p q : Pr} (hp : okP p) (hq : okP q) : okP (mulP p q) := red_ok (rawP_ok hp hq) []
theorem mulP_carets {p q : Pr} (hp : okP p) (hq : okP q) : (mulP p q).1.carets ≤ p.2.carets + q.1.carets := by
  have h1 := rawP_carets hp hq
  have h2 := redBy_carets (rawP p q) []
  have h3 := join_carets p.2 q.1
  show (redBy _ _).1.carets ≤ _
  omega
end Go.Proofs.Ytplmbdljhgicfab

/-! PairOf -/
namespace Go.Proofs.Ytplmbdljhgicfab

/-- The pair of two texts, if they are one. -/
def pairOf (a b : ByteArray) : Option Pr :=
  match treeOf a, treeOf b with
  | some t, some u => if t.carets = u.carets then some (t, u) else none
  | _, _ => none

theorem pairOf_some {a b : ByteArray} {p : Pr} (h : pairOf a b = some p) : a = p.1.str ∧ b = p.2.str ∧ okP p ∧ p.1.carets ≤ 8 ∧ p.2.carets ≤ 8 := by
  unfold pairOf at h
  split at h
  · next t u ht hu =>
    split at h
    · next hc =>
      injection h with h
      subst h
      obtain ⟨rfl, h1⟩ := treeOf_some ht
      obtain ⟨rfl, h2⟩ := treeOf_some hu
      exact ⟨rfl, rfl, hc, h1, h2⟩
    · simp at h
  · simp at h

theorem pairOf_str {p : Pr} (h : okP p) (k : p.1.carets ≤ 8) : pairOf p.1.str p.2.str = some p := by
  unfold pairOf
  rw [treeOf_str p.1 k, treeOf_str p.2 (by unfold okP at h; omega)]
  simp [show p.1.carets = p.2.carets from h]

/-- The texts are no pair: why. -/
theorem pairOf_none {a b : ByteArray} (h : pairOf a b = none) : treeOf a = none ∨ (∃ t : Tr, a = t.str ∧ t.carets ≤ 8 ∧ treeOf b = none) ∨ ∃ t u : Tr, a = t.str ∧ b = u.str ∧ t.carets ≤ 8 ∧ u.carets ≤ 8 ∧ ¬ t.carets = u.carets := by
  cases ha : treeOf a with
  | none => exact .inl rfl
  | some t =>
    obtain ⟨rfl, h1⟩ := treeOf_some ha
    cases hb : treeOf b with
    | none => exact .inr (.inl ⟨t, rfl, h1, rfl⟩)
    | some u =>
      obtain ⟨rfl, h2⟩ := treeOf_some hb
      refine .inr (.inr ⟨t, u, rfl, rfl, h1, h2, ?_⟩)
      intro e
      unfold pairOf at h
      rw [ha, hb] at h
      simp [e] at h
end Go.Proofs.Ytplmbdljhgicfab

/-! FfP -/
namespace Go.Proofs.Ytplmbdljhgicfab

/-- The trees of a list of texts, if all are trees of at most eight carets. -/
def treesOf : List ByteArray → Option (List Tr)
  | [] => some []
  | s :: L =>
    match treeOf s with
    | none => none
    | some t =>
      match treesOf L with
      | none => none
      | some us => some (t :: us)

theorem treesOf_some : ∀ (L : List ByteArray) (us : List Tr), treesOf L = some us → L = us.map Tr.str ∧ ∀ u ∈ us, u.carets ≤ 8 := by
  intro L
  induction L with
  | nil => intro us h; simp [treesOf] at h; subst h; simp
  | cons s L ih =>
    intro us h
    rw [treesOf] at h
    cases hs : treeOf s with
    | none => rw [hs] at h; cases h
    | some t =>
      rw [hs] at h
      cases hL : treesOf L with
      | none => rw [hL] at h; cases h
      | some vs =>
        rw [hL] at h
        injection h with h
        subst h
        obtain ⟨h1, h2⟩ := ih vs hL
        obtain ⟨h3, h4⟩ := treeOf_some hs
        refine ⟨by rw [h3, h1]; rfl, ?_⟩
        intro u hu
        rcases List.mem_cons.1 hu with rfl | hu
        · exact h4
        · exact h2 u hu
theorem treesOf_map (us : List Tr) (h : ∀ u ∈ us, u.carets ≤ 8) : treesOf (us.map Tr.str) = some us := by
  induction us with
  | nil => rfl
  | cons u us ih =>
    rw [List.map_cons, treesOf, treeOf_str u (h u (by simp)), ih (fun v hv => h v (by simp [hv]))]
theorem treesOf_none : ∀ (L : List ByteArray), treesOf L = none → ∃ k, k < L.length ∧ treeOf (L.getD k ⟨#[]⟩) = none ∧ ∃ us, treesOf (L.take k) = some us := by
  intro L
  induction L with
  | nil => intro h; cases h
  | cons s L ih =>
    intro h
    rw [treesOf] at h
    cases hs : treeOf s with
    | none => exact ⟨0, by simp, by simpa using hs, [], rfl⟩
    | some t =>
      rw [hs] at h
      cases hL : treesOf L with
      | some vs => rw [hL] at h; cases h
      | none =>
        obtain ⟨k, h1, h2, us, h3⟩ := ih hL
        exact ⟨k + 1, by simp; omega, by simpa using h2, t :: us, by rw [List.take_succ_cons, treesOf, hs, h3]⟩

/-- The last tree is no leaf. -/
def lastB (us : List Tr) : Bool := match us.getLast? with | none => true | some u => !u.isLf
/-- A forest. -/
def okF (us : List Tr) : Bool := decide (us.length ≤ 8) && (decide (sumT us ≤ 8) && lastB us)
theorem okF_iff {us : List Tr} : okF us = true ↔ us.length ≤ 8 ∧ sumT us ≤ 8 ∧ lastB us = true := by simp [okF]
def forOf (L : List ByteArray) : Option (List Tr) := (treesOf L).bind fun us => if okF us = true then some us else none
theorem forOf_some {L : List ByteArray} {us : List Tr} (h : forOf L = some us) : L = us.map Tr.str ∧ us.length ≤ 8 ∧ sumT us ≤ 8 ∧ lastB us = true := by
  unfold forOf at h
  cases hL : treesOf L with
  | none => rw [hL] at h; cases h
  | some vs =>
    rw [hL] at h
    simp only [Option.bind_some] at h
    split at h
    · next ho => injection h with h; subst h; exact ⟨(treesOf_some L _ hL).1, okF_iff.1 ho⟩
    · cases h
theorem forOf_map {us : List Tr} (h : okF us = true) : forOf (us.map Tr.str) = some us := by
  have h2 := (okF_iff.1 h).2.1
  unfold forOf
  rw [treesOf_map us (fun u hu => by have := sumT_mem hu; omega)]
  simp [h]

theorem lastB_nil : lastB [] = true := rfl
theorem lastB_cons (u : Tr) {us : List Tr} (h : us ≠ []) : lastB (u :: us) = lastB us := by
  cases us with
  | nil => exact absurd rfl h
  | cons v vs => simp [lastB, List.getLast?_cons_cons]
theorem lastB_one (u : Tr) : lastB [u] = !u.isLf := rfl
theorem lastB_strip (us : List Tr) : lastB us = true ↔ stripT us = us := by
  rcases List.eq_nil_or_concat us with rfl | ⟨init, x, rfl⟩
  · simp [lastB, stripT]
  · rw [List.concat_eq_append]
    cases hx : x.isLf with
    | false => rw [stripT_last _ _ hx]; simp [lastB, hx]
    | true =>
      obtain rfl := (isLf_iff x).1 hx
      have h1 := stripT_lf init 1
      rw [show List.replicate 1 Tr.lf = [Tr.lf] from rfl] at h1
      rw [h1]
      constructor
      · intro h; simp [lastB, Tr.isLf] at h
      · intro h
        have h2 : (stripT init).length ≤ init.length := by
          unfold stripT
          rw [List.length_reverse]
          exact Nat.le_trans (List.Sublist.length_le (List.dropWhile_sublist _)) (by simp)
        have := congrArg List.length h
        simp at this
        omega
theorem stripT_length (us : List Tr) : (stripT us).length ≤ us.length := by
  unfold stripT
  rw [List.length_reverse]
  exact Nat.le_trans (List.Sublist.length_le (List.dropWhile_sublist _)) (by simp)
theorem dropLf_last (l : List Tr) : lastB ((l.dropWhile Tr.isLf).reverse) = true := by
  induction l with
  | nil => rfl
  | cons x l ih =>
    cases hx : x.isLf with
    | true => rw [List.dropWhile_cons_of_pos hx]; exact ih
    | false => rw [List.dropWhile_cons_of_neg (by rw [hx]; decide)]; simp [lastB, hx]
theorem stripT_lastB (us : List Tr) : lastB (stripT us) = true := dropLf_last us.reverse
theorem stripT_stripT (us : List Tr) : stripT (stripT us) = stripT us := (lastB_strip _).1 (stripT_lastB us)
theorem sumT_rev (us : List Tr) : sumT us.reverse = sumT us := by
  induction us with
  | nil => rfl
  | cons u us ih => rw [List.reverse_cons, sumT_app, ih, sumT_cons]; simp [sumT]; omega
theorem sumT_dropLf (l : List Tr) : sumT (l.dropWhile Tr.isLf) = sumT l := by
  induction l with
  | nil => rfl
  | cons x l ih =>
    cases hx : x.isLf with
    | true =>
      obtain rfl := (isLf_iff x).1 hx
      rw [List.dropWhile_cons_of_pos rfl, ih, sumT_cons]; simp [Tr.carets]
    | false => rw [List.dropWhile_cons_of_neg (by rw [hx]; decide)]
theorem sumT_strip (us : List Tr) : sumT (stripT us) = sumT us := by
  unfold stripT
  rw [sumT_rev, sumT_dropLf, sumT_rev]

theorem sides_sum (t : Tr) : sumT (sidesT t) + (sidesT t).length = t.carets := by
  induction t with
  | lf => rfl
  | nd l r _ ihr => rw [sidesT, sumT_cons, List.length_cons, Tr.carets]; omega
/-- What hangs at the left sides of the right side. -/
def hangT (t : Tr) : List Tr := stripT (sidesT t)
theorem hang_ok {t : Tr} (h : t.carets ≤ 8) : okF (hangT t) = true := by
  have h1 := sides_sum t
  have h2 := stripT_length (sidesT t)
  have h3 := sumT_strip (sidesT t)
  rw [okF_iff]
  unfold hangT
  exact ⟨by omega, by omega, stripT_lastB _⟩

/-- Each tree of the first list is part of that of the second one. -/
def partF : List Tr → List Tr → Bool
  | [], _ => true
  | u :: us, [] => u.isLf && partF us []
  | u :: us, v :: vs => u.part v && partF us vs
theorem partF_nil (us : List Tr) (h : lastB us = true) (hn : us ≠ []) : partF us [] = false := by
  induction us with
  | nil => exact absurd rfl hn
  | cons u us ih =>
    rw [partF]
    by_cases hu : us = []
    · subst hu
      rw [lastB_one] at h
      cases hx : u.isLf with
      | true => rw [hx] at h; cases h
      | false => rfl
    · rw [lastB_cons u hu] at h
      rw [ih h hu, Bool.and_false]
theorem part_comb (us : List Tr) : ∀ vs : List Tr, lastB us = true → (combT us).part (combT vs) = partF us vs := by
  induction us with
  | nil => intro vs _; cases vs <;> rfl
  | cons u us ih =>
    intro vs h
    cases vs with
    | nil => rw [partF_nil _ h (by simp)]; rfl
    | cons v vs =>
      show (u.part v && (combT us).part (combT vs)) = (u.part v && partF us vs)
      by_cases hu : us = []
      · subst hu; rw [ih vs rfl]
      · rw [lastB_cons u hu] at h; rw [ih vs h]
theorem part_iff_join (a : Tr) : ∀ b : Tr, a.part b = true ↔ a.join b = b := by
  induction a with
  | lf => intro b; simp [Tr.part, Tr.join]
  | nd l r ihl ihr =>
    intro b
    cases b with
    | lf => simp [Tr.part, Tr.join]
    | nd p q => simp [Tr.part, Tr.join, ihl, ihr]
def atF (us : List Tr) (k : Nat) : Tr := us.getD k .lf
theorem part_lf (u : Tr) : u.part .lf = u.isLf := by cases u <;> rfl
theorem partF_all (us : List Tr) : ∀ vs : List Tr, partF us vs = true ↔ ∀ k, k < us.length → (us.getD k .lf).part (vs.getD k .lf) = true := by
  induction us with
  | nil => intro vs; simp [partF]
  | cons u us ih =>
    intro vs
    have hsplit : (∀ k, k < (u :: us).length → ((u :: us).getD k .lf).part (vs.getD k .lf) = true) ↔ u.part (vs.getD 0 .lf) = true ∧ ∀ k, k < us.length → (us.getD k .lf).part (vs.tail.getD k .lf) = true := by
      constructor
      · intro h
        refine ⟨by simpa using h 0 (by simp), fun k hk => ?_⟩
        have := h (k + 1) (by simp; omega)
        cases vs <;> simpa using this
      · intro ⟨h0, h1⟩ k hk
        cases k with
        | zero => simpa using h0
        | succ k =>
          have := h1 k (by simp at hk; omega)
          cases vs <;> simpa using this
    rw [hsplit]
    cases vs with
    | nil => rw [partF, Bool.and_eq_true, ih []]; simp [part_lf]
    | cons v vs => rw [partF, Bool.and_eq_true, ih vs]; simp

/-- Joined trees of two lists. -/
def joinF : List Tr → List Tr → List Tr
  | [], vs => vs
  | u :: us, [] => u :: us
  | u :: us, v :: vs => u.join v :: joinF us vs
theorem join_comb (us : List Tr) : ∀ vs : List Tr, (combT us).join (combT vs) = combT (joinF us vs) := by
  induction us with
  | nil => intro vs; rfl
  | cons u us ih =>
    intro vs
    cases vs with
    | nil => rfl
    | cons v vs => show Tr.nd (u.join v) ((combT us).join (combT vs)) = _; rw [ih]; rfl
theorem join_lf (u : Tr) : u.join .lf = u := by cases u <;> rfl
theorem joinF_length (us : List Tr) : ∀ vs : List Tr, (joinF us vs).length = max us.length vs.length := by
  induction us with
  | nil => intro vs; simp [joinF]
  | cons u us ih =>
    intro vs
    cases vs with
    | nil => simp [joinF]
    | cons v vs => simp [joinF, ih]
theorem joinF_get (us : List Tr) : ∀ (vs : List Tr) (k : Nat), (joinF us vs).getD k .lf = (us.getD k .lf).join (vs.getD k .lf) := by
  induction us with
  | nil => intro vs k; simp [joinF, Tr.join]
  | cons u us ih =>
    intro vs k
    cases vs with
    | nil => simp [joinF, join_lf]
    | cons v vs =>
      cases k with
      | zero => simp [joinF]
      | succ k => simpa [joinF] using ih vs k
/-- Common trees of two lists. -/
def comF : List Tr → List Tr → List Tr
  | u :: us, v :: vs => u.com v :: comF us vs
  | _, _ => []
theorem com_comb (us : List Tr) : ∀ vs : List Tr, (combT us).com (combT vs) = combT (comF us vs) := by
  induction us with
  | nil => intro vs; cases vs <;> rfl
  | cons u us ih =>
    intro vs
    cases vs with
    | nil => rfl
    | cons v vs => show Tr.nd (u.com v) ((combT us).com (combT vs)) = _; rw [ih]; rfl
theorem com_lf (u : Tr) : u.com .lf = .lf := by cases u <;> rfl
/-- Common trees of two lists, leaves behind the shorter one. -/
def comL (us vs : List Tr) : List Tr := (List.range (max us.length vs.length)).map fun k => (us.getD k .lf).com (vs.getD k .lf)
def joinL (us vs : List Tr) : List Tr := (List.range (max us.length vs.length)).map fun k => (us.getD k .lf).join (vs.getD k .lf)
theorem joinL_eq (us vs : List Tr) : joinL us vs = joinF us vs := by
  apply List.ext_getElem
  · simp [joinL, joinF_length]
  · intro k h1 h2
    have h3 := joinF_get us vs k
    rw [List.getD_eq_getElem?_getD, List.getElem?_eq_getElem h2, Option.getD_some] at h3
    rw [h3]
    simp [joinL]
theorem comL_cons (u v : Tr) (us vs : List Tr) : comL (u :: us) (v :: vs) = u.com v :: comL us vs := by
  unfold comL
  rw [show max (u :: us).length (v :: vs).length = max us.length vs.length + 1 by simp, List.range_succ_eq_map]
  simp
theorem comL_nil1 (vs : List Tr) : comL [] vs = List.replicate vs.length .lf := by
  unfold comL
  apply List.ext_getElem
  · simp
  · intro k h1 h2; simp [Tr.com]
theorem comL_nil2 (us : List Tr) : comL us [] = List.replicate us.length .lf := by
  unfold comL
  apply List.ext_getElem
  · simp
  · intro k h1 h2; simp [com_lf]
theorem comL_eq (us : List Tr) : ∀ vs : List Tr, ∃ m, comL us vs = comF us vs ++ List.replicate m .lf := by
  induction us with
  | nil => intro vs; exact ⟨vs.length, by rw [comL_nil1]; simp [comF]⟩
  | cons u us ih =>
    intro vs
    cases vs with
    | nil => exact ⟨(u :: us).length, by rw [comL_nil2]; simp [comF]⟩
    | cons v vs => obtain ⟨m, hm⟩ := ih vs; exact ⟨m, by rw [comL_cons, hm]; rfl⟩
theorem comL_strip (us vs : List Tr) : stripT (comL us vs) = stripT (comF us vs) := by
  obtain ⟨m, hm⟩ := comL_eq us vs
  rw [hm, stripT_lf]
theorem comF_length (us : List Tr) : ∀ vs : List Tr, (comF us vs).length ≤ us.length := by
  induction us with
  | nil => intro vs; simp [comF]
  | cons u us ih =>
    intro vs
    cases vs with
    | nil => simp [comF]
    | cons v vs => have := ih vs; simp [comF]; omega
theorem comF_sum (us : List Tr) : ∀ vs : List Tr, sumT (comF us vs) ≤ sumT us := by
  induction us with
  | nil => intro vs; simp [comF, sumT]
  | cons u us ih =>
    intro vs
    cases vs with
    | nil => simp [comF, sumT]
    | cons v vs => have := ih vs; have := com_carets u v; rw [comF, sumT_cons, sumT_cons]; omega
theorem joinF_sum (us : List Tr) : ∀ vs : List Tr, sumT (joinF us vs) ≤ sumT us + sumT vs := by
  induction us with
  | nil => intro vs; simp [joinF, sumT]
  | cons u us ih =>
    intro vs
    cases vs with
    | nil => simp [joinF, sumT]
    | cons v vs => have := ih vs; have := join_carets u v; rw [joinF, sumT_cons, sumT_cons, sumT_cons]; omega
theorem join_lf_iff (u v : Tr) : (u.join v).isLf = (u.isLf && v.isLf) := by cases u <;> cases v <;> rfl
theorem joinF_last (us : List Tr) : ∀ vs : List Tr, lastB us = true → lastB vs = true → lastB (joinF us vs) = true := by
  induction us with
  | nil => intro vs _ h; exact h
  | cons u us ih =>
    intro vs h k
    cases vs with
    | nil => exact h
    | cons v vs =>
      rw [joinF]
      by_cases hu : us = []
      · subst hu
        rw [joinF]
        by_cases hv : vs = []
        · subst hv
          rw [lastB_one] at h k ⊢
          rw [join_lf_iff]
          cases h1 : u.isLf with
          | true => rw [h1] at h; cases h
          | false => rfl
        · rw [lastB_cons _ hv] at k ⊢; exact k
      · rw [lastB_cons _ hu] at h
        by_cases hv : vs = []
        · subst hv
          have e : joinF us [] = us := by cases us <;> rfl
          rw [e, lastB_cons _ hu]; exact h
        · rw [lastB_cons _ hv] at k
          have hne : joinF us vs ≠ [] := by
            intro e
            have := joinF_length us vs
            rw [e] at this
            have h2 : 0 < us.length := List.length_pos_iff.2 hu
            simp at this
            omega
          rw [lastB_cons _ hne]
          exact ih vs h k
end Go.Proofs.Ytplmbdljhgicfab

/-! FfR -/
namespace Go.Proofs.Ytplmbdljhgicfab

theorem treesOf_length {L : List ByteArray} {us : List Tr} (h : treesOf L = some us) : us.length = L.length := by
  have := (treesOf_some L us h).1
  rw [this]; simp
theorem treesOf_snoc : ∀ (L : List ByteArray) (us : List Tr) (s : ByteArray) (t : Tr), treesOf L = some us → treeOf s = some t → treesOf (L ++ [s]) = some (us ++ [t]) := by
  intro L
  induction L with
  | nil => intro us s t h k; simp [treesOf] at h; subst h; simp [treesOf, k]
  | cons x L ih =>
    intro us s t h k
    rw [treesOf] at h
    cases hx : treeOf x with
    | none => rw [hx] at h; cases h
    | some y =>
      rw [hx] at h
      cases hL : treesOf L with
      | none => rw [hL] at h; cases h
      | some vs =>
        rw [hL] at h
        injection h with h
        subst h
        rw [List.cons_append, treesOf, hx, ih vs s t hL k]
        rfl
theorem treesOf_bad : ∀ (L : List ByteArray) (s : ByteArray), s ∈ L → treeOf s = none → treesOf L = none := by
  intro L
  induction L with
  | nil => intro s h; cases h
  | cons x L ih =>
    intro s h k
    rw [treesOf]
    rcases List.mem_cons.1 h with rfl | h
    · rw [k]
    · rw [ih s h k]
      cases treeOf x <;> rfl
theorem forOf_bad {L : List ByteArray} {s : ByteArray} (h : s ∈ L) (k : treeOf s = none) : forOf L = none := by
  unfold forOf; rw [treesOf_bad L s h k]; rfl
theorem forOf_long {L : List ByteArray} (h : 8 < L.length) : forOf L = none := by
  cases hf : forOf L with
  | none => rfl
  | some us => obtain ⟨h1, h2, _⟩ := forOf_some hf; rw [h1] at h; simp at h; omega
theorem getD_last {α : Type} (L : List α) (d : α) (h : L ≠ []) : L.getLast? = some (L.getD (L.length - 1) d) := by
  have hp : 0 < L.length := List.length_pos_iff.2 h
  rw [List.getLast?_eq_getElem?, List.getD_eq_getElem?_getD, List.getElem?_eq_getElem (by omega)]
  rfl
theorem lastB_get (us : List Tr) (h : us ≠ []) : lastB us = !(us.getD (us.length - 1) .lf).isLf := by
  unfold lastB; rw [getD_last us .lf h]
theorem str_dot (t : Tr) : (t.str.toList == [46]) = t.isLf := by
  have : t.str.toList = t.text := by rw [Lib.toList_data, Tr.str_list]
  rw [this]
  cases t with
  | lf => rfl
  | nd l r => simp [Tr.text, Tr.isLf]
theorem treeOf_dot : treeOf ⟨#[46]⟩ = some .lf := treeOf_str .lf (by simp [Tr.carets])
theorem map_getD (us : List Tr) (k : Nat) (h : k < us.length) : (us.map Tr.str).getD k ⟨#[]⟩ = (us.getD k .lf).str := by
  simp [List.getD_eq_getElem?_getD, h]
theorem forOf_dot {L : List ByteArray} (h : 0 < L.length) (k : ((L.getD (L.length - 1) ⟨#[]⟩).toList == [46]) = true) : forOf L = none := by
  cases hf : forOf L with
  | none => rfl
  | some us =>
    obtain ⟨h1, _, _, h4⟩ := forOf_some hf
    have hl : us.length = L.length := by rw [h1]; simp
    have hne : us ≠ [] := by intro e; rw [e] at hl; simp at hl; omega
    rw [lastB_get us hne] at h4
    rw [h1, List.length_map, map_getD us _ (by omega), str_dot] at k
    rw [k] at h4
    cases h4
theorem forOf_of {L : List ByteArray} {us : List Tr} (h : treesOf L = some us) (hl : L.length ≤ 8) (k : L.length = 0 ∨ ((L.getD (L.length - 1) ⟨#[]⟩).toList == [46]) = false) : (forOf L).isSome = decide (sumT us ≤ 8) := by
  have hlen := treesOf_length h
  obtain ⟨h1, _⟩ := treesOf_some L us h
  have hlast : lastB us = true := by
    rcases k with k | k
    · have : us = [] := List.length_eq_zero_iff.1 (by omega)
      rw [this]; rfl
    · by_cases hne : us = []
      · rw [hne]; rfl
      · have hp : 0 < us.length := List.length_pos_iff.2 hne
        rw [lastB_get us hne]
        rw [h1, List.length_map, map_getD us _ (by omega), str_dot] at k
        rw [k]; rfl
  unfold forOf
  rw [h]
  simp only [Option.bind_some]
  by_cases hs : sumT us ≤ 8
  · rw [if_pos (okF_iff.2 ⟨by omega, hs, hlast⟩)]; simp [hs]
  · rw [if_neg (fun e => hs (okF_iff.1 e).2.1)]; simp [hs]
theorem forOf_trees {L : List ByteArray} {us : List Tr} (h : treesOf L = some us) : forOf L = if okF us = true then some us else none := by unfold forOf; rw [h]; rfl
end Go.Proofs.Ytplmbdljhgicfab

/-! Base -/
namespace Go.Proofs.Ytplmbdljhgicfab
open Go.RowKit

theorem ret_int {k : IntKind} {a b : Int} (h : a = b) : Ending.returned (.int k a) = .returned (.int k b) := by rw [h]
theorem ret_bool {a b : Bool} (h : a = b) : Ending.returned (.bool a) = .returned (.bool b) := by rw [h]
theorem ret_str {a b : ByteArray} (h : a = b) : Ending.returned (.string a) = .returned (.string b) := by rw [h]

theorem i64_bounds {n : Int} (h : (Lit.int .i64 n).wf = true) : -9223372036854775808 ≤ n ∧ n ≤ 9223372036854775807 := by
  simpa [Lit.wf, IntKind.min, IntKind.max, IntKind.signed, IntKind.bits] using h

theorem nx {w w1 w2 : World} (h : Below w.heap.size w w1) (k : Below w1.heap.size w1 w2) : Below w.heap.size w w2 := h.trans (k.mono h.size)
theorem nxAlloc {w w1 : World} (h : Below w.heap.size w w1) (o : Obj) : Below w.heap.size w (w1.alloc o) := nx h ((Below.refl _ _).alloc (Nat.le_refl _) o)

theorem drewB {w w1 : World} (h : Below w.heap.size w w1) (n : Nat) : Below w.heap.size w (w1.drewN n) := ⟨h.os, h.tape, h.output, h.size, h.block⟩

/-- Calls that hand back a value and leave what was there. -/
def Gives (v : Value) (w : World) (e : Ending) (w' : World) : Prop := e = .returned v ∧ Below w.heap.size w w'

end Go.Proofs.Ytplmbdljhgicfab

/-! Row -/
namespace Go.Proofs.Ytplmbdljhgicfab
open Go.RowKit

theorem info_int : (Try.prog.info? 3).map (fun i => (i.zero, i.size, i.bytes)) = some (some (.int .i64 0), 1, 8) := by kernel_rfl

/-- v is a slice of the integers xs, in a block from base on that the call has made. -/
def OwnI (base : Nat) (w : World) (v : Value) (xs : List Int) : Prop := w.ownsRow base 3 1 v xs.length (xs.map (Value.int .i64))

theorem ownsRow_keep {w w' : World} {base : Nat} {e : TypeId} {size : Nat} {v : Value} {n : Nat} {xs : List Value} (h : w.ownsRow base e size v n xs) (hb : Below w.heap.size w w') : w'.ownsRow base e size v n xs := by
  obtain ⟨h1, h2⟩ := h
  refine ⟨h1, ?_⟩
  rcases h2 with h2 | ⟨g, cap, cur, hv, hg, hh, r⟩
  · exact .inl h2
  · exact .inr ⟨g, cap, cur, hv, hg, (hb.block g (lt_of_block hh)).trans hh, r⟩

theorem OwnI.keep {base : Nat} {w w' : World} {v : Value} {xs : List Int} (h : OwnI base w v xs) (hb : Below w.heap.size w w') : OwnI base w' v xs := ownsRow_keep h hb

theorem OwnI.nil (base : Nat) (w : World) : OwnI base w (.slice none 0 0) [] := World.ownsRow_nil _ _ _ _

/-- What can be read of such a slice. -/
def CellsI (base : Nat) (w : World) (v : Value) (xs : List Int) : Prop :=
  (v = .slice none 0 0 ∧ xs = []) ∨ ∃ g cap : Nat, v = .slice (some ⟨g, 0, none⟩) xs.length cap ∧ base ≤ g ∧ g < w.heap.size ∧ xs.length ≤ cap ∧ cap ≤ maxLen ∧
    (∀ i, i < xs.length → w.cell? ⟨g, i, none⟩ = some (.int .i64 (xs.getD i 0))) ∧ ∀ i, w.frozen? ⟨g, i, none⟩ = false

theorem OwnI.cells {base : Nat} {w : World} {v : Value} {xs : List Int} (h : OwnI base w v xs) : CellsI base w v xs := by
  have h0 := h
  obtain ⟨h1, h2⟩ := h
  rcases h2 with ⟨hv, hn⟩ | ⟨g, cap, cur, hv, hg, hh, r1, r2, r3⟩
  · exact .inl ⟨hv, List.length_eq_zero_iff.1 hn⟩
  · subst hv
    refine .inr ⟨g, cap, rfl, hg, lt_of_block hh, r1, r2, fun i hi => ?_, fun i => World.ownsRow.frozenAt h0 i⟩
    have := World.ownsRow.cellAt h0 i (by omega)
    rw [this]
    simp [List.getElem?_eq_getElem hi]

/-! What an append of one integer to such a slice asks and leaves. -/
theorem new1 (w : World) (v : Value) (e : TypeId) : ∀ (j : Nat) (u : Value), [v][j]? = some u → (w.alloc (.cells #[v] e)).cell? ((⟨w.heap.size, 0, none⟩ : Addr).add j) = some u := by
  intro j u hj
  match j, hj with
  | 0, hj => simp at hj; subst hj; simp [Addr.add]
  | j + 1, hj => simp at hj
theorem one1 (m : Int) : ∀ u ∈ [Value.int .i64 m], u.oneCell' = true := by intro u hu; simp at hu; subst hu; rfl
theorem size_al {w w1 : World} (h : Below w.heap.size w w1) (o : Obj) : w.heap.size ≤ (w1.alloc o).heap.size := by have := h.size; simp; omega

theorem ownsRow_ge {w : World} {base : Nat} {e : TypeId} {size : Nat} {v : Value} {n : Nat} {xs : List Value} (h : w.ownsRow base e size v n xs) : ∀ k, v.ownBlock = some k → base ≤ k := by
  intro k hk
  rcases h.2 with ⟨hv, _⟩ | ⟨g, cap, cur, hv, hg, _⟩
  · subst hv; simp [Value.ownBlock] at hk
  · subst hv; simp [Value.ownBlock] at hk; omega

theorem OwnI.snoc {base : Nat} {w : World} {v : Value} {xs : List Int} {m : Int} (h : w.ownsRow base 3 1 v (xs.length + 1) (xs.map (Value.int .i64) ++ [Value.int .i64 m])) : OwnI base w v (xs ++ [m]) := by
  unfold OwnI; rw [List.length_append, List.map_append]; exact h

theorem below_app {w wr w1 : World} {base : Nat} {e e2 : TypeId} {size : Nat} {v u : Value} {n : Nat} {xs : List Value} (h : Below w.heap.size w wr) (hown : wr.ownsRow base e size v n xs) (hbase : w.heap.size ≤ base)
    (hg : (wr.alloc (.cells #[u] e2)).grownBy w1 v.ownBlock) : Below w.heap.size w w1 :=
  (nxAlloc h (.cells #[u] e2)).grown hg (size_al h _) (fun k hk => Nat.le_trans hbase (ownsRow_ge hown k hk))

/-- A call that hands back a slice of integers of its own. -/
def GivesInts (xs : List Int) (w : World) (e : Ending) (w' : World) : Prop :=
  ∃ v, OwnI w.heap.size w' v xs ∧ Below w.heap.size w w' ∧ e = .returned v

/-- An answer of a slice of the call's own and a bool. -/
def AnsI2 (xs : List Int) (ok : Bool) (w : World) (e : Ending) (w' : World) : Prop :=
  ∃ v, OwnI w.heap.size w' v xs ∧ Below w.heap.size w w' ∧ e = .returned (.tuple #[v, .bool ok])
def AnsIs (o : Option (List Int)) (w : World) (e : Ending) (w' : World) : Prop := AnsI2 (o.getD []) o.isSome w e w'

end Go.Proofs.Ytplmbdljhgicfab

/-! RowS -/
namespace Go.Proofs.Ytplmbdljhgicfab
open Go.RowKit

theorem info_str : (Try.prog.info? 9).map (fun i => (i.zero, i.size, i.bytes)) = some (some (.string ⟨#[]⟩), 1, 16) := by kernel_rfl

/-- v is a slice of the texts ss, in a block from base on that the call has made. -/
def OwnS (base : Nat) (w : World) (v : Value) (ss : List ByteArray) : Prop := w.ownsRow base 9 1 v ss.length (ss.map Value.string)

theorem OwnS.keep {base : Nat} {w w' : World} {v : Value} {ss : List ByteArray} (h : OwnS base w v ss) (hb : Below w.heap.size w w') : OwnS base w' v ss := ownsRow_keep h hb
theorem OwnS.nil (base : Nat) (w : World) : OwnS base w (.slice none 0 0) [] := World.ownsRow_nil _ _ _ _

theorem ownsRow_mono {w : World} {base base' : Nat} {e : TypeId} {size : Nat} {v : Value} {n : Nat} {xs : List Value} (h : w.ownsRow base e size v n xs) (hb : base' ≤ base) : w.ownsRow base' e size v n xs := by
  obtain ⟨h1, h2⟩ := h
  refine ⟨h1, ?_⟩
  rcases h2 with h2 | ⟨g, cap, cur, hv, hg, r⟩
  · exact .inl h2
  · exact .inr ⟨g, cap, cur, hv, Nat.le_trans hb hg, r⟩
theorem OwnS.mono {base base' : Nat} {w : World} {v : Value} {ss : List ByteArray} (h : OwnS base w v ss) (hb : base' ≤ base) : OwnS base' w v ss := ownsRow_mono h hb
theorem OwnI.mono {base base' : Nat} {w : World} {v : Value} {xs : List Int} (h : OwnI base w v xs) (hb : base' ≤ base) : OwnI base' w v xs := ownsRow_mono h hb

/-- What can be read of such a slice. -/
def CellsS (base : Nat) (w : World) (v : Value) (ss : List ByteArray) : Prop :=
  (v = .slice none 0 0 ∧ ss = []) ∨ ∃ g cap : Nat, v = .slice (some ⟨g, 0, none⟩) ss.length cap ∧ base ≤ g ∧ g < w.heap.size ∧ ss.length ≤ cap ∧ cap ≤ maxLen ∧
    (∀ i, i < ss.length → w.cell? ⟨g, i, none⟩ = some (.string (ss.getD i ⟨#[]⟩))) ∧ ∀ i, w.frozen? ⟨g, i, none⟩ = false

theorem OwnS.cells {base : Nat} {w : World} {v : Value} {ss : List ByteArray} (h : OwnS base w v ss) : CellsS base w v ss := by
  have h0 := h
  obtain ⟨h1, h2⟩ := h
  rcases h2 with ⟨hv, hn⟩ | ⟨g, cap, cur, hv, hg, hh, r1, r2, r3⟩
  · exact .inl ⟨hv, List.length_eq_zero_iff.1 hn⟩
  · subst hv
    refine .inr ⟨g, cap, rfl, hg, lt_of_block hh, r1, r2, fun i hi => ?_, fun i => World.ownsRow.frozenAt h0 i⟩
    have := World.ownsRow.cellAt h0 i (by omega)
    rw [this]
    simp [List.getElem?_eq_getElem hi]

theorem OwnS.shape {base : Nat} {w : World} {v : Value} {ss : List ByteArray} (h : OwnS base w v ss) (hn : 0 < ss.length) : ∃ g cap, v = .slice (some ⟨g, 0, none⟩) ss.length cap := by
  rcases h.2 with ⟨_, h2⟩ | ⟨g, cap, cur, hv, _⟩
  · omega
  · exact ⟨g, cap, hv⟩

/-- One text in a new block. -/
theorem OwnS.one (w : World) (s : ByteArray) : OwnS w.heap.size (w.alloc (.cells #[.string s] 9 (0, 0))) (.slice (some ⟨w.heap.size, 0, none⟩) 1 1) [s] := by
  refine ⟨rfl, .inr ⟨w.heap.size, 1, #[.string s], rfl, Nat.le_refl _, ?_, Nat.le_refl _, by unfold maxLen; omega, rfl, rfl⟩⟩
  show (w.heap.push _)[w.heap.size]? = _
  simp

theorem addr_add (g j : Nat) : (⟨g, 0, none⟩ : Addr).add j = ⟨g, j, none⟩ := by
  unfold Addr.add
  split
  · next h => rw [h]
  · simp

theorem OwnS.news {base : Nat} {w : World} {g cap n : Nat} {ss : List ByteArray} (h : OwnS base w (.slice (some ⟨g, 0, none⟩) n cap) ss) (hn : ss.length = n) :
    ∀ (j : Nat) (u : Value), (ss.map Value.string)[j]? = some u → w.cell? ((⟨g, 0, none⟩ : Addr).add j) = some u := by
  intro j u hj
  subst hn
  have hlt : j < ss.length := by
    rcases Nat.lt_or_ge j ss.length with h | h
    · exact h
    · rw [List.getElem?_eq_none (by simpa using h)] at hj; simp at hj
  have := World.ownsRow.cellAt h j (by omega)
  rw [addr_add, this, hj]
theorem oneS (ss : List ByteArray) : ∀ u ∈ ss.map Value.string, u.oneCell' = true := by
  intro u hu
  rw [List.mem_map] at hu
  obtain ⟨s, _, rfl⟩ := hu
  rfl
theorem OwnS.app {base : Nat} {w : World} {v : Value} {A B : List ByteArray} (h : w.ownsRow base 9 1 v (A.length + B.length) (A.map Value.string ++ B.map Value.string)) : OwnS base w v (A ++ B) := by
  unfold OwnS; rw [List.length_append, List.map_append]; exact h

theorem below_app0 {w wr w1 : World} {base : Nat} {e : TypeId} {size : Nat} {v : Value} {n : Nat} {xs : List Value} (h : Below w.heap.size w wr) (hown : wr.ownsRow base e size v n xs) (hbase : w.heap.size ≤ base)
    (hg : wr.grownBy w1 v.ownBlock) : Below w.heap.size w w1 :=
  h.grown hg h.size (fun k hk => Nat.le_trans hbase (ownsRow_ge hown k hk))

/-- A call that hands back a slice of texts of its own, not empty. -/
def GivesTexts (ss : List ByteArray) (w : World) (e : Ending) (w' : World) : Prop :=
  ∃ g cap : Nat, OwnS w.heap.size w' (.slice (some ⟨g, 0, none⟩) ss.length cap) ss ∧ Below w.heap.size w w' ∧ e = .returned (.slice (some ⟨g, 0, none⟩) ss.length cap)

/-- An answer of a slice of texts of the call's own and a bool. -/
def AnsS2 (ss : List ByteArray) (ok : Bool) (w : World) (e : Ending) (w' : World) : Prop :=
  ∃ v, OwnS w.heap.size w' v ss ∧ Below w.heap.size w w' ∧ e = .returned (.tuple #[v, .bool ok])
def AnsSs (o : Option (List ByteArray)) (w : World) (e : Ending) (w' : World) : Prop := AnsS2 (o.getD []) o.isSome w e w'
end Go.Proofs.Ytplmbdljhgicfab

/-! Quiet -/
namespace Go.Proofs.Ytplmbdljhgicfab
open Go.RowKit

theorem quiet_eq {P : Program} {f : FuncId} {args : Array Value} {w : World} {n : Nat} {v : Value} (h : Calls P f args (w.drewN n) fun e w' => e = .returned v ∧ w.drewN n = w') :
    Calls P f args (w.drewN n) fun e w'' => e = .returned v ∧ ∃ m, w'' = w.drewN m :=
  h.mono fun _ _ ⟨he, hm⟩ => ⟨he, n, hm.symm⟩

def Quietly (v : Value) (w : World) (e : Ending) (w' : World) : Prop := e = .returned v ∧ ∃ n, w' = w.drewN n
end Go.Proofs.Ytplmbdljhgicfab

/-! Mark -/
namespace Go.Proofs.Ytplmbdljhgicfab
open Go.RowKit

/-- One byte as a text. -/
def oneB (c : Int) : ByteArray := strOfNums [c]
theorem oneB_size (c : Int) : (oneB c).size = 1 := rfl

/-- 'string([]byte{c})'. -/
theorem conv_one (w : World) (c : Int) : (convert 117 9 (.slice (some ⟨w.heap.size, 0, none⟩) 1 1)).run Try.prog (w.alloc (.cells #[.int .u8 c] 5)) = .ok (.string (oneB c)) (w.alloc (.cells #[.int .u8 c] 5)) := by
  refine run_convert_bytes_arg _ 117 5 Try.underlying117 Try.underlying5 w.heap.size 0 1 1 [c] rfl ?_ 9 Try.underlying9
  intro i hi
  obtain rfl : i = 0 := by omega
  have : (w.alloc (.cells #[.int .u8 c] 5)).heap[w.heap.size]? = some (.cells #[.int .u8 c] 5) := by
    show (w.heap.push _)[w.heap.size]? = _
    simp
  exact cell_of_one this

/-- The digits of a number ahead of a text. -/
def digs (j : Nat) (acc : ByteArray) : ByteArray := if 0 < j then digs (j / 10) (oneB (48 + (j : Int) % 10) ++ acc) else acc
termination_by j
decreasing_by omega

def markT (k : Nat) : ByteArray := ⟨#[109]⟩ ++ digs k ⟨#[]⟩

set_option maxRecDepth 100000 in
set_option maxHeartbeats 1000000 in
theorem markText_any (k : Nat) (w : World) (hk : 0 < k) (hk2 : k ≤ 2000000000) :
    Calls Try.prog 51 #[.int .i64 k] w (Gives (.string (markT k)) w) := by
  have hconv := conv_one
  go_enter Try.func51, Try.ntmps51
  go_wp2_with fail
  go_loopw [0, 3] (fun i t wr => ∃ (j : Nat) (acc : ByteArray), i = .int .i64 j ∧ t = .string acc ∧ acc.size + j ≤ k ∧ Below w.heap.size w wr ∧ Hid (digs k ⟨#[]⟩ = digs j acc)) (fun i _ _ => (intOf i).toNat)
  case atStart => exact ⟨k, ⟨#[]⟩, rfl, rfl, by simp [ByteArray.size], Below.refl _ _, rfl⟩
  case round =>
    obtain ⟨j, acc, rfl, rfl, hz, hbw, he⟩ := hrel
    by_cases hlt : (0 : Int) < j
    · have he' := he.out
      rw [digs.eq_def j, if_pos (by omega)] at he'
      have HE := Lib.hid he'
      have hob := oneB_size (48 + (j : Int) % 10)
      clear he he'
      go_wp2_with fail
      go_roundw
      case rel => exact ⟨j / 10, _, by go_num, rfl, by rw [ByteArray.size_append, hob]; omega, nxAlloc hbw _, HE⟩
      case measure => simp [intOf]; omega
    · obtain rfl : j = 0 := by omega
      have he' := he.out
      rw [digs.eq_def 0, if_neg (by omega)] at he'
      have HE := Lib.hid he'
      clear he he'
      go_wp2_with fail
      go_ret
      exact ⟨ret_str (by unfold markT; rw [HE.out]), hbw⟩
end Go.Proofs.Ytplmbdljhgicfab

/-! TailS -/
namespace Go.Proofs.Ytplmbdljhgicfab
open Go.RowKit

theorem CellsS.len {base : Nat} {w : World} {v : Value} {ss : List ByteArray} (h : CellsS base w v ss) : (ss.length : Int) ≤ 9223372036854775807 := by
  rcases h with ⟨_, rfl⟩ | ⟨g, cap, _, _, _, h1, h2, _⟩
  · simp
  · unfold maxLen at h2; omega

set_option maxHeartbeats 1000000 in
theorem eqStringS_any (b1 b2 : Nat) (v1 v2 : Value) (xs : List ByteArray) (w : World) (h1 : CellsS b1 w v1 xs) (h2 : CellsS b2 w v2 xs) :
    Calls Try.prog 14 #[v1, v2] w (Quietly (.bool true) w) := by
  have hl := h1.len
  rcases h1 with ⟨rfl, rfl⟩ | ⟨g, cap, rfl, hb1, hg1, hc1, hm1, hx1, _⟩
  · rcases h2 with ⟨rfl, _⟩ | ⟨g, cap, rfl, hb1, hg1, hc1, hm1, hx1, _⟩
    all_goals
      go_enter Try.func14, Try.ntmps14
      go_wp2_with fail
      go_loopw [5] (fun i wr => i = .int .i64 0 ∧ wr = w) (fun _ _ => 0)
      case atStart => exact ⟨rfl, rfl⟩
      case round =>
        obtain ⟨rfl, rfl⟩ := hrel
        go_wp2_with fail
        go_ret
        exact ⟨rfl, 0, rfl⟩
  · rcases h2 with ⟨rfl, rfl⟩ | ⟨g2, cap2, rfl, hb2, hg2, hc2, hm2, hx2, _⟩
    · go_enter Try.func14, Try.ntmps14
      go_wp2_with fail
      go_loopw [5] (fun i wr => i = .int .i64 0 ∧ wr = w) (fun _ _ => 0)
      case atStart => exact ⟨rfl, rfl⟩
      case round =>
        obtain ⟨rfl, rfl⟩ := hrel
        go_wp2_with fail
        go_ret
        exact ⟨rfl, 0, rfl⟩
    · have HX1 := Lib.hid hx1
      have HX2 := Lib.hid hx2
      clear hx1 hx2
      go_enter Try.func14, Try.ntmps14
      go_wp2_with fail
      go_loopw [5] (fun i wr => ∃ k d : Nat, k ≤ xs.length ∧ i = .int .i64 k ∧ wr = w.drewN d) (fun i _ => xs.length - (intOf i).toNat)
      case atStart => exact ⟨0, 0, Nat.zero_le _, rfl, rfl⟩
      case round =>
        obtain ⟨k, d, hk, rfl, rfl⟩ := hrel
        by_cases hlt : k < xs.length
        · have hlt' : (k : Int) < (xs.length : Int) := by omega
          have c1 := HX1.out k hlt
          have c2 := HX2.out k hlt
          obtain ⟨x, hx⟩ : ∃ x, x = xs.getD k ⟨#[]⟩ := ⟨_, rfl⟩
          rw [← hx] at c1 c2
          clear hx
          go_wp2_with fail
          go_quiet (fail)
          go_wp2_with fail
          go_roundw
          case rel => exact ⟨k + 1, _, by omega, by go_num, rfl⟩
          case measure => simp [intOf]; omega
        · obtain rfl : k = xs.length := by omega
          go_wp2_with fail
          go_ret
          exact ⟨rfl, _, rfl⟩

/-- The marks from k on: n texts. -/
def marksS (k n : Nat) : List ByteArray := (List.range n).map fun i => markT (k + i)
theorem marksS_length (k n : Nat) : (marksS k n).length = n := by simp [marksS]
theorem marksS_getD (k : Nat) {n i : Nat} (h : i < n) : (marksS k n).getD i ⟨#[]⟩ = markT (k + i) := by simp [marksS, h]

theorem CellsS.keep {base : Nat} {w w' : World} {v : Value} {ss : List ByteArray} (h : CellsS base w v ss) (hb : Below w.heap.size w w') : CellsS base w' v ss := by
  rcases h with h | ⟨g, cap, h1, h2, h3, h4, h5, h6, h7⟩
  · exact .inl h
  · exact .inr ⟨g, cap, h1, h2, Nat.lt_of_lt_of_le h3 hb.size, h4, h5, fun i hi => (hb.cell (p := ⟨g, i, none⟩) h3).trans (h6 i hi), fun i => (hb.frozen (p := ⟨g, i, none⟩) h3).trans (h7 i)⟩

set_option maxHeartbeats 1000000 in
theorem heldStringS_any (b1 : Nat) (v1 : Value) (n k : Nat) (w : World) (hk0 : 0 < k) (hk1 : k ≤ 1000000000) (hn9 : n ≤ 1000000000) (h1 : CellsS b1 w v1 (marksS k n)) :
    Calls Try.prog 16 #[v1, .int .i64 k] w (Gives (.int .i64 (k + n)) w) := by
  have hb0 := Below.refl w.heap.size w
  rcases h1 with ⟨rfl, hn⟩ | ⟨g, cap, rfl, hb1, hg1, hc1, hm1, hx1, _⟩
  · have hn0 : n = 0 := by have := congrArg List.length hn; simpa [marksS_length] using this
    subst hn0
    clear hn
    go_enter Try.func16, Try.ntmps16
    go_wp2_with fail
    go_loopw [1, 5] (fun v i wr => v = .int .i64 k ∧ i = .int .i64 0 ∧ wr = w) (fun _ _ _ => 0)
    case atStart => exact ⟨rfl, rfl, rfl⟩
    case round =>
      obtain ⟨rfl, rfl, rfl⟩ := hrel
      go_wp2_with fail
      go_ret
      exact ⟨ret_int (by simp), hb0⟩
  · rw [marksS_length] at hx1 hc1 ⊢
    have HX1 := Lib.hid hx1
    clear hx1
    go_enter Try.func16, Try.ntmps16
    go_wp2_with fail
    go_loopw [1, 5] (fun v i wr => ∃ j : Nat, j ≤ n ∧ i = .int .i64 j ∧ v = .int .i64 ((k + j : Nat) : Int) ∧ Below w.heap.size w wr) (fun _ i _ => n - (intOf i).toNat)
    case atStart => exact ⟨0, Nat.zero_le _, rfl, by simp, hb0⟩
    case round =>
      obtain ⟨j, hj, rfl, rfl, hbw⟩ := hrel
      by_cases hlt : j < n
      · have hlt' : (j : Int) < (n : Int) := by omega
        have c1 := (hbw.cell (p := ⟨g, j, none⟩) hg1).trans (HX1.out j hlt)
        rw [marksS_getD k hlt] at c1
        have hmt := fun w => markText_any (k + j) w (by omega) (by omega)
        obtain ⟨T, hT⟩ : ∃ T, T = markT (k + j) := ⟨_, rfl⟩
        rw [← hT] at c1 hmt
        clear hT
        have hgr : g < wr.heap.size := Nat.lt_of_lt_of_le hg1 hbw.size
        go_wp2_with fail
        go_region_held3 (fun w' => w'.cell? ⟨g, j, none⟩ = some (.string T))
          (first | exact c1 | exact c2)
          (first | (go_at_call 51; refine (hmt _).mono ?_; rintro e w1 ⟨rfl, hb1'⟩; have hb2' := nx (Below.refl wr.heap.size wr).drew hb1'; have c2 := (hb2'.cell (p := ⟨g, j, none⟩) hgr).trans c1))
        go_wp2_with fail
        go_roundw
        case rel => exact ⟨j + 1, by omega, by go_num, by go_num, nx hbw hb2'⟩
        case measure => simp [intOf]; omega
      · obtain rfl : j = n := by omega
        go_wp2_with fail
        go_ret
        exact ⟨ret_int (by simp), hbw⟩

theorem marksS_set (k : Nat) (xs : List ByteArray) (j : Nat) (h : j < xs.length) : (marksS k j ++ xs.drop j).set j (markT (k + j)) = marksS k (j + 1) ++ xs.drop (j + 1) := by
  have hm := marksS_length k j
  have e1 : marksS k (j + 1) = marksS k j ++ [markT (k + j)] := by simp [marksS, List.range_succ]
  rw [List.set_append_right _ _ (by omega), hm, Nat.sub_self, e1, List.append_assoc]
  congr 1
  rw [List.drop_eq_getElem_cons h]
  rfl

theorem OwnS.set {base : Nat} {w : World} {g cap : Nat} {xs : List ByteArray} {n : Nat} (hn : xs.length = n) (h : OwnS base w (.slice (some ⟨g, 0, none⟩) n cap) xs) (j : Nat) (m : ByteArray) :
    OwnS base (w.setCell ⟨g, j, none⟩ (.string m)) (.slice (some ⟨g, 0, none⟩) n cap) (xs.set j m) := by
  unfold OwnS at *
  subst hn
  rw [List.length_set, List.map_set]
  exact (World.ownsRow.stored h j _).1

/-- A call that hands back a number, and leaves the slice v with other texts. -/
def MarkedS (base : Nat) (r : Int) (v : Value) (xs : List ByteArray) (w : World) (e : Ending) (w' : World) : Prop := e = .returned (.int .i64 r) ∧ OwnS base w' v xs ∧ Below base w w'

set_option maxHeartbeats 1000000 in
theorem markStringS_any (base : Nat) (v : Value) (xs : List ByteArray) (n : Nat) (hn : xs.length = n) (k : Nat) (w : World) (hk0 : 0 < k) (hk1 : k ≤ 1000000000) (hn9 : n ≤ 1000000000) (hbase : base ≤ w.heap.size) (h : OwnS base w v xs) :
    Calls Try.prog 15 #[v, .int .i64 k] w (MarkedS base (k + n) v (marksS k n) w) := by
  have hb0 := Below.refl base w
  rcases h.cells with ⟨rfl, rfl⟩ | ⟨g, cap, rfl, hb1, hg1, hc1, hm1, hx1, hf1⟩
  · obtain rfl : n = 0 := hn.symm
    have H := Lib.hid h
    clear h hn
    go_enter Try.func15, Try.ntmps15
    go_wp2_with fail
    go_loopw [1, 5] (fun v i wr => v = .int .i64 k ∧ i = .int .i64 0 ∧ wr = w) (fun _ _ _ => 0)
    case atStart => exact ⟨rfl, rfl, rfl⟩
    case round =>
      obtain ⟨rfl, rfl, rfl⟩ := hrel
      go_wp2_with fail
      go_ret
      exact ⟨ret_int (by simp), H.out, hb0⟩
  · rw [hn] at hc1 h ⊢
    clear hx1 hf1
    have H := Lib.hid h
    have HN := Lib.hid hn
    clear h hn
    go_enter Try.func15, Try.ntmps15
    go_wp2_with fail
    go_loopw [1, 5] (fun v i wr => ∃ j : Nat, j ≤ n ∧ i = .int .i64 j ∧ v = .int .i64 ((k + j : Nat) : Int) ∧ Hid (OwnS base wr (.slice (some ⟨g, 0, none⟩) n cap) (marksS k j ++ xs.drop j)) ∧ Below base w wr) (fun _ i _ => n - (intOf i).toNat)
    case atStart => exact ⟨0, Nat.zero_le _, rfl, by simp, by simpa [marksS] using H, hb0⟩
    case round =>
      obtain ⟨j, hj, rfl, rfl, hown, hbw⟩ := hrel
      have hlen : (marksS k j ++ xs.drop j).length = n := by have := HN.out; rw [List.length_append, marksS_length, List.length_drop]; omega
      by_cases hlt : j < n
      · have hlt' : (j : Int) < (n : Int) := by omega
        have hmt := fun w => markText_any (k + j) w (by omega) (by omega)
        have HSZ := hbw.size
        go_wp2_with fail
        refine (hmt _).mono ?_; rintro e w1 ⟨rfl, hbm⟩
        have hown1 := hown.out.keep hbm
        have hset := OwnS.set hlen hown1 j (markT (k + j))
        rw [marksS_set k xs j (by rw [HN.out]; exact hlt)] at hset
        have hfz : w1.frozen? ⟨g, j, none⟩ = false := World.ownsRow.frozenAt (by have := hown1; unfold OwnS at this; rw [hlen] at this; exact this) j
        obtain ⟨x, hcell⟩ : ∃ x, w1.cell? ⟨g, j, none⟩ = some x := by
          have h1 := hown1
          unfold OwnS at h1
          rw [hlen] at h1
          have := World.ownsRow.cellAt h1 j (by omega)
          rw [this]
          exact ⟨_, List.getElem?_eq_getElem (by rw [List.length_map, hlen]; exact hlt)⟩
        have hbw' : Below base w (w1.setCell ⟨g, j, none⟩ (.string (markT (k + j)))) := (hbw.trans (hbm.mono (by omega))).setCell (by exact hb1) _
        have HSET := Lib.hid hset
        clear hset hown1
        go_wp2_with fail
        go_roundw
        case rel => exact ⟨j + 1, by omega, by go_num, by go_num, HSET, hbw'⟩
        case measure => simp [intOf]; omega
      · obtain rfl : j = n := by omega
        have hend : Hid (OwnS base wr (.slice (some ⟨g, 0, none⟩) j cap) (marksS k j)) := by
          have h1 := hown.out
          rw [List.drop_of_length_le (by rw [HN.out]; exact Nat.le_refl _), List.append_nil] at h1
          exact h1
        go_wp2_with fail
        go_ret
        exact ⟨ret_int (by simp), hend.out, hbw⟩

theorem heldStringS_1 (b1 : Nat) (v1 : Value) (n : Nat) (w : World) (hn9 : n ≤ 1000000000) (h1 : CellsS b1 w v1 (marksS 1 n)) :
    Calls Try.prog 16 #[v1, .int .i64 1] w (Gives (.int .i64 (1 + n)) w) :=
  heldStringS_any b1 v1 n 1 w (by omega) (by omega) hn9 h1
theorem markStringS_1 (base : Nat) (v : Value) (xs : List ByteArray) (w : World) (hn9 : xs.length ≤ 1000000000) (hbase : base ≤ w.heap.size) (h : OwnS base w v xs) :
    Calls Try.prog 15 #[v, .int .i64 1] w (MarkedS base (1 + xs.length) v (marksS 1 xs.length) w) :=
  markStringS_any base v xs xs.length rfl 1 w (by omega) (by omega) hn9 hbase h
end Go.Proofs.Ytplmbdljhgicfab

/-! ArgS -/
namespace Go.Proofs.Ytplmbdljhgicfab
open Go.RowKit

/-- A slice of texts that came in: it is nil, or leads to a row of 'cap' cells, the first 'len' of which are its elements. -/
def IsStrs (w : World) (a : Option Addr) (len cap : Nat) (ss : List ByteArray) : Prop :=
  (a = none ∧ len = 0 ∧ cap = 0 ∧ ss = []) ∨
  ∃ x, a = some x ∧ len ≤ cap ∧ cap ≤ maxLen ∧ ss.length = cap ∧ (∀ i, i < ss.length → w.cell? (x.add i) = some (.string (ss.getD i ByteArray.empty))) ∧ ∀ s ∈ ss, s.size ≤ maxLen

/-- What can be read of a slice of texts: the cells from an address on. -/
def ReadS (w : World) (g off : Nat) (ss : List ByteArray) : Prop := ∀ i, i < ss.length → w.cell? ⟨g, off + i, none⟩ = some (.string (ss.getD i ⟨#[]⟩))

theorem ReadS.keep {w w' : World} {g off : Nat} {ss : List ByteArray} (h : ReadS w g off ss) (hb : Below w.heap.size w w') : ReadS w' g off ss := by
  intro i hi
  have := h i hi
  exact (hb.cell (p := ⟨g, off + i, none⟩) (World.block_lt_of_cell? w _ this)).trans this

/-- The slice as the walks take it: empty, or readable from an address on. -/
def InS (w : World) (a : Option Addr) (ss : List ByteArray) : Prop := ss = [] ∨ ∃ g off, a = some ⟨g, off, none⟩ ∧ ReadS w g off ss

theorem IsStrs.inS {w : World} {a : Option Addr} {len cap : Nat} {ss : List ByteArray} (h : IsStrs w a len cap ss) : InS w a (ss.take len) ∧ (ss.take len).length = len ∧ (len : Int) ≤ 9223372036854775807 ∧ ∀ s ∈ ss.take len, (s.size : Int) ≤ 9223372036854775807 := by
  rcases h with ⟨rfl, rfl, rfl, rfl⟩ | ⟨x, rfl, h1, h2, h3, h4, h5⟩
  · exact ⟨.inl rfl, rfl, by omega, by simp⟩
  · have hl : (ss.take len).length = len := by rw [List.length_take]; omega
    unfold maxLen at h2 h5
    refine ⟨?_, hl, by omega, fun s hs => by have := h5 s (List.mem_of_mem_take hs); omega⟩
    by_cases h0 : len = 0
    · left; subst h0; rfl
    · right
      obtain ⟨b, off, spot⟩ := x
      have hc := h4 0 (by omega)
      have hspot : spot = none := by simpa [Addr.add] using World.cell?_spot hc
      subst hspot
      refine ⟨b, off, rfl, fun i hi => ?_⟩
      rw [hl] at hi
      have := h4 i (by omega)
      have e : (⟨b, off, none⟩ : Addr).add i = ⟨b, off + i, none⟩ := by
        unfold Addr.add
        split
        · next h => rw [h]; simp
        · rfl
      rw [e] at this
      rw [this]
      simp [List.getD_eq_getElem?_getD, hi]
      rfl

def SizeOk (ss : List ByteArray) (w : World) (e : Ending) (w' : World) : Prop :=
  ∃ r : Int, e = .returned (.int .i64 r) ∧ w = w' ∧ Hid (0 ≤ r → ss.length ≤ 1048576 ∧ ∀ s ∈ ss, s.size ≤ 1048576)

set_option maxHeartbeats 1000000 in
theorem szStringS_any (a : Option Addr) (cap n : Nat) (ss : List ByteArray) (w : World) (hn : ss.length = n) (hn1 : (n : Int) ≤ 9223372036854775807) (hz : ∀ s ∈ ss, (s.size : Int) ≤ 9223372036854775807) (h : InS w a ss) :
    Calls Try.prog 10 #[.slice a n cap, .int .i64 1048576] w (SizeOk ss w) := by
  by_cases hbig : (1048576 : Int) < n
  · have HN : Hid ((0 : Int) ≤ -1 → ss.length ≤ 1048576 ∧ ∀ s ∈ ss, s.size ≤ 1048576) := fun h => absurd h (by omega)
    clear h hz hn
    go_enter Try.func10, Try.ntmps10
    go_wp2_with fail
    go_ret
    exact ⟨_, rfl, rfl, HN⟩
  · have HZ := Lib.hid hz
    have HN := Lib.hid hn
    clear hz hn
    rcases h with h0 | ⟨g, off, rfl, hr⟩
    · subst h0
      have hn0 : n = 0 := HN.out.symm
      subst hn0
      go_enter Try.func10, Try.ntmps10
      go_wp2_with fail
      go_loopw [1, 5] (fun v i wr => v = .int .i64 1048576 ∧ i = .int .i64 0 ∧ wr = w) (fun _ _ _ => 0)
      case atStart => exact ⟨rfl, rfl, rfl⟩
      case round =>
        obtain ⟨rfl, rfl, rfl⟩ := hrel
        go_wp2_with fail
        go_ret
        exact ⟨_, rfl, rfl, fun _ => ⟨by simp, by simp⟩⟩
    · have HR := Lib.hid hr
      clear hr
      go_enter Try.func10, Try.ntmps10
      go_wp2_with fail
      go_loopw [1, 5] (fun v i wr => ∃ (k : Nat) (r : Int), k ≤ n ∧ i = .int .i64 k ∧ v = .int .i64 r ∧ 0 ≤ r ∧ r ≤ 1048576 ∧ wr = w ∧ Hid (∀ s ∈ ss.take k, s.size ≤ 1048576)) (fun _ i _ => n - (intOf i).toNat)
      case atStart => exact ⟨0, _, Nat.zero_le _, rfl, rfl, by omega, by omega, rfl, fun s hs => by simp at hs⟩
      case round =>
        obtain ⟨k, r, hk, rfl, rfl, hr0, hr1, rfl, hall⟩ := hrel
        by_cases hlt : k < n
        · have hlt' : (k : Int) < (n : Int) := by omega
          have hlk : k < ss.length := by have := HN.out; omega
          have c1 := HR.out k hlk
          have hz1 := HZ.out (ss.getD k ⟨#[]⟩) (by rw [List.getD_eq_getElem?_getD, List.getElem?_eq_getElem hlk]; exact List.getElem_mem hlk)
          have htk : ss.take (k + 1) = ss.take k ++ [ss.getD k ⟨#[]⟩] := by rw [List.take_succ_eq_append_getElem hlk]; simp [hlk]
          obtain ⟨s, hs⟩ : ∃ s, s = ss.getD k ⟨#[]⟩ := ⟨_, rfl⟩
          rw [← hs] at c1 hz1 htk
          have HT := Lib.hid htk
          clear hs htk hlk
          by_cases hneg : r - s.size < 0
          · have HNN : Hid ((0 : Int) ≤ -1 → ss.length ≤ 1048576 ∧ ∀ s ∈ ss, s.size ≤ 1048576) := fun h => absurd h (by omega)
            go_wp2_with fail
            go_ret
            exact ⟨_, rfl, rfl, HNN⟩
          · go_wp2_with fail
            go_roundw
            case rel =>
              refine ⟨k + 1, r - s.size, by omega, by go_num, rfl, by omega, by omega, trivial, ?_⟩
              show ∀ s ∈ ss.take (k + 1), s.size ≤ 1048576
              rw [HT.out]
              intro x hx
              rw [List.mem_append] at hx
              rcases hx with hx | hx
              · exact hall.out x hx
              · simp at hx; subst hx; omega
            case measure => simp [intOf]; omega
        · obtain rfl : k = n := by omega
          have hfin : Hid (0 ≤ r → ss.length ≤ 1048576 ∧ ∀ s ∈ ss, s.size ≤ 1048576) := by
            intro _
            have h1 := hall.out
            rw [List.take_of_length_le (by have := HN.out; omega)] at h1
            exact ⟨by have := HN.out; omega, h1⟩
          go_wp2_with fail
          go_ret
          exact ⟨_, rfl, rfl, hfin⟩

theorem InS.keep {w w' : World} {a : Option Addr} {ss : List ByteArray} (h : InS w a ss) (hb : Below w.heap.size w w') : InS w' a ss := by
  rcases h with h | ⟨g, off, rfl, hr⟩
  · exact .inl h
  · exact .inr ⟨g, off, rfl, hr.keep hb⟩

/-- A call that hands back a copy, in new memory. -/
def CopyOf (ss : List ByteArray) (n : Nat) (w : World) (e : Ending) (w' : World) : Prop :=
  ∃ g : Nat, OwnS w.heap.size w' (.slice (some ⟨g, 0, none⟩) n n) ss ∧ Below w.heap.size w w' ∧ e = .returned (.slice (some ⟨g, 0, none⟩) n n)

theorem madeCells_str (n : Nat) : (madeCells (Value.string ⟨#[]⟩).cells (n * 1)).toList = (List.replicate n (⟨#[]⟩ : ByteArray)).map Value.string := by
  rw [List.map_replicate, Nat.mul_one]
  exact toList_madeCells_one _ _

set_option maxHeartbeats 1000000 in
theorem toStringS_any (a : Option Addr) (cap n : Nat) (ss : List ByteArray) (w : World) (hn : ss.length = n) (hn1 : n ≤ 1048576) (h : InS w a ss) :
    Calls Try.prog 12 #[.slice a n cap] w (CopyOf ss n w) := by
  obtain ⟨i0, hi, hz0, hz1, hz2⟩ := info_parts info_str
  have HN := Lib.hid hn
  have HI := Lib.hid h
  clear hn h
  go_enter Try.func12, Try.ntmps12
  go_wp2_with (at_make; refine wpList_make_full _ rfl _ _ 22 rfl w.heap.size 9 i0 (.string ⟨#[]⟩) 1 Try.underlying22 hi hz0 hz1 .i64 .i64 _ _ n rfl rfl rfl rfl (by rw [hz2]; omega) (by unfold maxLen; omega) (Nat.le_refl _) ?_; intro w0 hown0 hgrow0)
  rw [madeCells_str] at hown0
  have hb0 : Below w.heap.size w w0 := (Below.refl _ _).grown hgrow0 (Nat.le_refl _) (fun k hk => by cases hk)
  have hO : OwnS w.heap.size w0 (.slice (some ⟨w.heap.size, 0, none⟩) n n) (List.replicate n (⟨#[]⟩ : ByteArray)) := by
    unfold OwnS; rw [List.length_replicate]; exact hown0
  have HO := Lib.hid hO
  clear hown0 hgrow0 hO
  go_wp2_with fail
  go_loopw [4] (fun i wr => ∃ k : Nat, k ≤ n ∧ i = .int .i64 k ∧ Hid (OwnS w.heap.size wr (.slice (some ⟨w.heap.size, 0, none⟩) n n) (ss.take k ++ List.replicate (n - k) (⟨#[]⟩ : ByteArray))) ∧ Below w.heap.size w wr) (fun i _ => n - (intOf i).toNat)
  case atStart => exact ⟨0, Nat.zero_le _, rfl, HO, hb0⟩
  case round =>
    obtain ⟨k, hk, rfl, hown, hbw⟩ := hrel
    have hlen : (ss.take k ++ List.replicate (n - k) (⟨#[]⟩ : ByteArray)).length = n := by have := HN.out; simp; omega
    by_cases hlt : k < n
    · have hlt' : (k : Int) < (n : Int) := by omega
      have hlk : k < ss.length := by have := HN.out; omega
      rcases HI.out with h0 | ⟨g, off, ha, hr⟩
      · exfalso; rw [h0] at hlk; simp at hlk
      · have c1 := (hr.keep hbw) k hlk
        have hset := OwnS.set hlen hown.out k (ss.getD k ⟨#[]⟩)
        have hnext : (ss.take k ++ List.replicate (n - k) (⟨#[]⟩ : ByteArray)).set k (ss.getD k ⟨#[]⟩) = ss.take (k + 1) ++ List.replicate (n - (k + 1)) (⟨#[]⟩ : ByteArray) := by
          have e : n - k = (n - (k + 1)) + 1 := by omega
          rw [List.set_append_right _ _ (by simp; omega), e, List.replicate_succ]
          have e2 : k - (ss.take k).length = 0 := by simp; omega
          rw [e2, List.set_cons_zero, List.take_succ_eq_append_getElem hlk, List.append_assoc]
          simp [hlk]
        rw [hnext] at hset
        have hfz : wr.frozen? ⟨w.heap.size, k, none⟩ = false := World.ownsRow.frozenAt (by have := hown.out; unfold OwnS at this; rw [hlen] at this; exact this) k
        obtain ⟨x, hcell⟩ : ∃ x, wr.cell? ⟨w.heap.size, k, none⟩ = some x := by
          have h1 := hown.out
          unfold OwnS at h1
          rw [hlen] at h1
          have := World.ownsRow.cellAt h1 k (by omega)
          rw [this]
          exact ⟨_, List.getElem?_eq_getElem (by rw [List.length_map, hlen]; exact hlt)⟩
        obtain ⟨s, hs⟩ : ∃ s, s = ss.getD k ⟨#[]⟩ := ⟨_, rfl⟩
        rw [← hs] at c1 hset
        have hbw' : Below w.heap.size w (wr.setCell ⟨w.heap.size, k, none⟩ (.string s)) := hbw.setCell (Nat.le_refl _) _
        have HSET := Lib.hid hset
        clear hset hs hnext hlk
        subst ha
        go_wp2_with fail
        go_roundw
        case rel => exact ⟨k + 1, by omega, by go_num, HSET, hbw'⟩
        case measure => simp [intOf]; omega
    · obtain rfl : k = n := by omega
      have hend : Hid (OwnS w.heap.size wr (.slice (some ⟨w.heap.size, 0, none⟩) k k) ss) := by
        have h1 := hown.out
        rw [Nat.sub_self, List.replicate_zero, List.append_nil, List.take_of_length_le (by have := HN.out; omega)] at h1
        exact h1
      go_wp2_with fail
      go_ret
      exact ⟨_, hend.out, hbw, rfl⟩
end Go.Proofs.Ytplmbdljhgicfab

/-! Tail -/
namespace Go.Proofs.Ytplmbdljhgicfab
open Go.RowKit

theorem CellsI.len {base : Nat} {w : World} {v : Value} {xs : List Int} (h : CellsI base w v xs) : (xs.length : Int) ≤ 9223372036854775807 := by
  rcases h with ⟨_, rfl⟩ | ⟨g, cap, _, _, _, h1, h2, _⟩
  · simp
  · unfold maxLen at h2; omega

theorem CellsI.drewN {base : Nat} {w : World} {v : Value} {xs : List Int} (h : CellsI base w v xs) (n : Nat) : CellsI base (w.drewN n) v xs := h

set_option maxHeartbeats 1000000 in
theorem eqIntS_any (b1 b2 : Nat) (v1 v2 : Value) (xs : List Int) (w : World) (h1 : CellsI b1 w v1 xs) (h2 : CellsI b2 w v2 xs) :
    Calls Try.prog 23 #[v1, v2] w (Quietly (.bool true) w) := by
  have hl := h1.len
  rcases h1 with ⟨rfl, rfl⟩ | ⟨g, cap, rfl, hb1, hg1, hc1, hm1, hx1, _⟩
  · rcases h2 with ⟨rfl, _⟩ | ⟨g, cap, rfl, hb1, hg1, hc1, hm1, hx1, _⟩
    all_goals
      go_enter Try.func23, Try.ntmps23
      go_wp2_with fail
      go_loopw [5] (fun i wr => i = .int .i64 0 ∧ wr = w) (fun _ _ => 0)
      case atStart => exact ⟨rfl, rfl⟩
      case round =>
        obtain ⟨rfl, rfl⟩ := hrel
        go_wp2_with fail
        go_ret
        exact ⟨rfl, 0, rfl⟩
  · rcases h2 with ⟨rfl, rfl⟩ | ⟨g2, cap2, rfl, hb2, hg2, hc2, hm2, hx2, _⟩
    · go_enter Try.func23, Try.ntmps23
      go_wp2_with fail
      go_loopw [5] (fun i wr => i = .int .i64 0 ∧ wr = w) (fun _ _ => 0)
      case atStart => exact ⟨rfl, rfl⟩
      case round =>
        obtain ⟨rfl, rfl⟩ := hrel
        go_wp2_with fail
        go_ret
        exact ⟨rfl, 0, rfl⟩
    · have HX1 := Lib.hid hx1
      have HX2 := Lib.hid hx2
      clear hx1 hx2
      go_enter Try.func23, Try.ntmps23
      go_wp2_with fail
      go_loopw [5] (fun i wr => ∃ k d : Nat, k ≤ xs.length ∧ i = .int .i64 k ∧ wr = w.drewN d) (fun i _ => xs.length - (intOf i).toNat)
      case atStart => exact ⟨0, 0, Nat.zero_le _, rfl, rfl⟩
      case round =>
        obtain ⟨k, d, hk, rfl, rfl⟩ := hrel
        by_cases hlt : k < xs.length
        · have hlt' : (k : Int) < (xs.length : Int) := by omega
          have c1 := HX1.out k hlt
          have c2 := HX2.out k hlt
          obtain ⟨x, hx⟩ : ∃ x, x = xs.getD k 0 := ⟨_, rfl⟩
          rw [← hx] at c1 c2
          clear hx
          go_wp2_with fail
          go_quiet (fail)
          go_wp2_with fail
          go_roundw
          case rel => exact ⟨k + 1, _, by omega, by go_num, rfl⟩
          case measure => simp [intOf]; omega
        · obtain rfl : k = xs.length := by omega
          go_wp2_with fail
          go_ret
          exact ⟨rfl, _, rfl⟩

/-- k, k + 1, .. : n numbers. -/
def marks (k : Int) (n : Nat) : List Int := (List.range n).map fun (i : Nat) => k + (i : Int)
theorem marks_length (k : Int) (n : Nat) : (marks k n).length = n := by simp [marks]
theorem marks_getD (k : Int) {n i : Nat} (h : i < n) : (marks k n).getD i 0 = k + i := by simp [marks, h]

set_option maxHeartbeats 1000000 in
theorem heldIntS_any (b1 : Nat) (v1 : Value) (n : Nat) (k : Int) (w : World) (hk0 : 0 ≤ k) (hk1 : k ≤ 1000000000) (hn9 : n ≤ 1000000000) (h1 : CellsI b1 w v1 (marks k n)) :
    Calls Try.prog 38 #[v1, .int .i64 k] w (Quietly (.int .i64 (k + n)) w) := by
  have hl := h1.len
  rcases h1 with ⟨rfl, hn⟩ | ⟨g, cap, rfl, hb1, hg1, hc1, hm1, hx1, _⟩
  · have hn0 : n = 0 := by have := congrArg List.length hn; simpa [marks_length] using this
    subst hn0
    clear hn
    go_enter Try.func38, Try.ntmps38
    go_wp2_with fail
    go_loopw [1, 5] (fun v i wr => v = .int .i64 k ∧ i = .int .i64 0 ∧ wr = w) (fun _ _ _ => 0)
    case atStart => exact ⟨rfl, rfl, rfl⟩
    case round =>
      obtain ⟨rfl, rfl, rfl⟩ := hrel
      go_wp2_with fail
      go_ret
      exact ⟨ret_int (by simp), 0, rfl⟩
  · rw [marks_length] at hx1 hc1 hl ⊢
    have HX1 := Lib.hid hx1
    clear hx1
    go_enter Try.func38, Try.ntmps38
    go_wp2_with fail
    go_loopw [1, 5] (fun v i wr => ∃ j d : Nat, j ≤ n ∧ i = .int .i64 j ∧ v = .int .i64 (k + j) ∧ wr = w.drewN d) (fun _ i _ => n - (intOf i).toNat)
    case atStart => exact ⟨0, 0, Nat.zero_le _, rfl, by simp, rfl⟩
    case round =>
      obtain ⟨j, d, hj, rfl, rfl, rfl⟩ := hrel
      by_cases hlt : j < n
      · have hlt' : (j : Int) < (n : Int) := by omega
        have c1 := HX1.out j hlt
        rw [marks_getD k hlt] at c1
        go_wp2_with fail
        go_roundw
        case rel => exact ⟨j + 1, _, by omega, by go_num, by go_num, rfl⟩
        case measure => simp [intOf]; omega
      · obtain rfl : j = n := by omega
        go_wp2_with fail
        go_ret
        exact ⟨rfl, _, rfl⟩
theorem marks_set (k : Int) (xs : List Int) (j : Nat) (h : j < xs.length) : (marks k j ++ xs.drop j).set j (k + j) = marks k (j + 1) ++ xs.drop (j + 1) := by
  have hm := marks_length k j
  have e1 : marks k (j + 1) = marks k j ++ [k + j] := by simp [marks, List.range_succ]
  rw [List.set_append_right _ _ (by omega), hm, Nat.sub_self, e1, List.append_assoc]
  congr 1
  rw [List.drop_eq_getElem_cons h]
  rfl

theorem OwnI.set {base : Nat} {w : World} {g cap : Nat} {xs : List Int} {n : Nat} (hn : xs.length = n) (h : OwnI base w (.slice (some ⟨g, 0, none⟩) n cap) xs) (j : Nat) (m : Int) :
    OwnI base (w.setCell ⟨g, j, none⟩ (.int .i64 m)) (.slice (some ⟨g, 0, none⟩) n cap) (xs.set j m) := by
  unfold OwnI at *
  subst hn
  rw [List.length_set, List.map_set]
  exact (World.ownsRow.stored h j _).1

/-- A call that hands back a number, and leaves the slice v with other numbers. -/
def Marked (base : Nat) (r : Int) (v : Value) (xs : List Int) (w : World) (e : Ending) (w' : World) : Prop := e = .returned (.int .i64 r) ∧ OwnI base w' v xs ∧ Below base w w'

set_option maxHeartbeats 1000000 in
theorem markIntS_any (base : Nat) (v : Value) (xs : List Int) (n : Nat) (hn : xs.length = n) (k : Int) (w : World) (hk0 : 0 ≤ k) (hk1 : k ≤ 1000000000) (hn9 : n ≤ 1000000000) (h : OwnI base w v xs) :
    Calls Try.prog 24 #[v, .int .i64 k] w (Marked base (k + n) v (marks k n) w) := by
  have hb0 := Below.refl base w
  rcases h.cells with ⟨rfl, rfl⟩ | ⟨g, cap, rfl, hb1, hg1, hc1, hm1, hx1, hf1⟩
  · obtain rfl : n = 0 := hn.symm
    have H := Lib.hid h
    clear h hn
    go_enter Try.func24, Try.ntmps24
    go_wp2_with fail
    go_loopw [1, 5] (fun v i wr => v = .int .i64 k ∧ i = .int .i64 0 ∧ wr = w) (fun _ _ _ => 0)
    case atStart => exact ⟨rfl, rfl, rfl⟩
    case round =>
      obtain ⟨rfl, rfl, rfl⟩ := hrel
      go_wp2_with fail
      go_ret
      exact ⟨ret_int (by simp), H.out, hb0⟩
  · rw [hn] at hc1 h ⊢
    clear hx1 hf1
    have H := Lib.hid h
    have HN := Lib.hid hn
    clear h hn
    go_enter Try.func24, Try.ntmps24
    go_wp2_with fail
    go_loopw [1, 5] (fun v i wr => ∃ j : Nat, j ≤ n ∧ i = .int .i64 j ∧ v = .int .i64 (k + j) ∧ Hid (OwnI base wr (.slice (some ⟨g, 0, none⟩) n cap) (marks k j ++ xs.drop j)) ∧ Below base w wr) (fun _ i _ => n - (intOf i).toNat)
    case atStart => exact ⟨0, Nat.zero_le _, rfl, by simp, by simpa [marks] using H, hb0⟩
    case round =>
      obtain ⟨j, hj, rfl, rfl, hown, hbw⟩ := hrel
      have hlen : (marks k j ++ xs.drop j).length = n := by have := HN.out; rw [List.length_append, marks_length, List.length_drop]; omega
      by_cases hlt : j < n
      · have hlt' : (j : Int) < (n : Int) := by omega
        have hset := OwnI.set hlen hown.out j (k + j)
        rw [marks_set k xs j (by rw [HN.out]; exact hlt)] at hset
        have hcells := hown.out.cells
        have hfz : wr.frozen? ⟨g, j, none⟩ = false := World.ownsRow.frozenAt (by have := hown.out; unfold OwnI at this; rw [hlen] at this; exact this) j
        obtain ⟨x, hcell⟩ : ∃ x, wr.cell? ⟨g, j, none⟩ = some x := by
          have h1 := hown.out
          unfold OwnI at h1
          rw [hlen] at h1
          have := World.ownsRow.cellAt h1 j (by omega)
          rw [this]
          exact ⟨_, List.getElem?_eq_getElem (by rw [List.length_map, hlen]; exact hlt)⟩
        have hbw' : Below base w (wr.setCell ⟨g, j, none⟩ (.int .i64 (k + j))) := hbw.setCell (by exact hb1) _
        have HSET := Lib.hid hset
        clear hset hcells
        go_wp2_with fail
        go_roundw
        case rel => exact ⟨j + 1, by omega, by go_num, by go_num, HSET, hbw'⟩
        case measure => simp [intOf]; omega
      · obtain rfl : j = n := by omega
        have hend : Hid (OwnI base wr (.slice (some ⟨g, 0, none⟩) j cap) (marks k j)) := by
          have h1 := hown.out
          rw [List.drop_of_length_le (by rw [HN.out]; exact Nat.le_refl _), List.append_nil] at h1
          exact h1
        go_wp2_with fail
        go_ret
        exact ⟨rfl, hend.out, hbw⟩

end Go.Proofs.Ytplmbdljhgicfab

/-! ArgI -/
namespace Go.Proofs.Ytplmbdljhgicfab
open Go.RowKit

/-- A slice of integers that came in: it is nil, or leads to a row of 'cap' cells, the first 'len' of which are its elements. -/
def IsInts (w : World) (a : Option Addr) (len cap : Nat) (ss : List Int) : Prop :=
  (a = none ∧ len = 0 ∧ cap = 0 ∧ ss = []) ∨
  ∃ x, a = some x ∧ len ≤ cap ∧ cap ≤ maxLen ∧ ss.length = cap ∧ (∀ i, i < ss.length → w.cell? (x.add i) = some (.int .i64 (ss.getD i 0))) ∧ ∀ s ∈ ss, (Lit.int .i64 s).wf = true

/-- What can be read of a slice of integers: the cells from an address on. -/
def ReadI (w : World) (g off : Nat) (ss : List Int) : Prop := ∀ i, i < ss.length → w.cell? ⟨g, off + i, none⟩ = some (.int .i64 (ss.getD i 0))

theorem ReadI.keep {w w' : World} {g off : Nat} {ss : List Int} (h : ReadI w g off ss) (hb : Below w.heap.size w w') : ReadI w' g off ss := by
  intro i hi
  have := h i hi
  exact (hb.cell (p := ⟨g, off + i, none⟩) (World.block_lt_of_cell? w _ this)).trans this

/-- The slice as the walks take it: empty, or readable from an address on. -/
def InI (w : World) (a : Option Addr) (ss : List Int) : Prop := ss = [] ∨ ∃ g off, a = some ⟨g, off, none⟩ ∧ ReadI w g off ss

theorem IsInts.inI {w : World} {a : Option Addr} {len cap : Nat} {ss : List Int} (h : IsInts w a len cap ss) : InI w a (ss.take len) ∧ (ss.take len).length = len ∧ (len : Int) ≤ 9223372036854775807 ∧ ∀ s ∈ ss.take len, -9223372036854775808 ≤ s ∧ s ≤ 9223372036854775807 := by
  rcases h with ⟨rfl, rfl, rfl, rfl⟩ | ⟨x, rfl, h1, h2, h3, h4, h5⟩
  · exact ⟨.inl rfl, rfl, by omega, by simp⟩
  · have hl : (ss.take len).length = len := by rw [List.length_take]; omega
    unfold maxLen at h2
    refine ⟨?_, hl, by omega, fun s hs => i64_bounds (h5 s (List.mem_of_mem_take hs))⟩
    by_cases h0 : len = 0
    · left; subst h0; rfl
    · right
      obtain ⟨b, off, spot⟩ := x
      have hc := h4 0 (by omega)
      have hspot : spot = none := by simpa [Addr.add] using World.cell?_spot hc
      subst hspot
      refine ⟨b, off, rfl, fun i hi => ?_⟩
      rw [hl] at hi
      have := h4 i (by omega)
      have e : (⟨b, off, none⟩ : Addr).add i = ⟨b, off + i, none⟩ := by
        unfold Addr.add
        split
        · next h => rw [h]; simp
        · rfl
      rw [e] at this
      rw [this]
      simp [List.getD_eq_getElem?_getD, hi]

theorem InI.keep {w w' : World} {a : Option Addr} {ss : List Int} (h : InI w a ss) (hb : Below w.heap.size w w') : InI w' a ss := by
  rcases h with h | ⟨g, off, rfl, hr⟩
  · exact .inl h
  · exact .inr ⟨g, off, rfl, hr.keep hb⟩

/-- A call that hands back a copy, in new memory. -/
def CopyOfI (ss : List Int) (n : Nat) (w : World) (e : Ending) (w' : World) : Prop :=
  ∃ g : Nat, OwnI w.heap.size w' (.slice (some ⟨g, 0, none⟩) n n) ss ∧ Below w.heap.size w w' ∧ e = .returned (.slice (some ⟨g, 0, none⟩) n n)

theorem madeCells_int (n : Nat) : (madeCells (Value.int .i64 0).cells (n * 1)).toList = (List.replicate n (0 : Int)).map (Value.int .i64) := by
  rw [List.map_replicate, Nat.mul_one]
  exact toList_madeCells_one _ _

set_option maxHeartbeats 1000000 in
theorem toIntS_any (a : Option Addr) (cap n : Nat) (ss : List Int) (w : World) (hn : ss.length = n) (hn1 : n ≤ 1048576) (h : InI w a ss) :
    Calls Try.prog 21 #[.slice a n cap] w (CopyOfI ss n w) := by
  obtain ⟨i0, hi, hz0, hz1, hz2⟩ := info_parts info_int
  have HN := Lib.hid hn
  have HI := Lib.hid h
  clear hn h
  go_enter Try.func21, Try.ntmps21
  go_wp2_with (at_make; refine wpList_make_full _ rfl _ _ 33 rfl w.heap.size 3 i0 (.int .i64 0) 1 Try.underlying33 hi hz0 hz1 .i64 .i64 _ _ n rfl rfl rfl rfl (by rw [hz2]; omega) (by unfold maxLen; omega) (Nat.le_refl _) ?_; intro w0 hown0 hgrow0)
  rw [madeCells_int] at hown0
  have hb0 : Below w.heap.size w w0 := (Below.refl _ _).grown hgrow0 (Nat.le_refl _) (fun k hk => by cases hk)
  have hO : OwnI w.heap.size w0 (.slice (some ⟨w.heap.size, 0, none⟩) n n) (List.replicate n (0 : Int)) := by
    unfold OwnI; rw [List.length_replicate]; exact hown0
  have HO := Lib.hid hO
  clear hown0 hgrow0 hO
  go_wp2_with fail
  go_loopw [4] (fun i wr => ∃ k : Nat, k ≤ n ∧ i = .int .i64 k ∧ Hid (OwnI w.heap.size wr (.slice (some ⟨w.heap.size, 0, none⟩) n n) (ss.take k ++ List.replicate (n - k) (0 : Int))) ∧ Below w.heap.size w wr) (fun i _ => n - (intOf i).toNat)
  case atStart => exact ⟨0, Nat.zero_le _, rfl, HO, hb0⟩
  case round =>
    obtain ⟨k, hk, rfl, hown, hbw⟩ := hrel
    have hlen : (ss.take k ++ List.replicate (n - k) (0 : Int)).length = n := by have := HN.out; simp; omega
    by_cases hlt : k < n
    · have hlt' : (k : Int) < (n : Int) := by omega
      have hlk : k < ss.length := by have := HN.out; omega
      rcases HI.out with h0 | ⟨g, off, ha, hr⟩
      · exfalso; rw [h0] at hlk; simp at hlk
      · have c1 := (hr.keep hbw) k hlk
        have hset := OwnI.set hlen hown.out k (ss.getD k 0)
        have hnext : (ss.take k ++ List.replicate (n - k) (0 : Int)).set k (ss.getD k 0) = ss.take (k + 1) ++ List.replicate (n - (k + 1)) (0 : Int) := by
          have e : n - k = (n - (k + 1)) + 1 := by omega
          rw [List.set_append_right _ _ (by simp; omega), e, List.replicate_succ]
          have e2 : k - (ss.take k).length = 0 := by simp; omega
          rw [e2, List.set_cons_zero, List.take_succ_eq_append_getElem hlk, List.append_assoc]
          simp [hlk]
        rw [hnext] at hset
        have hfz : wr.frozen? ⟨w.heap.size, k, none⟩ = false := World.ownsRow.frozenAt (by have := hown.out; unfold OwnI at this; rw [hlen] at this; exact this) k
        obtain ⟨x, hcell⟩ : ∃ x, wr.cell? ⟨w.heap.size, k, none⟩ = some x := by
          have h1 := hown.out
          unfold OwnI at h1
          rw [hlen] at h1
          have := World.ownsRow.cellAt h1 k (by omega)
          rw [this]
          exact ⟨_, List.getElem?_eq_getElem (by rw [List.length_map, hlen]; exact hlt)⟩
        obtain ⟨s, hs⟩ : ∃ s, s = ss.getD k 0 := ⟨_, rfl⟩
        rw [← hs] at c1 hset
        have hbw' : Below w.heap.size w (wr.setCell ⟨w.heap.size, k, none⟩ (.int .i64 s)) := hbw.setCell (Nat.le_refl _) _
        have HSET := Lib.hid hset
        clear hset hs hnext hlk
        subst ha
        go_wp2_with fail
        go_roundw
        case rel => exact ⟨k + 1, by omega, by go_num, HSET, hbw'⟩
        case measure => simp [intOf]; omega
    · obtain rfl : k = n := by omega
      have hend : Hid (OwnI w.heap.size wr (.slice (some ⟨w.heap.size, 0, none⟩) k k) ss) := by
        have h1 := hown.out
        rw [Nat.sub_self, List.replicate_zero, List.append_nil, List.take_of_length_le (by have := HN.out; omega)] at h1
        exact h1
      go_wp2_with fail
      go_ret
      exact ⟨_, hend.out, hbw, rfl⟩
end Go.Proofs.Ytplmbdljhgicfab
