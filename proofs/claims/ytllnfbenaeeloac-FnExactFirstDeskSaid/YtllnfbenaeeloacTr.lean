/- Trees as plain data: their texts, and how a text is read. No program is named here. -/
import Derived.Test.YtllnfbenaeeloacPure
namespace Go.Proofs.Ytllnfbenaeeloac

inductive Tr where
  | lf
  | nd (l r : Tr)

namespace Tr
def text : Tr → List UInt8
  | lf => [46]
  | nd l r => 40 :: (l.text ++ (r.text ++ [41]))
def carets : Tr → Nat
  | lf => 0
  | nd l r => l.carets + r.carets + 1
def str (t : Tr) : ByteArray := ⟨t.text.toArray⟩
end Tr

theorem Tr.text_len (t : Tr) : t.text.length = 3 * t.carets + 1 := by
  induction t with
  | lf => rfl
  | nd l r ihl ihr => simp [Tr.text, Tr.carets, ihl, ihr]; omega

theorem Tr.str_list (t : Tr) : t.str.data.toList = t.text := by simp [Tr.str]
theorem Tr.str_size (t : Tr) : t.str.size = 3 * t.carets + 1 := by
  rw [← Tr.text_len]; show t.str.data.size = _; simp [Tr.str]
theorem ba_ext {a b : ByteArray} (h : a.data.toList = b.data.toList) : a = b := by
  cases a; cases b; simpa using h

/-- Reading a tree at the beginning of a text. -/
def parseN : Nat → List UInt8 → Option (Tr × List UInt8)
  | 0, _ => none
  | _ + 1, [] => none
  | k + 1, c :: r =>
    if c = 46 then some (.lf, r)
    else if c = 40 then
      match parseN k r with
      | none => none
      | some (t1, r1) =>
        match parseN k r1 with
        | none => none
        | some (t2, r2) =>
          match r2 with
          | [] => none
          | d :: r3 => if d = 41 then some (.nd t1 t2, r3) else none
    else none

theorem parseN_sound (k : Nat) : ∀ (l : List UInt8) (t : Tr) (r : List UInt8), parseN k l = some (t, r) → l = t.text ++ r := by
  induction k with
  | zero => intro l t r h; simp [parseN] at h
  | succ k ih =>
    intro l t r h
    match l with
    | [] => simp [parseN] at h
    | c :: l' =>
      rw [parseN] at h
      split at h
      · next hc => simp at h; obtain ⟨rfl, rfl⟩ := h; simp [Tr.text, hc]
      · split at h
        · next hc =>
          split at h
          · simp at h
          · next t1 r1 h1 =>
            split at h
            · simp at h
            · next t2 r2 h2 =>
              split at h
              · simp at h
              · next d r3 =>
                split at h
                · next hd =>
                  simp at h
                  obtain ⟨rfl, rfl⟩ := h
                  rw [ih _ _ _ h1, ih _ _ _ h2, hc, hd]
                  simp [Tr.text]
                · simp at h
        · simp at h

theorem parseN_complete (t : Tr) : ∀ (k : Nat) (r : List UInt8), t.text.length ≤ k → parseN k (t.text ++ r) = some (t, r) := by
  induction t with
  | lf => intro k r h; cases k with | zero => simp [Tr.text] at h | succ k => simp [Tr.text, parseN]
  | nd a b iha ihb =>
    intro k r h
    cases k with
    | zero => simp [Tr.text] at h
    | succ k =>
      have h' : a.text.length + b.text.length + 2 ≤ k + 1 := by simp [Tr.text] at h; omega
      show parseN (k + 1) (40 :: (a.text ++ (b.text ++ [41])) ++ r) = _
      have e : (40 : UInt8) :: (a.text ++ (b.text ++ [41])) ++ r = 40 :: (a.text ++ (b.text ++ (41 :: r))) := by simp
      rw [e, parseN, if_neg (by decide), if_pos rfl, iha k _ (by omega)]
      show (match parseN k (b.text ++ (41 :: r)) with | none => none | some (t2, r2) => _) = _
      rw [ihb k _ (by omega)]
      simp

theorem Tr.text_inj {t u : Tr} {r q : List UInt8} (h : t.text ++ r = u.text ++ q) : t = u ∧ r = q := by
  have h1 := parseN_complete t (t.text.length + u.text.length) r (by omega)
  have h2 := parseN_complete u (t.text.length + u.text.length) q (by omega)
  rw [h, h2] at h1
  simp at h1
  exact ⟨h1.1.symm, h1.2.symm⟩

theorem parseN_len {k : Nat} {l : List UInt8} {t : Tr} {r : List UInt8} (h : parseN k l = some (t, r)) : r.length + 1 ≤ l.length := by
  have := parseN_sound k l t r h
  have := t.text_len
  subst l; simp; omega

end Go.Proofs.Ytllnfbenaeeloac
