/- Walks: impl.readTwoAlike, spec.brBoth. -/
import Derived.Test.YtkoebmdocenlkaaCh5
import Derived.Test.YtkoebmdocenlkaaCh6
import Derived.Test.YtkoebmdocenlkaaChP
import Derived.Test.YtkoebmdocenlkaaPair
import Derived.Test.YtkoebmdocenlkaaTailS
namespace Go.Proofs.Ytkoebmdocenlkaa
open Go.RowKit

/-- Two trees with as many carets. -/
def twoO (a b : ByteArray) : Option (Tr × Tr) :=
  match treeOf a, treeOf b with
  | some t, some u => if t.carets = u.carets then some (t, u) else none
  | _, _ => none
theorem twoO_some {a b : ByteArray} {p : Tr × Tr} (h : twoO a b = some p) : a = p.1.str ∧ b = p.2.str ∧ p.1.carets ≤ 8 ∧ p.2.carets ≤ 8 ∧ p.1.carets = p.2.carets := by
  unfold twoO at h
  split at h
  · next t u ht hu =>
    split at h
    · next hc => injection h with h; subst h; exact ⟨(treeOf_some ht).1, (treeOf_some hu).1, (treeOf_some ht).2, (treeOf_some hu).2, hc⟩
    · simp at h
  · simp at h
theorem twoO_pair (a b : ByteArray) : (twoO a b).isSome = (pairOf a b).isSome := by
  unfold twoO
  cases h : treeOf a with
  | none => simp [pairOf, h]
  | some t =>
    cases k : treeOf b with
    | none => simp [pairOf, h, k]
    | some u =>
      rw [pairOf_isSome a b t u h k]
      simp only
      by_cases hc : t.carets = u.carets
      · simp [hc]
      · rw [if_neg hc]; symm; simp; omega

theorem brBoth_any (a b : ByteArray) (w : World) (ha : a.size ≤ 9223372036854775806) (hb : b.size ≤ 9223372036854775806) :
    Calls Try.prog 68 #[.string a, .string b] w (Gives (.bool (twoO a b).isSome) w) := by
  rw [twoO_pair]
  have hg := fun w => prGood_any a b w ha hb
  generalize (pairOf a b).isSome = ok at *
  go_enter Try.func68, Try.ntmps68
  go_wp2_with fail
  refine (hg _).mono ?_; rintro e w1 ⟨rfl, hb1⟩
  go_wp2_with fail
  go_ret
  exact ⟨rfl, hb1⟩

theorem readTwo_no (a b : ByteArray) (w : World) (ha : a.size ≤ 9223372036854775806) (hb : b.size ≤ 9223372036854775806) (h : twoO a b = none) :
    Calls Try.prog 69 #[.string a, .string b] w (TreesNo w) := by
  cases h1 : treeOf a with
  | none =>
    have H := Lib.hid h1
    clear h h1
    go_enter Try.func69, Try.ntmps69
    go_wp2_with fail
    refine (trees_no1 a b _ ha H.out).mono ?_; rintro e w1 ⟨hb1, rfl⟩
    go_wp2_with fail
    go_ret3
    exact ⟨hb1, rfl⟩
  | some t =>
    obtain ⟨rfl, hc⟩ := treeOf_some h1
    cases h2 : treeOf b with
    | none =>
      have H := Lib.hid h2
      clear h h1 h2
      go_enter Try.func69, Try.ntmps69
      go_wp2_with fail
      refine (trees_no2 t b _ hc hb H.out).mono ?_; rintro e w1 ⟨hb1, rfl⟩
      go_wp2_with fail
      go_ret3
      exact ⟨hb1, rfl⟩
    | some u =>
      obtain ⟨rfl, hd⟩ := treeOf_some h2
      have hne : ¬ t.carets = u.carets := by
        unfold twoO at h
        rw [h1, h2] at h
        simp only at h
        intro e
        rw [if_pos e] at h
        cases h
      have hne2 : (((t.carets : Nat) : Int) != (u.carets : Nat)) = true := by simp; omega
      have C := fun w => countCarets_any t w (by omega)
      have D := fun w => countCarets_any u w (by omega)
      clear h h1 h2 hne
      have HT := Lib.hid (fun w => trees_yes t u w hc hd)
      generalize t.carets = m at *
      generalize u.carets = n at *
      go_enter Try.func69, Try.ntmps69
      go_wp2_with fail
      refine (HT.out _).mono ?_; rintro e w1 ⟨b1, c1, _, _, hb1, rfl⟩
      go_wp2_with fail
      refine (C _).mono ?_; rintro e w2 ⟨rfl, hb2⟩
      go_wp2_with fail
      refine (D _).mono ?_; rintro e w3 ⟨rfl, hb3⟩
      go_wp2_with fail
      go_ret3
      exact ⟨nx (nx hb1 hb2) hb3, rfl⟩

theorem readTwo_yes (t u : Tr) (w : World) (hc : t.carets ≤ 8) (hd : u.carets ≤ 8) (he : t.carets = u.carets) :
    Calls Try.prog 69 #[.string t.str, .string u.str] w (TreesOk t u w) := by
  have hne2 : (((t.carets : Nat) : Int) != (u.carets : Nat)) = false := by simp; omega
  have C := fun w => countCarets_any t w (by omega)
  have D := fun w => countCarets_any u w (by omega)
  have HT := Lib.hid (fun w => trees_yes t u w hc hd)
  clear he
  generalize t.carets = m at *
  generalize u.carets = n at *
  go_enter Try.func69, Try.ntmps69
  go_wp2_with fail
  refine (HT.out _).mono ?_; rintro e w1 ⟨b1, c1, hn1, hn2, hb1, rfl⟩
  have HN1 := Lib.hid hn1
  have HN2 := Lib.hid hn2
  clear hn1 hn2
  go_wp2_with fail
  refine (C _).mono ?_; rintro e w2 ⟨rfl, hb2⟩
  go_wp2_with fail
  refine (D _).mono ?_; rintro e w3 ⟨rfl, hb3⟩
  go_wp2_with fail
  go_ret3
  exact ⟨b1, c1, HN1.out.keep (nx hb2 hb3), HN2.out.keep (nx hb2 hb3), nx (nx hb1 hb2) hb3, rfl⟩
end Go.Proofs.Ytkoebmdocenlkaa
