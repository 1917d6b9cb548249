/- Walks: spec.brGiven, impl.turnedTree. -/
import Derived.Test.YtkoebmdocenlkaaBr2
namespace Go.Proofs.Ytkoebmdocenlkaa
open Go.RowKit

/-- A tree rotated at an address, if there are both. -/
def turnO (k : Bool) (a b : ByteArray) : Option Tr :=
  match treeOf a with
  | some t => t.rotAt k b.data.toList
  | none => none
theorem turnO_carets {k : Bool} {a b : ByteArray} {u : Tr} (h : turnO k a b = some u) : u.carets ≤ 8 := by
  unfold turnO at h
  split at h
  · next t ht => have := (treeOf_some ht).2; have := rotAt_carets _ h; omega
  · simp at h

theorem brGiven_any (k : Bool) (a b : ByteArray) (w : World) (ha : a.size ≤ 9223372036854775806) (hb : b.size ≤ 9223372036854775806) :
    Calls Try.prog 48 #[.string a, .string b, .bool k] w (Gives (ansV (turnO k a b)) w) := by
  cases h : treeOf a with
  | none =>
    rw [show turnO k a b = none by simp [turnO, h]]
    have H := Lib.hid h
    clear h
    go_enter Try.func48, Try.ntmps48
    go_wp2_with fail
    refine (trIs_no a _ ha H.out).mono ?_; rintro e w1 ⟨rfl, rfl⟩
    go_wp2_with fail
    go_ret2
    exact ⟨rfl, Below.refl _ _⟩
  | some t =>
    obtain ⟨rfl, hc⟩ := treeOf_some h
    rw [show turnO k t.str b = t.rotAt k b.data.toList by simp [turnO, h]]
    clear h
    by_cases hz : (b.size : Int) ≤ 8
    · have hA := fun w => brAt_any k _ t b w rfl (by omega) (by rw [← Lib.size_eq]; omega)
      cases hg : t.rotAt k b.data.toList with
      | none =>
        rw [hg] at hA
        have hA' : ∀ w, Calls Try.prog 81 #[.string t.str, .string b, .bool k] w (fun e w' => ∃ s', Below w.heap.size w w' ∧ e = .returned (.tuple #[.string s', .bool false])) := fun w => (hA w).mono fun e w' ⟨v, ⟨s', h1, h2⟩, h3, h4⟩ => ⟨s', h3, by rw [h4, h2]⟩
        clear hA hg
        go_enter Try.func48, Try.ntmps48
        go_wp2_with fail
        refine (trIs_yes t _ hc).mono ?_; rintro e w1 ⟨rfl, rfl⟩
        go_wp2_with fail
        refine (hA' _).mono ?_; rintro e w1 ⟨s', hb1, rfl⟩
        go_wp2_with fail
        go_ret2
        exact ⟨rfl, hb1⟩
      | some u =>
        rw [hg] at hA
        have hA' : ∀ w, Calls Try.prog 81 #[.string t.str, .string b, .bool k] w (fun e w' => Below w.heap.size w w' ∧ e = .returned (.tuple #[.string u.str, .bool true])) := fun w => (hA w).mono fun e w' ⟨v, h2, h3, h4⟩ => ⟨h3, by rw [h4, h2]⟩
        clear hA hg
        go_enter Try.func48, Try.ntmps48
        go_wp2_with fail
        refine (trIs_yes t _ hc).mono ?_; rintro e w1 ⟨rfl, rfl⟩
        go_wp2_with fail
        refine (hA' _).mono ?_; rintro e w1 ⟨hb1, rfl⟩
        go_wp2_with fail
        go_ret2
        exact ⟨rfl, hb1⟩
    · rw [rotAt_long (t := t) b.data.toList (by rw [← Lib.size_eq]; omega)]
      go_enter Try.func48, Try.ntmps48
      go_wp2_with fail
      refine (trIs_yes t _ hc).mono ?_; rintro e w1 ⟨rfl, rfl⟩
      go_wp2_with fail
      go_ret2
      exact ⟨rfl, Below.refl _ _⟩

theorem turnedTree_any (k : Bool) (a b : ByteArray) (w : World) (ha : a.size ≤ 9223372036854775806) (hb : b.size ≤ 1048576) :
    Calls Try.prog 49 #[.string a, .string b, .func (Fn.func (turnF k)) #[] #[]] w (Gives (ansV (turnO k a b)) w) := by
  cases h : treeOf a with
  | none =>
    rw [show turnO k a b = none by simp [turnO, h]]
    have H := Lib.hid h
    clear h
    go_enter Try.func49, Try.ntmps49
    go_wp2_with fail
    refine (read_no a _ ha H.out).mono ?_; rintro e w1 ⟨hb1, rfl⟩
    go_wp2_with fail
    go_ret2
    exact ⟨rfl, hb1⟩
  | some t =>
    obtain ⟨rfl, hc⟩ := treeOf_some h
    rw [show turnO k t.str b = t.rotAt k b.data.toList by simp [turnO, h]]
    clear h
    have hat := fun c w h => turnedAt_any k _ t c b w rfl h (by rw [← Lib.size_eq]; omega)
    cases hu : t.rotAt k b.data.toList with
    | none =>
      rw [hu] at hat
      have hat' : ∀ c w, NodeAt w t c → Calls Try.prog 82 #[.pointer (some ⟨c, 0, none⟩), .string b, .func (Fn.func (turnF k)) #[] #[]] w fun e w' => Below w.heap.size w w' ∧ e = .returned (.pointer none) := hat
      clear hat hu
      generalize turnF k = fk at *
      go_enter Try.func49, Try.ntmps49
      go_wp2_with fail
      refine (read_yes t _ hc).mono ?_; rintro e w1 ⟨b1, hn1, hb1, rfl⟩
      go_wp2_with fail
      refine (hat' b1 _ hn1).mono ?_; rintro e w2 ⟨hb2, rfl⟩
      go_wp2_with fail
      go_ret2
      exact ⟨rfl, nx hb1 hb2⟩
    | some u =>
      have hcu := rotAt_carets _ hu
      rw [hu] at hat
      have hat' : ∀ c w, NodeAt w t c → Calls Try.prog 82 #[.pointer (some ⟨c, 0, none⟩), .string b, .func (Fn.func (turnF k)) #[] #[]] w fun e w' => ∃ d, NodeAt w' u d ∧ Below w.heap.size w w' ∧ e = .returned (.pointer (some ⟨d, 0, none⟩)) := hat
      clear hat hu
      generalize turnF k = fk at *
      go_enter Try.func49, Try.ntmps49
      go_wp2_with fail
      refine (read_yes t _ hc).mono ?_; rintro e w1 ⟨b1, hn1, hb1, rfl⟩
      go_wp2_with fail
      refine (hat' b1 _ hn1).mono ?_; rintro e w2 ⟨d, hd, hb2, rfl⟩
      go_wp2_with fail
      refine (text_any u d _ hd (by omega)).mono ?_; rintro e w3 ⟨rfl, n, rfl⟩
      go_wp2_with fail
      go_ret2
      exact ⟨rfl, drewB (nx hb1 hb2) _⟩
end Go.Proofs.Ytkoebmdocenlkaa
