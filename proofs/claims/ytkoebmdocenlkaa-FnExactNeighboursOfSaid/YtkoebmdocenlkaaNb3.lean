/- Walks: slices.Sort of a slice of texts of one's own. -/
import Derived.Test.YtkoebmdocenlkaaShelfSort
import Derived.Sort.OwnSorted
import Derived.Test.YtkoebmdocenlkaaRowS
import Derived.Test.YtkoebmdocenlkaaNrP
namespace Go.Proofs.Ytkoebmdocenlkaa
open Go.RowKit Go.Sort

def bytesL (x : ByteArray) : List UInt8 := x.data.toList
def textL (l : List UInt8) : ByteArray := ⟨l.toArray⟩
theorem textL_bytesL (x : ByteArray) : textL (bytesL x) = x := by cases x; simp [textL, bytesL]
theorem encStr_textL (l : List UInt8) : encStr l = .string (textL l) := rfl
theorem map_enc (L : List ByteArray) : (L.map bytesL).map encStr = L.map Value.string := by
  rw [List.map_map]
  apply List.map_congr_left
  intro x _
  show encStr (bytesL x) = _
  rw [encStr_textL, textL_bytesL]
theorem sorted_is (L : List ByteArray) : ((L.map bytesL).mergeSort fun x y => decide (x ≤ y)).map textL = insAll L [] := by
  refine insAll_unique ?_ ?_
  · have h1 := (List.mergeSort_perm (L.map bytesL) (fun x y => decide (x ≤ y))).map textL
    rw [List.map_map] at h1
    have h2 : L.map (textL ∘ bytesL) = L := by
      conv => rhs; rw [← List.map_id L]
      apply List.map_congr_left
      intro x _
      exact textL_bytesL x
    rwa [h2] at h1
  · have h1 := List.pairwise_mergeSort (le := fun (x y : List UInt8) => decide (x ≤ y)) (fun a b c h k => by
      simp only [decide_eq_true_eq] at h k ⊢
      exact List.le_trans (α := UInt8) h k) (fun a b => by
      rcases List.le_total (α := UInt8) a b with h | h <;> simp [h]) (L.map bytesL)
    rw [List.pairwise_map]
    refine h1.imp ?_
    intro a b h
    unfold leB
    simpa [textL] using h
theorem sorted_enc (L : List ByteArray) : ((L.map bytesL).mergeSort fun x y => decide (x ≤ y)).map encStr = (insAll L []).map Value.string := by
  rw [← sorted_is, List.map_map]
  rfl

/-- A call that leaves the slice v with its texts in order; no other block turns. -/
def SortedS (base : Nat) (v : Value) (L : List ByteArray) (w : World) (e : Ending) (w' : World) : Prop := e = .returned (.tuple #[]) ∧ OwnS base w' v (insAll L []) ∧ w.grownBy w' v.ownBlock

theorem sort_any (base : Nat) (v : Value) (L : List ByteArray) (w : World) (hl : L.length ≤ 1000000) (h : OwnS base w v L) :
    Calls Try.prog 92 #[v] w (SortedS base v L w) := by
  rcases h.2 with ⟨hv, hn⟩ | ⟨g, cap, cur, hv, hb, hh, h1, h2, h3, h4⟩
  · subst hv
    have h0 : L = [] := List.length_eq_zero_iff.1 hn
    subst h0
    refine (Try.slices_Sort_string_none none 0 w).mono ?_
    rintro e w' ⟨rfl, rfl⟩
    exact ⟨rfl, OwnS.nil _ _, ⟨rfl, rfl, rfl, Nat.le_refl _, fun _ _ _ => rfl⟩⟩
  · subst hv
    have hlen : (L.map bytesL).length = L.length := List.length_map _
    have h4' : cur.toList.take (L.map bytesL).length = (L.map bytesL).map encStr := by
      rw [hlen, map_enc]
      simpa using h4
    have hs := Try.slices_Sort_string g 0 cap (L.map bytesL) w (holds_of_block hh h4') (Array.getElem?_eq_some_iff.1 hh).1 (by rw [hlen]; omega)
    rw [hlen] at hs
    refine hs.mono ?_
    rintro e w' ⟨rfl, n, os, rfl⟩
    have hts : ((L.map bytesL).mergeSort fun x y => decide (x ≤ y)).length = (L.map bytesL).length := by rw [List.length_mergeSort]
    have hown := ownsRow_sorted (w := w) (n := n) (os := os) (ss := L.map bytesL) hts hb hh (by rw [hlen]; exact h1) h2 h3
    rw [hlen, sorted_enc] at hown
    refine ⟨rfl, ?_, grownBy_sorted _⟩
    unfold OwnS
    have e9 : (insAll L []).length = L.length := by rw [insAll_length]; simp
    rw [e9]
    exact hown
end Go.Proofs.Ytkoebmdocenlkaa
