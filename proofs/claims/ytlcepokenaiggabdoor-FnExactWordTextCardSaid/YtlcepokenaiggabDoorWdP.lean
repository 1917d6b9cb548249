/- Words: what the Go texts of chapter 3 compute, as plain functions. No program is named here. -/
import Derived.WalkKit
namespace Go.Proofs.YtlcepokenaiggabDoor

/-- A letter with a number less than m. -/
def okL (m : Int) (x : Int) : Bool := !(x == 0) && (decide (-m ≤ x) && decide (x ≤ m))
theorem okL_iff {m x : Int} : okL m x = true ↔ x ≠ 0 ∧ -m ≤ x ∧ x ≤ m := by simp [okL]
theorem okL_false {m x : Int} : okL m x = false ↔ x = 0 ∨ x < -m ∨ m < x := by
  rw [Bool.eq_false_iff, Ne, okL_iff]; omega
def isW (m : Int) (w : List Int) : Bool := w.all (okL m)
/-- Is it a word? -/
def goodW (w : List Int) : Bool := decide (w.length ≤ 20) && isW 21 w
theorem goodW_iff {w : List Int} : goodW w = true ↔ w.length ≤ 20 ∧ ∀ x ∈ w, x ≠ 0 ∧ -21 ≤ x ∧ x ≤ 21 := by
  simp only [goodW, isW, Bool.and_eq_true, decide_eq_true_eq, List.all_eq_true, okL_iff]
theorem isW_drop {m : Int} {w : List Int} {k : Nat} (h : k < w.length) : isW m (w.drop k) = (okL m (w.getD k 0) && isW m (w.drop (k + 1))) := by
  unfold isW; rw [List.drop_eq_getElem_cons h, List.all_cons]; simp [h]
theorem isW_end (m : Int) (w : List Int) : isW m (w.drop w.length) = true := by simp [isW]

/-- The word of all inverses, backwards. -/
def invW (w : List Int) : List Int := (w.map fun x => -x).reverse
theorem invW_length (w : List Int) : (invW w).length = w.length := by simp [invW]

/-- One letter more behind a word without letters and inverses next to each other. -/
def free1 (out : List Int) (x : Int) : List Int := if out.getLast? = some (-x) then out.dropLast else out ++ [x]
def freeW (w : List Int) : List Int := w.foldl free1 []
theorem free1_length (out : List Int) (x : Int) : (free1 out x).length ≤ out.length + 1 := by
  unfold free1; split <;> simp; omega
theorem freeW_take {w : List Int} {k : Nat} (h : k < w.length) : freeW (w.take (k + 1)) = free1 (freeW (w.take k)) (w.getD k 0) := by
  unfold freeW
  rw [List.take_succ_eq_append_getElem h, List.foldl_append]
  simp [h]
theorem freeW_length (w : List Int) : (freeW w).length ≤ w.length := by
  have : ∀ (l a : List Int), (l.foldl free1 a).length ≤ a.length + l.length := by
    intro l
    induction l with
    | nil => intro a; simp
    | cons x l ih => intro a; have := ih (free1 a x); have := free1_length a x; simp only [List.foldl_cons, List.length_cons]; omega
  have := this w []
  simpa [freeW] using this
theorem free1_last {out : List Int} {x : Int} (h : 0 < out.length) : free1 out x = if out.getD (out.length - 1) 0 = -x then out.take (out.length - 1) else out ++ [x] := by
  unfold free1
  rw [List.getLast?_eq_getElem?, List.getElem?_eq_getElem (by omega)]
  have : out.getD (out.length - 1) 0 = out[out.length - 1]'(by omega) := by simp [List.getD_eq_getElem?_getD, List.getElem?_eq_getElem (show out.length - 1 < out.length by omega)]
  rw [this, List.dropLast_eq_take]
  simp

/-- What two letters next to each other become. -/
def ruleO (x y : Int) : Option (List Int) :=
  if x = -y then some []
  else if 0 < x ∧ 0 < y ∧ y < x then some [y, x + 1]
  else if x < 0 ∧ y < 0 ∧ -x < -y then some [y - 1, x]
  else if x < 0 ∧ 0 < y ∧ -x < y then some [y + 1, x]
  else if x < 0 ∧ 0 < y ∧ y < -x then some [y, x - 1]
  else none
/-- A word behind the first rule. -/
def stepO : List Int → Option (List Int)
  | x :: y :: r => match ruleO x y with
    | some b => some (b ++ r)
    | none => (stepO (y :: r)).map (x :: ·)
  | _ => none

/-- Letters with numbers that are greater by so much. -/
def up (k : Int) (x : Int) : Int := if x < 0 then x - k else x + k
def upW (k : Int) (w : List Int) : List Int := w.map (up k)

/-- A word, if it is one. -/
def ifW (w : List Int) : Option (List Int) := if goodW w = true then some w else none

/-- The sums of a word: of x(0), of all others. -/
def sgn (x : Int) : Int := if x < 0 then -1 else 1
def num (x : Int) : Int := (if x < 0 then -x else x) - 1
def sumZ (w : List Int) : Int := (w.map fun x => if num x = 0 then sgn x else 0).sum
def sumO (w : List Int) : Int := (w.map fun x => if num x = 0 then 0 else sgn x).sum

end Go.Proofs.YtlcepokenaiggabDoor
