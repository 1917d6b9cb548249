/- Kinds of carets as plain data: those by sides, and those by addresses. No program is named here. -/
import Derived.Test.YtlcepokenaiggaaDoorTrFn
namespace Go.Proofs.YtlcepokenaiggaaDoor

def sL0 : ByteArray := ⟨#[76, 48]⟩
def sLL : ByteArray := ⟨#[76, 76]⟩
def sR0 : ByteArray := ⟨#[82, 48]⟩
def sRI : ByteArray := ⟨#[82, 73]⟩
def sRN : ByteArray := ⟨#[82, 78]⟩
def sI0 : ByteArray := ⟨#[73, 48]⟩
def sIR : ByteArray := ⟨#[73, 82]⟩
def sR : ByteArray := ⟨#[82]⟩

/-- The kind of a caret on neither side. -/
def inK (b : Bool) : ByteArray := if b then sI0 else sIR
namespace Tr
def inn : Tr → List ByteArray
  | lf => []
  | nd l r => l.inn ++ inK r.isLf :: r.inn
def lft : Tr → List ByteArray
  | lf => []
  | nd l r => l.lft ++ sLL :: r.inn
def rgt : Tr → List ByteArray
  | lf => []
  | nd l r => l.inn ++ sR :: r.rgt
def raw : Tr → List ByteArray
  | lf => []
  | nd l r => l.lft ++ sLL :: r.rgt
end Tr

/-- Whether a kind is that of a caret on neither side. -/
def isNe (s : ByteArray) : Bool := s = sI0 || s = sIR
/-- The kinds on the right side told, from behind: with whether all are on it. -/
def finF : List ByteArray → List ByteArray × Bool
  | [] => ([], true)
  | x :: r =>
    if x = sR then
      if (finF r).2 then (sR0 :: (finF r).1, true)
      else if isNe ((finF r).1.headD ⟨#[]⟩) then (sRI :: (finF r).1, false)
      else (sRN :: (finF r).1, false)
    else (x :: (finF r).1, false)
/-- The first caret is L0. -/
def firstK : List ByteArray → List ByteArray
  | [] => []
  | _ :: r => sL0 :: r
def Tr.kinds (t : Tr) : List ByteArray := (finF (firstK t.raw)).1

theorem finF_length (l : List ByteArray) : (finF l).1.length = l.length := by
  induction l with
  | nil => rfl
  | cons x r ih =>
    rw [finF]
    split
    · split
      · simp [ih]
      · split <;> simp [ih]
    · simp [ih]
theorem firstK_length (l : List ByteArray) : (firstK l).length = l.length := by cases l <;> rfl
theorem inn_length (t : Tr) : t.inn.length = t.carets := by
  induction t with
  | lf => rfl
  | nd l r ihl ihr => simp [Tr.inn, Tr.carets, ihl, ihr]; omega
theorem lft_length (t : Tr) : t.lft.length = t.carets := by
  induction t with
  | lf => rfl
  | nd l r ihl ihr => simp [Tr.lft, Tr.carets, ihl, inn_length]; omega
theorem rgt_length (t : Tr) : t.rgt.length = t.carets := by
  induction t with
  | lf => rfl
  | nd l r ihl ihr => simp [Tr.rgt, Tr.carets, ihr, inn_length]; omega
theorem raw_length (t : Tr) : t.raw.length = t.carets := by
  cases t with
  | lf => rfl
  | nd l r => simp [Tr.raw, Tr.carets, lft_length, rgt_length]; omega
theorem kinds_length (t : Tr) : t.kinds.length = t.carets := by
  unfold Tr.kinds
  rw [finF_length, firstK_length, raw_length]

/-- One step of the loop from behind. -/
theorem finF_step (x : ByteArray) (r : List ByteArray) : finF (x :: r) = if x = sR then
      if (finF r).2 then (sR0 :: (finF r).1, true)
      else if isNe ((finF r).1.headD ⟨#[]⟩) then (sRI :: (finF r).1, false)
      else (sRN :: (finF r).1, false)
    else (x :: (finF r).1, false) := rfl
theorem finF_late (l : List ByteArray) (h : (finF l).2 = false) : l ≠ [] := by
  intro e
  rw [e] at h
  simp [finF] at h

/-- The carets of a tree: their addresses, and whether their right sides are leaves. -/
def Tr.cars : Tr → ByteArray → List (ByteArray × Bool)
  | .lf, _ => []
  | .nd l r, here => l.cars (here ++ ⟨#[48]⟩) ++ (here, r.isLf) :: r.cars (here ++ ⟨#[49]⟩)
theorem cars_length (t : Tr) : ∀ here, (t.cars here).length = t.carets := by
  induction t with
  | lf => intro here; rfl
  | nd l r ihl ihr => intro here; simp [Tr.cars, Tr.carets, ihl, ihr]; omega
theorem cars_size (t : Tr) : ∀ here, ∀ x ∈ t.cars here, x.1.size ≤ here.size + t.carets := by
  induction t with
  | lf => intro here x hx; simp [Tr.cars] at hx
  | nd l r ihl ihr =>
    intro here x hx
    simp only [Tr.cars, List.mem_append, List.mem_cons] at hx
    have e : (Tr.nd l r).carets = l.carets + r.carets + 1 := rfl
    have s0 : (here ++ (⟨#[48]⟩ : ByteArray)).size = here.size + 1 := ByteArray.size_append
    have s1 : (here ++ (⟨#[49]⟩ : ByteArray)).size = here.size + 1 := ByteArray.size_append
    rcases hx with hx | rfl | hx
    · have := ihl _ x hx; omega
    · show here.size ≤ _; omega
    · have := ihr _ x hx; omega
def hasB (s : ByteArray) (c : UInt8) : Bool := s.data.toList.contains c
/-- The kind of a caret by its address: sR on the right side. -/
def codeK (x : ByteArray × Bool) : ByteArray :=
  if hasB x.1 49 = false then sLL else if hasB x.1 48 = false then sR else inK x.2
theorem hasB_append (a b : ByteArray) (c : UInt8) : hasB (a ++ b) c = (hasB a c || hasB b c) := by
  have e : (a ++ b).data.toList = a.data.toList ++ b.data.toList := by simp [ByteArray.data_append]
  unfold hasB
  rw [e]
  induction a.data.toList with
  | nil => simp
  | cons x l ih => simp only [List.cons_append, List.contains_cons, ih, Bool.or_assoc]
theorem cars_inn (t : Tr) : ∀ here, hasB here 48 = true → hasB here 49 = true → (t.cars here).map codeK = t.inn := by
  induction t with
  | lf => intro here h k; rfl
  | nd l r ihl ihr =>
    intro here h k
    simp only [Tr.cars, Tr.inn, List.map_append, List.map_cons]
    rw [ihl _ (by rw [hasB_append, h]; rfl) (by rw [hasB_append, k]; rfl), ihr _ (by rw [hasB_append, h]; rfl) (by rw [hasB_append, k]; rfl)]
    congr 2
    simp [codeK, h, k]
theorem cars_lft (t : Tr) : ∀ here, hasB here 48 = true → hasB here 49 = false → (t.cars here).map codeK = t.lft := by
  induction t with
  | lf => intro here h k; rfl
  | nd l r ihl ihr =>
    intro here h k
    simp only [Tr.cars, Tr.lft, List.map_append, List.map_cons]
    rw [ihl _ (by rw [hasB_append, h]; rfl) (by rw [hasB_append, k]; rfl), cars_inn r _ (by rw [hasB_append, h]; rfl) (by rw [hasB_append, k]; rfl)]
    congr 2
    simp [codeK, k]
theorem cars_rgt (t : Tr) : ∀ here, hasB here 48 = false → hasB here 49 = true → (t.cars here).map codeK = t.rgt := by
  induction t with
  | lf => intro here h k; rfl
  | nd l r ihl ihr =>
    intro here h k
    simp only [Tr.cars, Tr.rgt, List.map_append, List.map_cons]
    rw [cars_inn l _ (by rw [hasB_append, h]; rfl) (by rw [hasB_append, k]; rfl), ihr _ (by rw [hasB_append, h]; rfl) (by rw [hasB_append, k]; rfl)]
    congr 2
    simp [codeK, h, k]
theorem cars_raw (t : Tr) : (t.cars ⟨#[]⟩).map codeK = t.raw := by
  cases t with
  | lf => rfl
  | nd l r =>
    simp only [Tr.cars, Tr.raw, List.map_append, List.map_cons]
    rw [cars_lft l _ rfl rfl, cars_rgt r _ rfl rfl]
    rfl

/-- The kind of a caret on the right side, by those behind it. -/
def korK (later : List ByteArray) : ByteArray :=
  if later.any isNe = false then sR0 else if isNe (later.headD ⟨#[]⟩) then sRI else sRN
def kindK (i : Nat) (x : ByteArray) (later : List ByteArray) : ByteArray :=
  if i = 0 then sL0 else if x = sLL then sLL else if x = sR then korK later else x
/-- The kinds from a place on. -/
def kindsFrom : Nat → List ByteArray → List ByteArray
  | _, [] => []
  | i, x :: r => kindK i x r :: kindsFrom (i + 1) r

theorem isNe_LL : isNe sLL = false := by decide
theorem isNe_R : isNe sR = false := by decide
/-- Codes: behind one on the right side none is on the left side. -/
def okC : List ByteArray → Prop
  | [] => True
  | x :: r => (x = sLL ∨ x = sR ∨ isNe x = true) ∧ (x = sR → sLL ∉ r) ∧ okC r
theorem okC_any {r : List ByteArray} (h : okC r) (k : sLL ∉ r) : (finF r).2 = !(r.any isNe) := by
  induction r with
  | nil => rfl
  | cons x r ih =>
    obtain ⟨h1, _, h3⟩ := h
    have hx : x ≠ sLL := fun e => k (by rw [e]; exact List.mem_cons_self)
    have kr : sLL ∉ r := fun e => k (List.mem_cons_of_mem _ e)
    have := ih h3 kr
    rw [finF_step]
    rcases h1 with h1 | h1 | h1
    · exact absurd h1 hx
    · rw [if_pos h1, List.any_cons, h1, isNe_R, Bool.false_or]
      cases hf : (finF r).2 with
      | true => rw [hf] at this; simp [← this]
      | false =>
        rw [hf] at this
        simp only [Bool.false_eq_true, if_false]
        split <;> exact this
    · have : x ≠ sR := by intro e; rw [e, isNe_R] at h1; cases h1
      rw [if_neg this]
      simp [h1]
theorem headD_finF (r : List ByteArray) (h : okC r) : isNe ((finF r).1.headD ⟨#[]⟩) = isNe (r.headD ⟨#[]⟩) := by
  cases r with
  | nil => rfl
  | cons x r =>
    rw [finF_step]
    by_cases hx : x = sR
    · rw [if_pos hx]
      show _ = isNe x
      rw [hx, isNe_R]
      split
      · rfl
      · split <;> rfl
    · rw [if_neg hx]
      rfl
theorem finF_kinds (r : List ByteArray) (h : okC r) : ∀ i, 0 < i → (finF r).1 = kindsFrom i r := by
  induction r with
  | nil => intro i hi; rfl
  | cons x r ih =>
    intro i hi
    have hh := h
    obtain ⟨h1, h2, h3⟩ := h
    rw [finF_step, kindsFrom, kindK, if_neg (show ¬ i = 0 by omega), ← ih h3 (i + 1) (by omega)]
    by_cases hx : x = sR
    · have hx2 : x ≠ sLL := by rw [hx]; decide
      have ha := okC_any h3 (h2 hx)
      have hd := headD_finF r h3
      rw [if_pos hx, if_pos hx, if_neg hx2]
      unfold korK
      rw [hd, ha]
      cases r.any isNe with
      | false => rfl
      | true =>
        simp only [Bool.not_true, Bool.false_eq_true, if_false, reduceCtorEq]
        split <;> rfl
    · rw [if_neg hx, if_neg hx]
      split
      · next hl => rw [hl]
      · rfl
theorem inK_ne (b : Bool) : isNe (inK b) = true := by cases b <;> decide
theorem inn_all (t : Tr) : ∀ x ∈ t.inn, isNe x = true := by
  induction t with
  | lf => intro x hx; simp [Tr.inn] at hx
  | nd l r ihl ihr =>
    intro x hx
    simp only [Tr.inn, List.mem_append, List.mem_cons] at hx
    rcases hx with hx | rfl | hx
    · exact ihl x hx
    · exact inK_ne _
    · exact ihr x hx
theorem rgt_all (t : Tr) : ∀ x ∈ t.rgt, x = sR ∨ isNe x = true := by
  induction t with
  | lf => intro x hx; simp [Tr.rgt] at hx
  | nd l r ihl ihr =>
    intro x hx
    simp only [Tr.rgt, List.mem_append, List.mem_cons] at hx
    rcases hx with hx | rfl | hx
    · exact .inr (inn_all l x hx)
    · exact .inl rfl
    · exact ihr x hx
theorem lft_all (t : Tr) : ∀ x ∈ t.lft, x = sLL ∨ isNe x = true := by
  induction t with
  | lf => intro x hx; simp [Tr.lft] at hx
  | nd l r ihl ihr =>
    intro x hx
    simp only [Tr.lft, List.mem_append, List.mem_cons] at hx
    rcases hx with hx | rfl | hx
    · exact ihl x hx
    · exact .inl rfl
    · exact .inr (inn_all r x hx)
theorem okC_rgt (l : List ByteArray) (h : ∀ x ∈ l, x = sR ∨ isNe x = true) : okC l := by
  induction l with
  | nil => trivial
  | cons x r ih =>
    refine ⟨.inr (h x List.mem_cons_self), fun _ hm => ?_, ih fun y hy => h y (List.mem_cons_of_mem _ hy)⟩
    rcases h _ (List.mem_cons_of_mem _ hm) with e | e
    · exact absurd e (by decide)
    · rw [isNe_LL] at e; cases e
theorem okC_front (l m : List ByteArray) (h : ∀ x ∈ l, x = sLL ∨ isNe x = true) (hm : okC m) : okC (l ++ m) := by
  induction l with
  | nil => exact hm
  | cons x r ih =>
    refine ⟨?_, fun e => ?_, ih fun y hy => h y (List.mem_cons_of_mem _ hy)⟩
    · rcases h x List.mem_cons_self with e | e
      · exact .inl e
      · exact .inr (.inr e)
    · rcases h x List.mem_cons_self with k | k
      · rw [e] at k; exact absurd k (by decide)
      · rw [e, isNe_R] at k; cases k
theorem okC_raw (t : Tr) : okC t.raw := by
  cases t with
  | lf => trivial
  | nd l r =>
    exact okC_front _ _ (lft_all l) ⟨.inl rfl, fun e => absurd e (by decide), okC_rgt _ (rgt_all r)⟩
theorem kinds_from (t : Tr) : t.kinds = kindsFrom 0 t.raw := by
  have h := okC_raw t
  unfold Tr.kinds
  cases hr : t.raw with
  | nil => rfl
  | cons x r =>
    rw [hr] at h
    show (finF (sL0 :: r)).1 = _
    rw [finF_step, if_neg (by decide), kindsFrom, kindK, if_pos rfl, finF_kinds r h.2.2 1 (by omega)]
end Go.Proofs.YtlcepokenaiggaaDoor
