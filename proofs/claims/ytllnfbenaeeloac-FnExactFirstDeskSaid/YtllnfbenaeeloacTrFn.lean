/- What is made of trees: mirror, join, common part, parts. No program is named here. -/
import Derived.Test.YtllnfbenaeeloacTrOf
namespace Go.Proofs.Ytllnfbenaeeloac
namespace Tr
def mir : Tr → Tr
  | lf => lf
  | nd l r => nd r.mir l.mir
def join : Tr → Tr → Tr
  | lf, b => b
  | nd l r, lf => nd l r
  | nd l r, nd p q => nd (join l p) (join r q)
def com : Tr → Tr → Tr
  | lf, _ => lf
  | nd _ _, lf => lf
  | nd l r, nd p q => nd (com l p) (com r q)
def part : Tr → Tr → Bool
  | lf, _ => true
  | nd _ _, lf => false
  | nd l r, nd p q => part l p && part r q
def isLf : Tr → Bool
  | lf => true
  | nd _ _ => false
end Tr

theorem mir_carets (t : Tr) : t.mir.carets = t.carets := by
  induction t with
  | lf => rfl
  | nd l r ihl ihr => simp [Tr.mir, Tr.carets, ihl, ihr]; omega

theorem join_carets (a : Tr) : ∀ b : Tr, (a.join b).carets ≤ a.carets + b.carets := by
  induction a with
  | lf => intro b; simp [Tr.join]
  | nd l r ihl ihr =>
    intro b
    cases b with
    | lf => simp [Tr.join]
    | nd p q => have := ihl p; have := ihr q; simp [Tr.join, Tr.carets]; omega

theorem com_carets (a : Tr) : ∀ b : Tr, (a.com b).carets ≤ a.carets := by
  induction a with
  | lf => intro b; simp [Tr.com]
  | nd l r ihl ihr =>
    intro b
    cases b with
    | lf => simp [Tr.com, Tr.carets]
    | nd p q => have := ihl p; have := ihr q; simp [Tr.com, Tr.carets]; omega

theorem com_eq_part (a : Tr) : ∀ b : Tr, a.com b = a ↔ a.part b = true := by
  induction a with
  | lf => intro b; simp [Tr.com, Tr.part]
  | nd l r ihl ihr =>
    intro b
    cases b with
    | lf => simp [Tr.com, Tr.part]
    | nd p q => simp [Tr.com, Tr.part, ihl, ihr]

end Go.Proofs.Ytllnfbenaeeloac
