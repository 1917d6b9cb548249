/- Depths of a tree's leaves. No program is named here. -/
import Derived.Test.YtdpfoeknphiheaaAddrP
namespace Go.Proofs.Ytdpfoeknphiheaa
def Tr.depths : Tr → Int → List Int
  | .lf, d => [d]
  | .nd l r, d => l.depths (d + 1) ++ r.depths (d + 1)

/-- The depths that are told along a text. -/
def depL : List UInt8 → Int → List Int
  | [], _ => []
  | c :: r, d => if c = 40 then depL r (d + 1) else if c = 41 then depL r (d - 1) else d :: depL r d

theorem depL_text (t : Tr) : ∀ (r : List UInt8) (d : Int), depL (t.text ++ r) d = t.depths d ++ depL r d := by
  induction t with
  | lf => intro r d; simp [Tr.text, Tr.depths, depL]
  | nd a b iha ihb =>
    intro r d
    have e : (Tr.nd a b).text ++ r = 40 :: (a.text ++ (b.text ++ (41 :: r))) := by simp [Tr.text]
    rw [e, depL, if_pos rfl, iha, ihb, depL, if_neg (by decide), if_pos rfl, Int.add_sub_cancel, Tr.depths, List.append_assoc]

theorem depths_length (t : Tr) : ∀ d, (t.depths d).length = t.carets + 1 := by
  induction t with
  | lf => intro d; rfl
  | nd a b iha ihb => intro d; simp [Tr.depths, Tr.carets, iha, ihb]; omega

theorem depths_addrs (t : Tr) : ∀ here : ByteArray, (t.addrs here).map (fun s => (s.size : Int)) = t.depths here.size := by
  induction t with
  | lf => intro here; rfl
  | nd a b iha ihb =>
    intro here
    have e0 : ∀ c : UInt8, (((here ++ (⟨#[c]⟩ : ByteArray)).size : Nat) : Int) = (here.size : Int) + 1 := fun c => by
      rw [ByteArray.size_append]; rfl
    rw [Tr.addrs, List.map_append, iha, ihb, e0, e0]; rfl
end Go.Proofs.Ytdpfoeknphiheaa
