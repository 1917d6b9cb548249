/- Walks: spec.trWith. -/
import Derived.Test.YtdpfoeknphiheaaArgS
import Derived.Test.YtdpfoeknphiheaaWithP
import Derived.Test.YtdpfoeknphiheaaSpecTr
namespace Go.Proofs.Ytdpfoeknphiheaa
open Go.RowKit

def WithPost (o : Option (Tr × Nat)) (w : World) (e : Ending) (w' : World) : Prop :=
  match o with
  | some (t, n) => e = .returned (.tuple #[.string t.str, .int .i64 n]) ∧ Below w.heap.size w w'
  | none => e = .returned (.tuple #[.string ⟨#[]⟩, .int .i64 0]) ∧ Below w.heap.size w w'

theorem InS.drop {w : World} {g off : Nat} {L : List ByteArray} (h : ReadS w g off L) (n : Nat) : ReadS w g (off + n) (L.drop n) := by
  intro i hi
  rw [List.length_drop] at hi
  have := h (n + i) (by omega)
  rw [Nat.add_assoc, this]
  simp [List.getD_eq_getElem?_getD]

theorem ba_eq (a b : ByteArray) : (a.toList == b.toList) = decide (a = b) := by
  rw [Bool.eq_iff_iff]
  simp only [beq_iff_eq, decide_eq_true_eq, Lib.toList_data]
  exact ⟨fun h => ba_ext h, fun h => by rw [h]⟩

set_option maxRecDepth 100000 in
set_option maxHeartbeats 2000000 in
theorem trWith_any (k : Nat) : ∀ (a : Option Addr) (len cap : Nat) (L : List ByteArray) (here : ByteArray) (w : World), L.length = len → len ≤ cap → cap ≤ 1048576 → InS w a L → here.size + k = 9 →
    Calls Try.prog 94 #[.slice a len cap, .string here] w (WithPost (withS k L here) w) := by
  induction k with
  | zero =>
    intro a len cap L here w hl hlc hcm hin hh
    rw [show withS 0 L here = none from rfl]
    have hh' : (here.size : Int) = 9 := by omega
    have hh2 : (8 : Int) < here.size := by omega
    show Calls _ _ _ _ fun e w' => e = .returned (.tuple #[.string ⟨#[]⟩, .int .i64 0]) ∧ Below w.heap.size w w'
    clear hin hh hh' hl
    by_cases h0 : len = 0
    · have g0 : ((len : Int) == 0) = true := by simp [h0]
      go_enter Try.func94, Try.ntmps94
      go_wp2_with fail
      go_ret2
      exact ⟨rfl, Below.refl _ _⟩
    · have g0 : ((len : Int) == 0) = false := by simp [h0]
      go_enter Try.func94, Try.ntmps94
      go_wp2_with fail
      go_ret2
      exact ⟨rfl, Below.refl _ _⟩
  | succ k ih =>
    intro a len cap L here w hl hlc hcm hin hh
    have hh2 : (here.size : Int) ≤ 8 := by omega
    match L, hl, hin with
    | [], hl, hin =>
      rw [show withS (k + 1) [] here = none from rfl]
      show Calls _ _ _ _ fun e w' => e = .returned (.tuple #[.string ⟨#[]⟩, .int .i64 0]) ∧ Below w.heap.size w w'
      obtain rfl : len = 0 := by simpa using hl.symm
      go_enter Try.func94, Try.ntmps94
      go_wp2_with fail
      go_ret2
      exact ⟨rfl, Below.refl _ _⟩
    | x :: M, hl, hin =>
      rcases hin with hin | ⟨g, off, rfl, hr⟩
      · simp at hin
      · have c0 : w.cell? ⟨g, off, none⟩ = some (.string x) := by simpa using hr 0 (by simp)
        have g0 : ((len : Int) == 0) = false := by simp at hl; simp; omega
        have g1 : (0 : Int) < len := by simp at hl; omega
        have hx := ba_eq x here
        rw [withS]
        by_cases hxe : x = here
        · rw [if_pos hxe]
          show Calls _ _ _ _ fun e w' => e = .returned (.tuple #[.string Tr.lf.str, .int .i64 1]) ∧ Below w.heap.size w w'
          rw [decide_eq_true hxe] at hx
          clear hxe hl ih
          go_enter Try.func94, Try.ntmps94
          go_wp2_with fail
          go_ret2
          exact ⟨rfl, Below.refl _ _⟩
        · rw [if_neg hxe]
          rw [decide_eq_false hxe] at hx
          have s0 : (here ++ (⟨#[48]⟩ : ByteArray)).size = here.size + 1 := ByteArray.size_append
          have s1 : (here ++ (⟨#[49]⟩ : ByteArray)).size = here.size + 1 := ByteArray.size_append
          have hin' : ∀ w', Below w.heap.size w w' → InS w' (some ⟨g, off, none⟩) (x :: M) := fun w' hb => .inr ⟨g, off, rfl, hr.keep hb⟩
          have j1 := fun w' hb => ih (some ⟨g, off, none⟩) len cap (x :: M) (here ++ ⟨#[48]⟩) w' hl hlc hcm (hin' w' hb) (by omega)
          cases h1 : withS k (x :: M) (here ++ ⟨#[48]⟩) with
          | none =>
            rw [h1] at j1
            have j1' : ∀ w', Below w.heap.size w w' → Calls Try.prog 94 #[.slice (some ⟨g, off, none⟩) len cap, .string (here ++ ⟨#[48]⟩)] w' fun e w'' => e = .returned (.tuple #[.string ⟨#[]⟩, .int .i64 0]) ∧ Below w'.heap.size w' w'' := j1
            show Calls _ _ _ _ fun e w' => e = .returned (.tuple #[.string ⟨#[]⟩, .int .i64 0]) ∧ Below w.heap.size w w'
            clear j1 hxe hl ih h1 s0 s1 hin' hh
            go_enter Try.func94, Try.ntmps94
            go_wp2_with fail
            refine (j1' _ (Below.refl _ _)).mono ?_; rintro e w1 ⟨rfl, hb1⟩
            go_wp2_with fail
            go_ret2
            exact ⟨rfl, hb1⟩
          | some p =>
            obtain ⟨t1, n1⟩ := p
            obtain ⟨e1, e2, _⟩ := withS_sound _ _ _ _ _ h1
            rw [h1] at j1
            have j1' : ∀ w', Below w.heap.size w w' → Calls Try.prog 94 #[.slice (some ⟨g, off, none⟩) len cap, .string (here ++ ⟨#[48]⟩)] w' fun e w'' => e = .returned (.tuple #[.string t1.str, .int .i64 n1]) ∧ Below w'.heap.size w' w'' := j1
            have hn0 : ((n1 : Int) == 0) = false := by simp; omega
            have hnl : (n1 : Int) ≤ len := by rw [← hl]; omega
            have hnp : (1 : Int) ≤ n1 := by omega
            -- what the second call is handed
            obtain ⟨b2, hb2⟩ : ∃ b2 : Option Addr, b2 = (if n1 = cap then some ⟨g, off, none⟩ else some ⟨g, off + n1, none⟩) := ⟨_, rfl⟩
            have hlen2 : ((x :: M).drop n1).length = len - n1 := by rw [List.length_drop, hl]
            have hin2 : ∀ w', Below w.heap.size w w' → InS w' b2 ((x :: M).drop n1) := by
              intro w' hb
              by_cases hcap : n1 = cap
              · left
                exact List.length_eq_zero_iff.1 (by rw [hlen2]; omega)
              · right
                exact ⟨g, off + n1, by rw [hb2, if_neg hcap], InS.drop (hr.keep hb) n1⟩
            have j2 := fun w' hb => ih b2 (len - n1) (cap - n1) ((x :: M).drop n1) (here ++ ⟨#[49]⟩) w' hlen2 (by omega) (by omega) (hin2 w' hb) (by omega)
            have hcar : t1.carets ≤ 1048576 := by omega
            show Calls _ _ _ _ (WithPost (match withS k ((x :: M).drop n1) (here ++ ⟨#[49]⟩) with | none => none | some (r, m) => some (.nd t1 r, n1 + m)) w)
            cases h2 : withS k ((x :: M).drop n1) (here ++ ⟨#[49]⟩) with
            | none =>
              rw [h2] at j2
              have j2' : ∀ w', Below w.heap.size w w' → Calls Try.prog 94 #[.slice b2 (len - n1 : Nat) (cap - n1 : Nat), .string (here ++ ⟨#[49]⟩)] w' fun e w'' => e = .returned (.tuple #[.string ⟨#[]⟩, .int .i64 0]) ∧ Below w'.heap.size w' w'' := j2
              show Calls _ _ _ _ fun e w' => e = .returned (.tuple #[.string ⟨#[]⟩, .int .i64 0]) ∧ Below w.heap.size w w'
              clear j1 j2 hxe hl ih h1 h2 s0 s1 hin' hh hin2 hlen2 e1 e2 hcar
              by_cases hcap : n1 = cap
              · rw [if_pos hcap] at hb2
                subst hb2
                obtain rfl := hcap
                have z1 : len - n1 = 0 := by omega
                have z2 : n1 - n1 = 0 := by omega
                rw [z1, z2] at j2'
                clear z1 z2
                go_enter Try.func94, Try.ntmps94
                go_wp2_with fail
                refine (j1' _ (Below.refl _ _)).mono ?_; rintro e w1 ⟨rfl, hb1⟩
                go_wp2_with fail
                refine (j2' _ hb1).mono ?_; rintro e w2 ⟨rfl, hb3⟩
                go_wp2_with fail
                go_ret2
                exact ⟨rfl, nx hb1 hb3⟩
              · rw [if_neg hcap] at hb2
                subst hb2
                go_enter Try.func94, Try.ntmps94
                go_wp2_with fail
                refine (j1' _ (Below.refl _ _)).mono ?_; rintro e w1 ⟨rfl, hb1⟩
                go_wp2_with fail
                refine (j2' _ hb1).mono ?_; rintro e w2 ⟨rfl, hb3⟩
                go_wp2_with fail
                go_ret2
                exact ⟨rfl, nx hb1 hb3⟩
            | some q =>
              obtain ⟨t2, n2⟩ := q
              obtain ⟨f1, f2, _⟩ := withS_sound _ _ _ _ _ h2
              rw [hlen2] at f2
              rw [h2] at j2
              have j2' : ∀ w', Below w.heap.size w w' → Calls Try.prog 94 #[.slice b2 (len - n1 : Nat) (cap - n1 : Nat), .string (here ++ ⟨#[49]⟩)] w' fun e w'' => e = .returned (.tuple #[.string t2.str, .int .i64 n2]) ∧ Below w'.heap.size w' w'' := j2
              show Calls _ _ _ _ fun e w' => e = .returned (.tuple #[.string (Tr.nd t1 t2).str, .int .i64 ((n1 + n2 : Nat) : Int)]) ∧ Below w.heap.size w w'
              have hm0 : ((n2 : Int) == 0) = false := by simp; omega
              have hml : (n2 : Int) ≤ 1048576 := by omega
              have hcc : t1.carets + t2.carets ≤ 3000000 := by omega
              clear j1 j2 hxe hl ih h1 h2 s0 s1 hin' hh hin2 hlen2 e1 e2 hcar f1 f2
              by_cases hcap : n1 = cap
              · rw [if_pos hcap] at hb2
                subst hb2
                obtain rfl := hcap
                have z1 : len - n1 = 0 := by omega
                have z2 : n1 - n1 = 0 := by omega
                rw [z1, z2] at j2'
                clear z1 z2
                go_enter Try.func94, Try.ntmps94
                go_wp2_with fail
                refine (j1' _ (Below.refl _ _)).mono ?_; rintro e w1 ⟨rfl, hb1⟩
                go_wp2_with fail
                refine (j2' _ hb1).mono ?_; rintro e w2 ⟨rfl, hb3⟩
                go_wp2_with fail
                refine (trOf_any t1 t2 _ hcc).mono ?_; rintro e w3 ⟨rfl, rfl⟩
                go_wp2_with fail
                go_ret2
                exact ⟨by rw [Int.natCast_add]; rfl, nx hb1 hb3⟩
              · rw [if_neg hcap] at hb2
                subst hb2
                go_enter Try.func94, Try.ntmps94
                go_wp2_with fail
                refine (j1' _ (Below.refl _ _)).mono ?_; rintro e w1 ⟨rfl, hb1⟩
                go_wp2_with fail
                refine (j2' _ hb1).mono ?_; rintro e w2 ⟨rfl, hb3⟩
                go_wp2_with fail
                refine (trOf_any t1 t2 _ hcc).mono ?_; rintro e w3 ⟨rfl, rfl⟩
                go_wp2_with fail
                go_ret2
                exact ⟨by rw [Int.natCast_add]; rfl, nx hb1 hb3⟩
end Go.Proofs.Ytdpfoeknphiheaa
