/- Walks: impl.nodeWith. -/
import Derived.Test.YtdpfoeknphiheaaWith
import Derived.Test.YtdpfoeknphiheaaPrefix
import Derived.Test.YtdpfoeknphiheaaText
namespace Go.Proofs.Ytdpfoeknphiheaa
open Go.RowKit

def NWOk (t : Tr) (R : List ByteArray) (w : World) (e : Ending) (w' : World) : Prop :=
  ∃ (b : Nat) (a : Option Addr) (cap : Nat), NodeAt w' t b ∧ InS w' a R ∧ R.length ≤ cap ∧ cap ≤ 1048576 ∧ Below w.heap.size w w' ∧ e = .returned (.tuple #[.pointer (some ⟨b, 0, none⟩), .slice a R.length cap])
def NWNo (w : World) (e : Ending) (w' : World) : Prop := e = .returned (.tuple #[.pointer none, .slice none 0 0]) ∧ Below w.heap.size w w'
def NWPost (o : Option (Tr × List ByteArray)) (w : World) (e : Ending) (w' : World) : Prop :=
  match o with
  | some (t, R) => NWOk t R w e w'
  | none => NWNo w e w'

theorem withI_len {k : Nat} {L : List ByteArray} {here : ByteArray} {t : Tr} {R : List ByteArray} (h : withI k L here = some (t, R)) : R.length < L.length := by
  have := withI_sound _ _ _ _ _ h
  have := addrs_length t here
  subst L; rw [List.length_append]; omega
theorem withI_mem {k : Nat} {L : List ByteArray} {here : ByteArray} {t : Tr} {R : List ByteArray} (h : withI k L here = some (t, R)) : ∀ s ∈ R, s ∈ L := by
  intro s hs
  rw [withI_sound _ _ _ _ _ h]
  exact List.mem_append_right _ hs

set_option maxRecDepth 100000 in
set_option maxHeartbeats 4000000 in
theorem nodeWith_any (k : Nat) : ∀ (a : Option Addr) (len cap : Nat) (L : List ByteArray) (here : ByteArray) (w : World), L.length = len → len ≤ cap → cap ≤ 1048576 → InS w a L → (∀ s ∈ L, s.size ≤ 8) → here.size + k = 10 →
    Calls Try.prog 88 #[.slice a len cap, .string here] w (NWPost (withI k L here) w) := by
  induction k with
  | zero =>
    intro a len cap L here w hl hlc hcm hin hsz hh
    rw [show withI 0 L here = none from rfl]
    show Calls _ _ _ _ (NWNo w)
    match L, hl, hin, hsz with
    | [], hl, hin, _ =>
      obtain rfl : len = 0 := by simpa using hl.symm
      go_enter Try.func88, Try.ntmps88
      go_wp2_with fail
      go_ret2
      exact ⟨rfl, Below.refl _ _⟩
    | x :: M, hl, hin, hsz =>
      rcases hin with hin | ⟨g, off, rfl, hr⟩
      · simp at hin
      · have c0 : w.cell? ⟨g, off, none⟩ = some (.string x) := by simpa using hr 0 (by simp)
        have g0 : ((len : Int) == 0) = false := by simp at hl; simp; omega
        have g1 : (0 : Int) < len := by simp at hl; omega
        have hxs := hsz x (by simp)
        have hp := hasPrefixS_any x here
        rw [show (x.data.toList.take here.size == here.data.toList) = false from by rw [Lib.size_eq here]; exact take_eq_of_short (by rw [← Lib.size_eq, ← Lib.size_eq]; omega)] at hp
        have z1 : x.size ≤ 9223372036854775806 := by omega
        have z2 : here.size ≤ 9223372036854775806 := by omega
        clear hsz hl hh hxs hr
        go_enter Try.func88, Try.ntmps88
        go_wp2_with fail
        refine (hp _ z1 z2).mono ?_; rintro e w1 ⟨rfl, rfl⟩
        go_wp2_with fail
        go_ret2
        exact ⟨rfl, Below.refl _ _⟩
  | succ k ih =>
    intro a len cap L here w hl hlc hcm hin hsz hh
    match L, hl, hin, hsz with
    | [], hl, hin, _ =>
      rw [show withI (k + 1) [] here = none from rfl]
      show Calls _ _ _ _ (NWNo w)
      obtain rfl : len = 0 := by simpa using hl.symm
      clear ih
      go_enter Try.func88, Try.ntmps88
      go_wp2_with fail
      go_ret2
      exact ⟨rfl, Below.refl _ _⟩
    | x :: M, hl, hin, hsz =>
      rcases hin with hin | ⟨g, off, rfl, hr⟩
      · simp at hin
      · have c0 : w.cell? ⟨g, off, none⟩ = some (.string x) := by simpa using hr 0 (by simp)
        have g0 : ((len : Int) == 0) = false := by simp at hl; simp; omega
        have g1 : (0 : Int) < len := by simp at hl; omega
        have hxs := hsz x (by simp)
        have hp := hasPrefixS_any x here
        have z1 : x.size ≤ 9223372036854775806 := by omega
        have z2 : here.size ≤ 9223372036854775806 := by omega
        have hlM : len = M.length + 1 := by simpa using hl.symm
        rw [withI]
        cases hpb : prefixB x here with
        | false =>
          rw [show (x.data.toList.take here.size == here.data.toList) = false from hpb] at hp
          show Calls _ _ _ _ (NWNo w)
          clear hsz hl hh hxs hr ih hpb hlM
          go_enter Try.func88, Try.ntmps88
          go_wp2_with fail
          refine (hp _ z1 z2).mono ?_; rintro e w1 ⟨rfl, rfl⟩
          go_wp2_with fail
          go_ret2
          exact ⟨rfl, Below.refl _ _⟩
        | true =>
          rw [show (x.data.toList.take here.size == here.data.toList) = true from hpb] at hp
          rw [if_neg (by decide)]
          have hx := ba_eq x here
          by_cases hxe : x = here
          · rw [if_pos hxe]
            show Calls _ _ _ _ (NWOk .lf M w)
            rw [decide_eq_true hxe] at hx
            have hM : ∀ w' b2, Below w.heap.size w w' → b2 = (if 1 = cap then some (⟨g, off, none⟩ : Addr) else some ⟨g, off + 1, none⟩) → InS w' b2 M := by
              intro w' b2 hb hb2
              by_cases hcap : 1 = cap
              · left; exact List.length_eq_zero_iff.1 (by omega)
              · right; exact ⟨g, off + 1, by rw [hb2, if_neg hcap], by simpa using InS.drop (hr.keep hb) 1⟩
            have hlM' : len - 1 = M.length := by omega
            have g2 : (1 : Int) ≤ len := by omega
            have HM := Lib.hid hM
            by_cases hcap : 1 = cap
            · obtain rfl := hcap
              have hM0 : M.length = 0 := by omega
              have HM0 := Lib.hid hM0
              clear hsz hl hh hxs hr ih hpb hxe hM hlM' hlM hM0
              go_enter Try.func88, Try.ntmps88
              go_wp2_with fail
              refine (hp _ z1 z2).mono ?_; rintro e w1 ⟨rfl, rfl⟩
              go_wp2_with fail
              go_region
              all_goals (try go_wp2_with fail)
              all_goals go_ret2
              have hb1 := nxAlloc (Below.refl w.heap.size w) (.cells #[.pointer none, .pointer none] 110 (0, 0))
              have hb1 := hb1.drew
              exact ⟨_, some ⟨g, off, none⟩, 0, heap_alloc_at _ _, HM.out _ _ hb1 (by simp), by rw [HM0.out]; exact Nat.le_refl _, by omega, hb1, by rw [HM0.out]; rfl⟩
            · have HL := Lib.hid hlM'
              have HCM : Hid (M.length ≤ cap - 1) := show _ ≤ _ by omega
              clear hsz hl hh hxs hr ih hpb hxe hM hlM' hlM
              go_enter Try.func88, Try.ntmps88
              go_wp2_with fail
              refine (hp _ z1 z2).mono ?_; rintro e w1 ⟨rfl, rfl⟩
              go_wp2_with fail
              go_region
              all_goals (try go_wp2_with fail)
              all_goals go_ret2
              have hb1 := nxAlloc (Below.refl w.heap.size w) (.cells #[.pointer none, .pointer none] 110 (0, 0))
              have hb1 := hb1.drew
              exact ⟨_, some ⟨g, off + 1, none⟩, cap - 1, heap_alloc_at _ _, HM.out _ _ hb1 (by rw [if_neg hcap]), HCM.out, by omega, hb1, by rw [← HL.out]; rfl⟩
          · rw [if_neg hxe]
            rw [decide_eq_false hxe] at hx
            have s0 : (here ++ (⟨#[48]⟩ : ByteArray)).size = here.size + 1 := ByteArray.size_append
            have s1 : (here ++ (⟨#[49]⟩ : ByteArray)).size = here.size + 1 := ByteArray.size_append
            have j1 := fun w' (hb : Below w.heap.size w w') => ih (some ⟨g, off, none⟩) len cap (x :: M) (here ++ ⟨#[48]⟩) w' hl hlc hcm (.inr ⟨g, off, rfl, hr.keep hb⟩) hsz (by omega)
            have hh1 : here.size ≤ 10 := by omega
            cases h1 : withI k (x :: M) (here ++ ⟨#[48]⟩) with
            | none =>
              rw [h1] at j1
              have j1' : ∀ w', Below w.heap.size w w' → Calls Try.prog 88 #[.slice (some ⟨g, off, none⟩) len cap, .string (here ++ ⟨#[48]⟩)] w' (NWNo w') := j1
              show Calls _ _ _ _ (NWNo w)
              clear j1 hxe hl ih h1 s0 s1 hh hr hsz hpb hlM
              go_enter Try.func88, Try.ntmps88
              go_wp2_with fail
              refine (hp _ z1 z2).mono ?_; rintro e w1 ⟨rfl, rfl⟩
              go_wp2_with fail
              refine (j1' _ (Below.refl _ _)).mono ?_; rintro e w1 ⟨rfl, hb1⟩
              go_wp2_with fail
              go_ret2
              exact ⟨rfl, hb1⟩
            | some p =>
              obtain ⟨t1, R1⟩ := p
              have hR1 := withI_mem h1
              have hR1s : ∀ s ∈ R1, s.size ≤ 8 := fun s hs => hsz s (hR1 s hs)
              rw [h1] at j1
              have j1' : ∀ w', Below w.heap.size w w' → Calls Try.prog 88 #[.slice (some ⟨g, off, none⟩) len cap, .string (here ++ ⟨#[48]⟩)] w' (NWOk t1 R1 w') := j1
              have j2 := fun a2 cap2 w' h2 h3 h4 => ih a2 R1.length cap2 R1 (here ++ ⟨#[49]⟩) w' rfl h2 h3 h4 hR1s (by omega)
              show Calls _ _ _ _ (NWPost (match withI k R1 (here ++ ⟨#[49]⟩) with | none => none | some (r, L2) => some (.nd t1 r, L2)) w)
              cases h2 : withI k R1 (here ++ ⟨#[49]⟩) with
              | none =>
                rw [h2] at j2
                have j2' : ∀ a2 cap2 w', R1.length ≤ cap2 → cap2 ≤ 1048576 → InS w' a2 R1 → Calls Try.prog 88 #[.slice a2 R1.length cap2, .string (here ++ ⟨#[49]⟩)] w' (NWNo w') := j2
                show Calls _ _ _ _ (NWNo w)
                clear j1 j2 hxe hl ih h1 h2 s0 s1 hh hr hsz hpb hlM hR1 hR1s
                go_enter Try.func88, Try.ntmps88
                go_wp2_with fail
                refine (hp _ z1 z2).mono ?_; rintro e w1 ⟨rfl, rfl⟩
                go_wp2_with fail
                refine (j1' _ (Below.refl _ _)).mono ?_; rintro e w1 ⟨b1, a1, cap1, hn1, hi1, hc1, hc2, hb1, rfl⟩
                go_wp2_with fail
                refine (j2' _ _ _ hc1 hc2 hi1).mono ?_; rintro e w2 ⟨rfl, hb2⟩
                go_wp2_with fail
                go_ret2
                exact ⟨rfl, nx hb1 hb2⟩
              | some q =>
                obtain ⟨t2, R2⟩ := q
                rw [h2] at j2
                have j2' : ∀ a2 cap2 w', R1.length ≤ cap2 → cap2 ≤ 1048576 → InS w' a2 R1 → Calls Try.prog 88 #[.slice a2 R1.length cap2, .string (here ++ ⟨#[49]⟩)] w' (NWOk t2 R2 w') := j2
                show Calls _ _ _ _ (NWOk (.nd t1 t2) R2 w)
                clear j1 j2 hxe hl ih h1 h2 s0 s1 hh hr hsz hpb hlM hR1 hR1s
                go_enter Try.func88, Try.ntmps88
                go_wp2_with fail
                refine (hp _ z1 z2).mono ?_; rintro e w1 ⟨rfl, rfl⟩
                go_wp2_with fail
                refine (j1' _ (Below.refl _ _)).mono ?_; rintro e w1 ⟨b1, a1, cap1, hn1, hi1, hc1, hc2, hb1, rfl⟩
                go_wp2_with fail
                refine (j2' _ _ _ hc1 hc2 hi1).mono ?_; rintro e w2 ⟨b2, a2, cap2, hn2, hi2, hc3, hc4, hb2, rfl⟩
                go_wp2_with fail
                go_ret2
                have hb3 := nxAlloc (nx hb1 hb2) (.cells #[.pointer (some ⟨b1, 0, none⟩), .pointer (some ⟨b2, 0, none⟩)] 110 (0, 0))
                exact ⟨_, a2, cap2, node_new hn1 hb2 hn2, hi2.keep (nxAlloc (Below.refl _ _) _), hc3, hc4, hb3, rfl⟩
end Go.Proofs.Ytdpfoeknphiheaa
