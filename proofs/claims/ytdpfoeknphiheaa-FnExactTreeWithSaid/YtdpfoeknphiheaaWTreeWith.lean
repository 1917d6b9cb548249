/- The walk of laws.FnExactTreeWith. -/
import Derived.Test.YtdpfoeknphiheaaNodeWith
import Derived.Test.YtdpfoeknphiheaaAns
namespace Go.Proofs.Ytdpfoeknphiheaa
open Go.RowKit

theorem specTreeWith_any (a : Option Addr) (len cap : Nat) (L : List ByteArray) (w : World) (hl : L.length = len) (hlc : len ≤ cap) (hcm : cap ≤ 1048576) (hin : InS w a L) :
    Calls Try.prog 34 #[.slice a len cap] w (Gives (ansV (withO L)) w) := by
  by_cases h9 : (len : Int) ≤ 9
  · have hw := trWith_any 9 a len cap L ⟨#[]⟩ w hl hlc hcm hin rfl
    cases hs : withS 9 L ⟨#[]⟩ with
    | none =>
      rw [hs] at hw
      rw [withO_no hs]
      have hw' : Calls Try.prog 94 #[.slice a len cap, .string ⟨#[]⟩] w fun e w' => e = .returned (.tuple #[.string ⟨#[]⟩, .int .i64 0]) ∧ Below w.heap.size w w' := hw
      clear hw hs hin hl
      go_enter Try.func34, Try.ntmps34
      go_wp2_with fail
      refine hw'.mono ?_; rintro e w1 ⟨rfl, hb1⟩
      go_wp2_with fail
      go_ret2
      exact ⟨rfl, hb1⟩
    | some p =>
      obtain ⟨t, n⟩ := p
      obtain ⟨e1, e2, _⟩ := withS_sound _ _ _ _ _ hs
      have hO := withO_of (by omega) hs
      rw [hs] at hw
      have hw' : Calls Try.prog 94 #[.slice a len cap, .string ⟨#[]⟩] w fun e w' => e = .returned (.tuple #[.string t.str, .int .i64 n]) ∧ Below w.heap.size w w' := hw
      have hn0 : ((n : Int) == 0) = false := by simp; omega
      by_cases hn : n = len
      · rw [hO]
        rw [if_pos (by omega)]
        have hne : ((n : Int) != (len : Int)) = false := by simp [hn]
        have hn0' : ((len : Int) == 0) = false := by rw [← hn]; exact hn0
        obtain rfl := hn
        clear hw hO hs hin hl e1 e2 hn0'
        go_enter Try.func34, Try.ntmps34
        go_wp2_with fail
        refine hw'.mono ?_; rintro e w1 ⟨rfl, hb1⟩
        go_wp2_with fail
        go_ret2
        exact ⟨rfl, hb1⟩
      · rw [hO]
        rw [if_neg (by omega)]
        have hne : ((n : Int) != (len : Int)) = true := by simp; omega
        clear hw hO hs hin hl e1 e2 hn
        go_enter Try.func34, Try.ntmps34
        go_wp2_with fail
        refine hw'.mono ?_; rintro e w1 ⟨rfl, hb1⟩
        go_wp2_with fail
        go_ret2
        exact ⟨rfl, hb1⟩
  · rw [show withO L = none by unfold withO; rw [if_neg (by omega)]]
    clear hin hl
    go_enter Try.func34, Try.ntmps34
    go_wp2_with fail
    go_ret2
    exact ⟨rfl, Below.refl _ _⟩

theorem withO_long {L : List ByteArray} {s : ByteArray} (hs : s ∈ L) (h : 8 < s.size) : withO L = none := by
  cases hw : withO L with
  | none => rfl
  | some t =>
    obtain ⟨rfl, hc⟩ := withO_some hw
    have := (addrs_size t _ s hs).2
    have e : (⟨#[]⟩ : ByteArray).size = 0 := rfl
    omega

set_option maxRecDepth 100000 in
set_option maxHeartbeats 2000000 in
theorem implTreeWith_any (a : Option Addr) (len cap : Nat) (L : List ByteArray) (w : World) (hl : L.length = len) (hlc : len ≤ cap) (hcm : cap ≤ 1048576) (hin : InS w a L) (hbig : ∀ s ∈ L, s.size ≤ 1048576) :
    Calls Try.prog 30 #[.slice a len cap] w (Gives (ansV (withO L)) w) := by
  by_cases h9 : (len : Int) ≤ 9
  · have HL := Lib.hid hl
    have HI := Lib.hid hin
    have HB := Lib.hid hbig
    clear hin hl hbig
    go_enter Try.func30, Try.ntmps30
    go_wp2_with fail
    go_loopw [13] (fun i wr => ∃ k : Nat, k ≤ len ∧ i = .int .i64 k ∧ wr = w ∧ Hid (∀ s ∈ L.take k, s.size ≤ 8)) (fun i _ => len - (intOf i).toNat)
    case atStart => exact ⟨0, Nat.zero_le _, rfl, rfl, fun s hs => by simp at hs⟩
    case round =>
      obtain ⟨k, hk, rfl, rfl, hall⟩ := hrel
      by_cases hlt : k < len
      · have hlt' : (k : Int) < (len : Int) := by omega
        have hlk : k < L.length := by have := HL.out; omega
        rcases HI.out with h0 | ⟨g, off, rfl, hr⟩
        · exfalso; rw [h0] at hlk; simp at hlk
        · have c1 := hr k hlk
          have hmem : L.getD k ⟨#[]⟩ ∈ L := by rw [List.getD_eq_getElem?_getD, List.getElem?_eq_getElem hlk]; exact List.getElem_mem hlk
          have hz1 := HB.out _ hmem
          have htk : L.take (k + 1) = L.take k ++ [L.getD k ⟨#[]⟩] := by rw [List.take_succ_eq_append_getElem hlk]; simp [hlk]
          obtain ⟨s, hs⟩ : ∃ s, s = L.getD k ⟨#[]⟩ := ⟨_, rfl⟩
          rw [← hs] at c1 hz1 htk hmem
          have HT := Lib.hid htk
          clear hs htk hlk hr
          by_cases hlong : (8 : Int) < s.size
          · have hno := withO_long hmem (by omega)
            have HNO := Lib.hid hno
            clear hno hmem
            go_wp2_with fail
            go_ret2
            rw [HNO.out]
            exact ⟨rfl, Below.refl _ _⟩
          · clear hmem
            go_wp2_with fail
            go_roundw
            case rel =>
              refine ⟨k + 1, by omega, by go_num, trivial, ?_⟩
              show ∀ s ∈ L.take (k + 1), s.size ≤ 8
              rw [HT.out]
              intro x hx
              rw [List.mem_append] at hx
              rcases hx with hx | hx
              · exact hall.out x hx
              · simp at hx; subst hx; omega
            case measure => simp [intOf]; omega
      · obtain rfl : k = len := by omega
        have hall' : ∀ s ∈ L, s.size ≤ 8 := by
          have h1 := hall.out
          rw [List.take_of_length_le (by have := HL.out; omega)] at h1
          exact h1
        have hw := nodeWith_any 10 a k cap L ⟨#[]⟩ wr HL.out hlc hcm HI.out hall' rfl
        have hO := withO_eq (L := L) (by have := HL.out; omega)
        cases hs : withI 10 L ⟨#[]⟩ with
        | none =>
          rw [hs] at hO hw
          have hw' : Calls Try.prog 88 #[.slice a k cap, .string ⟨#[]⟩] wr (NWNo wr) := hw
          have HO := Lib.hid hO
          clear hw hO hs hall'
          go_wp2_with fail
          refine hw'.mono ?_; rintro e w1 ⟨rfl, hb1⟩
          go_wp2_with fail
          go_ret2
          rw [HO.out]
          exact ⟨rfl, hb1⟩
        | some p =>
          obtain ⟨t, R⟩ := p
          rw [hs] at hO hw
          have hw' : Calls Try.prog 88 #[.slice a k cap, .string ⟨#[]⟩] wr (NWOk t R wr) := hw
          have htl := withI_sound _ _ _ _ _ hs
          have htc := addrs_length t ⟨#[]⟩
          have hcar : t.carets ≤ 1000 := by
            have := congrArg List.length htl
            rw [List.length_append] at this
            have := HL.out
            omega
          cases R with
          | nil =>
            have HO : Hid (withO L = some t) := hO
            clear hw hO hs hall' htl htc
            go_wp2_with fail
            refine hw'.mono ?_; rintro e w1 ⟨b1, a1, cap1, hn1, hi1, hc1, hc2, hb1, rfl⟩
            go_wp2_with fail
            refine (text_any t b1 _ hn1 hcar).mono ?_; rintro e w2 ⟨rfl, n, rfl⟩
            go_wp2_with fail
            go_ret2
            rw [HO.out]
            exact ⟨rfl, drewB hb1 _⟩
          | cons x R =>
            have HO : Hid (withO L = none) := hO
            clear hw hO hs hall' htl htc
            go_wp2_with fail
            refine hw'.mono ?_; rintro e w1 ⟨b1, a1, cap1, hn1, hi1, hc1, hc2, hb1, rfl⟩
            go_wp2_with fail
            go_ret2
            rw [HO.out]
            exact ⟨rfl, hb1⟩
  · rw [show withO L = none by unfold withO; rw [if_neg (by omega)]]
    clear hin hl hbig
    go_enter Try.func30, Try.ntmps30
    go_wp2_with fail
    go_ret2
    exact ⟨rfl, Below.refl _ _⟩

theorem OwnS.inS {base : Nat} {w : World} {g cap : Nat} {ss : List ByteArray} (h : OwnS base w (.slice (some ⟨g, 0, none⟩) ss.length cap) ss) : InS w (some ⟨g, 0, none⟩) ss := by
  right
  refine ⟨g, 0, rfl, fun i hi => ?_⟩
  have := World.ownsRow.cellAt h i (by omega)
  rw [Nat.zero_add, this]
  simp [List.getElem?_eq_getElem hi]

set_option maxRecDepth 100000 in
set_option maxHeartbeats 1000000 in
theorem treeWith_law (W : World) (a : Option Addr) (len cap : Nat) (L : List ByteArray) (hl : L.length = len) (hl2 : (len : Int) ≤ 9223372036854775807) (hz : ∀ s ∈ L, (s.size : Int) ≤ 9223372036854775807) (hin : InS W a L) :
    Calls Try.prog 9 #[.slice a len cap] W fun e w' => e = .returned (.bool true) ∧ Below W.heap.size W w' := by
  have hsz := szStringS_any a cap len L W hl hl2 hz hin
  subst hl
  have HI := Lib.hid hin
  clear hin hz
  go_enter Try.func9, Try.ntmps9
  go_wp2_with fail
  refine hsz.mono ?_; rintro e w1 ⟨r, rfl, rfl, hr⟩
  clear hsz
  by_cases hneg : r < 0
  · go_wp2_with fail
    go_ret
    exact ⟨rfl, Below.refl _ _⟩
  · obtain ⟨hn, hs⟩ := hr.out (by omega)
    have hs' : Hid (∀ s ∈ L, s.size ≤ 1048576) := hs
    clear hs hr
    go_wp2_with fail
    refine (toStringS_any a cap L.length L _ rfl hn HI.out).mono ?_; rintro e w1 ⟨g1, own1, hb1, rfl⟩
    go_wp2_with fail
    refine (specTreeWith_any _ _ _ L _ rfl (Nat.le_refl _) hn own1.inS).mono ?_; rintro e w2 ⟨rfl, hb2⟩
    have hb12 := nx hb1 hb2
    unfold ansV
    go_wp2_with fail
    refine (toStringS_any a cap L.length L _ rfl hn (HI.out.keep hb12)).mono ?_; rintro e w3 ⟨g3, own3, hb3, rfl⟩
    have hb13 := nx hb12 hb3
    go_wp2_with fail
    refine (implTreeWith_any _ _ _ L _ rfl (Nat.le_refl _) hn own3.inS hs'.out).mono ?_; rintro e w4 ⟨rfl, hb4⟩
    have hb14 := nx hb13 hb4
    unfold ansV
    go_wp2_with fail
    refine (toStringS_any a cap L.length L _ rfl hn (HI.out.keep hb14)).mono ?_; rintro e w5 ⟨g5, own5, hb5, rfl⟩
    go_wp2_with fail
    refine (eqStringS_any _ _ _ _ L _ (own3.keep (nx hb4 hb5)).cells own5.cells).mono ?_; rintro e w6 ⟨rfl, n, rfl⟩
    go_wp2_with fail
    go_ret
    exact ⟨rfl, drewB (nx hb14 hb5) _⟩

theorem fnExactTreeWith_walk (W : World) (a : Option Addr) (len cap : Nat) (z : List ByteArray) (h : IsStrs W a len cap z) :
    Calls Try.prog 9 #[.slice a len cap] W fun e w' => e = .returned (.bool true) ∧ Below W.heap.size W w' := by
  obtain ⟨h1, h2, h3, h4⟩ := h.inS
  exact treeWith_law W a len cap (z.take len) h2 h3 h4 h1
end Go.Proofs.Ytdpfoeknphiheaa
