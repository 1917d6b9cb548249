/- Walks: how much a table holds; its rows turned. -/
import Derived.Test.YtkoebmdocenlkaaTc4
namespace Go.Proofs.Ytkoebmdocenlkaa
open Go.RowKit

def totL (T : List (List Int)) : Nat := (T.map List.length).sum
theorem totL_snoc (T : List (List Int)) (s : List Int) : totL (T ++ [s]) = totL T + s.length := by simp [totL]
theorem totL_take (T : List (List Int)) (k : Nat) : totL (T.take k) ≤ totL T := by
  have : totL T = totL (T.take k) + totL (T.drop k) := by
    unfold totL
    rw [← List.sum_append_nat, ← List.map_append, List.take_append_drop]
  omega
theorem totL_mem {T : List (List Int)} {x : List Int} (h : x ∈ T) : x.length ≤ totL T := by
  induction T with
  | nil => cases h
  | cons y T ih =>
    have e : totL (y :: T) = y.length + totL T := by simp [totL]
    rcases List.mem_cons.1 h with rfl | h
    · omega
    · have := ih h; omega
def SizeSum (T : List (List Int)) (w : World) (e : Ending) (w' : World) : Prop :=
  ∃ r : Int, e = .returned (.int .i64 r) ∧ w = w' ∧ Hid (r ≤ 1048576) ∧ Hid (0 ≤ r → T.length ≤ 1048576 ∧ totL T ≤ 1048576)

set_option maxHeartbeats 1000000 in
theorem szIntSS_sum (a : Option Addr) (cap n : Nat) (T : List (List Int)) (left : Int) (w : World) (hl0 : 0 ≤ left) (hl1 : left ≤ 1048576) (hn : T.length = n) (hn1 : (n : Int) ≤ 9223372036854775807) (h : InII w a T) :
    Calls Try.prog 34 #[.slice a n cap, .int .i64 left] w (SizeSum T w) := by
  by_cases hbig : left < n
  · have HN : Hid ((0 : Int) ≤ -1 → T.length ≤ 1048576 ∧ totL T ≤ 1048576) := fun h => absurd h (by omega)
    have HM : Hid ((-1 : Int) ≤ 1048576) := by show (-1 : Int) ≤ 1048576; omega
    clear h hn
    go_enter Try.func34, Try.ntmps34
    go_wp2_with fail
    go_ret
    exact ⟨_, rfl, rfl, HM, HN⟩
  · have HN := Lib.hid hn
    clear hn
    rcases h with h0 | ⟨g, off, rfl, hr⟩
    · subst h0
      have hn0 : n = 0 := HN.out.symm
      subst hn0
      have HM : Hid (left ≤ 1048576) := hl1
      go_enter Try.func34, Try.ntmps34
      go_wp2_with fail
      go_loopw [1, 5] (fun v i wr => v = .int .i64 left ∧ i = .int .i64 0 ∧ wr = w) (fun _ _ _ => 0)
      case atStart => exact ⟨by go_num, rfl, rfl⟩
      case round =>
        obtain ⟨rfl, rfl, rfl⟩ := hrel
        go_wp2_with fail
        go_ret
        exact ⟨_, rfl, rfl, HM, fun _ => ⟨by simp, by simp [totL]⟩⟩
    · have HR := Lib.hid hr
      clear hr
      go_enter Try.func34, Try.ntmps34
      go_wp2_with fail
      go_loopw [1, 5] (fun v i wr => ∃ (k : Nat) (r : Int), k ≤ n ∧ i = .int .i64 k ∧ v = .int .i64 r ∧ 0 ≤ r ∧ r ≤ 1048576 ∧ wr = w ∧ Hid ((totL (T.take k) : Int) + r ≤ 1048576)) (fun _ i _ => n - (intOf i).toNat)
      case atStart => exact ⟨0, _, Nat.zero_le _, rfl, rfl, by omega, by omega, rfl, by show _ ≤ _; simp [totL]; omega⟩
      case round =>
        obtain ⟨k, r, hk, rfl, rfl, hr0, hr1, rfl, hall⟩ := hrel
        by_cases hlt : k < n
        · have hlt' : (k : Int) < (n : Int) := by omega
          have hlk : k < T.length := by have := HN.out; omega
          obtain ⟨v, c1, A, C, rfl, hx1, _⟩ := HR.out k hlk
          have htk : T.take (k + 1) = T.take k ++ [T.getD k []] := by rw [List.take_succ_eq_append_getElem hlk]; simp [hlk]
          obtain ⟨s, hs⟩ : ∃ s, s = T.getD k [] := ⟨_, rfl⟩
          rw [← hs] at c1 hx1 htk
          have HT := Lib.hid htk
          obtain ⟨q, hq⟩ : ∃ q, q = s.length := ⟨_, rfl⟩
          rw [← hq] at c1 hx1
          have HQ := Lib.hid hq
          clear hs htk hlk hq
          by_cases hneg : r < q
          · have HNN : Hid ((0 : Int) ≤ -1 → T.length ≤ 1048576 ∧ totL T ≤ 1048576) := fun h => absurd h (by omega)
            have HM : Hid ((-1 : Int) ≤ 1048576) := by show (-1 : Int) ≤ 1048576; omega
            go_wp2_with fail
            refine (szIntS_no A q C r _ hx1 hr0 hr1 hneg).mono ?_; rintro e w1 ⟨rfl, rfl⟩
            go_wp2_with fail
            go_ret
            exact ⟨_, rfl, rfl, HM, HNN⟩
          · go_wp2_with fail
            refine (szIntS_yes A q C r _ hx1 hr0 hr1 (by omega)).mono ?_; rintro e w1 ⟨rfl, rfl⟩
            go_wp2_with fail
            go_roundw
            case rel =>
              refine ⟨k + 1, r - q, by omega, by go_num, rfl, by omega, by omega, trivial, ?_⟩
              show (totL (T.take (k + 1)) : Int) + (r - q) ≤ 1048576
              have h1 := hall.out
              have h2 := HQ.out
              rw [HT.out, totL_snoc]
              omega
            case measure => simp [intOf]; omega
        · obtain rfl : k = n := by omega
          have HM : Hid (r ≤ 1048576) := hr1
          have hfin : Hid (0 ≤ r → T.length ≤ 1048576 ∧ totL T ≤ 1048576) := by
            intro _
            have h1 := hall.out
            rw [List.take_of_length_le (by have := HN.out; omega)] at h1
            exact ⟨by have := HN.out; omega, by omega⟩
          go_wp2_with fail
          go_ret
          exact ⟨_, rfl, rfl, HM, hfin⟩


theorem own_same {b b' : Nat} {w : World} {g n m : Nat} {xs ys : List Int} (h1 : OwnI b w (.slice (some ⟨g, 0, none⟩) n n) xs) (h2 : OwnI b' w (.slice (some ⟨g, 0, none⟩) m m) ys) : n = m := by
  rcases h1.2 with ⟨hv, _⟩ | ⟨g1, c1, u1, hv1, _, hh1, _, _, hs1, _⟩
  · cases hv
  rcases h2.2 with ⟨hv, _⟩ | ⟨g2, c2, u2, hv2, _, hh2, _, _, hs2, _⟩
  · cases hv
  cases hv1
  cases hv2
  rw [hh1] at hh2
  injection hh2 with hh2
  injection hh2 with hh2
  subst hh2
  omega
def TabMarked (top g : Nat) (w : World) (e : Ending) (w' : World) : Prop :=
  ∃ r : Int, e = .returned (.int .i64 r) ∧ 0 ≤ r ∧ Below (g + 1) w w' ∧ Hid (∀ b v xs, top ≤ b → OwnI b w v xs → OwnI b w' v xs)

set_option maxRecDepth 100000 in
set_option maxHeartbeats 2000000 in
theorem markIntSS_any (base g top n : Nat) (gs : List Nat) (T : List (List Int)) (w : World) (hn : T.length = n) (hn9 : n ≤ 1048576) (hs9 : totL T ≤ 1048576) (ho : OwnII base w g gs T) (htop : ∀ r, r < n → gs.getD r 0 < top) :
    Calls Try.prog 43 #[.slice (some ⟨g, 0, none⟩) n n, .int .i64 1] w (TabMarked top g w) := by
  have HN := Lib.hid hn
  have HO := Lib.hid ho
  have HS := Lib.hid hs9
  have HTOP := Lib.hid htop
  have hgw : g + 1 ≤ w.heap.size := (World.ownsRow.lt ho.2.2.1 g rfl).2
  have H0 : Hid (∀ r, r < n → ∃ xs : List Int, xs.length = (T.getD r []).length ∧ OwnI (g + 1) w (rowV (gs.getD r 0) (T.getD r [])) xs) := fun r hr => ⟨_, rfl, ho.2.2.2 r (by omega)⟩
  clear hn ho hs9 htop
  go_enter Try.func43, Try.ntmps43
  go_wp2_with fail
  go_loopw [1, 5] (fun v i wr => ∃ (k : Nat) (r : Int), i = .int .i64 k ∧ v = .int .i64 r ∧ k ≤ n ∧ 0 ≤ r ∧ r ≤ 1048577 ∧ Hid (r = 1 + (totL (T.take k) : Int)) ∧ Below (g + 1) w wr ∧ Hid (∀ r, r < n → ∃ xs : List Int, xs.length = (T.getD r []).length ∧ OwnI (g + 1) wr (rowV (gs.getD r 0) (T.getD r [])) xs) ∧ Hid (∀ b v xs, top ≤ b → OwnI b w v xs → OwnI b wr v xs)) (fun _ i _ => n - (intOf i).toNat)
  case atStart => exact ⟨0, 1, by go_num, by go_num, Nat.zero_le _, by omega, by omega, by show _ = _; simp [totL], Below.refl _ _, H0, fun _ _ _ _ h => h⟩
  case round =>
    obtain ⟨k, r, rfl, rfl, hk, hr0, hr1, hr, hbw, hrows, hkeep⟩ := hrel
    by_cases hlt : k < n
    · have hlt' : (k : Int) < (n : Int) := by omega
      have hlk : k < T.length := by have := HN.out; omega
      have c0 := (HO.out.tab k hlk).1
      have c1 : wr.cell? ⟨g, k, none⟩ = some (rowV (gs.getD k 0) (T.getD k [])) := (hbw.cell (p := ⟨g, k, none⟩) (Nat.lt_succ_self g)).trans c0
      obtain ⟨xs, hxl, hox⟩ := hrows.out k hlt
      have htk : totL (T.take (k + 1)) = totL (T.take k) + (T.getD k []).length := by
        rw [show T.take (k + 1) = T.take k ++ [T.getD k []] by rw [List.take_succ_eq_append_getElem hlk]; simp [hlk], totL_snoc]
      have htl := totL_take T (k + 1)
      obtain ⟨q, hq⟩ : ∃ q, q = (T.getD k []).length := ⟨_, rfl⟩
      have hx2 : OwnI (g + 1) wr (.slice (some ⟨gs.getD k 0, 0, none⟩) q q) xs := by rw [hq]; exact hox
      have c2 : wr.cell? ⟨g, k, none⟩ = some (.slice (some ⟨gs.getD k 0, 0, none⟩) q q) := by rw [hq]; exact c1
      rw [← hq] at htk hxl
      have hq9 : q ≤ 1048576 := by have := HS.out; omega
      have hMK := markIntS_one (g + 1) (gs.getD k 0) q q xs hxl r wr hr0 (by omega) (by omega) hx2
      have hlt2 := hx2.lt
      have HTP := HTOP.out k hlt
      obtain ⟨b, hb⟩ : ∃ b, b = gs.getD k 0 := ⟨_, rfl⟩
      rw [← hb] at c2 hMK hlt2 HTP hx2
      have HBE := Lib.hid hb
      have HQE := Lib.hid hq
      have HTK := Lib.hid htk
      have HTL := Lib.hid htl
      clear c0 c1 hox hb hq htk htl
      go_wp2_with fail
      refine hMK.mono ?_; rintro e w1 ⟨rfl, own1, hg1⟩
      have hbw1 := hbw.trans (grown_below hg1 (Nat.le_trans hgw hbw.size) hlt2.1)
      have hrows1 : Hid (∀ r, r < n → ∃ xs : List Int, xs.length = (T.getD r []).length ∧ OwnI (g + 1) w1 (rowV (gs.getD r 0) (T.getD r [])) xs) := by
        show ∀ r, _
        intro s hs
        obtain ⟨ys, hyl, hoy⟩ := hrows.out s hs
        by_cases hbs : gs.getD s 0 = b
        · have e1 : q = (T.getD s []).length := by
            have h9 := hoy
            unfold rowV at h9
            rw [hbs] at h9
            exact own_same hx2 h9
          refine ⟨marks r q, by rw [marks_length]; exact e1, ?_⟩
          unfold rowV
          rw [hbs, ← e1]
          exact own1
        · refine ⟨ys, hyl, World.ownsRow.kept hoy hg1 (.inr ?_)⟩
          simp only [rowV, Value.ownBlock]
          intro e; injection e with e; exact hbs e
      have hkeep1 : Hid (∀ b v xs, top ≤ b → OwnI b w v xs → OwnI b w1 v xs) := by
        show ∀ b v xs, _
        intro b' v ys h1 h2
        exact (hkeep.out b' v ys h1 h2).kept hg1 (by omega)
      have hrn : Hid (r + q = 1 + (totL (T.take (k + 1)) : Int)) := by
        show _ = _
        have h1 := hr.out
        have h2 := HTK.out
        omega
      have hr9 : r + q ≤ 1048577 := by have h1 := hrn.out; have h2 := HTL.out; have h3 := HS.out; omega
      clear own1 hrows hkeep hMK hr hbw hg1 hx2
      go_wp2_with fail
      go_roundw
      case rel => exact ⟨k + 1, r + q, by go_num, by go_num, by omega, by omega, hr9, hrn, hbw1, hrows1, hkeep1⟩
      case measure => simp [intOf]; omega
    · obtain rfl : k = n := by omega
      clear hr hrows
      go_wp2_with fail
      go_ret
      exact ⟨r, rfl, hr0, hbw, hkeep⟩
end Go.Proofs.Ytkoebmdocenlkaa
