/- FnExactForestsOfPair: for every input the law returns true and leaves its arguments as they were. No conditions. -/
import Derived.Test.YtplmbdljhgicfaaMgForestsOfPair2
import Derived.OwnWalk
import Derived.ProofKit
import Derived.OpenShut
import Derived.ShutString
import Derived.ChangeOld
import Derived.Below
import Derived.Lib.SmallJoins
/-! Ff11 -/
namespace Go.Proofs.Ytplmbdljhgicfaa
open Go.RowKit

def strZ (v : Value) : Nat := match v with | .string s => s.size | _ => 0
theorem strip_ok {t : Tr} (h : t.carets ≤ 8) : okF (stripT (hangT t)) = true ∧ stripT (hangT t) = hangT t := by
  have h1 : stripT (hangT t) = hangT t := stripT_stripT _
  exact ⟨by rw [h1]; exact hang_ok h, h1⟩

set_option maxRecDepth 100000 in
set_option maxHeartbeats 1000000 in
theorem foHanging_any (t : Tr) (w : World) (h : t.carets ≤ 60) :
    Calls Try.prog 64 #[.string t.str] w (GivesOwn (strs (hangT t)) w) := by
  obtain ⟨i0, hi, hz0, hz1, hz2⟩ := info_parts info_str
  go_enter Try.func64, Try.ntmps64
  go_wp2_with fail
  go_loopw [0, 3] (fun s u wr => ∃ (x : Tr) (ts : List Tr) (ss : List ByteArray), s = .string x.str ∧ OwnS w.heap.size wr u ss ∧ Hid (ss = strs ts) ∧ Hid (ts ++ sidesT x = sidesT t) ∧ x.carets + ss.length ≤ 60 ∧ Below w.heap.size w wr) (fun s _ _ => strZ s)
  case atStart => exact ⟨t, [], [], rfl, OwnS.nil _ _, rfl, rfl, by simpa using h, Below.refl _ _⟩
  case round =>
    obtain ⟨x, ts, ss, rfl, hown, hss, he, hc, hbw⟩ := hrel
    cases x with
    | lf =>
      have hL := fun w => trLeaf_any .lf w
      have h1 := he.out
      rw [show sidesT .lf = [] from rfl, List.append_nil] at h1
      have hlen : ts.length ≤ 60 := by have := hss.out; rw [this, strs_length] at hc; simp [Tr.carets] at hc; exact hc
      have hW := fun v b w h => wdShort_own v b ts w h (by omega)
      have HH : Hid (strs (stripT ts) = strs (hangT t)) := by show _ = _; rw [h1]; rfl
      rw [hss.out] at hown
      simp only [Tr.isLf] at hL
      clear hss he h1 hc hlen
      go_wp2_with fail
      refine (hL _).mono ?_; rintro e w1 ⟨rfl, rfl⟩
      go_wp2_with fail
      refine (hW _ _ _ hown.cells).mono ?_; rintro e w2 ⟨v2, own2, hb2, rfl⟩
      go_wp2_with fail
      go_ret
      exact ⟨_, by rw [← HH.out]; exact own2.mono hbw.size, nx hbw hb2, rfl⟩
    | nd l r =>
      have hL := fun w => trLeaf_any (.nd l r) w
      simp only [Tr.isLf] at hL
      have hc' : l.carets + r.carets + 1 + ss.length ≤ 60 := hc
      have hS := fun w => trSides_any l r w (by omega)
      have hX : Hid ((ts ++ [l]) ++ sidesT r = sidesT t) := by show _ = _; rw [← he.out, List.append_assoc]; rfl
      have hY : Hid (ss ++ [l.str] = strs (ts ++ [l])) := by show _ = _; rw [hss.out]; simp [strs]
      have hsz1 := (Tr.nd l r).str_size
      have hsz2 := r.str_size
      have HSZ : Hid (r.str.size < (Tr.nd l r).str.size) := by show r.str.size < (Tr.nd l r).str.size; rw [hsz1, hsz2]; simp only [Tr.carets]; omega
      have hss9 : ss.length ≤ 60 := by omega
      unfold OwnS at hown
      generalize (Tr.nd l r).str = S at *
      generalize hls : l.str = ls at *
      have HLS := Lib.hid hls
      clear hss he hc hsz1 hsz2 hls
      go_wp2_with fail
      refine (hL _).mono ?_; rintro e w1 ⟨rfl, rfl⟩
      go_wp2_with fail
      refine (hS _).mono ?_; rintro e w2 ⟨rfl, hb2⟩
      replace hown := ownsRow_keep hown hb2
      replace hbw := nx hbw hb2
      clear hb2
      go_wp2_with (at_builtin; refine wpList_append_own _ rfl _ _ 22 rfl w.heap.size 9 i0 (.string ⟨#[]⟩) 1 16 Try.underlying22 hi hz0 hz1 hz2 rfl (by decide) _ _ _ rfl (hown.alloc _) ⟨w2.heap.size, 0, none⟩ 1 1 [.string ls] rfl rfl (new1 _ _ _) (oneS [ls]) (by unfold maxLen; omega) (by omega) (size_al hbw _) ?_; intro v' w9 hown' hgrow hnn)
      have hbw9 := below_app hbw hown (Nat.le_refl _) hgrow
      have hown1 : OwnS w.heap.size w9 v' (ss ++ [ls]) := OwnS.app (B := [ls]) hown'
      clear hown hown' hgrow hbw hnn
      go_wp2_with fail
      go_roundw
      case rel => exact ⟨r, ts ++ [l], _, rfl, hown1, hY, hX, by simp; omega, hbw9⟩
      case measure => exact HSZ.out

/-- Two slices of texts of the call's own, in blocks of their own, and a bool. -/
def AnsSS2 (xs ys : List ByteArray) (ok : Bool) (w : World) (e : Ending) (w' : World) : Prop :=
  ∃ v u B, OwnS w.heap.size w' v xs ∧ OwnS B w' u ys ∧ w.heap.size ≤ B ∧ (∀ k, v.ownBlock = some k → k < B) ∧ Below w.heap.size w w' ∧ e = .returned (.tuple #[v, u, .bool ok])
def hangO (o : Option Pr) (f : Pr → Tr) : List ByteArray := match o with | some p => strs (hangT (f (red p))) | none => []
theorem OwnS.block {base : Nat} {w : World} {v : Value} {xs : List ByteArray} (h : OwnS base w v xs) : ∀ k, v.ownBlock = some k → k < w.heap.size := fun k hk => (World.ownsRow.lt h k hk).2
theorem red_car {p : Pr} (h : p.1.carets ≤ 8) (k : p.2.carets ≤ 8) : (red p).1.carets ≤ 8 ∧ (red p).2.carets ≤ 8 := by
  have := redBy_carets p []
  unfold red
  omega

set_option maxRecDepth 100000 in
set_option maxHeartbeats 1000000 in
theorem specForestsOfPair_any (a b : ByteArray) (w : World) (ha : a.size ≤ 9223372036854775806) (hb : b.size ≤ 9223372036854775806) :
    Calls Try.prog 33 #[.agg #[.string a, .string b]] w (AnsSS2 (hangO (pairOf a b) Prod.fst) (hangO (pairOf a b) Prod.snd) (pairOf a b).isSome w) := by
  have hg := fun w => prGood_any a b w ha hb
  cases h : pairOf a b with
  | none =>
    rw [h] at hg
    have hg' : ∀ w, Calls Try.prog 62 #[.agg #[.string a, .string b]] w (Gives (.bool false) w) := hg
    clear h hg
    go_enter Try.func33, Try.ntmps33
    go_wp2_with fail
    have hb0 : Below w.heap.size w (w.alloc (.cells #[.string a, .string b] 40 (0, 0))) := nxAlloc (Below.refl _ _) _
    have hx0 := heap_alloc_at w (.cells #[.string a, .string b] 40 (0, 0))
    generalize (w.alloc (.cells #[.string a, .string b] 40 (0, 0))) = w0 at *
    obtain ⟨hx0a, hx0b, hx0c⟩ := two_facts hx0
    obtain ⟨hx0f, hx0g⟩ := two_frozen hx0
    refine (hg' _).mono ?_; rintro e w1 ⟨rfl, hb1⟩
    have hbw1 := nx hb0 hb1
    replace hx0 := heap_keep hb1 hx0
    clear hx0a hx0b hx0c hx0f hx0g
    obtain ⟨hx0a, hx0b, hx0c⟩ := two_facts hx0
    obtain ⟨hx0f, hx0g⟩ := two_frozen hx0
    clear hb1 hb0
    go_wp2_with fail
    go_ret3
    exact ⟨.slice none 0 0, .slice none 0 0, w.heap.size, OwnS.nil _ _, OwnS.nil _ _, Nat.le_refl _, fun k hk => (by cases hk), hbw1, rfl⟩
  | some p =>
    rw [h] at hg
    have hg' : ∀ w, Calls Try.prog 62 #[.agg #[.string a, .string b]] w (Gives (.bool true) w) := hg
    obtain ⟨rfl, rfl, _, hc1, hc2⟩ := pairOf_some h
    obtain ⟨hr1, hr2⟩ := red_car hc1 hc2
    have hP := fun w => prReduce_nil p w (by omega) (by omega)
    show Calls _ _ _ _ (AnsSS2 (strs (hangT (red p).1)) (strs (hangT (red p).2)) true w)
    generalize (red p).1 = t1 at *
    generalize (red p).2 = t2 at *
    have hH1 := fun w => foHanging_any t1 w (by omega)
    have hH2 := fun w => foHanging_any t2 w (by omega)
    have hsd1 := sides_sum t1
    have hsd2 := sides_sum t2
    have hsl1 := stripT_length (sidesT t1)
    have hsl2 := stripT_length (sidesT t2)
    have hss1 := sumT_strip (sidesT t1)
    have hss2 := sumT_strip (sidesT t2)
    have hF1 := fun v b w h => foIf_any v b (hangT t1) w h (by unfold hangT; omega) (by unfold hangT; omega)
    have hF2 := fun v b w h => foIf_any v b (hangT t2) w h (by unfold hangT; omega) (by unfold hangT; omega)
    rw [(strip_ok hr1).1, if_pos rfl, (strip_ok hr1).2] at hF1
    rw [(strip_ok hr2).1, if_pos rfl, (strip_ok hr2).2] at hF2
    generalize p.1.str = a at *
    generalize p.2.str = b at *
    generalize hangT t1 = X at *
    generalize hangT t2 = Y at *
    generalize t1.str = A at *
    generalize t2.str = B at *
    clear h hg ha hb hc1 hc2 hr1 hr2 hsd1 hsd2 hsl1 hsl2 hss1 hss2
    go_enter Try.func33, Try.ntmps33
    go_wp2_with fail
    have hb0 : Below w.heap.size w (w.alloc (.cells #[.string a, .string b] 40 (0, 0))) := nxAlloc (Below.refl _ _) _
    have hx0 := heap_alloc_at w (.cells #[.string a, .string b] 40 (0, 0))
    generalize (w.alloc (.cells #[.string a, .string b] 40 (0, 0))) = w0 at *
    obtain ⟨hx0a, hx0b, hx0c⟩ := two_facts hx0
    obtain ⟨hx0f, hx0g⟩ := two_frozen hx0
    refine (hg' _).mono ?_; rintro e w1 ⟨rfl, hb1⟩
    have hbw1 := nx hb0 hb1
    replace hx0 := heap_keep hb1 hx0
    clear hx0a hx0b hx0c hx0f hx0g
    obtain ⟨hx0a, hx0b, hx0c⟩ := two_facts hx0
    obtain ⟨hx0f, hx0g⟩ := two_frozen hx0
    clear hb1 hb0
    go_wp2_with fail
    refine (hP _).mono ?_; rintro e w2 ⟨rfl, hb2⟩
    have hbw2 := nx hbw1 hb2
    replace hx0 := heap_keep hb2 hx0
    clear hx0a hx0b hx0c hx0f hx0g
    obtain ⟨hx0a, hx0b, hx0c⟩ := two_facts hx0
    obtain ⟨hx0f, hx0g⟩ := two_frozen hx0
    clear hb2 hbw1
    go_wp2_with fail
    have hx1 := set_two (.string A) (.string B) hx0
    have hbw3 : Below w.heap.size w ((w2.setCell ⟨w.heap.size, 0, none⟩ (.string A)).setCell ⟨w.heap.size, 1, none⟩ (.string B)) := (hbw2.setCell (Nat.le_refl _) _).setCell (Nat.le_refl _) _
    clear hx0 hx0a hx0b hx0c hx0f hx0g hbw2
    generalize (w2.setCell ⟨w.heap.size, 0, none⟩ (.string A)).setCell ⟨w.heap.size, 1, none⟩ (.string B) = w3 at *
    obtain ⟨xa, xb, xc⟩ := two_facts hx1
    try go_wp2_with fail
    refine (hH1 _).mono ?_; rintro e w4 ⟨v4, own4, hb4, rfl⟩
    have hbw4 := nx hbw3 hb4
    have own4' := own4
    go_wp2_with fail
    refine (hF1 v4 _ _ own4.cells).mono ?_; rintro e w5 ⟨v5, own5, hb5, rfl⟩
    have hbk5 := own5.block
    have hbw5 := nx hbw4 hb5
    replace own5 := own5.mono hbw4.size
    clear own4 own4' xa xb xc
    replace hx1 := heap_keep (nx hb4 hb5) hx1
    obtain ⟨xa, xb, xc⟩ := two_facts hx1
    clear hb4 hb5
    go_wp2_with fail
    refine (hH2 _).mono ?_; rintro e w6 ⟨v6, own6, hb6, rfl⟩
    go_wp2_with fail
    refine (hF2 v6 _ _ own6.cells).mono ?_; rintro e w7 ⟨v7, own7, hb7, rfl⟩
    have hb57 := nx hb6 hb7
    replace own7 := own7.mono hb6.size
    replace own5 := own5.keep hb57
    have hbw7 := nx hbw5 hb57
    clear own6 hb6 hb7 xa xb xc
    go_wp2_with fail
    go_ret3
    exact ⟨_, _, w5.heap.size, own5, own7, hbw5.size, hbk5, hbw7, rfl⟩

set_option maxRecDepth 100000 in
set_option maxHeartbeats 1000000 in
theorem implForestsOfPair_any (a b : ByteArray) (w : World) (ha : a.size ≤ 9223372036854775806) (hb : b.size ≤ 9223372036854775806) :
    Calls Try.prog 35 #[.agg #[.string a, .string b]] w (AnsSS2 (hangO (pairOf a b) Prod.fst) (hangO (pairOf a b) Prod.snd) (pairOf a b).isSome w) := by
  have hg := fun w => implReducePair_any a b w ha hb
  cases h : pairOf a b with
  | none =>
    rw [h] at hg
    have hg' : ∀ w, Calls Try.prog 65 #[.agg #[.string a, .string b]] w (Gives (.tuple #[.agg #[.string ⟨#[]⟩, .string ⟨#[]⟩], .bool false]) w) := hg
    clear h hg
    go_enter Try.func35, Try.ntmps35
    go_wp2_with fail
    have hb0 : Below w.heap.size w (w.alloc (.cells #[.string a, .string b] 40 (0, 0))) := nxAlloc (Below.refl _ _) _
    have hx0 := heap_alloc_at w (.cells #[.string a, .string b] 40 (0, 0))
    generalize (w.alloc (.cells #[.string a, .string b] 40 (0, 0))) = w0 at *
    obtain ⟨hx0a, hx0b, hx0c⟩ := two_facts hx0
    obtain ⟨hx0f, hx0g⟩ := two_frozen hx0
    refine (hg' _).mono ?_; rintro e w1 ⟨rfl, hb1⟩
    have hbw1 := nx hb0 hb1
    replace hx0 := heap_keep hb1 hx0
    clear hx0a hx0b hx0c hx0f hx0g
    obtain ⟨hx0a, hx0b, hx0c⟩ := two_facts hx0
    obtain ⟨hx0f, hx0g⟩ := two_frozen hx0
    clear hb1 hb0
    go_wp2_with fail
    have hx1 := set_two (.string ⟨#[]⟩) (.string ⟨#[]⟩) hx0
    have hbw3 : Below w.heap.size w ((w1.setCell ⟨w.heap.size, 0, none⟩ (.string ⟨#[]⟩)).setCell ⟨w.heap.size, 1, none⟩ (.string ⟨#[]⟩)) := (hbw1.setCell (Nat.le_refl _) _).setCell (Nat.le_refl _) _
    clear hx0 hx0a hx0b hx0c hx0f hx0g hbw1
    generalize (w1.setCell ⟨w.heap.size, 0, none⟩ (.string ⟨#[]⟩)).setCell ⟨w.heap.size, 1, none⟩ (.string ⟨#[]⟩) = w3 at *
    obtain ⟨xa, xb, xc⟩ := two_facts hx1
    try go_wp2_with fail
    go_ret3
    exact ⟨.slice none 0 0, .slice none 0 0, w.heap.size, OwnS.nil _ _, OwnS.nil _ _, Nat.le_refl _, fun k hk => (by cases hk), hbw3, rfl⟩
  | some p =>
    rw [h] at hg
    have hg' : ∀ w, Calls Try.prog 65 #[.agg #[.string a, .string b]] w (Gives (.tuple #[.agg #[.string (red p).1.str, .string (red p).2.str], .bool true]) w) := hg
    obtain ⟨rfl, rfl, _, hc1, hc2⟩ := pairOf_some h
    obtain ⟨hr1, hr2⟩ := red_car hc1 hc2
    show Calls _ _ _ _ (AnsSS2 (strs (hangT (red p).1)) (strs (hangT (red p).2)) true w)
    generalize (red p).1 = t1 at *
    generalize (red p).2 = t2 at *
    have hT1 := fun w => treeOf_any t1 w (by omega)
    have hT2 := fun w => treeOf_any t2 w (by omega)
    have hG1 := fun b w h => hanging_any t1 b w h (by omega)
    have hG2 := fun b w h => hanging_any t2 b w h (by omega)
    generalize p.1.str = a at *
    generalize p.2.str = b at *
    generalize strs (hangT t1) = X at *
    generalize strs (hangT t2) = Y at *
    generalize t1.str = A at *
    generalize t2.str = B at *
    clear h hg ha hb hc1 hc2 hr1 hr2
    go_enter Try.func35, Try.ntmps35
    go_wp2_with fail
    have hb0 : Below w.heap.size w (w.alloc (.cells #[.string a, .string b] 40 (0, 0))) := nxAlloc (Below.refl _ _) _
    have hx0 := heap_alloc_at w (.cells #[.string a, .string b] 40 (0, 0))
    generalize (w.alloc (.cells #[.string a, .string b] 40 (0, 0))) = w0 at *
    obtain ⟨hx0a, hx0b, hx0c⟩ := two_facts hx0
    obtain ⟨hx0f, hx0g⟩ := two_frozen hx0
    refine (hg' _).mono ?_; rintro e w1 ⟨rfl, hb1⟩
    have hbw1 := nx hb0 hb1
    replace hx0 := heap_keep hb1 hx0
    clear hx0a hx0b hx0c hx0f hx0g
    obtain ⟨hx0a, hx0b, hx0c⟩ := two_facts hx0
    obtain ⟨hx0f, hx0g⟩ := two_frozen hx0
    clear hb1 hb0
    go_wp2_with fail
    have hx1 := set_two (.string A) (.string B) hx0
    have hbw3 : Below w.heap.size w ((w1.setCell ⟨w.heap.size, 0, none⟩ (.string A)).setCell ⟨w.heap.size, 1, none⟩ (.string B)) := (hbw1.setCell (Nat.le_refl _) _).setCell (Nat.le_refl _) _
    clear hx0 hx0a hx0b hx0c hx0f hx0g hbw1
    generalize (w1.setCell ⟨w.heap.size, 0, none⟩ (.string A)).setCell ⟨w.heap.size, 1, none⟩ (.string B) = w3 at *
    obtain ⟨xa, xb, xc⟩ := two_facts hx1
    have hz := Below.refl w3.heap.size w3
    try go_wp2_with fail
    refine wp_region_held_drew (S := (fun (w' : World) => w'.cell? ⟨w.heap.size, 0, none⟩ = some (.string A) ∧ w'.cell? ⟨w.heap.size, 1, none⟩ = some (.string B))) (by kernel_rfl) ⟨xa, xb⟩ (fun hH0 => ?_)
    refine wpAnyH_take (i := 0) (oi := ?oi201) (v := ?vv201) ?hi201 ?hn201 ?hf201 ?hr201 ?hq201 (Or.inl ⟨?hg201, ?hy201⟩) hH0 ?rest201
    case hi201 => (simp only [List.getElem?_toArray, List.getElem?_cons_zero]; rfl)
    case hn201 => kernel_rfl
    case hf201 => kernel_rfl
    case hr201 => kernel_rfl
    case hg201 => rfl
    case hy201 => (intro w hSw; (try dsimp only at hSw); go_simp; first | done | with_reducible rfl)
    case hq201 => exact fun _ _ _ h => h
    try dsimp only [Act.put]
    refine wpAnyH_take (i := 1) (oi := ?oi202) (v := ?vv202) ?hi202 ?hn202 ?hf202 ?hr202 ?hq202 (Or.inl ⟨?hg202, ?hy202⟩) hH0 ?rest202
    case hi202 => (simp only [List.getElem?_toArray, List.getElem?_cons_succ, List.getElem?_cons_zero]; rfl)
    case hn202 => kernel_rfl
    case hf202 => kernel_rfl
    case hr202 => kernel_rfl
    case hg202 => rfl
    case hy202 => (intro w hSw; (try dsimp only at hSw); go_simp; first | done | with_reducible rfl)
    case hq202 => exact fun _ _ _ h => h
    try dsimp only [Act.put]
    refine wpAnyH_take (i := 4) (oi := ?oi203) (v := ?vv203) ?hi203 ?hn203 ?hf203 ?hr203 ?hq203 (Or.inl ⟨?hg203, ?hy203⟩) hH0 ?rest203
    case hi203 => (simp only [List.getElem?_toArray, List.getElem?_cons_succ, List.getElem?_cons_zero]; rfl)
    case hn203 => kernel_rfl
    case hf203 => kernel_rfl
    case hr203 => kernel_rfl
    case hg203 => rfl
    case hy203 => (intro w hSw; (try dsimp only at hSw); go_simp; first | done | with_reducible rfl)
    case hq203 => exact fun _ _ _ h => h
    try dsimp only [Act.put]
    refine wpAnyH_take (i := 5) (oi := ?oi204) (v := ?vv204) ?hi204 ?hn204 ?hf204 ?hr204 ?hq204 (Or.inl ⟨?hg204, ?hy204⟩) hH0 ?rest204
    case hi204 => (simp only [List.getElem?_toArray, List.getElem?_cons_succ, List.getElem?_cons_zero]; rfl)
    case hn204 => kernel_rfl
    case hf204 => kernel_rfl
    case hr204 => kernel_rfl
    case hg204 => rfl
    case hy204 => (intro w hSw; (try dsimp only at hSw); go_simp; first | done | with_reducible rfl)
    case hq204 => exact fun _ _ _ h => h
    try dsimp only [Act.put]
    refine held_one 2 rfl (by kernel_rfl) (fun K hK => ?_)
    go_simp
    refine (hT1 _).mono ?_; rintro e w4 ⟨p4, hp4, hb4, rfl⟩
    have hb4' := nx hz.drew hb4
    have K1 := And.intro (keep_cell hb4' xa) (keep_cell hb4' xb)
    go_wp2_with fail
    have hH1 : (fun (w' : World) => w'.cell? ⟨w.heap.size, 0, none⟩ = some (.string A) ∧ w'.cell? ⟨w.heap.size, 1, none⟩ = some (.string B)) _ := K1
    refine hK.out (fun (w' : World) => w'.cell? ⟨w.heap.size, 0, none⟩ = some (.string A) ∧ w'.cell? ⟨w.heap.size, 1, none⟩ = some (.string B)) _ _ (fun _ h => h) hH1 ?_
    clear hK K
    try dsimp only [Act.put]
    refine held_one 3 rfl (by kernel_rfl) (fun K hK => ?_)
    go_simp
    refine (hG1 p4 w4 hp4).mono ?_; rintro e w5 ⟨v5, own5, hb5, rfl⟩
    have hb5' := nx hb4' hb5
    have K2 := And.intro (keep_cell hb5' xa) (keep_cell hb5' xb)
    go_wp2_with fail
    have hH2 : (fun (w' : World) => w'.cell? ⟨w.heap.size, 0, none⟩ = some (.string A) ∧ w'.cell? ⟨w.heap.size, 1, none⟩ = some (.string B)) _ := K2
    refine hK.out (fun (w' : World) => w'.cell? ⟨w.heap.size, 0, none⟩ = some (.string A) ∧ w'.cell? ⟨w.heap.size, 1, none⟩ = some (.string B)) _ _ (fun _ h => h) hH2 ?_
    clear hK K
    try dsimp only [Act.put]
    refine held_one 6 rfl (by kernel_rfl) (fun K hK => ?_)
    go_simp
    refine (hT2 _).mono ?_; rintro e w6 ⟨p6, hp6, hb6, rfl⟩
    have hb6' := nx hb5' hb6
    have K3 := And.intro (keep_cell hb6' xa) (keep_cell hb6' xb)
    go_wp2_with fail
    have hH3 : (fun (w' : World) => w'.cell? ⟨w.heap.size, 0, none⟩ = some (.string A) ∧ w'.cell? ⟨w.heap.size, 1, none⟩ = some (.string B)) _ := K3
    refine hK.out (fun (w' : World) => w'.cell? ⟨w.heap.size, 0, none⟩ = some (.string A) ∧ w'.cell? ⟨w.heap.size, 1, none⟩ = some (.string B)) _ _ (fun _ h => h) hH3 ?_
    clear hK K
    try dsimp only [Act.put]
    refine held_one 7 rfl (by kernel_rfl) (fun K hK => ?_)
    go_simp
    refine (hG2 p6 w6 hp6).mono ?_; rintro e w7 ⟨v7, own7, hb7, rfl⟩
    have hb7' := nx hb6' hb7
    have K4 := And.intro (keep_cell hb7' xa) (keep_cell hb7' xb)
    go_wp2_with fail
    have hH4 : (fun (w' : World) => w'.cell? ⟨w.heap.size, 0, none⟩ = some (.string A) ∧ w'.cell? ⟨w.heap.size, 1, none⟩ = some (.string B)) _ := K4
    refine hK.out (fun (w' : World) => w'.cell? ⟨w.heap.size, 0, none⟩ = some (.string A) ∧ w'.cell? ⟨w.heap.size, 1, none⟩ = some (.string B)) _ _ (fun _ h => h) hH4 ?_
    clear hK K
    try dsimp only [Act.put]
    refine wpAnyH_take (i := 8) (oi := ?oi205) (v := ?vv205) ?hi205 ?hn205 ?hf205 ?hr205 ?hq205 (Or.inl ⟨?hg205, ?hy205⟩) hH4 ?rest205
    case hi205 => (simp only [List.getElem?_toArray, List.getElem?_cons_succ, List.getElem?_cons_zero]; rfl)
    case hn205 => kernel_rfl
    case hf205 => kernel_rfl
    case hr205 => kernel_rfl
    case hg205 => rfl
    case hy205 => (intro w hSw; (try dsimp only at hSw); go_simp; first | done | with_reducible rfl)
    case hq205 => exact fun _ _ _ h => h
    try dsimp only [Act.put]
    refine wpAnyH_take (i := 9) (oi := ?oi206) (v := ?vv206) ?hi206 ?hn206 ?hf206 ?hr206 ?hq206 (Or.inl ⟨?hg206, ?hy206⟩) hH4 ?rest206
    case hi206 => (simp only [List.getElem?_toArray, List.getElem?_cons_succ, List.getElem?_cons_zero]; rfl)
    case hn206 => kernel_rfl
    case hf206 => kernel_rfl
    case hr206 => kernel_rfl
    case hg206 => rfl
    case hy206 => (intro w hSw; (try dsimp only at hSw); go_simp; first | done | with_reducible rfl)
    case hq206 => exact fun _ _ _ h => h
    try dsimp only [Act.put]
    refine wpAnyH_take (i := 10) (oi := ?oi207) (v := ?vv207) ?hi207 ?hn207 ?hf207 ?hr207 ?hq207 (Or.inl ⟨?hg207, ?hy207⟩) hH4 ?rest207
    case hi207 => (simp only [List.getElem?_toArray, List.getElem?_cons_succ, List.getElem?_cons_zero]; rfl)
    case hn207 => kernel_rfl
    case hf207 => kernel_rfl
    case hr207 => kernel_rfl
    case hg207 => rfl
    case hy207 => (intro w hSw; (try dsimp only at hSw); go_simp; first | done | with_reducible rfl)
    case hq207 => exact fun _ _ _ h => h
    try dsimp only [Act.put]
    refine wpAnyH_done (by kernel_rfl) ?_ _
    simp only [List.setIfInBounds_toArray, List.set_cons_zero, List.set_cons_succ]
    have hbw7 := nx hbw3 hb7'
    have hbk5 := own5.block
    replace own5 := (own5.mono (nx hbw3 hb4').size).keep (nx hb6 hb7)
    replace own7 := own7.mono hb6.size
    have hB5 := (nx hbw3 hb5').size
    clear hb4 hb5 hb6 hb7 hb4' hb5' hb6' hb7' K1 K2 K3 K4 hp4 hp6 hz xa xb xc hx1
    go_wp2_with fail
    go_ret3
    exact ⟨_, _, w5.heap.size, own5, own7, hB5, hbk5, hbw7, rfl⟩
end Go.Proofs.Ytplmbdljhgicfaa

/-! MarkT -/
namespace Go.Proofs.Ytplmbdljhgicfaa
open Go.RowKit

theorem OwnS.kept2 {base : Nat} {w w' : World} {v : Value} {xs : List ByteArray} {r : Option Nat} (h : OwnS base w v xs) (hg : w.grownBy w' r) (hne : ∀ k, v.ownBlock = some k → r ≠ some k) : OwnS base w' v xs := by
  refine World.ownsRow.kept h hg ?_
  rcases h.2 with ⟨hv, _⟩ | ⟨g', cap, cur, hv, hb, _⟩
  · exact .inl (by rw [hv]; rfl)
  · right
    intro e
    rw [hv] at e hne
    exact hne g' rfl e.symm
/-- A call that hands back a number, and leaves the slice v with other texts; no other block turns. -/
def MarkedRow (base : Nat) (r : Int) (v : Value) (xs : List ByteArray) (w : World) (e : Ending) (w' : World) : Prop := e = .returned (.int .i64 r) ∧ OwnS base w' v xs ∧ w.grownBy w' v.ownBlock

set_option maxHeartbeats 1000000 in
theorem markStringS_row (base : Nat) (v : Value) (xs : List ByteArray) (n : Nat) (hn : xs.length = n) (k : Nat) (z : Int) (hz : z = (k : Int)) (w : World) (hk0 : 0 < k) (hk1 : k ≤ 1000000000) (hn9 : n ≤ 1000000000) (h : OwnS base w v xs) :
    Calls Try.prog 28 #[v, .int .i64 z] w (MarkedRow base (z + n) v (marksS k n) w) := by
  subst hz
  rcases h.cells with ⟨rfl, rfl⟩ | ⟨g, cap, rfl, hb1, hg1, hc1, hm1, hx1, hf1⟩
  · obtain rfl : n = 0 := hn.symm
    have H := Lib.hid h
    clear h hn
    go_enter Try.func28, Try.ntmps28
    go_wp2_with fail
    go_loopw [1, 5] (fun v i wr => v = .int .i64 k ∧ i = .int .i64 0 ∧ wr = w) (fun _ _ _ => 0)
    case atStart => exact ⟨rfl, rfl, rfl⟩
    case round =>
      obtain ⟨rfl, rfl, rfl⟩ := hrel
      go_wp2_with fail
      go_ret
      exact ⟨ret_int (by simp), H.out, grown_refl _ _⟩
  · subst hn
    refine (markStringS_one base g cap xs.length xs rfl k w hk0 hk1 hn9 h).mono ?_
    rintro e w' ⟨he, ho, hg⟩
    exact ⟨by rw [he]; exact ret_int (by push_cast; rfl), ho, hg⟩
theorem heldStringS_i (b1 : Nat) (v1 : Value) (n k : Nat) (z : Int) (hz : z = (k : Int)) (w : World) (hk0 : 0 < k) (hk1 : k ≤ 1000000000) (hn9 : n ≤ 1000000000) (h1 : CellsS b1 w v1 (marksS k n)) :
    Calls Try.prog 29 #[v1, .int .i64 z] w (Gives (.int .i64 (z + n)) w) := by
  subst hz
  exact heldStringS_any b1 v1 n k w hk0 hk1 hn9 h1
end Go.Proofs.Ytplmbdljhgicfaa

/-! WForestsOfPair -/
namespace Go.Proofs.Ytplmbdljhgicfaa
open Go.RowKit

set_option maxRecDepth 100000 in
set_option maxHeartbeats 4000000 in
theorem fnExactForestsOfPair_walk (a : ByteArray) (ha : a.size ≤ maxLen) (b : ByteArray) (hb : b.size ≤ maxLen) (w : World) :
    Calls Try.prog 10 #[.agg #[.string a, .string b]] w fun e w' => e = .returned (.bool true) ∧ Below w.heap.size w w' := by
  unfold maxLen at ha hb
  have hsz := fun w => szPair_any a b w (by omega) (by omega) 1048576 (by omega) (by omega)
  by_cases hz : (a.size : Int) + b.size ≤ 1048576
  rotate_left
  · simp only [if_neg hz] at hsz
    go_enter Try.func10, Try.ntmps10
    go_wp2_with fail
    have hb0 : Below w.heap.size w (w.alloc (.cells #[.string a, .string b] 36 (0, 0))) := nxAlloc (Below.refl _ _) _
    have hx := heap_alloc_at w (.cells #[.string a, .string b] 36 (0, 0))
    generalize w.alloc (.cells #[.string a, .string b] 36 (0, 0)) = w0 at *
    obtain ⟨ka, kb, kc⟩ := two_facts hx
    refine (hsz _).mono ?_; rintro e w1 ⟨rfl, hb1⟩
    go_wp2_with fail
    go_ret
    exact ⟨rfl, nx hb0 hb1⟩
  simp only [if_pos hz] at hsz
  have hn1 : (hangO (pairOf a b) Prod.fst).length ≤ 100 ∧ (hangO (pairOf a b) Prod.snd).length ≤ 100 := by
    cases h : pairOf a b with
    | none => exact ⟨Nat.zero_le _, Nat.zero_le _⟩
    | some p =>
      obtain ⟨_, _, _, hc1, hc2⟩ := pairOf_some h
      obtain ⟨hr1, hr2⟩ := red_car hc1 hc2
      have h1 := (okF_iff.1 (hang_ok hr1)).1
      have h2 := (okF_iff.1 (hang_ok hr2)).1
      show (strs _).length ≤ 100 ∧ (strs _).length ≤ 100
      rw [strs_length, strs_length]; omega
  have hS := fun w => specForestsOfPair_any a b w (by omega) (by omega)
  have hI := fun w => implForestsOfPair_any a b w (by omega) (by omega)
  generalize hangO (pairOf a b) Prod.fst = xs at hS hI hn1
  generalize hangO (pairOf a b) Prod.snd = ys at hS hI hn1
  generalize (pairOf a b).isSome = ok at hS hI
  obtain ⟨hx9, hy9⟩ := hn1
  go_enter Try.func10, Try.ntmps10
  go_wp2_with fail
  have hb0 : Below w.heap.size w (w.alloc (.cells #[.string a, .string b] 36 (0, 0))) := nxAlloc (Below.refl _ _) _
  have hx := heap_alloc_at w (.cells #[.string a, .string b] 36 (0, 0))
  generalize w.alloc (.cells #[.string a, .string b] 36 (0, 0)) = w0 at *
  obtain ⟨ka, kb, kc⟩ := two_facts hx
  refine (hsz _).mono ?_; rintro e w1 ⟨rfl, hb9⟩
  have hc1 := nx hb0 hb9
  replace hx := heap_keep hb9 hx
  clear ka kb kc
  obtain ⟨ka, kb, kc⟩ := two_facts hx
  clear hb9 hb0
  go_wp2_with fail
  refine (toPair_any a b _).mono ?_; rintro e w2 ⟨rfl, hb9⟩
  have hc2 := nx hc1 hb9
  replace hx := heap_keep hb9 hx
  clear ka kb kc
  obtain ⟨ka, kb, kc⟩ := two_facts hx
  clear hb9 hc1
  go_wp2_with fail
  refine (hS _).mono ?_; rintro e w3 ⟨v0, u0, B0, own0, oxn0, hB0, hk0, hb9, rfl⟩
  have hc3 := nx hc2 hb9
  replace hx := heap_keep hb9 hx
  clear ka kb kc
  obtain ⟨ka, kb, kc⟩ := two_facts hx
  clear hb9 hc2
  go_wp2_with fail
  refine (toPair_any a b _).mono ?_; rintro e w4 ⟨rfl, hb9⟩
  have hc4 := nx hc3 hb9
  replace hx := heap_keep hb9 hx
  clear ka kb kc
  obtain ⟨ka, kb, kc⟩ := two_facts hx
  replace own0 := own0.keep hb9
  replace oxn0 := oxn0.keep hb9
  clear hb9 hc3
  go_wp2_with fail
  have hcI := hc4
  have own00 := own0
  have oxn00 := oxn0
  have hx00 := hx
  refine (hI _).mono ?_; rintro e w5 ⟨v1, u1, B1, own1, oxn1, hB1, hk1, hb9, rfl⟩
  have hd := hb9
  have hc5 := nx hc4 hb9
  replace hx := heap_keep hb9 hx
  clear ka kb kc
  obtain ⟨ka, kb, kc⟩ := two_facts hx
  replace own0 := own0.keep hb9
  replace oxn0 := oxn0.keep hb9
  clear hb9 hc4
  go_wp2_with fail
  refine (eqStringS_any _ _ v1 v0 xs _ own1.cells own0.cells).mono ?_; rintro e w6 ⟨rfl, dd, hw⟩
  have hb9 : Below w5.heap.size w5 w6 := by rw [hw]; exact drewB (Below.refl _ _) dd
  clear hw
  replace hd := nx hd hb9
  have hc6 := nx hc5 hb9
  replace hx := heap_keep hb9 hx
  clear ka kb kc
  obtain ⟨ka, kb, kc⟩ := two_facts hx
  replace own0 := own0.keep hb9
  replace oxn0 := oxn0.keep hb9
  replace own1 := own1.keep hb9
  replace oxn1 := oxn1.keep hb9
  clear hb9 hc5
  go_wp2_with fail
  refine (eqStringS_any _ _ u1 u0 ys _ oxn1.cells oxn0.cells).mono ?_; rintro e w7 ⟨rfl, dd, hw⟩
  have hb9 : Below w6.heap.size w6 w7 := by rw [hw]; exact drewB (Below.refl _ _) dd
  clear hw
  replace hd := nx hd hb9
  have hc7 := nx hc6 hb9
  replace hx := heap_keep hb9 hx
  clear ka kb kc
  obtain ⟨ka, kb, kc⟩ := two_facts hx
  replace own0 := own0.keep hb9
  replace oxn0 := oxn0.keep hb9
  replace own1 := own1.keep hb9
  replace oxn1 := oxn1.keep hb9
  clear hb9 hc6
  go_wp2_with fail
  have hg1 := fun k hk => (ownsRow_ge own1 k hk)
  have hg2 := fun k hk => (ownsRow_ge oxn1 k hk)
  refine (markStringS_row w4.heap.size v1 xs xs.length rfl 1 _ rfl _ (by omega) (by omega) (by omega) own1).mono ?_; rintro e w8 ⟨rfl, own1, hgr⟩
  replace oxn1 := oxn1.kept2 hgr (fun k hk e => by have := hk1 k e; have := hg2 k hk; omega)
  replace hd := hd.grown hgr hd.size hg1
  have hsz8 := hgr.size
  clear hgr
  go_wp2_with fail
  refine (markStringS_row B1 u1 ys ys.length rfl (1 + xs.length) _ (by omega) _ (by omega) (by omega) (by omega) oxn1).mono ?_; rintro e w9 ⟨rfl, oxn1, hgr⟩
  replace own1 := own1.kept2 hgr (fun k hk e => by have := hk1 k hk; have := hg2 k e; omega)
  replace hd := hd.grown hgr hd.size (fun k hk => Nat.le_trans hB1 (hg2 k hk))
  clear hgr hc7 own0 oxn0 hx ka kb kc
  have own0 := own00.keep hd
  have oxn0 := oxn00.keep hd
  have hx := heap_keep hd hx00
  obtain ⟨ka, kb, kc⟩ := two_facts hx
  have hc9 := nx hcI hd
  clear own00 oxn00 hx00 hcI hd
  go_wp2_with fail
  refine (heldStringS_i _ v1 xs.length 1 _ rfl _ (by omega) (by omega) (by omega) own1.cells).mono ?_; rintro e w10 ⟨rfl, hb9⟩
  have hc10 := nx hc9 hb9
  replace hx := heap_keep hb9 hx
  clear ka kb kc
  obtain ⟨ka, kb, kc⟩ := two_facts hx
  replace own0 := own0.keep hb9
  replace oxn0 := oxn0.keep hb9
  replace own1 := own1.keep hb9
  replace oxn1 := oxn1.keep hb9
  clear hb9 hc9
  go_wp2_with fail
  refine (heldStringS_i _ u1 ys.length (1 + xs.length) _ (by omega) _ (by omega) (by omega) (by omega) oxn1.cells).mono ?_; rintro e w11 ⟨rfl, hb9⟩
  have hc11 := nx hc10 hb9
  replace hx := heap_keep hb9 hx
  clear ka kb kc
  obtain ⟨ka, kb, kc⟩ := two_facts hx
  replace own0 := own0.keep hb9
  replace oxn0 := oxn0.keep hb9
  replace own1 := own1.keep hb9
  replace oxn1 := oxn1.keep hb9
  clear hb9 hc10
  go_wp2_with fail
  refine (toPair_any a b _).mono ?_; rintro e w12 ⟨rfl, hb9⟩
  have hc12 := nx hc11 hb9
  replace hx := heap_keep hb9 hx
  clear ka kb kc
  obtain ⟨ka, kb, kc⟩ := two_facts hx
  replace own0 := own0.keep hb9
  replace oxn0 := oxn0.keep hb9
  replace own1 := own1.keep hb9
  replace oxn1 := oxn1.keep hb9
  clear hb9 hc11
  go_wp2_with fail
  refine (hI _).mono ?_; rintro e w13 ⟨v2, u2, B2, own2, oxn2, hB2, hk2, hb9, rfl⟩
  have hc13 := nx hc12 hb9
  replace hx := heap_keep hb9 hx
  clear ka kb kc
  obtain ⟨ka, kb, kc⟩ := two_facts hx
  replace own0 := own0.keep hb9
  replace oxn0 := oxn0.keep hb9
  replace own1 := own1.keep hb9
  replace oxn1 := oxn1.keep hb9
  clear hb9 hc12
  go_wp2_with fail
  refine (eqStringS_any _ _ v2 v0 xs _ own2.cells own0.cells).mono ?_; rintro e w14 ⟨rfl, dd, hw⟩
  have hb9 : Below w13.heap.size w13 w14 := by rw [hw]; exact drewB (Below.refl _ _) dd
  clear hw
  have hc14 := nx hc13 hb9
  replace hx := heap_keep hb9 hx
  clear ka kb kc
  obtain ⟨ka, kb, kc⟩ := two_facts hx
  replace own0 := own0.keep hb9
  replace oxn0 := oxn0.keep hb9
  replace own1 := own1.keep hb9
  replace oxn1 := oxn1.keep hb9
  replace own2 := own2.keep hb9
  replace oxn2 := oxn2.keep hb9
  clear hb9 hc13
  go_wp2_with fail
  refine (eqStringS_any _ _ u2 u0 ys _ oxn2.cells oxn0.cells).mono ?_; rintro e w15 ⟨rfl, dd, hw⟩
  have hb9 : Below w14.heap.size w14 w15 := by rw [hw]; exact drewB (Below.refl _ _) dd
  clear hw
  have hc15 := nx hc14 hb9
  replace hx := heap_keep hb9 hx
  clear ka kb kc
  obtain ⟨ka, kb, kc⟩ := two_facts hx
  replace own0 := own0.keep hb9
  replace oxn0 := oxn0.keep hb9
  replace own1 := own1.keep hb9
  replace oxn1 := oxn1.keep hb9
  replace own2 := own2.keep hb9
  replace oxn2 := oxn2.keep hb9
  clear hb9 hc14
  go_wp2_with fail
  refine (heldStringS_i _ v1 xs.length 1 _ rfl _ (by omega) (by omega) (by omega) own1.cells).mono ?_; rintro e w16 ⟨rfl, hb9⟩
  have hc16 := nx hc15 hb9
  replace hx := heap_keep hb9 hx
  clear ka kb kc
  obtain ⟨ka, kb, kc⟩ := two_facts hx
  replace own0 := own0.keep hb9
  replace oxn0 := oxn0.keep hb9
  replace own1 := own1.keep hb9
  replace oxn1 := oxn1.keep hb9
  replace own2 := own2.keep hb9
  replace oxn2 := oxn2.keep hb9
  clear hb9 hc15
  go_wp2_with fail
  refine (heldStringS_i _ u1 ys.length (1 + xs.length) _ (by omega) _ (by omega) (by omega) (by omega) oxn1.cells).mono ?_; rintro e w17 ⟨rfl, hb9⟩
  have hc17 := nx hc16 hb9
  replace hx := heap_keep hb9 hx
  clear ka kb kc
  obtain ⟨ka, kb, kc⟩ := two_facts hx
  replace own0 := own0.keep hb9
  replace oxn0 := oxn0.keep hb9
  replace own1 := own1.keep hb9
  replace oxn1 := oxn1.keep hb9
  replace own2 := own2.keep hb9
  replace oxn2 := oxn2.keep hb9
  clear hb9 hc16
  go_wp2_with fail
  go_ret
  exact ⟨rfl, hc17⟩
end Go.Proofs.Ytplmbdljhgicfaa

/-! LFnExactForestsOfPair -/
namespace Go.Proofs.Ytplmbdljhgicfaa.fnExactForestsOfPair
open Go.ChangeShapes Go.WideShapes Go.ChangeAt Go.RowKit
open Go.ChangeMaps (open_string shut_string)
open Go.Joins (open_agg2 shut_agg2)
set_option linter.unusedVariables false

theorem cellsPair : Try.prog.cellsOf 36 = 2 := by kernel_rfl
theorem own : ownKnob Try.prog.godebug = none := by kernel_rfl
theorem laidOut : laidOutB Try.prog = true := by kernel_rfl

set_option maxRecDepth 100000 in
theorem lifted (os : Os) (started : os.Started) (H : Type) (enc : TypeId × Value → H) :
    ReturnsInHanded {} Try.checked os 10 .any (Rows.fnExactForestsOfPairSpec.pre6 enc Try.prog Try.f10 Rows.fnExactForestsOfPairRow.domain false) (Rows.fnExactForestsOfPairSpec.post enc Try.prog Try.f10 false true false false) := by
  refine returnsInHanded_of_change (C := Try.checked) own started (by kernel_rfl) Try.func10
    (ChangeSpec.witness6 (enc := enc) (C := Try.checked) false ⟨#[], #[.agg #[.string ByteArray.empty, .string ByteArray.empty]], []⟩ 8 (by kernel_rfl) (by kernel_rfl) (by kernel_rfl) (by kernel_rfl)) ?_
  intro W base args ds gs before hval0 hW hcnd _
  have hval : ∀ (j : Nat) t v, Try.f10.params[j]? = some t → args[j]? = some v → Value.okWide Try.prog W .any base t v := hval0
  have hW' := hW
  obtain ⟨p, q, hA0, hV, rfl, hfz, hnd⟩ := hW
  have hA : DataW.TrodAll enc Try.prog W 0 (fun _ => true) true Try.f10.params.toList args.toList ds p := hA0
  rw [Try.params10] at hA hval
  obtain ⟨v0, vs0, d0, ds0, p0, q0, hargs, rfl, rfl, h0, r0⟩ := trodAll_cons hA
  obtain ⟨rfl, rfl, rfl⟩ := trodAll_nil r0
  obtain rfl : args = #[v0] := by cases args; simp_all
  obtain ⟨rfl, rfl⟩ := trodVars_none hV
  obtain ⟨c0a, c0b, y0a, y0b, m0, rfl, rfl, rfl, hy0a, hy0b⟩ := open_agg2 Try.underlying36 (by kernel_rfl) cellsPair (hval 0 36 v0 rfl rfl) h0
  obtain ⟨a0a, e0a, rfl, w0a⟩ := DataW.trod_string Try.underlying9 hy0a
  obtain ⟨a0b, e0b, rfl, w0b⟩ := DataW.trod_string Try.underlying9 hy0b
  simp at e0a e0b
  subst e0a e0b
  clear hA0 hval0
  simp only [List.append_nil] at hW'
  refine (fnExactForestsOfPair_walk a0a w0a a0b w0b W).mono fun e W' ⟨he, bel⟩ => ?_
  subst he
  exact ⟨_, rfl, _, _, _, [], _, [], hW', trodAll_mk1 (shut_bool Try.underlying4 _), (trodAll_cons_mk (shut_agg2 (y0 := (.lit (.string a0a.data.toList), [])) (y1 := (.lit (.string a0b.data.toList), [])) Try.underlying36 (by kernel_rfl) cellsPair (Go.Deep.shut_string_cell Try.underlying9 w0a) (Go.Deep.shut_string_cell Try.underlying9 w0b)) trodAll_mk0), rfl, bel.frame _, fun h => by cases h⟩

theorem over : Rows.fnExactForestsOfPairRow.holds Try.pinned (OpenSpec.ofChange Rows.fnExactForestsOfPairSpec) :=
  OpenClaim.holds_of_wide 10 Try.f10 rfl rfl rfl rfl rfl rfl rfl ⟨rfl, rfl, rfl, rfl, rfl⟩ rfl rfl rfl rfl rfl (by kernel_rfl) Try.func10 (by kernel_rfl)
    (of_decide_eq_true (by kernel_rfl)) (by unfold Func.isWrapper; first | (rw [if_pos (by decide +kernel)]; kernel_rfl) | (rw [if_neg (by decide +kernel)]; exact ⟨rfl, rfl⟩))
    (fun os started H enc _ => lifted os started H enc)

theorem proved : Rows.FnExactForestsOfPairSaid := over
#print axioms proved
end Go.Proofs.Ytplmbdljhgicfaa.fnExactForestsOfPair
