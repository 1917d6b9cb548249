/- Walks: slices.Clone at integers, DepthsOf of both sides. -/
import Derived.Test.YtdpfoeknphiheaaRowS
import Derived.Test.YtdpfoeknphiheaaDepthP
import Derived.Test.YtdpfoeknphiheaaRead
import Derived.Test.YtdpfoeknphiheaaAddr
import Derived.Test.YtdpfoeknphiheaaAns
import Derived.Lib.SliceRun
namespace Go.Proofs.Ytdpfoeknphiheaa
open Go.RowKit

set_option maxRecDepth 100000 in
set_option maxHeartbeats 1000000 in
theorem clone_any (g cap n : Nat) (xs : List Int) (w : World) (hn : xs.length = n) (hn1 : 0 < n) (hn2 : n ≤ 1000000) (hc : ∀ i, i < n → w.cell? ⟨g, i, none⟩ = some (.int .i64 (xs.getD i 0))) :
    Calls Try.prog 80 #[.slice (some ⟨g, 0, none⟩) n cap] w (GivesInts xs w) := by
  obtain ⟨i0, hi, hz0, hz1, hz2⟩ := info_parts info_int
  have qs := fun w => Lib.run_eql_slice_nil (P := Try.prog) w 28 3 (some ⟨g, 0, none⟩) n cap 0 0 Try.underlying28
  go_enter Try.func80, Try.ntmps80
  have hown0 : (w.alloc (.cells #[] 3 (0, 0))).ownsRow w.heap.size 3 1 (.slice (some ⟨w.heap.size, 0, none⟩) 0 0) 0 [] := World.ownsRow_lit w #[] 0 (Nat.le_refl _) (by unfold maxLen; omega) rfl
  have hnews : ∀ (j : Nat) (u : Value), (xs.map (Value.int .i64))[j]? = some u → (w.alloc (.cells #[] 3 (0, 0))).cell? ((⟨g, 0, none⟩ : Addr).add j) = some u := by
    intro j u hj
    have hlt : j < n := by
      rcases Nat.lt_or_ge j n with h | h
      · exact h
      · rw [List.getElem?_eq_none (by simp; omega)] at hj; simp at hj
    have hcj := hc j hlt
    have hg := World.block_lt_of_cell? w _ hcj
    rw [addr_add, ((Below.refl w.heap.size w).alloc (Nat.le_refl _) _).cell (p := ⟨g, j, none⟩) hg, hcj]
    simp [hn ▸ hlt] at hj
    rw [← hj]; simp [hn ▸ hlt]
  have one : ∀ u ∈ xs.map (Value.int .i64), u.oneCell' = true := by
    intro u hu
    rw [List.mem_map] at hu
    obtain ⟨x, _, rfl⟩ := hu
    rfl
  have HN := Lib.hid hn
  clear hc hn
  go_wp2_with (at_builtin; refine wpList_append_own _ rfl _ _ 28 rfl w.heap.size 3 i0 (.int .i64 0) 1 8 Try.underlying28 hi hz0 hz1 hz2 rfl (by decide) _ _ _ rfl hown0 ⟨g, 0, none⟩ n cap (xs.map (Value.int .i64)) rfl (by have := HN.out; simp; omega) hnews one (by unfold maxLen; omega) (by omega) (by simp) ?_; intro v' w1 hown' hgrow hnn)
  have hbw := below_app0 (nxAlloc (Below.refl _ _) _) hown0 (Nat.le_refl _) hgrow
  have hown1 : OwnI w.heap.size w1 v' xs := by
    unfold OwnI
    rw [HN.out]
    simpa using hown'
  clear hown' hgrow hnn hown0 hnews
  go_wp2_with fail
  go_ret
  exact ⟨_, hown1, hbw, rfl⟩

set_option maxRecDepth 100000 in
set_option maxHeartbeats 2000000 in
theorem specDepthsOf_yes (t : Tr) (w : World) (h : t.carets ≤ 8) :
    Calls Try.prog 20 #[.string t.str] w (AnsI2 (t.depths 0) true w) := by
  obtain ⟨i0, hi, hz0, hz1, hz2⟩ := info_parts info_int
  have hl := addrs_length t ⟨#[]⟩
  have hd := depths_addrs t ⟨#[]⟩
  have hA := fun w => trAddresses_any t ⟨#[]⟩ w (by omega) (by show 0 + t.carets ≤ 1000; omega)
  rw [show (((⟨#[]⟩ : ByteArray).size : Nat) : Int) = 0 from rfl] at hd
  rw [← hd]
  obtain ⟨ss, hss⟩ : ∃ ss, ss = t.addrs ⟨#[]⟩ := ⟨_, rfl⟩
  rw [← hss] at hl hA ⊢
  have hln : ss.length ≤ 9 := by omega
  have hlp : 0 < ss.length := by omega
  have hsz : ∀ s ∈ ss, s.size ≤ 1000 := by
    intro s hs
    rw [hss] at hs
    have := (addrs_size t _ s hs).2
    have e : (⟨#[]⟩ : ByteArray).size = 0 := rfl
    omega
  have HZ := Lib.hid hsz
  clear hss hl hsz hd
  go_enter Try.func20, Try.ntmps20
  go_wp2_with fail
  refine (trIs_yes t _ h).mono ?_; rintro e w1 ⟨rfl, rfl⟩
  go_wp2_with fail
  refine (hA _).mono ?_; rintro e w2 ⟨g, cap, own, hb2, rfl⟩
  go_wp2_with fail
  rcases own.cells with ⟨_, h0⟩ | ⟨g', cap', hv, hg0, hg, hc1, hc2, hcell, _⟩
  · rw [h0] at hlp; simp at hlp
  · obtain ⟨rfl, rfl⟩ : g' = g ∧ cap' = cap := by simpa using hv.symm
    have HC := Lib.hid hcell
    clear hv hcell own
    go_loopw [4, 13] (fun v i wr => ∃ k : Nat, k ≤ ss.length ∧ i = .int .i64 k ∧ OwnI w2.heap.size wr v ((ss.take k).map fun s => (s.size : Int)) ∧ Below w2.heap.size w2 wr) (fun _ i _ => ss.length - (intOf i).toNat)
    case atStart => exact ⟨0, Nat.zero_le _, rfl, OwnI.nil _ _, Below.refl _ _⟩
    case round =>
      obtain ⟨k, hk, rfl, hown, hbw2⟩ := hrel
      have hlen : ((ss.take k).map fun s => (s.size : Int)).length = k := by simp; omega
      obtain ⟨xs, hxs⟩ : ∃ xs, xs = (ss.take k).map fun s => (s.size : Int) := ⟨_, rfl⟩
      rw [← hxs] at hown hlen
      by_cases hlt : k < ss.length
      · have hlt' : (k : Int) < (ss.length : Int) := by omega
        have c1 := (hbw2.cell (p := ⟨g', k, none⟩) hg).trans (HC.out k hlt)
        have hz := HZ.out (ss.getD k ⟨#[]⟩) (by rw [List.getD_eq_getElem?_getD, List.getElem?_eq_getElem hlt]; exact List.getElem_mem hlt)
        have hnext : xs ++ [((ss.getD k ⟨#[]⟩).size : Int)] = (ss.take (k + 1)).map fun s => (s.size : Int) := by
          rw [hxs, List.take_succ_eq_append_getElem hlt, List.map_append]
          simp [hlt]
        obtain ⟨s, hs⟩ : ∃ s, s = ss.getD k ⟨#[]⟩ := ⟨_, rfl⟩
        rw [← hs] at c1 hz hnext
        have HN := Lib.hid hnext
        have HL := Lib.hid hlen
        have hxl : xs.length ≤ 9 := by omega
        clear hs hnext hxs hlen
        go_wp2_with (at_builtin; refine wpList_append_own _ rfl _ _ 28 rfl w2.heap.size 3 i0 (.int .i64 0) 1 8 Try.underlying28 hi hz0 hz1 hz2 rfl (by decide) _ _ _ rfl (hown.alloc _) ⟨wr.heap.size, 0, none⟩ 1 1 [.int .i64 s.size] rfl rfl (new1 _ _ _) (one1 _) (by unfold maxLen; omega) (by omega) (size_al hbw2 _) ?_; intro v' w3 hown' hgrow hnn)
        have hbw2' := below_app hbw2 hown (Nat.le_refl _) hgrow
        have hown1 := OwnI.snoc hown'
        clear hown hown' hgrow hbw2 hnn
        go_wp2_with fail
        go_roundw
        case rel => exact ⟨k + 1, by omega, by go_num, by rw [← HN.out]; exact hown1, hbw2'⟩
        case measure => simp [intOf]; omega
      · obtain rfl : k = ss.length := by omega
        rw [List.take_of_length_le (Nat.le_refl _)] at hxs
        have HX := Lib.hid hxs
        clear hxs hlen
        go_wp2_with fail
        go_ret2
        exact ⟨_, by rw [← HX.out]; exact hown.mono hb2.size, nx hb2 hbw2, rfl⟩

/-- Block b is an array of nine integers, the first n of which are xs. -/
def ArrAt (w : World) (b : Nat) (xs : List Int) : Prop :=
  ∃ cur : Array Value, w.heap[b]? = some (.cells cur 69 (0, 0)) ∧ cur.size = 9 ∧ cur.toList.take xs.length = xs.map (Value.int .i64)

theorem ArrAt.cell {w : World} {b : Nat} {xs : List Int} (h : ArrAt w b xs) (hn : xs.length < 9) : (∃ x, w.cell? ⟨b, xs.length, none⟩ = some x) ∧ w.frozen? ⟨b, xs.length, none⟩ = false := by
  obtain ⟨cur, h1, h2, _⟩ := h
  refine ⟨⟨cur[xs.length]'(by omega), ?_⟩, ?_⟩
  · simp [World.cell?, h1, h2, hn]
  · simp [World.frozen?, h1]

theorem ArrAt.store {w : World} {b : Nat} {xs : List Int} (h : ArrAt w b xs) (hn : xs.length < 9) (d : Int) : ArrAt (w.setCell ⟨b, xs.length, none⟩ (.int .i64 d)) b (xs ++ [d]) := by
  obtain ⟨cur, h1, h2, h3⟩ := h
  refine ⟨cur.setIfInBounds xs.length (.int .i64 d), heap_setCell_same w b xs.length cur _ _ h1, by simpa using h2, ?_⟩
  have hl : xs.length < cur.toList.length := by simpa [h2] using hn
  rw [Array.toList_setIfInBounds, List.length_append, List.map_append, ← h3]
  show (cur.toList.set xs.length (.int .i64 d)).take (xs.length + 1) = _
  rw [List.take_succ_eq_append_getElem (by simpa using hl), List.getElem_set_self, List.take_set_of_le (Nat.le_refl _)]
  simp

theorem ArrAt.keep {w w' : World} {b : Nat} {xs : List Int} (h : ArrAt w b xs) (hb : Below w.heap.size w w') : ArrAt w' b xs := by
  obtain ⟨cur, h1, h2⟩ := h
  exact ⟨cur, (hb.block b (lt_of_block h1)).trans h1, h2⟩

theorem ArrAt.get {w : World} {b : Nat} {xs : List Int} (h : ArrAt w b xs) : ∀ i, i < xs.length → w.cell? ⟨b, i, none⟩ = some (.int .i64 (xs.getD i 0)) := by
  intro i hi
  obtain ⟨cur, h1, h2, h3⟩ := h
  have e : (cur.toList.take xs.length)[i]? = (xs.map (Value.int .i64))[i]? := by rw [h3]
  rw [List.getElem?_take, if_pos hi] at e
  simp [World.cell?, h1]
  simp at e
  rw [e]
  simp [hi]

set_option maxRecDepth 100000 in
set_option maxHeartbeats 2000000 in
theorem implDepthsS (s : ByteArray) (ds : List Int) (w : World) (hs : s.size ≤ 25) (hds : depL s.data.toList 0 = ds) (hn : ds.length ≤ 9) (hn1 : 0 < ds.length)
    (his : ∀ w, Calls Try.prog 29 #[.string s] w fun e w' => Below w.heap.size w w' ∧ e = .returned (.bool true)) :
    Calls Try.prog 19 #[.string s] w (AnsI2 ds true w) := by
  have HDS := Lib.hid hds
  clear hds
  go_enter Try.func19, Try.ntmps19
  go_wp2_with fail
  refine (his _).mono ?_; rintro e w0 ⟨hb0, rfl⟩
  go_wp2_with fail
  have hA0 : ArrAt (w0.alloc (.cells #[.int .i64 0, .int .i64 0, .int .i64 0, .int .i64 0, .int .i64 0, .int .i64 0, .int .i64 0, .int .i64 0, .int .i64 0] 69 (0, 0))) w0.heap.size [] := by
    refine ⟨#[.int .i64 0, .int .i64 0, .int .i64 0, .int .i64 0, .int .i64 0, .int .i64 0, .int .i64 0, .int .i64 0, .int .i64 0], ?_, rfl, rfl⟩
    show (w0.heap.push _)[w0.heap.size]? = _
    simp
  have hBA := nxAlloc (Below.refl w0.heap.size w0) (.cells #[.int .i64 0, .int .i64 0, .int .i64 0, .int .i64 0, .int .i64 0, .int .i64 0, .int .i64 0, .int .i64 0, .int .i64 0] 69 (0, 0))
  go_loopw [5, 6, 13] (fun l dv i wr => ∃ (k : Nat) (d : Int) (xs : List Int), k ≤ s.size ∧ i = .int .i64 k ∧ l = .int .i64 xs.length ∧ dv = .int .i64 d ∧ -(k : Int) ≤ d ∧ d ≤ k ∧ ArrAt wr w0.heap.size xs ∧ Below w0.heap.size w0 wr ∧ Hid (ds = xs ++ depL (s.data.toList.drop k) d)) (fun _ _ i _ => s.size - (intOf i).toNat)
  case atStart => exact ⟨0, 0, [], Nat.zero_le _, rfl, rfl, rfl, by omega, by omega, hA0, hBA, HDS.out.symm⟩
  case round =>
    obtain ⟨k, d, xs, hk, rfl, rfl, rfl, hd1, hd2, hArr, hbw, he⟩ := hrel
    by_cases hlt : k < s.size
    · obtain ⟨c, r, hd, hb, hr⟩ := drop_of_byteAt hlt
      have hx : ((s[k]'hlt).toNat : Int) = (c.toNat : Int) := by rw [← hb]; exact (byteAt_eq s k hlt).symm
      have he' := he.out
      rw [hd, depL, ← hr] at he'
      clear he hd hr hb
      by_cases h40 : c = 40
      · rw [if_pos h40] at he'
        have HE := Lib.hid he'
        have g1 : (((s[k]'hlt).toNat : Int) == 40) = true := by rw [hx, h40]; rfl
        clear he' hx h40
        go_wp2_with fail
        clear g1
        go_roundw
        case rel => exact ⟨k + 1, d + 1, xs, by omega, by go_num, rfl, by go_num, by omega, by omega, hArr, hbw, HE⟩
        case measure => simp [intOf]; omega
      · by_cases h41 : c = 41
        · rw [if_neg h40, if_pos h41] at he'
          have HE := Lib.hid he'
          have g1 : (((s[k]'hlt).toNat : Int) == 40) = false := by rw [hx, h41]; rfl
          have g2 : (((s[k]'hlt).toNat : Int) == 41) = true := by rw [hx, h41]; rfl
          clear he' hx h40 h41
          go_wp2_with fail
          clear g1 g2
          go_roundw
          case rel => exact ⟨k + 1, d - 1, xs, by omega, by go_num, rfl, by go_num, by omega, by omega, hArr, hbw, HE⟩
          case measure => simp [intOf]; omega
        · rw [if_neg h40, if_neg h41] at he'
          have hxl : xs.length < 9 := by have := congrArg List.length he'; simp at this; omega
          have he2 : ds = (xs ++ [d]) ++ depL (s.data.toList.drop (k + 1)) d := by rw [he']; simp
          have HE := Lib.hid he2
          have g1 : (((s[k]'hlt).toNat : Int) == 40) = false := by
            rw [hx]; simp; exact fun e => h40 (u8_eq (n := 40) (by omega) e)
          have g2 : (((s[k]'hlt).toNat : Int) == 41) = false := by
            rw [hx]; simp; exact fun e => h41 (u8_eq (n := 41) (by omega) e)
          obtain ⟨⟨x0, hcell⟩, hfz⟩ := hArr.cell hxl
          have hst := hArr.store hxl d
          have hbw' : Below w0.heap.size w0 (wr.setCell ⟨w0.heap.size, xs.length, none⟩ (.int .i64 d)) := hbw.setCell (Nat.le_refl _) _
          have hxl' : (xs.length : Int) < 9 := by omega
          clear he' he2 hx h40 h41 hArr
          go_wp2_with fail
          clear g1 g2
          go_roundw
          case rel => exact ⟨k + 1, d, xs ++ [d], by omega, by go_num, by simp, rfl, by omega, by omega, hst, hbw', HE⟩
          case measure => simp [intOf]; omega
    · obtain rfl : k = s.size := by omega
      have he' := he.out
      rw [List.drop_of_length_le (by rw [Lib.size_eq]; exact Nat.le_refl _)] at he'
      have hxs : xs = ds := by simpa [depL] using he'.symm
      subst hxs
      have hg := hArr.get
      have hcl := fun cap w h => clone_any w0.heap.size cap xs.length xs w rfl hn1 (by omega) h
      have hl9 : (xs.length : Int) ≤ 9 := by omega
      clear he he'
      go_wp2_with fail
      refine (hcl _ _ hg).mono ?_; rintro e w3 ⟨v, own, hb3, rfl⟩
      go_wp2_with fail
      go_ret2
      exact ⟨_, own.mono (nx hb0 hbw).size, nx (nx hb0 hbw) hb3, rfl⟩

theorem implDepthsOf_yes (t : Tr) (w : World) (h : t.carets ≤ 8) :
    Calls Try.prog 19 #[.string t.str] w (AnsI2 (t.depths 0) true w) := by
  have hl := depths_length t 0
  have hz := t.str_size
  refine implDepthsS t.str _ w (by omega) ?_ (by omega) (by omega) (fun w => implIsTree_yes t w h)
  have := depL_text t [] 0
  rw [List.append_nil] at this
  rw [Tr.str_list, this]
  simp [depL]
end Go.Proofs.Ytdpfoeknphiheaa
