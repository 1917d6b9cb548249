/- Texts that the claim needs, part 8. -/
import Derived.Test.YtjmbkieocmhmiaaGreatMgEndsAddUp6
import Derived.Deep.Cut
/-! WEndsAddUp -/
namespace Go.Proofs.YtjmbkieocmhmiaaGreat
open Go.RowKit

theorem fdT_le (t : Tr) : fdT t ≤ t.carets := by
  induction t with
  | lf => exact Nat.zero_le _
  | nd l r ihl _ => simp only [fdT, Tr.carets]; omega
theorem edT_le (t : Tr) : edT t ≤ t.carets := by
  induction t with
  | lf => exact Nat.zero_le _
  | nd l r _ ihr => simp only [edT, Tr.carets]; omega
theorem ends_bd (a b : ByteArray) : -8 ≤ ((endsO a b).getD (0, 0)).1 ∧ ((endsO a b).getD (0, 0)).1 ≤ 8 ∧ -8 ≤ ((endsO a b).getD (0, 0)).2 ∧ ((endsO a b).getD (0, 0)).2 ≤ 8 := by
  unfold endsO
  cases h : pairOf a b with
  | none => simp
  | some p =>
    obtain ⟨_, _, hk, h1, h2⟩ := pairOf_some h
    have e1 := slopes_first hk
    have e2 := slopes_last hk
    have b1 := fdT_le p.1
    have b2 := fdT_le p.2
    have b3 := edT_le p.1
    have b4 := edT_le p.2
    show -8 ≤ (slopes p).getD 0 0 ∧ (slopes p).getD 0 0 ≤ 8 ∧ -8 ≤ (slopes p).getD p.1.carets 0 ∧ (slopes p).getD p.1.carets 0 ≤ 8
    rw [e1, e2]
    unfold slD
    omega
theorem ends_cases (a b u v : ByteArray) (o : Option Pr) (ho : o = ((pairOf a b).bind fun p => (pairOf u v).bind fun q => limP (mulP p q))) :
    o.isSome = false ∨ (o.isSome = true ∧ (endsO a b).isSome = true ∧ (endsO u v).isSome = true ∧ ∀ w, Calls Tryz.prog 21 #[.agg #[.string (pS1 o), .string (pS2 o)]] w (Gives (.tuple #[.int .i64 (((endsO a b).getD (0, 0)).1 + ((endsO u v).getD (0, 0)).1), .int .i64 (((endsO a b).getD (0, 0)).2 + ((endsO u v).getD (0, 0)).2), .bool true]) w)) := by
  cases hp : pairOf a b with
  | none => left; rw [ho, hp]; rfl
  | some p =>
    cases hq : pairOf u v with
    | none => left; rw [ho, hp, hq]; rfl
    | some q =>
      obtain ⟨_, _, kp, p1, p2⟩ := pairOf_some hp
      obtain ⟨_, _, kq, q1, q2⟩ := pairOf_some hq
      rw [hp, hq] at ho
      simp only [Option.bind_some] at ho
      by_cases hc : (mulP p q).1.carets ≤ 8
      · right
        rw [show limP (mulP p q) = some (mulP p q) by unfold limP; rw [if_pos hc]] at ho
        subst ho
        have ok : okP (mulP p q) := mulP_ok kp kq
        have ok' : (mulP p q).1.carets = (mulP p q).2.carets := ok
        refine ⟨rfl, by unfold endsO; rw [hp]; rfl, by unfold endsO; rw [hq]; rfl, fun w => ?_⟩
        have s1 := (mulP p q).1.str_size
        have s2 := (mulP p q).2.str_size
        have h := implEndSlopes_any (mulP p q).1.str (mulP p q).2.str w (by omega) (by omega)
        have e0 : endsO (mulP p q).1.str (mulP p q).2.str = some (slD fdT p + slD fdT q, slD edT p + slD edT q) := by
          unfold endsO
          rw [pairOf_str ok hc]
          show some _ = some _
          dsimp only
          rw [slopes_first ok, slopes_last ok, slD_mul fdT (·.headD .lf) fd_fill kp kq, slD_mul edT (·.getLastD .lf) ed_fill kp kq]
        have e1 : endsO a b = some (slD fdT p, slD edT p) := by
          unfold endsO
          rw [hp]
          show some _ = some _
          dsimp only
          rw [slopes_first kp, slopes_last kp]
        have e2 : endsO u v = some (slD fdT q, slD edT q) := by
          unfold endsO
          rw [hq]
          show some _ = some _
          dsimp only
          rw [slopes_first kq, slopes_last kq]
        rw [e0] at h
        rw [e1, e2]
        exact h
      · left
        rw [ho, show limP (mulP p q) = none by unfold limP; rw [if_neg hc]]
        rfl
theorem inner_ends (a b : ByteArray) : (innerO a b).isSome = (endsO a b).isSome ∧ (innerO a b == some true) = ((endsO a b).isSome && (((endsO a b).getD (0, 0)).1 == 0 && ((endsO a b).getD (0, 0)).2 == 0)) := by
  unfold innerO
  cases endsO a b with
  | none => exact ⟨rfl, rfl⟩
  | some x =>
    refine ⟨rfl, ?_⟩
    show ((some (x.1 == 0 && x.2 == 0) : Option Bool) == some true) = (true && (x.1 == 0 && x.2 == 0))
    cases x.1 == 0 <;> cases x.2 == 0 <;> rfl
/-- What is known of an orbit that is told. -/
def OrbG (a b : ByteArray) (n d k : Int) (l : List (Nat × Nat)) : Prop :=
  (l.length : Int) = k + 1 ∧ 1 ≤ l.length ∧ l.length ≤ 21 ∧ (((l.getD 0 (0, 0)).1 : Nat) : Int) = n ∧ (((l.getD 0 (0, 0)).2 : Nat) : Int) = d ∧
  (∀ i, i < l.length → (l.getD i (0, 0)).1 ≤ 1048576 ∧ (l.getD i (0, 0)).2 ≤ 1048576) ∧
  (∀ i, i + 1 < l.length → ∀ w, Calls Tryz.prog 32 #[.agg #[.string a, .string b], .agg #[.int .i64 ((l.getD i (0, 0)).1 : Nat), .int .i64 ((l.getD i (0, 0)).2 : Nat)]] w (Gives (.tuple #[.agg #[.int .i64 ((l.getD (i + 1) (0, 0)).1 : Nat), .int .i64 ((l.getD (i + 1) (0, 0)).2 : Nat)], .bool true]) w)) ∧
  ∀ i, i + 2 < l.length → decide ((l.getD i (0, 0)).1 * (l.getD (i + 1) (0, 0)).2 < (l.getD (i + 1) (0, 0)).1 * (l.getD i (0, 0)).2) = decide ((l.getD (i + 1) (0, 0)).1 * (l.getD (i + 2) (0, 0)).2 < (l.getD (i + 2) (0, 0)).1 * (l.getD (i + 1) (0, 0)).2)
theorem fr_le {n d : Nat} (h : isFr n d = true) : n ≤ 1024 ∧ d ≤ 1024 ∧ 0 < d := by
  obtain ⟨h1, h2, h3, _⟩ := isFr_iff.1 h
  have := isP2_mem.1 h1
  omega
theorem orb_facts {a b : ByteArray} {n d k : Int} {l : List (Nat × Nat)} (h : orbO a b n d k = some l) (za : a.size ≤ 100) (zb : b.size ≤ 100) : OrbG a b n d k l := by
  unfold orbO at h
  cases hp : pairOf a b with
  | none => rw [hp] at h; simp at h
  | some p =>
    rw [hp] at h
    simp only [Option.bind_some] at h
    split at h
    · next hc =>
      obtain ⟨hf, k0, k20⟩ := hc
      obtain ⟨_, _, hk, p1, p2⟩ := pairOf_some hp
      obtain ⟨i1, i2, i3, _⟩ := isFr_iff.1 hf
      have hf' : isFr ((n.toNat : Nat) : Int) ((d.toNat : Nat) : Int) = true := by rw [Int.toNat_of_nonneg i2, Int.toNat_of_nonneg (by omega)]; exact hf
      have hl := orbN_len h
      obtain ⟨g0, g1⟩ := orbN_get h
      obtain ⟨r1, r2⟩ := orb_rises hk p1 hf' h
      refine ⟨by omega, by omega, by omega, by rw [g0]; exact Int.toNat_of_nonneg i2, by rw [g0]; exact Int.toNat_of_nonneg (by omega), ?_, ?_, ?_⟩
      · intro i hi
        have := fr_le (r1 i (by omega))
        omega
      · intro i hi w
        have hi1 := r1 i (by omega)
        have hb1 := fr_le hi1
        have := implValueOf_any a b ((l.getD i (0, 0)).1 : Nat) ((l.getD i (0, 0)).2 : Nat) w (by omega) (by omega) (by omega) (by omega) (by omega) (by omega)
        rw [show valueO a b ((l.getD i (0, 0)).1 : Nat) ((l.getD i (0, 0)).2 : Nat) = some (l.getD (i + 1) (0, 0)) by unfold valueO; rw [hp]; simp only [Option.bind_some]; rw [if_pos hi1]; exact g1 i (by omega)] at this
        exact this
      · intro i hi
        have a1 := r1 i (by omega)
        have a2 := r1 (i + 1) (by omega)
        have a3 := r1 (i + 2) (by omega)
        have f1 := fr_le a1
        have f2 := fr_le a2
        have f3 := fr_le a3
        have e1 := less_stepsV a1 a2 f1.2.2 f2.2.2
        have e2 := less_stepsV a2 a3 f2.2.2 f3.2.2
        have e3 := r2 i (by omega)
        rw [decide_eq_decide, e1, e2]
        exact e3
    · cases h
/-- An orbit's cells. -/
def OrbC (w : World) (g : Nat) (l : List (Nat × Nat)) : Prop := g < w.heap.size ∧ ∀ i, i < l.length → w.cell? ⟨g, i * 2, none⟩ = some (.int .i64 ((l.getD i (0, 0)).1 : Nat)) ∧ w.cell? ⟨g, i * 2 + 1, none⟩ = some (.int .i64 ((l.getD i (0, 0)).2 : Nat))
theorem OrbC.keep {w w' : World} {g : Nat} {l : List (Nat × Nat)} (h : OrbC w g l) (hb : Below w.heap.size w w') : OrbC w' g l :=
  ⟨Nat.lt_of_lt_of_le h.1 hb.size, fun i hi => ⟨(hb.cell (p := ⟨g, i * 2, none⟩) h.1).trans (h.2 i hi).1, (hb.cell (p := ⟨g, i * 2 + 1, none⟩) h.1).trans (h.2 i hi).2⟩⟩
theorem orb_cells {w : World} {base : Nat} {v : Value} {l : List (Nat × Nat)} (h : CellsW 2 base w v l.length (flatF l)) (h1 : 1 ≤ l.length) : ∃ g cap : Nat, v = .slice (some ⟨g, 0, none⟩) l.length cap ∧ OrbC w g l ∧ l.length ≤ cap := by
  rcases h with ⟨_, hz⟩ | ⟨g, cap, hv, _, hg, hc, _, hx, _⟩
  · omega
  · refine ⟨g, cap, hv, ⟨hg, fun i hi => ?_⟩, hc⟩
    obtain ⟨e1, e2⟩ := flatF_get l i hi
    have c1 := hx (i * 2) (by omega)
    have c2 := hx (i * 2 + 1) (by omega)
    rw [e1] at c1
    rw [e2] at c2
    exact ⟨c1, c2⟩
theorem orb_cases (a b : ByteArray) (n d k : Int) (za : a.size ≤ 100) (zb : b.size ≤ 100) : (orbO a b n d k).isSome = false ∨ ((orbO a b n d k).isSome = true ∧ OrbG a b n d k ((orbO a b n d k).getD [])) := by
  cases h : orbO a b n d k with
  | none => exact .inl rfl
  | some l => exact .inr ⟨rfl, orb_facts h za zb⟩
theorem list_range (N : Nat) (l : List Value) (h : l.length = N) : l = (List.range N).map fun n => (Array.mk l).getD n undef := by
  apply List.ext_getElem
  · simp [h]
  · intro i h1 h2
    simp [h1]
set_option maxRecDepth 100000 in
theorem frame299_0 (a : Act) (hs : a.tmps.size = 299) (hd : a.defers = []) {x0 : Value} (k0 : a.tmps.getD 0 undef = x0) {x1 : Value} (k1 : a.tmps.getD 1 undef = x1) {x168 : Value} (k168 : a.tmps.getD 168 undef = x168) : ∃ f : Nat → Value, a = { tmps := (x0 :: x1 :: f 2 :: f 3 :: f 4 :: f 5 :: f 6 :: f 7 :: f 8 :: f 9 :: f 10 :: f 11 :: f 12 :: f 13 :: f 14 :: f 15 :: f 16 :: f 17 :: f 18 :: f 19 :: f 20 :: f 21 :: f 22 :: f 23 :: f 24 :: f 25 :: f 26 :: f 27 :: f 28 :: f 29 :: f 30 :: f 31 :: f 32 :: f 33 :: f 34 :: f 35 :: f 36 :: f 37 :: f 38 :: f 39 :: f 40 :: f 41 :: f 42 :: f 43 :: f 44 :: f 45 :: f 46 :: f 47 :: f 48 :: f 49 :: f 50 :: f 51 :: f 52 :: f 53 :: f 54 :: f 55 :: f 56 :: f 57 :: f 58 :: f 59 :: f 60 :: f 61 :: f 62 :: f 63 :: f 64 :: f 65 :: f 66 :: f 67 :: f 68 :: f 69 :: f 70 :: f 71 :: f 72 :: f 73 :: f 74 :: f 75 :: f 76 :: f 77 :: f 78 :: f 79 :: f 80 :: f 81 :: f 82 :: f 83 :: f 84 :: f 85 :: f 86 :: f 87 :: f 88 :: f 89 :: f 90 :: f 91 :: f 92 :: f 93 :: f 94 :: f 95 :: f 96 :: f 97 :: f 98 :: f 99 :: f 100 :: f 101 :: f 102 :: f 103 :: f 104 :: f 105 :: f 106 :: f 107 :: f 108 :: f 109 :: f 110 :: f 111 :: f 112 :: f 113 :: f 114 :: f 115 :: f 116 :: f 117 :: f 118 :: f 119 :: f 120 :: f 121 :: f 122 :: f 123 :: f 124 :: f 125 :: f 126 :: f 127 :: f 128 :: f 129 :: f 130 :: f 131 :: f 132 :: f 133 :: f 134 :: f 135 :: f 136 :: f 137 :: f 138 :: f 139 :: f 140 :: f 141 :: f 142 :: f 143 :: f 144 :: f 145 :: f 146 :: f 147 :: f 148 :: f 149 :: f 150 :: f 151 :: f 152 :: f 153 :: f 154 :: f 155 :: f 156 :: f 157 :: f 158 :: f 159 :: f 160 :: f 161 :: f 162 :: f 163 :: f 164 :: f 165 :: f 166 :: f 167 :: x168 :: f 169 :: f 170 :: f 171 :: f 172 :: f 173 :: f 174 :: f 175 :: f 176 :: f 177 :: f 178 :: f 179 :: f 180 :: f 181 :: f 182 :: f 183 :: f 184 :: f 185 :: f 186 :: f 187 :: f 188 :: f 189 :: f 190 :: f 191 :: f 192 :: f 193 :: f 194 :: f 195 :: f 196 :: f 197 :: f 198 :: f 199 :: f 200 :: f 201 :: f 202 :: f 203 :: f 204 :: f 205 :: f 206 :: f 207 :: f 208 :: f 209 :: f 210 :: f 211 :: f 212 :: f 213 :: f 214 :: f 215 :: f 216 :: f 217 :: f 218 :: f 219 :: f 220 :: f 221 :: f 222 :: f 223 :: f 224 :: f 225 :: f 226 :: f 227 :: f 228 :: f 229 :: f 230 :: f 231 :: f 232 :: f 233 :: f 234 :: f 235 :: f 236 :: f 237 :: f 238 :: f 239 :: f 240 :: f 241 :: f 242 :: f 243 :: f 244 :: f 245 :: f 246 :: f 247 :: f 248 :: f 249 :: f 250 :: f 251 :: f 252 :: f 253 :: f 254 :: f 255 :: f 256 :: f 257 :: f 258 :: f 259 :: f 260 :: f 261 :: f 262 :: f 263 :: f 264 :: f 265 :: f 266 :: f 267 :: f 268 :: f 269 :: f 270 :: f 271 :: f 272 :: f 273 :: f 274 :: f 275 :: f 276 :: f 277 :: f 278 :: f 279 :: f 280 :: f 281 :: f 282 :: f 283 :: f 284 :: f 285 :: f 286 :: f 287 :: f 288 :: f 289 :: f 290 :: f 291 :: f 292 :: f 293 :: f 294 :: f 295 :: f 296 :: f 297 :: f 298 :: []).toArray, defers := [] } := by
  obtain ⟨⟨l⟩, d⟩ := a
  subst hd
  subst k0
  subst k1
  subst k168
  refine ⟨fun n => (Array.mk l).getD n undef, ?_⟩
  have e := list_range 299 l hs
  have e2 : ((List.range 299).map fun n => (Array.mk l).getD n undef).toArray = ((Array.mk l).getD 0 undef :: (Array.mk l).getD 1 undef :: (Array.mk l).getD 2 undef :: (Array.mk l).getD 3 undef :: (Array.mk l).getD 4 undef :: (Array.mk l).getD 5 undef :: (Array.mk l).getD 6 undef :: (Array.mk l).getD 7 undef :: (Array.mk l).getD 8 undef :: (Array.mk l).getD 9 undef :: (Array.mk l).getD 10 undef :: (Array.mk l).getD 11 undef :: (Array.mk l).getD 12 undef :: (Array.mk l).getD 13 undef :: (Array.mk l).getD 14 undef :: (Array.mk l).getD 15 undef :: (Array.mk l).getD 16 undef :: (Array.mk l).getD 17 undef :: (Array.mk l).getD 18 undef :: (Array.mk l).getD 19 undef :: (Array.mk l).getD 20 undef :: (Array.mk l).getD 21 undef :: (Array.mk l).getD 22 undef :: (Array.mk l).getD 23 undef :: (Array.mk l).getD 24 undef :: (Array.mk l).getD 25 undef :: (Array.mk l).getD 26 undef :: (Array.mk l).getD 27 undef :: (Array.mk l).getD 28 undef :: (Array.mk l).getD 29 undef :: (Array.mk l).getD 30 undef :: (Array.mk l).getD 31 undef :: (Array.mk l).getD 32 undef :: (Array.mk l).getD 33 undef :: (Array.mk l).getD 34 undef :: (Array.mk l).getD 35 undef :: (Array.mk l).getD 36 undef :: (Array.mk l).getD 37 undef :: (Array.mk l).getD 38 undef :: (Array.mk l).getD 39 undef :: (Array.mk l).getD 40 undef :: (Array.mk l).getD 41 undef :: (Array.mk l).getD 42 undef :: (Array.mk l).getD 43 undef :: (Array.mk l).getD 44 undef :: (Array.mk l).getD 45 undef :: (Array.mk l).getD 46 undef :: (Array.mk l).getD 47 undef :: (Array.mk l).getD 48 undef :: (Array.mk l).getD 49 undef :: (Array.mk l).getD 50 undef :: (Array.mk l).getD 51 undef :: (Array.mk l).getD 52 undef :: (Array.mk l).getD 53 undef :: (Array.mk l).getD 54 undef :: (Array.mk l).getD 55 undef :: (Array.mk l).getD 56 undef :: (Array.mk l).getD 57 undef :: (Array.mk l).getD 58 undef :: (Array.mk l).getD 59 undef :: (Array.mk l).getD 60 undef :: (Array.mk l).getD 61 undef :: (Array.mk l).getD 62 undef :: (Array.mk l).getD 63 undef :: (Array.mk l).getD 64 undef :: (Array.mk l).getD 65 undef :: (Array.mk l).getD 66 undef :: (Array.mk l).getD 67 undef :: (Array.mk l).getD 68 undef :: (Array.mk l).getD 69 undef :: (Array.mk l).getD 70 undef :: (Array.mk l).getD 71 undef :: (Array.mk l).getD 72 undef :: (Array.mk l).getD 73 undef :: (Array.mk l).getD 74 undef :: (Array.mk l).getD 75 undef :: (Array.mk l).getD 76 undef :: (Array.mk l).getD 77 undef :: (Array.mk l).getD 78 undef :: (Array.mk l).getD 79 undef :: (Array.mk l).getD 80 undef :: (Array.mk l).getD 81 undef :: (Array.mk l).getD 82 undef :: (Array.mk l).getD 83 undef :: (Array.mk l).getD 84 undef :: (Array.mk l).getD 85 undef :: (Array.mk l).getD 86 undef :: (Array.mk l).getD 87 undef :: (Array.mk l).getD 88 undef :: (Array.mk l).getD 89 undef :: (Array.mk l).getD 90 undef :: (Array.mk l).getD 91 undef :: (Array.mk l).getD 92 undef :: (Array.mk l).getD 93 undef :: (Array.mk l).getD 94 undef :: (Array.mk l).getD 95 undef :: (Array.mk l).getD 96 undef :: (Array.mk l).getD 97 undef :: (Array.mk l).getD 98 undef :: (Array.mk l).getD 99 undef :: (Array.mk l).getD 100 undef :: (Array.mk l).getD 101 undef :: (Array.mk l).getD 102 undef :: (Array.mk l).getD 103 undef :: (Array.mk l).getD 104 undef :: (Array.mk l).getD 105 undef :: (Array.mk l).getD 106 undef :: (Array.mk l).getD 107 undef :: (Array.mk l).getD 108 undef :: (Array.mk l).getD 109 undef :: (Array.mk l).getD 110 undef :: (Array.mk l).getD 111 undef :: (Array.mk l).getD 112 undef :: (Array.mk l).getD 113 undef :: (Array.mk l).getD 114 undef :: (Array.mk l).getD 115 undef :: (Array.mk l).getD 116 undef :: (Array.mk l).getD 117 undef :: (Array.mk l).getD 118 undef :: (Array.mk l).getD 119 undef :: (Array.mk l).getD 120 undef :: (Array.mk l).getD 121 undef :: (Array.mk l).getD 122 undef :: (Array.mk l).getD 123 undef :: (Array.mk l).getD 124 undef :: (Array.mk l).getD 125 undef :: (Array.mk l).getD 126 undef :: (Array.mk l).getD 127 undef :: (Array.mk l).getD 128 undef :: (Array.mk l).getD 129 undef :: (Array.mk l).getD 130 undef :: (Array.mk l).getD 131 undef :: (Array.mk l).getD 132 undef :: (Array.mk l).getD 133 undef :: (Array.mk l).getD 134 undef :: (Array.mk l).getD 135 undef :: (Array.mk l).getD 136 undef :: (Array.mk l).getD 137 undef :: (Array.mk l).getD 138 undef :: (Array.mk l).getD 139 undef :: (Array.mk l).getD 140 undef :: (Array.mk l).getD 141 undef :: (Array.mk l).getD 142 undef :: (Array.mk l).getD 143 undef :: (Array.mk l).getD 144 undef :: (Array.mk l).getD 145 undef :: (Array.mk l).getD 146 undef :: (Array.mk l).getD 147 undef :: (Array.mk l).getD 148 undef :: (Array.mk l).getD 149 undef :: (Array.mk l).getD 150 undef :: (Array.mk l).getD 151 undef :: (Array.mk l).getD 152 undef :: (Array.mk l).getD 153 undef :: (Array.mk l).getD 154 undef :: (Array.mk l).getD 155 undef :: (Array.mk l).getD 156 undef :: (Array.mk l).getD 157 undef :: (Array.mk l).getD 158 undef :: (Array.mk l).getD 159 undef :: (Array.mk l).getD 160 undef :: (Array.mk l).getD 161 undef :: (Array.mk l).getD 162 undef :: (Array.mk l).getD 163 undef :: (Array.mk l).getD 164 undef :: (Array.mk l).getD 165 undef :: (Array.mk l).getD 166 undef :: (Array.mk l).getD 167 undef :: (Array.mk l).getD 168 undef :: (Array.mk l).getD 169 undef :: (Array.mk l).getD 170 undef :: (Array.mk l).getD 171 undef :: (Array.mk l).getD 172 undef :: (Array.mk l).getD 173 undef :: (Array.mk l).getD 174 undef :: (Array.mk l).getD 175 undef :: (Array.mk l).getD 176 undef :: (Array.mk l).getD 177 undef :: (Array.mk l).getD 178 undef :: (Array.mk l).getD 179 undef :: (Array.mk l).getD 180 undef :: (Array.mk l).getD 181 undef :: (Array.mk l).getD 182 undef :: (Array.mk l).getD 183 undef :: (Array.mk l).getD 184 undef :: (Array.mk l).getD 185 undef :: (Array.mk l).getD 186 undef :: (Array.mk l).getD 187 undef :: (Array.mk l).getD 188 undef :: (Array.mk l).getD 189 undef :: (Array.mk l).getD 190 undef :: (Array.mk l).getD 191 undef :: (Array.mk l).getD 192 undef :: (Array.mk l).getD 193 undef :: (Array.mk l).getD 194 undef :: (Array.mk l).getD 195 undef :: (Array.mk l).getD 196 undef :: (Array.mk l).getD 197 undef :: (Array.mk l).getD 198 undef :: (Array.mk l).getD 199 undef :: (Array.mk l).getD 200 undef :: (Array.mk l).getD 201 undef :: (Array.mk l).getD 202 undef :: (Array.mk l).getD 203 undef :: (Array.mk l).getD 204 undef :: (Array.mk l).getD 205 undef :: (Array.mk l).getD 206 undef :: (Array.mk l).getD 207 undef :: (Array.mk l).getD 208 undef :: (Array.mk l).getD 209 undef :: (Array.mk l).getD 210 undef :: (Array.mk l).getD 211 undef :: (Array.mk l).getD 212 undef :: (Array.mk l).getD 213 undef :: (Array.mk l).getD 214 undef :: (Array.mk l).getD 215 undef :: (Array.mk l).getD 216 undef :: (Array.mk l).getD 217 undef :: (Array.mk l).getD 218 undef :: (Array.mk l).getD 219 undef :: (Array.mk l).getD 220 undef :: (Array.mk l).getD 221 undef :: (Array.mk l).getD 222 undef :: (Array.mk l).getD 223 undef :: (Array.mk l).getD 224 undef :: (Array.mk l).getD 225 undef :: (Array.mk l).getD 226 undef :: (Array.mk l).getD 227 undef :: (Array.mk l).getD 228 undef :: (Array.mk l).getD 229 undef :: (Array.mk l).getD 230 undef :: (Array.mk l).getD 231 undef :: (Array.mk l).getD 232 undef :: (Array.mk l).getD 233 undef :: (Array.mk l).getD 234 undef :: (Array.mk l).getD 235 undef :: (Array.mk l).getD 236 undef :: (Array.mk l).getD 237 undef :: (Array.mk l).getD 238 undef :: (Array.mk l).getD 239 undef :: (Array.mk l).getD 240 undef :: (Array.mk l).getD 241 undef :: (Array.mk l).getD 242 undef :: (Array.mk l).getD 243 undef :: (Array.mk l).getD 244 undef :: (Array.mk l).getD 245 undef :: (Array.mk l).getD 246 undef :: (Array.mk l).getD 247 undef :: (Array.mk l).getD 248 undef :: (Array.mk l).getD 249 undef :: (Array.mk l).getD 250 undef :: (Array.mk l).getD 251 undef :: (Array.mk l).getD 252 undef :: (Array.mk l).getD 253 undef :: (Array.mk l).getD 254 undef :: (Array.mk l).getD 255 undef :: (Array.mk l).getD 256 undef :: (Array.mk l).getD 257 undef :: (Array.mk l).getD 258 undef :: (Array.mk l).getD 259 undef :: (Array.mk l).getD 260 undef :: (Array.mk l).getD 261 undef :: (Array.mk l).getD 262 undef :: (Array.mk l).getD 263 undef :: (Array.mk l).getD 264 undef :: (Array.mk l).getD 265 undef :: (Array.mk l).getD 266 undef :: (Array.mk l).getD 267 undef :: (Array.mk l).getD 268 undef :: (Array.mk l).getD 269 undef :: (Array.mk l).getD 270 undef :: (Array.mk l).getD 271 undef :: (Array.mk l).getD 272 undef :: (Array.mk l).getD 273 undef :: (Array.mk l).getD 274 undef :: (Array.mk l).getD 275 undef :: (Array.mk l).getD 276 undef :: (Array.mk l).getD 277 undef :: (Array.mk l).getD 278 undef :: (Array.mk l).getD 279 undef :: (Array.mk l).getD 280 undef :: (Array.mk l).getD 281 undef :: (Array.mk l).getD 282 undef :: (Array.mk l).getD 283 undef :: (Array.mk l).getD 284 undef :: (Array.mk l).getD 285 undef :: (Array.mk l).getD 286 undef :: (Array.mk l).getD 287 undef :: (Array.mk l).getD 288 undef :: (Array.mk l).getD 289 undef :: (Array.mk l).getD 290 undef :: (Array.mk l).getD 291 undef :: (Array.mk l).getD 292 undef :: (Array.mk l).getD 293 undef :: (Array.mk l).getD 294 undef :: (Array.mk l).getD 295 undef :: (Array.mk l).getD 296 undef :: (Array.mk l).getD 297 undef :: (Array.mk l).getD 298 undef :: []).toArray := by kernel_rfl
  show ({ tmps := l.toArray, defers := [] } : Act) = _
  refine congrArg (fun t : Array Value => ({ tmps := t, defers := [] } : Act)) ?_
  exact (congrArg List.toArray e).trans e2
set_option maxRecDepth 100000 in
theorem frame299_1 (a : Act) (hs : a.tmps.size = 299) (hd : a.defers = []) {x0 : Value} (k0 : a.tmps.getD 0 undef = x0) {x1 : Value} (k1 : a.tmps.getD 1 undef = x1) : ∃ f : Nat → Value, a = { tmps := (x0 :: x1 :: f 2 :: f 3 :: f 4 :: f 5 :: f 6 :: f 7 :: f 8 :: f 9 :: f 10 :: f 11 :: f 12 :: f 13 :: f 14 :: f 15 :: f 16 :: f 17 :: f 18 :: f 19 :: f 20 :: f 21 :: f 22 :: f 23 :: f 24 :: f 25 :: f 26 :: f 27 :: f 28 :: f 29 :: f 30 :: f 31 :: f 32 :: f 33 :: f 34 :: f 35 :: f 36 :: f 37 :: f 38 :: f 39 :: f 40 :: f 41 :: f 42 :: f 43 :: f 44 :: f 45 :: f 46 :: f 47 :: f 48 :: f 49 :: f 50 :: f 51 :: f 52 :: f 53 :: f 54 :: f 55 :: f 56 :: f 57 :: f 58 :: f 59 :: f 60 :: f 61 :: f 62 :: f 63 :: f 64 :: f 65 :: f 66 :: f 67 :: f 68 :: f 69 :: f 70 :: f 71 :: f 72 :: f 73 :: f 74 :: f 75 :: f 76 :: f 77 :: f 78 :: f 79 :: f 80 :: f 81 :: f 82 :: f 83 :: f 84 :: f 85 :: f 86 :: f 87 :: f 88 :: f 89 :: f 90 :: f 91 :: f 92 :: f 93 :: f 94 :: f 95 :: f 96 :: f 97 :: f 98 :: f 99 :: f 100 :: f 101 :: f 102 :: f 103 :: f 104 :: f 105 :: f 106 :: f 107 :: f 108 :: f 109 :: f 110 :: f 111 :: f 112 :: f 113 :: f 114 :: f 115 :: f 116 :: f 117 :: f 118 :: f 119 :: f 120 :: f 121 :: f 122 :: f 123 :: f 124 :: f 125 :: f 126 :: f 127 :: f 128 :: f 129 :: f 130 :: f 131 :: f 132 :: f 133 :: f 134 :: f 135 :: f 136 :: f 137 :: f 138 :: f 139 :: f 140 :: f 141 :: f 142 :: f 143 :: f 144 :: f 145 :: f 146 :: f 147 :: f 148 :: f 149 :: f 150 :: f 151 :: f 152 :: f 153 :: f 154 :: f 155 :: f 156 :: f 157 :: f 158 :: f 159 :: f 160 :: f 161 :: f 162 :: f 163 :: f 164 :: f 165 :: f 166 :: f 167 :: f 168 :: f 169 :: f 170 :: f 171 :: f 172 :: f 173 :: f 174 :: f 175 :: f 176 :: f 177 :: f 178 :: f 179 :: f 180 :: f 181 :: f 182 :: f 183 :: f 184 :: f 185 :: f 186 :: f 187 :: f 188 :: f 189 :: f 190 :: f 191 :: f 192 :: f 193 :: f 194 :: f 195 :: f 196 :: f 197 :: f 198 :: f 199 :: f 200 :: f 201 :: f 202 :: f 203 :: f 204 :: f 205 :: f 206 :: f 207 :: f 208 :: f 209 :: f 210 :: f 211 :: f 212 :: f 213 :: f 214 :: f 215 :: f 216 :: f 217 :: f 218 :: f 219 :: f 220 :: f 221 :: f 222 :: f 223 :: f 224 :: f 225 :: f 226 :: f 227 :: f 228 :: f 229 :: f 230 :: f 231 :: f 232 :: f 233 :: f 234 :: f 235 :: f 236 :: f 237 :: f 238 :: f 239 :: f 240 :: f 241 :: f 242 :: f 243 :: f 244 :: f 245 :: f 246 :: f 247 :: f 248 :: f 249 :: f 250 :: f 251 :: f 252 :: f 253 :: f 254 :: f 255 :: f 256 :: f 257 :: f 258 :: f 259 :: f 260 :: f 261 :: f 262 :: f 263 :: f 264 :: f 265 :: f 266 :: f 267 :: f 268 :: f 269 :: f 270 :: f 271 :: f 272 :: f 273 :: f 274 :: f 275 :: f 276 :: f 277 :: f 278 :: f 279 :: f 280 :: f 281 :: f 282 :: f 283 :: f 284 :: f 285 :: f 286 :: f 287 :: f 288 :: f 289 :: f 290 :: f 291 :: f 292 :: f 293 :: f 294 :: f 295 :: f 296 :: f 297 :: f 298 :: []).toArray, defers := [] } := by
  obtain ⟨⟨l⟩, d⟩ := a
  subst hd
  subst k0
  subst k1
  refine ⟨fun n => (Array.mk l).getD n undef, ?_⟩
  have e := list_range 299 l hs
  have e2 : ((List.range 299).map fun n => (Array.mk l).getD n undef).toArray = ((Array.mk l).getD 0 undef :: (Array.mk l).getD 1 undef :: (Array.mk l).getD 2 undef :: (Array.mk l).getD 3 undef :: (Array.mk l).getD 4 undef :: (Array.mk l).getD 5 undef :: (Array.mk l).getD 6 undef :: (Array.mk l).getD 7 undef :: (Array.mk l).getD 8 undef :: (Array.mk l).getD 9 undef :: (Array.mk l).getD 10 undef :: (Array.mk l).getD 11 undef :: (Array.mk l).getD 12 undef :: (Array.mk l).getD 13 undef :: (Array.mk l).getD 14 undef :: (Array.mk l).getD 15 undef :: (Array.mk l).getD 16 undef :: (Array.mk l).getD 17 undef :: (Array.mk l).getD 18 undef :: (Array.mk l).getD 19 undef :: (Array.mk l).getD 20 undef :: (Array.mk l).getD 21 undef :: (Array.mk l).getD 22 undef :: (Array.mk l).getD 23 undef :: (Array.mk l).getD 24 undef :: (Array.mk l).getD 25 undef :: (Array.mk l).getD 26 undef :: (Array.mk l).getD 27 undef :: (Array.mk l).getD 28 undef :: (Array.mk l).getD 29 undef :: (Array.mk l).getD 30 undef :: (Array.mk l).getD 31 undef :: (Array.mk l).getD 32 undef :: (Array.mk l).getD 33 undef :: (Array.mk l).getD 34 undef :: (Array.mk l).getD 35 undef :: (Array.mk l).getD 36 undef :: (Array.mk l).getD 37 undef :: (Array.mk l).getD 38 undef :: (Array.mk l).getD 39 undef :: (Array.mk l).getD 40 undef :: (Array.mk l).getD 41 undef :: (Array.mk l).getD 42 undef :: (Array.mk l).getD 43 undef :: (Array.mk l).getD 44 undef :: (Array.mk l).getD 45 undef :: (Array.mk l).getD 46 undef :: (Array.mk l).getD 47 undef :: (Array.mk l).getD 48 undef :: (Array.mk l).getD 49 undef :: (Array.mk l).getD 50 undef :: (Array.mk l).getD 51 undef :: (Array.mk l).getD 52 undef :: (Array.mk l).getD 53 undef :: (Array.mk l).getD 54 undef :: (Array.mk l).getD 55 undef :: (Array.mk l).getD 56 undef :: (Array.mk l).getD 57 undef :: (Array.mk l).getD 58 undef :: (Array.mk l).getD 59 undef :: (Array.mk l).getD 60 undef :: (Array.mk l).getD 61 undef :: (Array.mk l).getD 62 undef :: (Array.mk l).getD 63 undef :: (Array.mk l).getD 64 undef :: (Array.mk l).getD 65 undef :: (Array.mk l).getD 66 undef :: (Array.mk l).getD 67 undef :: (Array.mk l).getD 68 undef :: (Array.mk l).getD 69 undef :: (Array.mk l).getD 70 undef :: (Array.mk l).getD 71 undef :: (Array.mk l).getD 72 undef :: (Array.mk l).getD 73 undef :: (Array.mk l).getD 74 undef :: (Array.mk l).getD 75 undef :: (Array.mk l).getD 76 undef :: (Array.mk l).getD 77 undef :: (Array.mk l).getD 78 undef :: (Array.mk l).getD 79 undef :: (Array.mk l).getD 80 undef :: (Array.mk l).getD 81 undef :: (Array.mk l).getD 82 undef :: (Array.mk l).getD 83 undef :: (Array.mk l).getD 84 undef :: (Array.mk l).getD 85 undef :: (Array.mk l).getD 86 undef :: (Array.mk l).getD 87 undef :: (Array.mk l).getD 88 undef :: (Array.mk l).getD 89 undef :: (Array.mk l).getD 90 undef :: (Array.mk l).getD 91 undef :: (Array.mk l).getD 92 undef :: (Array.mk l).getD 93 undef :: (Array.mk l).getD 94 undef :: (Array.mk l).getD 95 undef :: (Array.mk l).getD 96 undef :: (Array.mk l).getD 97 undef :: (Array.mk l).getD 98 undef :: (Array.mk l).getD 99 undef :: (Array.mk l).getD 100 undef :: (Array.mk l).getD 101 undef :: (Array.mk l).getD 102 undef :: (Array.mk l).getD 103 undef :: (Array.mk l).getD 104 undef :: (Array.mk l).getD 105 undef :: (Array.mk l).getD 106 undef :: (Array.mk l).getD 107 undef :: (Array.mk l).getD 108 undef :: (Array.mk l).getD 109 undef :: (Array.mk l).getD 110 undef :: (Array.mk l).getD 111 undef :: (Array.mk l).getD 112 undef :: (Array.mk l).getD 113 undef :: (Array.mk l).getD 114 undef :: (Array.mk l).getD 115 undef :: (Array.mk l).getD 116 undef :: (Array.mk l).getD 117 undef :: (Array.mk l).getD 118 undef :: (Array.mk l).getD 119 undef :: (Array.mk l).getD 120 undef :: (Array.mk l).getD 121 undef :: (Array.mk l).getD 122 undef :: (Array.mk l).getD 123 undef :: (Array.mk l).getD 124 undef :: (Array.mk l).getD 125 undef :: (Array.mk l).getD 126 undef :: (Array.mk l).getD 127 undef :: (Array.mk l).getD 128 undef :: (Array.mk l).getD 129 undef :: (Array.mk l).getD 130 undef :: (Array.mk l).getD 131 undef :: (Array.mk l).getD 132 undef :: (Array.mk l).getD 133 undef :: (Array.mk l).getD 134 undef :: (Array.mk l).getD 135 undef :: (Array.mk l).getD 136 undef :: (Array.mk l).getD 137 undef :: (Array.mk l).getD 138 undef :: (Array.mk l).getD 139 undef :: (Array.mk l).getD 140 undef :: (Array.mk l).getD 141 undef :: (Array.mk l).getD 142 undef :: (Array.mk l).getD 143 undef :: (Array.mk l).getD 144 undef :: (Array.mk l).getD 145 undef :: (Array.mk l).getD 146 undef :: (Array.mk l).getD 147 undef :: (Array.mk l).getD 148 undef :: (Array.mk l).getD 149 undef :: (Array.mk l).getD 150 undef :: (Array.mk l).getD 151 undef :: (Array.mk l).getD 152 undef :: (Array.mk l).getD 153 undef :: (Array.mk l).getD 154 undef :: (Array.mk l).getD 155 undef :: (Array.mk l).getD 156 undef :: (Array.mk l).getD 157 undef :: (Array.mk l).getD 158 undef :: (Array.mk l).getD 159 undef :: (Array.mk l).getD 160 undef :: (Array.mk l).getD 161 undef :: (Array.mk l).getD 162 undef :: (Array.mk l).getD 163 undef :: (Array.mk l).getD 164 undef :: (Array.mk l).getD 165 undef :: (Array.mk l).getD 166 undef :: (Array.mk l).getD 167 undef :: (Array.mk l).getD 168 undef :: (Array.mk l).getD 169 undef :: (Array.mk l).getD 170 undef :: (Array.mk l).getD 171 undef :: (Array.mk l).getD 172 undef :: (Array.mk l).getD 173 undef :: (Array.mk l).getD 174 undef :: (Array.mk l).getD 175 undef :: (Array.mk l).getD 176 undef :: (Array.mk l).getD 177 undef :: (Array.mk l).getD 178 undef :: (Array.mk l).getD 179 undef :: (Array.mk l).getD 180 undef :: (Array.mk l).getD 181 undef :: (Array.mk l).getD 182 undef :: (Array.mk l).getD 183 undef :: (Array.mk l).getD 184 undef :: (Array.mk l).getD 185 undef :: (Array.mk l).getD 186 undef :: (Array.mk l).getD 187 undef :: (Array.mk l).getD 188 undef :: (Array.mk l).getD 189 undef :: (Array.mk l).getD 190 undef :: (Array.mk l).getD 191 undef :: (Array.mk l).getD 192 undef :: (Array.mk l).getD 193 undef :: (Array.mk l).getD 194 undef :: (Array.mk l).getD 195 undef :: (Array.mk l).getD 196 undef :: (Array.mk l).getD 197 undef :: (Array.mk l).getD 198 undef :: (Array.mk l).getD 199 undef :: (Array.mk l).getD 200 undef :: (Array.mk l).getD 201 undef :: (Array.mk l).getD 202 undef :: (Array.mk l).getD 203 undef :: (Array.mk l).getD 204 undef :: (Array.mk l).getD 205 undef :: (Array.mk l).getD 206 undef :: (Array.mk l).getD 207 undef :: (Array.mk l).getD 208 undef :: (Array.mk l).getD 209 undef :: (Array.mk l).getD 210 undef :: (Array.mk l).getD 211 undef :: (Array.mk l).getD 212 undef :: (Array.mk l).getD 213 undef :: (Array.mk l).getD 214 undef :: (Array.mk l).getD 215 undef :: (Array.mk l).getD 216 undef :: (Array.mk l).getD 217 undef :: (Array.mk l).getD 218 undef :: (Array.mk l).getD 219 undef :: (Array.mk l).getD 220 undef :: (Array.mk l).getD 221 undef :: (Array.mk l).getD 222 undef :: (Array.mk l).getD 223 undef :: (Array.mk l).getD 224 undef :: (Array.mk l).getD 225 undef :: (Array.mk l).getD 226 undef :: (Array.mk l).getD 227 undef :: (Array.mk l).getD 228 undef :: (Array.mk l).getD 229 undef :: (Array.mk l).getD 230 undef :: (Array.mk l).getD 231 undef :: (Array.mk l).getD 232 undef :: (Array.mk l).getD 233 undef :: (Array.mk l).getD 234 undef :: (Array.mk l).getD 235 undef :: (Array.mk l).getD 236 undef :: (Array.mk l).getD 237 undef :: (Array.mk l).getD 238 undef :: (Array.mk l).getD 239 undef :: (Array.mk l).getD 240 undef :: (Array.mk l).getD 241 undef :: (Array.mk l).getD 242 undef :: (Array.mk l).getD 243 undef :: (Array.mk l).getD 244 undef :: (Array.mk l).getD 245 undef :: (Array.mk l).getD 246 undef :: (Array.mk l).getD 247 undef :: (Array.mk l).getD 248 undef :: (Array.mk l).getD 249 undef :: (Array.mk l).getD 250 undef :: (Array.mk l).getD 251 undef :: (Array.mk l).getD 252 undef :: (Array.mk l).getD 253 undef :: (Array.mk l).getD 254 undef :: (Array.mk l).getD 255 undef :: (Array.mk l).getD 256 undef :: (Array.mk l).getD 257 undef :: (Array.mk l).getD 258 undef :: (Array.mk l).getD 259 undef :: (Array.mk l).getD 260 undef :: (Array.mk l).getD 261 undef :: (Array.mk l).getD 262 undef :: (Array.mk l).getD 263 undef :: (Array.mk l).getD 264 undef :: (Array.mk l).getD 265 undef :: (Array.mk l).getD 266 undef :: (Array.mk l).getD 267 undef :: (Array.mk l).getD 268 undef :: (Array.mk l).getD 269 undef :: (Array.mk l).getD 270 undef :: (Array.mk l).getD 271 undef :: (Array.mk l).getD 272 undef :: (Array.mk l).getD 273 undef :: (Array.mk l).getD 274 undef :: (Array.mk l).getD 275 undef :: (Array.mk l).getD 276 undef :: (Array.mk l).getD 277 undef :: (Array.mk l).getD 278 undef :: (Array.mk l).getD 279 undef :: (Array.mk l).getD 280 undef :: (Array.mk l).getD 281 undef :: (Array.mk l).getD 282 undef :: (Array.mk l).getD 283 undef :: (Array.mk l).getD 284 undef :: (Array.mk l).getD 285 undef :: (Array.mk l).getD 286 undef :: (Array.mk l).getD 287 undef :: (Array.mk l).getD 288 undef :: (Array.mk l).getD 289 undef :: (Array.mk l).getD 290 undef :: (Array.mk l).getD 291 undef :: (Array.mk l).getD 292 undef :: (Array.mk l).getD 293 undef :: (Array.mk l).getD 294 undef :: (Array.mk l).getD 295 undef :: (Array.mk l).getD 296 undef :: (Array.mk l).getD 297 undef :: (Array.mk l).getD 298 undef :: []).toArray := by kernel_rfl
  show ({ tmps := l.toArray, defers := [] } : Act) = _
  refine congrArg (fun t : Array Value => ({ tmps := t, defers := [] } : Act)) ?_
  exact (congrArg List.toArray e).trans e2
set_option maxRecDepth 100000 in
set_option maxHeartbeats 20000000 in
theorem endsAddUp_law (W : World) (c d : Bts) (hc : InB W c) (hd : InB W d) (hn : c.n + d.n ≤ 1048576) :
    Calls Tryz.prog 4 #[.slice c.a c.n c.cap, .slice d.a d.n d.cap] W (SaysTrue W) := by
  go_enter Tryz.func4, Tryz.ntmps4
  go_wp2_with fail
  refine (big_no c d _ hn).mono ?_; rintro e w1 ⟨rfl, rfl⟩
  have HB := Lib.hid (Below.refl W.heap.size W)
  go_wp2_with fail
  refine (drawProductPair_any c _ hc).mono ?_; rintro e w31 ⟨a, b, u, v, z1, z2, z3, z4, rfl, hb⟩
  replace HB := Lib.hid (nx HB.out hb)
  clear hb
  have Bp := Lib.hid (heap_alloc_at w31 (.cells #[.string a, .string b] 25 (0, 0)))
  replace HB := Lib.hid (nxAlloc HB.out (.cells #[.string a, .string b] 25 (0, 0)))
  replace Bp := Lib.hid (heap_keep (allocB (w31.alloc (.cells #[.string a, .string b] 25 (0, 0))) (.cells #[.string u, .string v] 25 (0, 0))) Bp.out)
  have bq := heap_alloc_at (w31.alloc (.cells #[.string a, .string b] 25 (0, 0))) (.cells #[.string u, .string v] 25 (0, 0))
  rw [show (w31.alloc (.cells #[.string a, .string b] 25 (0, 0))).heap.size = w31.heap.size + 1 by simp] at bq
  have Bq := Lib.hid bq
  clear bq
  replace HB := Lib.hid (nxAlloc HB.out (.cells #[.string u, .string v] 25 (0, 0)))
  have h1 := fun w => implProductPair_any a b u v w (by omega) (by omega) (by omega) (by omega)
  have h2 := fun w => implEndSlopes_any a b w (by omega) (by omega)
  have h3 := fun w => implEndSlopes_any u v w (by omega) (by omega)
  have HE := Lib.hid (ends_cases a b u v _ rfl)
  have HD := Lib.hid (And.intro (ends_bd a b) (ends_bd u v))
  simp only [ansPr, ans3] at h1 h2 h3
  generalize ((pairOf a b).bind fun p => (pairOf u v).bind fun q => limP (mulP p q)) = o at *
  generalize pS1 o = y1 at *
  generalize pS2 o = y2 at *
  generalize o.isSome = y3 at *
  generalize (endsO a b).isSome = e3 at *
  generalize ((endsO a b).getD (0, 0)).1 = e1 at *
  generalize ((endsO a b).getD (0, 0)).2 = e2 at *
  generalize (endsO u v).isSome = t3 at *
  generalize ((endsO u v).getD (0, 0)).1 = t1 at *
  generalize ((endsO u v).getD (0, 0)).2 = t2 at *
  obtain ⟨⟨l1, l2, l3, l4⟩, l5, l6, l7, l8⟩ := HD.out
  clear HD
  obtain ⟨fp1, fp2, fp3⟩ := two_facts Bp.out
  obtain ⟨fq1, fq2, fq3⟩ := two_facts Bq.out
  go_wp2_with fail
  refine (h1 _).mono ?_; rintro e w32 ⟨rfl, hb⟩
  clear fp1 fp2 fp3 fq1 fq2 fq3
  replace Bp := Lib.hid (heap_keep hb Bp.out)
  replace Bq := Lib.hid (heap_keep hb Bq.out)
  replace HB := Lib.hid (nx HB.out hb)
  clear hb
  replace Bp := Lib.hid (heap_keep (allocB w32 (.cells #[.string y1, .string y2] 25 (0, 0))) Bp.out)
  replace Bq := Lib.hid (heap_keep (allocB w32 (.cells #[.string y1, .string y2] 25 (0, 0))) Bq.out)
  have Bm := Lib.hid (heap_alloc_at w32 (.cells #[.string y1, .string y2] 25 (0, 0)))
  replace HB := Lib.hid (nxAlloc HB.out (.cells #[.string y1, .string y2] 25 (0, 0)))
  obtain ⟨fp1, fp2, fp3⟩ := two_facts Bp.out
  go_wp2_with fail
  refine (h2 _).mono ?_; rintro e w33 ⟨rfl, hb⟩
  clear fp1 fp2 fp3
  replace Bp := Lib.hid (heap_keep hb Bp.out)
  replace Bq := Lib.hid (heap_keep hb Bq.out)
  replace Bm := Lib.hid (heap_keep hb Bm.out)
  replace HB := Lib.hid (nx HB.out hb)
  clear hb
  obtain ⟨fq1, fq2, fq3⟩ := two_facts Bq.out
  go_wp2_with fail
  refine (h3 _).mono ?_; rintro e w34 ⟨rfl, hb⟩
  clear fq1 fq2 fq3
  replace Bp := Lib.hid (heap_keep hb Bp.out)
  replace Bq := Lib.hid (heap_keep hb Bq.out)
  replace Bm := Lib.hid (heap_keep hb Bm.out)
  replace HB := Lib.hid (nx HB.out hb)
  clear hb
  obtain ⟨fm1, fm2, fm3⟩ := two_facts Bm.out
  go_upto_if 73 with fail
  refine wp_cut (fun (a : Act) (wx : World) => a.tmps.size = 299 ∧ a.defers = [] ∧ a.tmps.getD 0 undef = .slice c.a c.n c.cap ∧ a.tmps.getD 1 undef = .slice d.a d.n d.cap ∧ Hid (Below W.heap.size W wx)) ?rest2 ?first2
  case first2 =>
    intro JJ KK hJJ hKK
    rcases HE.out with rfl | ⟨rfl, rfl, rfl, g1⟩
    · clear HE
      go_wp2_with fail
      exact Met.intro (hJJ _ _ ⟨rfl, rfl, rfl, rfl, HB⟩)
    · clear HE
      go_wp2_with fail
      refine (g1 _).mono ?_; rintro e w35 ⟨rfl, hb⟩
      clear fm1 fm2 fm3
      replace Bp := Lib.hid (heap_keep hb Bp.out)
      replace Bq := Lib.hid (heap_keep hb Bq.out)
      replace Bm := Lib.hid (heap_keep hb Bm.out)
      replace HB := Lib.hid (nx HB.out hb)
      clear hb
      go_wp2_with fail
      exact Met.intro (hJJ _ _ ⟨rfl, rfl, rfl, rfl, HB⟩)
  case rest2 =>
    intro a wc hcut
    obtain ⟨ks, kd, k0, k1, HC0⟩ := hcut
    have hfr := frame299_1 a ks kd k0 k1
    obtain ⟨f, rfl⟩ := hfr
    clear fm1 fm2 fm3 Bp Bq Bm HB h1 h2 h3 HE z1 z2 z3 z4 l1 l2 l3 l4 l5 l6 l7 l8
    have HB := HC0
    clear HC0
    go_wp2_with fail
    refine (drawEndSlopes_any d _ (hd.keep HB.out)).mono ?_; rintro e w36 ⟨a, b, z1, z2, rfl, hb⟩
    replace HB := Lib.hid (nx HB.out hb)
    clear hb
    have Br := Lib.hid (heap_alloc_at w36 (.cells #[.string a, .string b] 25 (0, 0)))
    replace HB := Lib.hid (nxAlloc HB.out (.cells #[.string a, .string b] 25 (0, 0)))
    have h1 := fun w => implEndSlopes_any a b w (by omega) (by omega)
    have h2 := fun w => specEndSlopes_any a b w (by omega) (by omega)
    have h3 := fun w => implIsInner_any a b w (by omega) (by omega)
    have h4 := fun w => specIsInner_any a b w (by omega) (by omega)
    have HD := ends_bd a b
    simp only [ans3, ansB, (inner_ends a b).1, (inner_ends a b).2] at h1 h2 h3 h4
    generalize (endsO a b).isSome = e3 at *
    generalize ((endsO a b).getD (0, 0)).1 = e1 at *
    generalize ((endsO a b).getD (0, 0)).2 = e2 at *
    obtain ⟨l1, l2, l3, l4⟩ := HD
    obtain ⟨i1, hi1⟩ : ∃ i, i = (e1 == 0) := ⟨_, rfl⟩
    obtain ⟨i2, hi2⟩ : ∃ i, i = (e2 == 0) := ⟨_, rfl⟩
    rw [← hi1, ← hi2] at h3 h4
    have HI := Lib.hid (And.intro hi1.symm hi2.symm)
    clear hi1 hi2
    obtain ⟨i3, hi3⟩ : ∃ i, i = (e3 && (i1 && i2)) := ⟨_, rfl⟩
    rw [← hi3] at h3 h4
    have HJ := Lib.hid hi3
    clear hi3
    obtain ⟨fr1, fr2, fr3⟩ := two_facts Br.out
    go_wp2_with fail
    refine (h1 _).mono ?_; rintro e w37 ⟨rfl, hb⟩
    clear fr1 fr2 fr3
    replace Br := Lib.hid (heap_keep hb Br.out)
    replace HB := Lib.hid (nx HB.out hb)
    clear hb
    obtain ⟨fr1, fr2, fr3⟩ := two_facts Br.out
    go_wp2_with fail
    refine (h2 _).mono ?_; rintro e w38 ⟨rfl, hb⟩
    clear fr1 fr2 fr3
    replace Br := Lib.hid (heap_keep hb Br.out)
    replace HB := Lib.hid (nx HB.out hb)
    clear hb
    obtain ⟨fr1, fr2, fr3⟩ := two_facts Br.out
    go_wp2_with fail
    refine (h3 _).mono ?_; rintro e w39 ⟨rfl, hb⟩
    clear fr1 fr2 fr3
    replace Br := Lib.hid (heap_keep hb Br.out)
    replace HB := Lib.hid (nx HB.out hb)
    clear hb
    obtain ⟨fr1, fr2, fr3⟩ := two_facts Br.out
    go_wp2_with fail
    refine (h4 _).mono ?_; rintro e w40 ⟨rfl, hb⟩
    clear fr1 fr2 fr3
    replace Br := Lib.hid (heap_keep hb Br.out)
    replace HB := Lib.hid (nx HB.out hb)
    clear hb
    clear h1 h2 h3 h4
    go_upto_region 16 with fail
    refine wp_cut (fun (a : Act) (wx : World) => a.tmps.size = 299 ∧ a.defers = [] ∧ a.tmps.getD 0 undef = .slice c.a c.n c.cap ∧ a.tmps.getD 1 undef = .slice d.a d.n d.cap ∧ a.tmps.getD 168 undef = .bool false ∧ Hid (Below W.heap.size W wx)) ?rest1 ?first1
    case first1 =>
      intro JJ KK hJJ hKK
      have hi3 := HJ.out
      obtain ⟨hi1, hi2⟩ := HI.out
      clear HI HJ
      cases e3 <;> cases i1 <;> cases i2 <;> simp only [Bool.and_true, Bool.and_false, Bool.and_self] at hi3 <;> subst hi3
      all_goals
        go_wp2_with fail
        exact Met.intro (hJJ _ _ ⟨rfl, rfl, rfl, rfl, rfl, HB⟩)
    case rest1 =>
      intro a wc hcut
      obtain ⟨ks, kd, k0, k1, k168, HC0⟩ := hcut
      have hfr := frame299_0 a ks kd k0 k1 k168
      obtain ⟨f, rfl⟩ := hfr
      clear Br HB HI HJ z1 z2 l1 l2 l3 l4
      have HB := HC0
      clear HC0
      go_wp2_with fail
      refine (drawSlopesBeside_any d _ (hd.keep HB.out)).mono ?_; rintro e w41 ⟨a, b, n, m, z1, z2, n1, n2, m1, m2, rfl, hb⟩
      replace HB := Lib.hid (nx HB.out hb)
      clear hb
      have Bs := Lib.hid (heap_keep (allocB (w41.alloc (.cells #[.string a, .string b] 25 (0, 0))) (.cells #[.int .i64 n, .int .i64 m] 42 (0, 0))) (heap_alloc_at w41 (.cells #[.string a, .string b] 25 (0, 0))))
      have bx := heap_alloc_at (w41.alloc (.cells #[.string a, .string b] 25 (0, 0))) (.cells #[.int .i64 n, .int .i64 m] 42 (0, 0))
      rw [show (w41.alloc (.cells #[.string a, .string b] 25 (0, 0))).heap.size = w41.heap.size + 1 by simp] at bx
      have Bx := Lib.hid bx
      clear bx
      replace HB := Lib.hid (nxAlloc (nxAlloc HB.out (.cells #[.string a, .string b] 25 (0, 0))) (.cells #[.int .i64 n, .int .i64 m] 42 (0, 0)))
      have h1 := fun w => implSlopesBeside_any a b n m w (by omega) (by omega) (by omega) (by omega) (by omega) (by omega)
      have h2 := fun w => specSlopesBeside_any a b n m w (by omega) (by omega) (by omega) (by omega) (by omega) (by omega)
      simp only [ans3] at h1 h2
      generalize (besideO a b n m).isSome = e3 at *
      generalize ((besideO a b n m).getD (0, 0)).1 = e1 at *
      generalize ((besideO a b n m).getD (0, 0)).2 = e2 at *
      obtain ⟨fs1, fs2, fs3⟩ := two_facts Bs.out
      obtain ⟨fx1, fx2, fx3⟩ := two_facts Bx.out
      go_wp2_with fail
      refine (h1 _).mono ?_; rintro e w42 ⟨rfl, hb⟩
      clear fs1 fs2 fs3 fx1 fx2 fx3
      replace Bs := Lib.hid (heap_keep hb Bs.out)
      replace Bx := Lib.hid (heap_keep hb Bx.out)
      replace HB := Lib.hid (nx HB.out hb)
      clear hb
      obtain ⟨fs1, fs2, fs3⟩ := two_facts Bs.out
      obtain ⟨fx1, fx2, fx3⟩ := two_facts Bx.out
      go_wp2_with fail
      refine (h2 _).mono ?_; rintro e w43 ⟨rfl, hb⟩
      clear fs1 fs2 fs3 fx1 fx2 fx3
      clear Bs Bx
      replace HB := Lib.hid (nx HB.out hb)
      clear hb h1 h2 z1 z2 n1 n2 m1 m2
      go_wp2_with fail
      refine (drawOrbitOf_any c _ (hc.keep HB.out)).mono ?_; rintro e w44 ⟨a, b, n, m, k, z1, z2, n1, n2, m1, m2, k1, k2, rfl, hb⟩
      replace HB := Lib.hid (nx HB.out hb)
      clear hb
      have Bs := Lib.hid (heap_keep (allocB (w44.alloc (.cells #[.string a, .string b] 25 (0, 0))) (.cells #[.int .i64 n, .int .i64 m] 42 (0, 0))) (heap_alloc_at w44 (.cells #[.string a, .string b] 25 (0, 0))))
      have bx := heap_alloc_at (w44.alloc (.cells #[.string a, .string b] 25 (0, 0))) (.cells #[.int .i64 n, .int .i64 m] 42 (0, 0))
      rw [show (w44.alloc (.cells #[.string a, .string b] 25 (0, 0))).heap.size = w44.heap.size + 1 by simp] at bx
      have Bx := Lib.hid bx
      clear bx
      replace HB := Lib.hid (nxAlloc (nxAlloc HB.out (.cells #[.string a, .string b] 25 (0, 0))) (.cells #[.int .i64 n, .int .i64 m] 42 (0, 0)))
      have h1 : ∀ w, Calls Tryz.prog 29 #[.agg #[.string a, .string b], .agg #[.int .i64 n, .int .i64 m], .int .i64 k] w (AnsF2 ((orbO a b n m k).getD []) (orbO a b n m k).isSome w) := fun w => implOrbitOf_any a b n m k w (by omega) (by omega) (by omega) (by omega) (by omega) (by omega) (by omega) (by omega)
      have h2 : ∀ w, Calls Tryz.prog 30 #[.agg #[.string a, .string b], .agg #[.int .i64 n, .int .i64 m], .int .i64 k] w (AnsF2 ((orbO a b n m k).getD []) (orbO a b n m k).isSome w) := fun w => specOrbitOf_any a b n m k w (by omega) (by omega) (by omega) (by omega) (by omega) (by omega) (by omega) (by omega)
      have HE := Lib.hid (orb_cases a b n m k z1 z2)
      have HL := Lib.hid (orb_len a b n m k)
      generalize (orbO a b n m k).isSome = e4 at *
      generalize (orbO a b n m k).getD [] = l at *
      obtain ⟨fs1, fs2, fs3⟩ := two_facts Bs.out
      obtain ⟨fx1, fx2, fx3⟩ := two_facts Bx.out
      go_wp2_with fail
      refine (h1 _).mono ?_; rintro e w45 ⟨v1, hO, hb, rfl⟩
      clear fs1 fs2 fs3 fx1 fx2 fx3
      replace Bs := Lib.hid (heap_keep hb Bs.out)
      replace Bx := Lib.hid (heap_keep hb Bx.out)
      replace HB := Lib.hid (nx HB.out hb)
      have O1 := Lib.hid hO.cells
      clear hb hO
      obtain ⟨fs1, fs2, fs3⟩ := two_facts Bs.out
      obtain ⟨fx1, fx2, fx3⟩ := two_facts Bx.out
      go_wp2_with fail
      refine (h2 _).mono ?_; rintro e w46 ⟨v2, hO, hb, rfl⟩
      clear fs1 fs2 fs3 fx1 fx2 fx3
      replace Bs := Lib.hid (heap_keep hb Bs.out)
      replace Bx := Lib.hid (heap_keep hb Bx.out)
      replace HB := Lib.hid (nx HB.out hb)
      replace O1 := Lib.hid (O1.out.keep hb)
      have O2 := Lib.hid hO.cells
      clear hb hO h1 h2
      go_wp2_with fail
      refine (fFractions_any _ _ v1 v2 l.length (flatF l) _ O1.out O2.out HL.out).mono ?_; rintro e w47 ⟨rfl, q, rfl⟩
      replace HB : Hid (Below W.heap.size W (w46.drewN q)) := Lib.hid (drewB HB.out q)
      replace Bs : Hid ((w46.drewN q).heap[w44.heap.size]? = some (.cells #[.string a, .string b] 25 (0, 0))) := Lib.hid Bs.out
      replace Bx : Hid ((w46.drewN q).heap[w44.heap.size + 1]? = some (.cells #[.int .i64 n, .int .i64 m] 42 (0, 0))) := Lib.hid Bx.out
      have O := Lib.hid (show CellsW 2 _ (w46.drewN q) v1 l.length (flatF l) from O1.out)
      clear O1 O2
      generalize (w46.drewN q) = wr0 at *
      go_upto_if 232 with fail
      rcases HE.out with rfl | ⟨rfl, hg⟩
      · clear HE
        go_wp2_with fail
        go_ret
        exact ⟨rfl, HB.out⟩
      · clear HE
        obtain ⟨g1, g0, g2, g3, g4, g5, g6, g7⟩ := hg
        obtain ⟨g, cap, rfl, oc, hcap⟩ := orb_cells O.out g0
        have OC := Lib.hid oc
        clear O
        have c00 := (oc.2 0 (by omega)).1
        have c01 := (oc.2 0 (by omega)).2
        rw [g3] at c00
        rw [g4] at c01
        have hk1 : k + 1 = (l.length : Int) := g1.symm
        have hlt0 : (0 : Int) < (l.length : Int) := by omega
        have H5 := Lib.hid g5
        have H6 := Lib.hid g6
        have H7 := Lib.hid g7
        clear oc g1 g3 g4 g5 g6 g7
        obtain ⟨fx1, fx2, fx3⟩ := two_facts Bx.out
        go_upto_region 27 with fail
        go_quiet (fail)
        clear fx1 fx2 fx3 c00 c01 hk1
        go_wp2_with fail
        go_loopw [44] (fun i wr => ∃ j : Nat, 1 ≤ j ∧ j ≤ l.length ∧ i = .int .i64 j ∧ Hid (Below W.heap.size W wr) ∧ Hid (wr.heap[w44.heap.size]? = some (.cells #[.string a, .string b] 25 (0, 0))) ∧ Hid (OrbC wr g l)) (fun i _ => l.length - (intOf i).toNat)
        case atStart => exact ⟨1, by omega, by omega, rfl, Lib.hid (drewB HB.out _), Lib.hid Bs.out, Lib.hid OC.out⟩
        case round =>
          clear HB Bs Bx OC
          obtain ⟨j, hj1, hj, rfl, HB, Bs, OC⟩ := hrel
          by_cases hlt : j < l.length
          · obtain ⟨i, rfl⟩ : ∃ i, j = i + 1 := ⟨j - 1, by omega⟩
            have HB1 : Hid (Below W.heap.size W wr.drew) := Lib.hid HB.out.drew
            have Bs1 : Hid (wr.drew.heap[w44.heap.size]? = some (.cells #[.string a, .string b] 25 (0, 0))) := Lib.hid Bs.out
            have OC1 : Hid (OrbC wr.drew g l) := Lib.hid OC.out
            have hlt' : ((i : Nat) : Int) + 1 < (l.length : Int) := by omega
            have hw1 : IntKind.i64.wrap ((i : Nat) : Int) = (i : Int) := by rw [IntKind.wrap_i64] <;> omega
            have hw2 : 0 ≤ (i : Int) ∧ (i : Int) < (l.length : Int) := by omega
            have V := H6.out i (by omega)
            obtain ⟨c1, c2⟩ := OC1.out.2 i (by omega)
            obtain ⟨s1, s2, s3⟩ := two_facts Bs1.out
            have og := OC1.out.1
            go_upto_region 32 with fail
            clear HB Bs OC
            have HB := HB1
            have Bs := Bs1
            have OC := OC1
            clear HB1 Bs1 OC1
            by_cases hi : i = 0
            · have HI := Lib.hid hi
              clear hi
              have H5b := H5.out (i + 1) (by omega)
              obtain ⟨x0, hx0⟩ : ∃ x, x = (l.getD i (0, 0)).1 := ⟨_, rfl⟩
              obtain ⟨y0, hy0⟩ : ∃ x, x = (l.getD i (0, 0)).2 := ⟨_, rfl⟩
              obtain ⟨x1, hx1⟩ : ∃ x, x = (l.getD (i + 1) (0, 0)).1 := ⟨_, rfl⟩
              obtain ⟨y1, hy1⟩ : ∃ x, x = (l.getD (i + 1) (0, 0)).2 := ⟨_, rfl⟩
              rw [← hx0, ← hy0] at V
              rw [← hx0] at c1
              rw [← hy0] at c2
              rw [← hx1, ← hy1] at V
              clear hx0 hy0
              have HN := Lib.hid (And.intro hx1 hy1)
              clear hx1 hy1 H5b
              refine wp_region_held_drew (S := (fun (w' : World) => w'.cell? ⟨w44.heap.size, 0, none⟩ = some (.string a) ∧ w'.cell? ⟨w44.heap.size, 1, none⟩ = some (.string b) ∧ w'.cell? ⟨g, i * 2, none⟩ = some (.int .i64 (x0 : Nat)) ∧ w'.cell? ⟨g, i * 2 + 1, none⟩ = some (.int .i64 (y0 : Nat)))) (by kernel_rfl) ⟨s1, s2, c1, c2⟩ (fun hH0 => ?_)
              refine wpAnyH_take (i := 0) (oi := ?oi201) (v := ?vv201) ?hi201 ?hn201 ?hf201 ?hr201 ?hq201 (Or.inl ⟨?hg201, ?hy201⟩) hH0 ?rest201
              case hi201 => (simp only [List.getElem?_toArray, List.getElem?_cons_zero]; rfl)
              case hn201 => kernel_rfl
              case hf201 => kernel_rfl
              case hr201 => kernel_rfl
              case hg201 => rfl
              case hy201 => (intro w hSw; (try dsimp only at hSw); go_simp; first | done | with_reducible rfl)
              case hq201 => exact fun _ _ _ h => h
              try simp only [Act.put, List.setIfInBounds_toArray, List.set_cons_zero, List.set_cons_succ]
              refine wpAnyH_take (i := 1) (oi := ?oi202) (v := ?vv202) ?hi202 ?hn202 ?hf202 ?hr202 ?hq202 (Or.inl ⟨?hg202, ?hy202⟩) hH0 ?rest202
              case hi202 => (simp only [List.getElem?_toArray, List.getElem?_cons_succ, List.getElem?_cons_zero]; rfl)
              case hn202 => kernel_rfl
              case hf202 => kernel_rfl
              case hr202 => kernel_rfl
              case hg202 => rfl
              case hy202 => (intro w hSw; (try dsimp only at hSw); go_simp; first | done | with_reducible rfl)
              case hq202 => exact fun _ _ _ h => h
              try simp only [Act.put, List.setIfInBounds_toArray, List.set_cons_zero, List.set_cons_succ]
              refine wpAnyH_take (i := 2) (oi := ?oi203) (v := ?vv203) ?hi203 ?hn203 ?hf203 ?hr203 ?hq203 (Or.inl ⟨?hg203, ?hy203⟩) hH0 ?rest203
              case hi203 => (simp only [List.getElem?_toArray, List.getElem?_cons_succ, List.getElem?_cons_zero]; rfl)
              case hn203 => kernel_rfl
              case hf203 => kernel_rfl
              case hr203 => kernel_rfl
              case hg203 => rfl
              case hy203 => (intro w hSw; (try dsimp only at hSw); go_simp; first | done | with_reducible rfl)
              case hq203 => exact fun _ _ _ h => h
              try simp only [Act.put, List.setIfInBounds_toArray, List.set_cons_zero, List.set_cons_succ]
              refine wpAnyH_take (i := 3) (oi := ?oi204) (v := ?vv204) ?hi204 ?hn204 ?hf204 ?hr204 ?hq204 (Or.inl ⟨?hg204, ?hy204⟩) hH0 ?rest204
              case hi204 => (simp only [List.getElem?_toArray, List.getElem?_cons_succ, List.getElem?_cons_zero]; rfl)
              case hn204 => kernel_rfl
              case hf204 => kernel_rfl
              case hr204 => kernel_rfl
              case hg204 => rfl
              case hy204 => (intro w hSw; (try dsimp only at hSw); go_simp; first | done | with_reducible rfl)
              case hq204 => exact fun _ _ _ h => h
              try simp only [Act.put, List.setIfInBounds_toArray, List.set_cons_zero, List.set_cons_succ]
              refine wpAnyH_take (i := 4) (oi := ?oi205) (v := ?vv205) ?hi205 ?hn205 ?hf205 ?hr205 ?hq205 (Or.inl ⟨?hg205, ?hy205⟩) hH0 ?rest205
              case hi205 => (simp only [List.getElem?_toArray, List.getElem?_cons_succ, List.getElem?_cons_zero]; rfl)
              case hn205 => kernel_rfl
              case hf205 => kernel_rfl
              case hr205 => kernel_rfl
              case hg205 => rfl
              case hy205 => (intro w hSw; (try dsimp only at hSw); go_simp; first | done | with_reducible rfl)
              case hq205 => exact fun _ _ _ h => h
              try simp only [Act.put, List.setIfInBounds_toArray, List.set_cons_zero, List.set_cons_succ]
              refine wpAnyH_take (i := 5) (oi := ?oi206) (v := ?vv206) ?hi206 ?hn206 ?hf206 ?hr206 ?hq206 (Or.inl ⟨?hg206, ?hy206⟩) hH0 ?rest206
              case hi206 => (simp only [List.getElem?_toArray, List.getElem?_cons_succ, List.getElem?_cons_zero]; rfl)
              case hn206 => kernel_rfl
              case hf206 => kernel_rfl
              case hr206 => kernel_rfl
              case hg206 => rfl
              case hy206 => (intro w hSw; (try dsimp only at hSw); go_simp; first | done | with_reducible rfl)
              case hq206 => exact fun _ _ _ h => h
              try simp only [Act.put, List.setIfInBounds_toArray, List.set_cons_zero, List.set_cons_succ]
              generalize wr.drew = v1 at *
              refine held_two 6 10 rfl rfl (by kernel_rfl) (fun K hK => ?_) (fun K hK => ?_)
              · go_simp
                refine (V _).mono ?_; rintro e v2 ⟨rfl, hbv⟩
                go_wp2_with fail
                refine hK.out (fun (w' : World) => w'.cell? ⟨w44.heap.size, 0, none⟩ = some (.string a) ∧ w'.cell? ⟨w44.heap.size, 1, none⟩ = some (.string b) ∧ w'.cell? ⟨g, i * 2, none⟩ = some (.int .i64 (x0 : Nat)) ∧ w'.cell? ⟨g, i * 2 + 1, none⟩ = some (.int .i64 (y0 : Nat))) _ _ (fun _ h => h) ⟨(hbv.cell (p := ⟨w44.heap.size, 0, none⟩) s3).trans s1, (hbv.cell (p := ⟨w44.heap.size, 1, none⟩) s3).trans s2, (hbv.cell (p := ⟨g, i * 2, none⟩) og).trans c1, (hbv.cell (p := ⟨g, i * 2 + 1, none⟩) og).trans c2⟩ ?_
                clear hK K
                try simp only [Act.put, List.setIfInBounds_toArray, List.set_cons_zero, List.set_cons_succ]
                refine wpAnyH_take (i := 7) (oi := ?oi401) (v := ?vv401) ?hi401 ?hn401 ?hf401 ?hr401 ?hq401 (Or.inl ⟨?hg401, ?hy401⟩) (show (fun (w' : World) => w'.cell? ⟨w44.heap.size, 0, none⟩ = some (.string a) ∧ w'.cell? ⟨w44.heap.size, 1, none⟩ = some (.string b) ∧ w'.cell? ⟨g, i * 2, none⟩ = some (.int .i64 (x0 : Nat)) ∧ w'.cell? ⟨g, i * 2 + 1, none⟩ = some (.int .i64 (y0 : Nat))) _ from ⟨(hbv.cell (p := ⟨w44.heap.size, 0, none⟩) s3).trans s1, (hbv.cell (p := ⟨w44.heap.size, 1, none⟩) s3).trans s2, (hbv.cell (p := ⟨g, i * 2, none⟩) og).trans c1, (hbv.cell (p := ⟨g, i * 2 + 1, none⟩) og).trans c2⟩) ?rest401
                case hi401 => (simp only [List.getElem?_toArray, List.getElem?_cons_succ, List.getElem?_cons_zero]; rfl)
                case hn401 => kernel_rfl
                case hf401 => kernel_rfl
                case hr401 => kernel_rfl
                case hg401 => rfl
                case hy401 => (intro w hSw; (try dsimp only at hSw); go_simp; first | done | with_reducible rfl)
                case hq401 => exact fun _ _ _ h => h
                try simp only [Act.put, List.setIfInBounds_toArray, List.set_cons_zero, List.set_cons_succ]
                refine wpAnyH_take (i := 8) (oi := ?oi402) (v := ?vv402) ?hi402 ?hn402 ?hf402 ?hr402 ?hq402 (Or.inl ⟨?hg402, ?hy402⟩) (show (fun (w' : World) => w'.cell? ⟨w44.heap.size, 0, none⟩ = some (.string a) ∧ w'.cell? ⟨w44.heap.size, 1, none⟩ = some (.string b) ∧ w'.cell? ⟨g, i * 2, none⟩ = some (.int .i64 (x0 : Nat)) ∧ w'.cell? ⟨g, i * 2 + 1, none⟩ = some (.int .i64 (y0 : Nat))) _ from ⟨(hbv.cell (p := ⟨w44.heap.size, 0, none⟩) s3).trans s1, (hbv.cell (p := ⟨w44.heap.size, 1, none⟩) s3).trans s2, (hbv.cell (p := ⟨g, i * 2, none⟩) og).trans c1, (hbv.cell (p := ⟨g, i * 2 + 1, none⟩) og).trans c2⟩) ?rest402
                case hi402 => (simp only [List.getElem?_toArray, List.getElem?_cons_succ, List.getElem?_cons_zero]; rfl)
                case hn402 => kernel_rfl
                case hf402 => kernel_rfl
                case hr402 => kernel_rfl
                case hg402 => rfl
                case hy402 => (intro w hSw; (try dsimp only at hSw); go_simp; first | done | with_reducible rfl)
                case hq402 => exact fun _ _ _ h => h
                try simp only [Act.put, List.setIfInBounds_toArray, List.set_cons_zero, List.set_cons_succ]
                refine wpAnyH_take (i := 9) (oi := ?oi403) (v := ?vv403) ?hi403 ?hn403 ?hf403 ?hr403 ?hq403 (Or.inl ⟨?hg403, ?hy403⟩) (show (fun (w' : World) => w'.cell? ⟨w44.heap.size, 0, none⟩ = some (.string a) ∧ w'.cell? ⟨w44.heap.size, 1, none⟩ = some (.string b) ∧ w'.cell? ⟨g, i * 2, none⟩ = some (.int .i64 (x0 : Nat)) ∧ w'.cell? ⟨g, i * 2 + 1, none⟩ = some (.int .i64 (y0 : Nat))) _ from ⟨(hbv.cell (p := ⟨w44.heap.size, 0, none⟩) s3).trans s1, (hbv.cell (p := ⟨w44.heap.size, 1, none⟩) s3).trans s2, (hbv.cell (p := ⟨g, i * 2, none⟩) og).trans c1, (hbv.cell (p := ⟨g, i * 2 + 1, none⟩) og).trans c2⟩) ?rest403
                case hi403 => (simp only [List.getElem?_toArray, List.getElem?_cons_succ, List.getElem?_cons_zero]; rfl)
                case hn403 => kernel_rfl
                case hf403 => kernel_rfl
                case hr403 => kernel_rfl
                case hg403 => rfl
                case hy403 => (intro w hSw; (try dsimp only at hSw); go_simp; first | done | with_reducible rfl)
                case hq403 => exact fun _ _ _ h => h
                try simp only [Act.put, List.setIfInBounds_toArray, List.set_cons_zero, List.set_cons_succ]
                refine held_one 10 rfl (by kernel_rfl) (fun K hK => ?_)
                go_simp
                refine hK.out (fun (w' : World) => w'.cell? ⟨w44.heap.size, 0, none⟩ = some (.string a) ∧ w'.cell? ⟨w44.heap.size, 1, none⟩ = some (.string b) ∧ w'.cell? ⟨g, i * 2, none⟩ = some (.int .i64 (x0 : Nat)) ∧ w'.cell? ⟨g, i * 2 + 1, none⟩ = some (.int .i64 (y0 : Nat))) _ _ (fun _ h => h) (show (fun (w' : World) => w'.cell? ⟨w44.heap.size, 0, none⟩ = some (.string a) ∧ w'.cell? ⟨w44.heap.size, 1, none⟩ = some (.string b) ∧ w'.cell? ⟨g, i * 2, none⟩ = some (.int .i64 (x0 : Nat)) ∧ w'.cell? ⟨g, i * 2 + 1, none⟩ = some (.int .i64 (y0 : Nat))) (v2.alloc (.cells #[.int .i64 0, .int .i64 0] 42 (0, 0))) from by have hbv := (nxAlloc hbv (.cells #[.int .i64 0, .int .i64 0] 42 (0, 0))); exact ⟨(hbv.cell (p := ⟨w44.heap.size, 0, none⟩) s3).trans s1, (hbv.cell (p := ⟨w44.heap.size, 1, none⟩) s3).trans s2, (hbv.cell (p := ⟨g, i * 2, none⟩) og).trans c1, (hbv.cell (p := ⟨g, i * 2 + 1, none⟩) og).trans c2⟩) ?_
                clear hK K
                try simp only [Act.put, List.setIfInBounds_toArray, List.set_cons_zero, List.set_cons_succ]
                obtain ⟨gx, hgx⟩ : ∃ x, x = v2.heap.size := ⟨_, rfl⟩
                have hgx2 : v1.heap.size ≤ gx := by rw [hgx]; exact hbv.size
                have HX := Lib.hid (heap_alloc_at v2 (.cells #[.int .i64 0, .int .i64 0] 42 (0, 0)))
                replace hbv := nxAlloc hbv (.cells #[.int .i64 0, .int .i64 0] 42 (0, 0))
                rw [← hgx] at HX ⊢
                clear hgx
                generalize v2.alloc (.cells #[.int .i64 0, .int .i64 0] 42 (0, 0)) = v5 at *
                have hbz := (hbv.setCell (p := ⟨gx, 0, none⟩) hgx2 (.int .i64 (x1 : Nat))).setCell (p := ⟨gx, 1, none⟩) hgx2 (.int .i64 (y1 : Nat))
                obtain ⟨fx1, fx2, fx3⟩ := two_facts HX.out
                obtain ⟨fx4, fx5⟩ := two_frozen HX.out
                refine held_one 11 rfl (by kernel_rfl) (fun K hK => ?_)
                go_simp
                refine hK.out (fun (w' : World) => w'.cell? ⟨w44.heap.size, 0, none⟩ = some (.string a) ∧ w'.cell? ⟨w44.heap.size, 1, none⟩ = some (.string b) ∧ w'.cell? ⟨g, i * 2, none⟩ = some (.int .i64 (x0 : Nat)) ∧ w'.cell? ⟨g, i * 2 + 1, none⟩ = some (.int .i64 (y0 : Nat))) _ _ (fun _ h => h) (show (fun (w' : World) => w'.cell? ⟨w44.heap.size, 0, none⟩ = some (.string a) ∧ w'.cell? ⟨w44.heap.size, 1, none⟩ = some (.string b) ∧ w'.cell? ⟨g, i * 2, none⟩ = some (.int .i64 (x0 : Nat)) ∧ w'.cell? ⟨g, i * 2 + 1, none⟩ = some (.int .i64 (y0 : Nat))) ((v5.setCell ⟨gx, 0, none⟩ (.int .i64 (x1 : Nat))).setCell ⟨gx, 1, none⟩ (.int .i64 (y1 : Nat))) from by have hbv := hbz; exact ⟨(hbv.cell (p := ⟨w44.heap.size, 0, none⟩) s3).trans s1, (hbv.cell (p := ⟨w44.heap.size, 1, none⟩) s3).trans s2, (hbv.cell (p := ⟨g, i * 2, none⟩) og).trans c1, (hbv.cell (p := ⟨g, i * 2 + 1, none⟩) og).trans c2⟩) ?_
                clear hK K
                try simp only [Act.put, List.setIfInBounds_toArray, List.set_cons_zero, List.set_cons_succ]
                replace hbv := hbz
                replace HX := Lib.hid (set_two (.int .i64 (x1 : Nat)) (.int .i64 (y1 : Nat)) HX.out)
                clear hbz fx1 fx2 fx3 fx4 fx5
                generalize ((v5.setCell ⟨gx, 0, none⟩ (.int .i64 (x1 : Nat))).setCell ⟨gx, 1, none⟩ (.int .i64 (y1 : Nat))) = v9 at *
                refine wpAnyH_take (i := 12) (oi := ?oi601) (v := ?vv601) ?hi601 ?hn601 ?hf601 ?hr601 ?hq601 (Or.inl ⟨?hg601, ?hy601⟩) (show (fun (w' : World) => w'.cell? ⟨w44.heap.size, 0, none⟩ = some (.string a) ∧ w'.cell? ⟨w44.heap.size, 1, none⟩ = some (.string b) ∧ w'.cell? ⟨g, i * 2, none⟩ = some (.int .i64 (x0 : Nat)) ∧ w'.cell? ⟨g, i * 2 + 1, none⟩ = some (.int .i64 (y0 : Nat))) _ from ⟨(hbv.cell (p := ⟨w44.heap.size, 0, none⟩) s3).trans s1, (hbv.cell (p := ⟨w44.heap.size, 1, none⟩) s3).trans s2, (hbv.cell (p := ⟨g, i * 2, none⟩) og).trans c1, (hbv.cell (p := ⟨g, i * 2 + 1, none⟩) og).trans c2⟩) ?rest601
                case hi601 => (simp only [List.getElem?_toArray, List.getElem?_cons_succ, List.getElem?_cons_zero]; rfl)
                case hn601 => kernel_rfl
                case hf601 => kernel_rfl
                case hr601 => kernel_rfl
                case hg601 => rfl
                case hy601 => (intro w hSw; (try dsimp only at hSw); go_simp; first | done | with_reducible rfl)
                case hq601 => exact fun _ _ _ h => h
                try simp only [Act.put, List.setIfInBounds_toArray, List.set_cons_zero, List.set_cons_succ]
                refine wpAnyH_done (by kernel_rfl) ?_ _
                replace HB := Lib.hid (nx HB.out hbv)
                replace Bs := Lib.hid (heap_keep hbv Bs.out)
                replace OC := Lib.hid (OC.out.keep hbv)
                clear V s1 s2 s3 c1 c2 og hgx2 hbv
                go_upto_region 33 with fail
                have HBd : Hid (Below W.heap.size W v9.drew) := Lib.hid HB.out.drew
                have Bsd : Hid (v9.drew.heap[w44.heap.size]? = some (.cells #[.string a, .string b] 25 (0, 0))) := Lib.hid Bs.out
                have OCd : Hid (OrbC v9.drew g l) := Lib.hid OC.out
                have HXd : Hid (v9.drew.heap[gx]? = some (.cells #[.int .i64 (x1 : Nat), .int .i64 (y1 : Nat)] 42 (0, 0))) := Lib.hid HX.out
                clear HB Bs OC HX
                obtain ⟨n1, n2⟩ := OCd.out.2 (i + 1) (by omega)
                obtain ⟨hN1, hN2⟩ := HN.out
                rw [← hN1] at n1
                rw [← hN2] at n2
                clear hN1 hN2 HN
                obtain ⟨m1, m2, m3⟩ := two_facts HXd.out
                have hw4 : 0 ≤ (i : Int) + 1 ∧ (i : Int) + 1 < (l.length : Int) := by omega
                have hg1 : ¬ ((1 : Int) < (i : Int) + 1) := by have := HI.out; omega
                have hg2 : ¬ (0 < i) := by have := HI.out; omega
                have hg3 : ¬ ((0 : Int) < (i : Int)) := by have := HI.out; omega
                refine wp_region_held_drew (S := (fun (w' : World) => w'.cell? ⟨gx, 0, none⟩ = some (.int .i64 (x1 : Nat)) ∧ w'.cell? ⟨gx, 1, none⟩ = some (.int .i64 (y1 : Nat)) ∧ w'.cell? ⟨g, (i + 1) * 2, none⟩ = some (.int .i64 (x1 : Nat)) ∧ w'.cell? ⟨g, (i + 1) * 2 + 1, none⟩ = some (.int .i64 (y1 : Nat)))) (by kernel_rfl) ⟨m1, m2, n1, n2⟩ (fun hH0 => ?_)
                refine wpAnyH_take (i := 0) (oi := ?oi801) (v := ?vv801) ?hi801 ?hn801 ?hf801 ?hr801 ?hq801 (Or.inl ⟨?hg801, ?hy801⟩) hH0 ?rest801
                case hi801 => (simp only [List.getElem?_toArray, List.getElem?_cons_zero]; rfl)
                case hn801 => kernel_rfl
                case hf801 => kernel_rfl
                case hr801 => kernel_rfl
                case hg801 => rfl
                case hy801 => (intro w hSw; (try dsimp only at hSw); go_simp; first | done | with_reducible rfl)
                case hq801 => exact fun _ _ _ h => h
                try simp only [Act.put, List.setIfInBounds_toArray, List.set_cons_zero, List.set_cons_succ]
                refine wpAnyH_take (i := 1) (oi := ?oi802) (v := ?vv802) ?hi802 ?hn802 ?hf802 ?hr802 ?hq802 (Or.inl ⟨?hg802, ?hy802⟩) hH0 ?rest802
                case hi802 => (simp only [List.getElem?_toArray, List.getElem?_cons_succ, List.getElem?_cons_zero]; rfl)
                case hn802 => kernel_rfl
                case hf802 => kernel_rfl
                case hr802 => kernel_rfl
                case hg802 => rfl
                case hy802 => (intro w hSw; (try dsimp only at hSw); go_simp; first | done | with_reducible rfl)
                case hq802 => exact fun _ _ _ h => h
                try simp only [Act.put, List.setIfInBounds_toArray, List.set_cons_zero, List.set_cons_succ]
                refine wpAnyH_take (i := 2) (oi := ?oi803) (v := ?vv803) ?hi803 ?hn803 ?hf803 ?hr803 ?hq803 (Or.inl ⟨?hg803, ?hy803⟩) hH0 ?rest803
                case hi803 => (simp only [List.getElem?_toArray, List.getElem?_cons_succ, List.getElem?_cons_zero]; rfl)
                case hn803 => kernel_rfl
                case hf803 => kernel_rfl
                case hr803 => kernel_rfl
                case hg803 => rfl
                case hy803 => (intro w hSw; (try dsimp only at hSw); go_simp; first | done | with_reducible rfl)
                case hq803 => exact fun _ _ _ h => h
                try simp only [Act.put, List.setIfInBounds_toArray, List.set_cons_zero, List.set_cons_succ]
                refine wpAnyH_take (i := 3) (oi := ?oi804) (v := ?vv804) ?hi804 ?hn804 ?hf804 ?hr804 ?hq804 (Or.inl ⟨?hg804, ?hy804⟩) hH0 ?rest804
                case hi804 => (simp only [List.getElem?_toArray, List.getElem?_cons_succ, List.getElem?_cons_zero]; rfl)
                case hn804 => kernel_rfl
                case hf804 => kernel_rfl
                case hr804 => kernel_rfl
                case hg804 => rfl
                case hy804 => (intro w hSw; (try dsimp only at hSw); go_simp; first | done | with_reducible rfl)
                case hq804 => exact fun _ _ _ h => h
                try simp only [Act.put, List.setIfInBounds_toArray, List.set_cons_zero, List.set_cons_succ]
                refine wpAnyH_take (i := 4) (oi := ?oi805) (v := ?vv805) ?hi805 ?hn805 ?hf805 ?hr805 ?hq805 (Or.inl ⟨?hg805, ?hy805⟩) hH0 ?rest805
                case hi805 => (simp only [List.getElem?_toArray, List.getElem?_cons_succ, List.getElem?_cons_zero]; rfl)
                case hn805 => kernel_rfl
                case hf805 => kernel_rfl
                case hr805 => kernel_rfl
                case hg805 => rfl
                case hy805 => (intro w hSw; (try dsimp only at hSw); go_simp; first | done | with_reducible rfl)
                case hq805 => exact fun _ _ _ h => h
                try simp only [Act.put, List.setIfInBounds_toArray, List.set_cons_zero, List.set_cons_succ]
                refine wpAnyH_take (i := 5) (oi := ?oi806) (v := ?vv806) ?hi806 ?hn806 ?hf806 ?hr806 ?hq806 (Or.inl ⟨?hg806, ?hy806⟩) hH0 ?rest806
                case hi806 => (simp only [List.getElem?_toArray, List.getElem?_cons_succ, List.getElem?_cons_zero]; rfl)
                case hn806 => kernel_rfl
                case hf806 => kernel_rfl
                case hr806 => kernel_rfl
                case hg806 => rfl
                case hy806 => (intro w hSw; (try dsimp only at hSw); go_simp; first | done | with_reducible rfl)
                case hq806 => exact fun _ _ _ h => h
                try simp only [Act.put, List.setIfInBounds_toArray, List.set_cons_zero, List.set_cons_succ]
                refine wpAnyH_take (i := 6) (oi := ?oi807) (v := ?vv807) ?hi807 ?hn807 ?hf807 ?hr807 ?hq807 (Or.inl ⟨?hg807, ?hy807⟩) hH0 ?rest807
                case hi807 => (simp only [List.getElem?_toArray, List.getElem?_cons_succ, List.getElem?_cons_zero]; rfl)
                case hn807 => kernel_rfl
                case hf807 => kernel_rfl
                case hr807 => kernel_rfl
                case hg807 => rfl
                case hy807 => (intro w hSw; (try dsimp only at hSw); go_simp; first | done | with_reducible rfl)
                case hq807 => exact fun _ _ _ h => h
                try simp only [Act.put, List.setIfInBounds_toArray, List.set_cons_zero, List.set_cons_succ]
                refine wpAnyH_take (i := 7) (oi := ?oi808) (v := ?vv808) ?hi808 ?hn808 ?hf808 ?hr808 ?hq808 (Or.inl ⟨?hg808, ?hy808⟩) hH0 ?rest808
                case hi808 => (simp only [List.getElem?_toArray, List.getElem?_cons_succ, List.getElem?_cons_zero]; rfl)
                case hn808 => kernel_rfl
                case hf808 => kernel_rfl
                case hr808 => kernel_rfl
                case hg808 => rfl
                case hy808 => (intro w hSw; (try dsimp only at hSw); go_simp; first | done | with_reducible rfl)
                case hq808 => exact fun _ _ _ h => h
                try simp only [Act.put, List.setIfInBounds_toArray, List.set_cons_zero, List.set_cons_succ]
                refine wpAnyH_take (i := 8) (oi := ?oi809) (v := ?vv809) ?hi809 ?hn809 ?hf809 ?hr809 ?hq809 (Or.inl ⟨?hg809, ?hy809⟩) hH0 ?rest809
                case hi809 => (simp only [List.getElem?_toArray, List.getElem?_cons_succ, List.getElem?_cons_zero]; rfl)
                case hn809 => kernel_rfl
                case hf809 => kernel_rfl
                case hr809 => kernel_rfl
                case hg809 => rfl
                case hy809 => (intro w hSw; (try dsimp only at hSw); go_simp; first | done | with_reducible rfl)
                case hq809 => exact fun _ _ _ h => h
                try simp only [Act.put, List.setIfInBounds_toArray, List.set_cons_zero, List.set_cons_succ]
                refine wpAnyH_take (i := 9) (oi := ?oi810) (v := ?vv810) ?hi810 ?hn810 ?hf810 ?hr810 ?hq810 (Or.inl ⟨?hg810, ?hy810⟩) hH0 ?rest810
                case hi810 => (simp only [List.getElem?_toArray, List.getElem?_cons_succ, List.getElem?_cons_zero]; rfl)
                case hn810 => kernel_rfl
                case hf810 => kernel_rfl
                case hr810 => kernel_rfl
                case hg810 => rfl
                case hy810 => (intro w hSw; (try dsimp only at hSw); go_simp; first | done | with_reducible rfl)
                case hq810 => exact fun _ _ _ h => h
                try simp only [Act.put, List.setIfInBounds_toArray, List.set_cons_zero, List.set_cons_succ]
                refine wpAnyH_take (i := 10) (oi := ?oi811) (v := ?vv811) ?hi811 ?hn811 ?hf811 ?hr811 ?hq811 (Or.inl ⟨?hg811, ?hy811⟩) hH0 ?rest811
                case hi811 => (simp only [List.getElem?_toArray, List.getElem?_cons_succ, List.getElem?_cons_zero]; rfl)
                case hn811 => kernel_rfl
                case hf811 => kernel_rfl
                case hr811 => kernel_rfl
                case hg811 => rfl
                case hy811 => (intro w hSw; (try dsimp only at hSw); go_simp; first | done | with_reducible rfl)
                case hq811 => exact fun _ _ _ h => h
                try simp only [Act.put, List.setIfInBounds_toArray, List.set_cons_zero, List.set_cons_succ]
                refine wpAnyH_take (i := 11) (oi := ?oi812) (v := ?vv812) ?hi812 ?hn812 ?hf812 ?hr812 ?hq812 (Or.inl ⟨?hg812, ?hy812⟩) hH0 ?rest812
                case hi812 => (simp only [List.getElem?_toArray, List.getElem?_cons_succ, List.getElem?_cons_zero]; rfl)
                case hn812 => kernel_rfl
                case hf812 => kernel_rfl
                case hr812 => kernel_rfl
                case hg812 => rfl
                case hy812 => (intro w hSw; (try dsimp only at hSw); go_simp; first | done | with_reducible rfl)
                case hq812 => exact fun _ _ _ h => h
                try simp only [Act.put, List.setIfInBounds_toArray, List.set_cons_zero, List.set_cons_succ]
                refine wpAnyH_take (i := 12) (oi := ?oi813) (v := ?vv813) ?hi813 ?hn813 ?hf813 ?hr813 ?hq813 (Or.inl ⟨?hg813, ?hy813⟩) hH0 ?rest813
                case hi813 => (simp only [List.getElem?_toArray, List.getElem?_cons_succ, List.getElem?_cons_zero]; rfl)
                case hn813 => kernel_rfl
                case hf813 => kernel_rfl
                case hr813 => kernel_rfl
                case hg813 => rfl
                case hy813 => (intro w hSw; (try dsimp only at hSw); go_simp; first | done | with_reducible rfl)
                case hq813 => exact fun _ _ _ h => h
                try simp only [Act.put, List.setIfInBounds_toArray, List.set_cons_zero, List.set_cons_succ]
                refine wpAnyH_take (i := 13) (oi := ?oi814) (v := ?vv814) ?hi814 ?hn814 ?hf814 ?hr814 ?hq814 (Or.inl ⟨?hg814, ?hy814⟩) hH0 ?rest814
                case hi814 => (simp only [List.getElem?_toArray, List.getElem?_cons_succ, List.getElem?_cons_zero]; rfl)
                case hn814 => kernel_rfl
                case hf814 => kernel_rfl
                case hr814 => kernel_rfl
                case hg814 => rfl
                case hy814 => (intro w hSw; (try dsimp only at hSw); go_simp; first | done | with_reducible rfl)
                case hq814 => exact fun _ _ _ h => h
                try simp only [Act.put, List.setIfInBounds_toArray, List.set_cons_zero, List.set_cons_succ]
                refine wpAnyH_take (i := 14) (oi := ?oi815) (v := undef) ?hi815 ?hn815 ?hf815 ?hr815 ?hq815 (Or.inr ⟨?hg815, rfl⟩) hH0 ?rest815
                case hi815 => (simp only [List.getElem?_toArray, List.getElem?_cons_succ, List.getElem?_cons_zero]; rfl)
                case hn815 => kernel_rfl
                case hf815 => kernel_rfl
                case hr815 => kernel_rfl
                case hg815 => rfl
                case hq815 => exact fun _ _ _ h => h
                try simp only [Act.put, List.setIfInBounds_toArray, List.set_cons_zero, List.set_cons_succ]
                refine wpAnyH_take (i := 15) (oi := ?oi816) (v := undef) ?hi816 ?hn816 ?hf816 ?hr816 ?hq816 (Or.inr ⟨?hg816, rfl⟩) hH0 ?rest816
                case hi816 => (simp only [List.getElem?_toArray, List.getElem?_cons_succ, List.getElem?_cons_zero]; rfl)
                case hn816 => kernel_rfl
                case hf816 => kernel_rfl
                case hr816 => kernel_rfl
                case hg816 => rfl
                case hq816 => exact fun _ _ _ h => h
                try simp only [Act.put, List.setIfInBounds_toArray, List.set_cons_zero, List.set_cons_succ]
                refine wpAnyH_take (i := 16) (oi := ?oi817) (v := undef) ?hi817 ?hn817 ?hf817 ?hr817 ?hq817 (Or.inr ⟨?hg817, rfl⟩) hH0 ?rest817
                case hi817 => (simp only [List.getElem?_toArray, List.getElem?_cons_succ, List.getElem?_cons_zero]; rfl)
                case hn817 => kernel_rfl
                case hf817 => kernel_rfl
                case hr817 => kernel_rfl
                case hg817 => rfl
                case hq817 => exact fun _ _ _ h => h
                try simp only [Act.put, List.setIfInBounds_toArray, List.set_cons_zero, List.set_cons_succ]
                refine wpAnyH_take (i := 17) (oi := ?oi818) (v := undef) ?hi818 ?hn818 ?hf818 ?hr818 ?hq818 (Or.inr ⟨?hg818, rfl⟩) hH0 ?rest818
                case hi818 => (simp only [List.getElem?_toArray, List.getElem?_cons_succ, List.getElem?_cons_zero]; rfl)
                case hn818 => kernel_rfl
                case hf818 => kernel_rfl
                case hr818 => kernel_rfl
                case hg818 => rfl
                case hq818 => exact fun _ _ _ h => h
                try simp only [Act.put, List.setIfInBounds_toArray, List.set_cons_zero, List.set_cons_succ]
                refine wpAnyH_take (i := 18) (oi := ?oi819) (v := undef) ?hi819 ?hn819 ?hf819 ?hr819 ?hq819 (Or.inr ⟨?hg819, rfl⟩) hH0 ?rest819
                case hi819 => (simp only [List.getElem?_toArray, List.getElem?_cons_succ, List.getElem?_cons_zero]; rfl)
                case hn819 => kernel_rfl
                case hf819 => kernel_rfl
                case hr819 => kernel_rfl
                case hg819 => rfl
                case hq819 => exact fun _ _ _ h => h
                try simp only [Act.put, List.setIfInBounds_toArray, List.set_cons_zero, List.set_cons_succ]
                refine wpAnyH_take (i := 19) (oi := ?oi820) (v := undef) ?hi820 ?hn820 ?hf820 ?hr820 ?hq820 (Or.inr ⟨?hg820, rfl⟩) hH0 ?rest820
                case hi820 => (simp only [List.getElem?_toArray, List.getElem?_cons_succ, List.getElem?_cons_zero]; rfl)
                case hn820 => kernel_rfl
                case hf820 => kernel_rfl
                case hr820 => kernel_rfl
                case hg820 => rfl
                case hq820 => exact fun _ _ _ h => h
                try simp only [Act.put, List.setIfInBounds_toArray, List.set_cons_zero, List.set_cons_succ]
                refine wpAnyH_take (i := 20) (oi := ?oi821) (v := undef) ?hi821 ?hn821 ?hf821 ?hr821 ?hq821 (Or.inr ⟨?hg821, rfl⟩) hH0 ?rest821
                case hi821 => (simp only [List.getElem?_toArray, List.getElem?_cons_succ, List.getElem?_cons_zero]; rfl)
                case hn821 => kernel_rfl
                case hf821 => kernel_rfl
                case hr821 => kernel_rfl
                case hg821 => rfl
                case hq821 => exact fun _ _ _ h => h
                try simp only [Act.put, List.setIfInBounds_toArray, List.set_cons_zero, List.set_cons_succ]
                refine wpAnyH_take (i := 21) (oi := ?oi822) (v := undef) ?hi822 ?hn822 ?hf822 ?hr822 ?hq822 (Or.inr ⟨?hg822, rfl⟩) hH0 ?rest822
                case hi822 => (simp only [List.getElem?_toArray, List.getElem?_cons_succ, List.getElem?_cons_zero]; rfl)
                case hn822 => kernel_rfl
                case hf822 => kernel_rfl
                case hr822 => kernel_rfl
                case hg822 => rfl
                case hq822 => exact fun _ _ _ h => h
                try simp only [Act.put, List.setIfInBounds_toArray, List.set_cons_zero, List.set_cons_succ]
                refine wpAnyH_take (i := 22) (oi := ?oi823) (v := undef) ?hi823 ?hn823 ?hf823 ?hr823 ?hq823 (Or.inr ⟨?hg823, rfl⟩) hH0 ?rest823
                case hi823 => (simp only [List.getElem?_toArray, List.getElem?_cons_succ, List.getElem?_cons_zero]; rfl)
                case hn823 => kernel_rfl
                case hf823 => kernel_rfl
                case hr823 => kernel_rfl
                case hg823 => rfl
                case hq823 => exact fun _ _ _ h => h
                try simp only [Act.put, List.setIfInBounds_toArray, List.set_cons_zero, List.set_cons_succ]
                refine wpAnyH_take (i := 23) (oi := ?oi824) (v := undef) ?hi824 ?hn824 ?hf824 ?hr824 ?hq824 (Or.inr ⟨?hg824, rfl⟩) hH0 ?rest824
                case hi824 => (simp only [List.getElem?_toArray, List.getElem?_cons_succ, List.getElem?_cons_zero]; rfl)
                case hn824 => kernel_rfl
                case hf824 => kernel_rfl
                case hr824 => kernel_rfl
                case hg824 => rfl
                case hq824 => exact fun _ _ _ h => h
                try simp only [Act.put, List.setIfInBounds_toArray, List.set_cons_zero, List.set_cons_succ]
                refine wpAnyH_take (i := 24) (oi := ?oi825) (v := undef) ?hi825 ?hn825 ?hf825 ?hr825 ?hq825 (Or.inr ⟨?hg825, rfl⟩) hH0 ?rest825
                case hi825 => (simp only [List.getElem?_toArray, List.getElem?_cons_succ, List.getElem?_cons_zero]; rfl)
                case hn825 => kernel_rfl
                case hf825 => kernel_rfl
                case hr825 => kernel_rfl
                case hg825 => rfl
                case hq825 => exact fun _ _ _ h => h
                try simp only [Act.put, List.setIfInBounds_toArray, List.set_cons_zero, List.set_cons_succ]
                refine wpAnyH_take (i := 25) (oi := ?oi826) (v := undef) ?hi826 ?hn826 ?hf826 ?hr826 ?hq826 (Or.inr ⟨?hg826, rfl⟩) hH0 ?rest826
                case hi826 => (simp only [List.getElem?_toArray, List.getElem?_cons_succ, List.getElem?_cons_zero]; rfl)
                case hn826 => kernel_rfl
                case hf826 => kernel_rfl
                case hr826 => kernel_rfl
                case hg826 => rfl
                case hq826 => exact fun _ _ _ h => h
                try simp only [Act.put, List.setIfInBounds_toArray, List.set_cons_zero, List.set_cons_succ]
                refine wpAnyH_take (i := 26) (oi := ?oi827) (v := undef) ?hi827 ?hn827 ?hf827 ?hr827 ?hq827 (Or.inr ⟨?hg827, rfl⟩) hH0 ?rest827
                case hi827 => (simp only [List.getElem?_toArray, List.getElem?_cons_succ, List.getElem?_cons_zero]; rfl)
                case hn827 => kernel_rfl
                case hf827 => kernel_rfl
                case hr827 => kernel_rfl
                case hg827 => rfl
                case hq827 => exact fun _ _ _ h => h
                try simp only [Act.put, List.setIfInBounds_toArray, List.set_cons_zero, List.set_cons_succ]
                refine wpAnyH_take (i := 27) (oi := ?oi828) (v := undef) ?hi828 ?hn828 ?hf828 ?hr828 ?hq828 (Or.inr ⟨?hg828, rfl⟩) hH0 ?rest828
                case hi828 => (simp only [List.getElem?_toArray, List.getElem?_cons_succ, List.getElem?_cons_zero]; rfl)
                case hn828 => kernel_rfl
                case hf828 => kernel_rfl
                case hr828 => kernel_rfl
                case hg828 => rfl
                case hq828 => exact fun _ _ _ h => h
                try simp only [Act.put, List.setIfInBounds_toArray, List.set_cons_zero, List.set_cons_succ]
                refine wpAnyH_take (i := 28) (oi := ?oi829) (v := undef) ?hi829 ?hn829 ?hf829 ?hr829 ?hq829 (Or.inr ⟨?hg829, rfl⟩) hH0 ?rest829
                case hi829 => (simp only [List.getElem?_toArray, List.getElem?_cons_succ, List.getElem?_cons_zero]; rfl)
                case hn829 => kernel_rfl
                case hf829 => kernel_rfl
                case hr829 => kernel_rfl
                case hg829 => rfl
                case hq829 => exact fun _ _ _ h => h
                try simp only [Act.put, List.setIfInBounds_toArray, List.set_cons_zero, List.set_cons_succ]
                refine wpAnyH_take (i := 29) (oi := ?oi830) (v := undef) ?hi830 ?hn830 ?hf830 ?hr830 ?hq830 (Or.inr ⟨?hg830, rfl⟩) hH0 ?rest830
                case hi830 => (simp only [List.getElem?_toArray, List.getElem?_cons_succ, List.getElem?_cons_zero]; rfl)
                case hn830 => kernel_rfl
                case hf830 => kernel_rfl
                case hr830 => kernel_rfl
                case hg830 => rfl
                case hq830 => exact fun _ _ _ h => h
                try simp only [Act.put, List.setIfInBounds_toArray, List.set_cons_zero, List.set_cons_succ]
                refine wpAnyH_take (i := 30) (oi := ?oi831) (v := undef) ?hi831 ?hn831 ?hf831 ?hr831 ?hq831 (Or.inr ⟨?hg831, rfl⟩) hH0 ?rest831
                case hi831 => (simp only [List.getElem?_toArray, List.getElem?_cons_succ, List.getElem?_cons_zero]; rfl)
                case hn831 => kernel_rfl
                case hf831 => kernel_rfl
                case hr831 => kernel_rfl
                case hg831 => rfl
                case hq831 => exact fun _ _ _ h => h
                try simp only [Act.put, List.setIfInBounds_toArray, List.set_cons_zero, List.set_cons_succ]
                refine wpAnyH_take (i := 31) (oi := ?oi832) (v := undef) ?hi832 ?hn832 ?hf832 ?hr832 ?hq832 (Or.inr ⟨?hg832, rfl⟩) hH0 ?rest832
                case hi832 => (simp only [List.getElem?_toArray, List.getElem?_cons_succ, List.getElem?_cons_zero]; rfl)
                case hn832 => kernel_rfl
                case hf832 => kernel_rfl
                case hr832 => kernel_rfl
                case hg832 => rfl
                case hq832 => exact fun _ _ _ h => h
                try simp only [Act.put, List.setIfInBounds_toArray, List.set_cons_zero, List.set_cons_succ]
                refine wpAnyH_take (i := 32) (oi := ?oi833) (v := undef) ?hi833 ?hn833 ?hf833 ?hr833 ?hq833 (Or.inr ⟨?hg833, rfl⟩) hH0 ?rest833
                case hi833 => (simp only [List.getElem?_toArray, List.getElem?_cons_succ, List.getElem?_cons_zero]; rfl)
                case hn833 => kernel_rfl
                case hf833 => kernel_rfl
                case hr833 => kernel_rfl
                case hg833 => rfl
                case hq833 => exact fun _ _ _ h => h
                try simp only [Act.put, List.setIfInBounds_toArray, List.set_cons_zero, List.set_cons_succ]
                refine wpAnyH_take (i := 33) (oi := ?oi834) (v := undef) ?hi834 ?hn834 ?hf834 ?hr834 ?hq834 (Or.inr ⟨?hg834, rfl⟩) hH0 ?rest834
                case hi834 => (simp only [List.getElem?_toArray, List.getElem?_cons_succ, List.getElem?_cons_zero]; rfl)
                case hn834 => kernel_rfl
                case hf834 => kernel_rfl
                case hr834 => kernel_rfl
                case hg834 => rfl
                case hq834 => exact fun _ _ _ h => h
                try simp only [Act.put, List.setIfInBounds_toArray, List.set_cons_zero, List.set_cons_succ]
                refine wpAnyH_take (i := 34) (oi := ?oi835) (v := undef) ?hi835 ?hn835 ?hf835 ?hr835 ?hq835 (Or.inr ⟨?hg835, rfl⟩) hH0 ?rest835
                case hi835 => (simp only [List.getElem?_toArray, List.getElem?_cons_succ, List.getElem?_cons_zero]; rfl)
                case hn835 => kernel_rfl
                case hf835 => kernel_rfl
                case hr835 => kernel_rfl
                case hg835 => rfl
                case hq835 => exact fun _ _ _ h => h
                try simp only [Act.put, List.setIfInBounds_toArray, List.set_cons_zero, List.set_cons_succ]
                refine wpAnyH_take (i := 35) (oi := ?oi836) (v := undef) ?hi836 ?hn836 ?hf836 ?hr836 ?hq836 (Or.inr ⟨?hg836, rfl⟩) hH0 ?rest836
                case hi836 => (simp only [List.getElem?_toArray, List.getElem?_cons_succ, List.getElem?_cons_zero]; rfl)
                case hn836 => kernel_rfl
                case hf836 => kernel_rfl
                case hr836 => kernel_rfl
                case hg836 => rfl
                case hq836 => exact fun _ _ _ h => h
                try simp only [Act.put, List.setIfInBounds_toArray, List.set_cons_zero, List.set_cons_succ]
                refine wpAnyH_take (i := 36) (oi := ?oi837) (v := ?vv837) ?hi837 ?hn837 ?hf837 ?hr837 ?hq837 (Or.inl ⟨?hg837, ?hy837⟩) hH0 ?rest837
                case hi837 => (simp only [List.getElem?_toArray, List.getElem?_cons_succ, List.getElem?_cons_zero]; rfl)
                case hn837 => kernel_rfl
                case hf837 => kernel_rfl
                case hr837 => kernel_rfl
                case hg837 => rfl
                case hy837 => (intro w hSw; (try dsimp only at hSw); go_simp; first | done | with_reducible rfl)
                case hq837 => exact fun _ _ _ h => h
                try simp only [Act.put, List.setIfInBounds_toArray, List.set_cons_zero, List.set_cons_succ]
                refine wpAnyH_take (i := 37) (oi := ?oi838) (v := ?vv838) ?hi838 ?hn838 ?hf838 ?hr838 ?hq838 (Or.inl ⟨?hg838, ?hy838⟩) hH0 ?rest838
                case hi838 => (simp only [List.getElem?_toArray, List.getElem?_cons_succ, List.getElem?_cons_zero]; rfl)
                case hn838 => kernel_rfl
                case hf838 => kernel_rfl
                case hr838 => kernel_rfl
                case hg838 => rfl
                case hy838 => (intro w hSw; (try dsimp only at hSw); go_simp; first | done | with_reducible rfl)
                case hq838 => exact fun _ _ _ h => h
                try simp only [Act.put, List.setIfInBounds_toArray, List.set_cons_zero, List.set_cons_succ]
                refine wpAnyH_done (by kernel_rfl) ?_ _
                try simp only [List.setIfInBounds_toArray, List.set_cons_zero, List.set_cons_succ]
                go_wp2_with fail
                go_roundw
                case rel => exact ⟨i + 1 + 1, by omega, by omega, by go_num, HBd, Bsd, OCd⟩
                case measure => simp [intOf]; omega
              · go_simp
                refine hK.out (fun (w' : World) => w'.cell? ⟨w44.heap.size, 0, none⟩ = some (.string a) ∧ w'.cell? ⟨w44.heap.size, 1, none⟩ = some (.string b) ∧ w'.cell? ⟨g, i * 2, none⟩ = some (.int .i64 (x0 : Nat)) ∧ w'.cell? ⟨g, i * 2 + 1, none⟩ = some (.int .i64 (y0 : Nat))) _ _ (fun _ h => h) (show (fun (w' : World) => w'.cell? ⟨w44.heap.size, 0, none⟩ = some (.string a) ∧ w'.cell? ⟨w44.heap.size, 1, none⟩ = some (.string b) ∧ w'.cell? ⟨g, i * 2, none⟩ = some (.int .i64 (x0 : Nat)) ∧ w'.cell? ⟨g, i * 2 + 1, none⟩ = some (.int .i64 (y0 : Nat))) (v1.alloc (.cells #[.int .i64 0, .int .i64 0] 42 (0, 0))) from by have hbv := (allocB v1 (.cells #[.int .i64 0, .int .i64 0] 42 (0, 0))); exact ⟨(hbv.cell (p := ⟨w44.heap.size, 0, none⟩) s3).trans s1, (hbv.cell (p := ⟨w44.heap.size, 1, none⟩) s3).trans s2, (hbv.cell (p := ⟨g, i * 2, none⟩) og).trans c1, (hbv.cell (p := ⟨g, i * 2 + 1, none⟩) og).trans c2⟩) ?_
                clear hK K
                try simp only [Act.put, List.setIfInBounds_toArray, List.set_cons_zero, List.set_cons_succ]
                obtain ⟨gx, hgx⟩ : ∃ x, x = v1.heap.size := ⟨_, rfl⟩
                have hgx2 : v1.heap.size ≤ gx := by rw [hgx]; exact Nat.le_refl _
                have HX := Lib.hid (heap_alloc_at v1 (.cells #[.int .i64 0, .int .i64 0] 42 (0, 0)))
                have hbv := allocB v1 (.cells #[.int .i64 0, .int .i64 0] 42 (0, 0))
                rw [← hgx] at HX ⊢
                clear hgx
                generalize v1.alloc (.cells #[.int .i64 0, .int .i64 0] 42 (0, 0)) = v4 at *
                refine held_one 6 rfl (by kernel_rfl) (fun K hK => ?_)
                go_simp
                refine (V _).mono ?_; rintro e v3 ⟨rfl, hb⟩
                replace HX := Lib.hid (heap_keep hb HX.out)
                replace hbv := nx hbv hb
                clear hb
                go_wp2_with fail
                refine hK.out (fun (w' : World) => w'.cell? ⟨w44.heap.size, 0, none⟩ = some (.string a) ∧ w'.cell? ⟨w44.heap.size, 1, none⟩ = some (.string b) ∧ w'.cell? ⟨g, i * 2, none⟩ = some (.int .i64 (x0 : Nat)) ∧ w'.cell? ⟨g, i * 2 + 1, none⟩ = some (.int .i64 (y0 : Nat))) _ _ (fun _ h => h) ⟨(hbv.cell (p := ⟨w44.heap.size, 0, none⟩) s3).trans s1, (hbv.cell (p := ⟨w44.heap.size, 1, none⟩) s3).trans s2, (hbv.cell (p := ⟨g, i * 2, none⟩) og).trans c1, (hbv.cell (p := ⟨g, i * 2 + 1, none⟩) og).trans c2⟩ ?_
                clear hK K
                try simp only [Act.put, List.setIfInBounds_toArray, List.set_cons_zero, List.set_cons_succ]
                refine wpAnyH_take (i := 7) (oi := ?oi1001) (v := ?vv1001) ?hi1001 ?hn1001 ?hf1001 ?hr1001 ?hq1001 (Or.inl ⟨?hg1001, ?hy1001⟩) (show (fun (w' : World) => w'.cell? ⟨w44.heap.size, 0, none⟩ = some (.string a) ∧ w'.cell? ⟨w44.heap.size, 1, none⟩ = some (.string b) ∧ w'.cell? ⟨g, i * 2, none⟩ = some (.int .i64 (x0 : Nat)) ∧ w'.cell? ⟨g, i * 2 + 1, none⟩ = some (.int .i64 (y0 : Nat))) _ from ⟨(hbv.cell (p := ⟨w44.heap.size, 0, none⟩) s3).trans s1, (hbv.cell (p := ⟨w44.heap.size, 1, none⟩) s3).trans s2, (hbv.cell (p := ⟨g, i * 2, none⟩) og).trans c1, (hbv.cell (p := ⟨g, i * 2 + 1, none⟩) og).trans c2⟩) ?rest1001
                case hi1001 => (simp only [List.getElem?_toArray, List.getElem?_cons_succ, List.getElem?_cons_zero]; rfl)
                case hn1001 => kernel_rfl
                case hf1001 => kernel_rfl
                case hr1001 => kernel_rfl
                case hg1001 => rfl
                case hy1001 => (intro w hSw; (try dsimp only at hSw); go_simp; first | done | with_reducible rfl)
                case hq1001 => exact fun _ _ _ h => h
                try simp only [Act.put, List.setIfInBounds_toArray, List.set_cons_zero, List.set_cons_succ]
                refine wpAnyH_take (i := 8) (oi := ?oi1002) (v := ?vv1002) ?hi1002 ?hn1002 ?hf1002 ?hr1002 ?hq1002 (Or.inl ⟨?hg1002, ?hy1002⟩) (show (fun (w' : World) => w'.cell? ⟨w44.heap.size, 0, none⟩ = some (.string a) ∧ w'.cell? ⟨w44.heap.size, 1, none⟩ = some (.string b) ∧ w'.cell? ⟨g, i * 2, none⟩ = some (.int .i64 (x0 : Nat)) ∧ w'.cell? ⟨g, i * 2 + 1, none⟩ = some (.int .i64 (y0 : Nat))) _ from ⟨(hbv.cell (p := ⟨w44.heap.size, 0, none⟩) s3).trans s1, (hbv.cell (p := ⟨w44.heap.size, 1, none⟩) s3).trans s2, (hbv.cell (p := ⟨g, i * 2, none⟩) og).trans c1, (hbv.cell (p := ⟨g, i * 2 + 1, none⟩) og).trans c2⟩) ?rest1002
                case hi1002 => (simp only [List.getElem?_toArray, List.getElem?_cons_succ, List.getElem?_cons_zero]; rfl)
                case hn1002 => kernel_rfl
                case hf1002 => kernel_rfl
                case hr1002 => kernel_rfl
                case hg1002 => rfl
                case hy1002 => (intro w hSw; (try dsimp only at hSw); go_simp; first | done | with_reducible rfl)
                case hq1002 => exact fun _ _ _ h => h
                try simp only [Act.put, List.setIfInBounds_toArray, List.set_cons_zero, List.set_cons_succ]
                refine wpAnyH_take (i := 9) (oi := ?oi1003) (v := ?vv1003) ?hi1003 ?hn1003 ?hf1003 ?hr1003 ?hq1003 (Or.inl ⟨?hg1003, ?hy1003⟩) (show (fun (w' : World) => w'.cell? ⟨w44.heap.size, 0, none⟩ = some (.string a) ∧ w'.cell? ⟨w44.heap.size, 1, none⟩ = some (.string b) ∧ w'.cell? ⟨g, i * 2, none⟩ = some (.int .i64 (x0 : Nat)) ∧ w'.cell? ⟨g, i * 2 + 1, none⟩ = some (.int .i64 (y0 : Nat))) _ from ⟨(hbv.cell (p := ⟨w44.heap.size, 0, none⟩) s3).trans s1, (hbv.cell (p := ⟨w44.heap.size, 1, none⟩) s3).trans s2, (hbv.cell (p := ⟨g, i * 2, none⟩) og).trans c1, (hbv.cell (p := ⟨g, i * 2 + 1, none⟩) og).trans c2⟩) ?rest1003
                case hi1003 => (simp only [List.getElem?_toArray, List.getElem?_cons_succ, List.getElem?_cons_zero]; rfl)
                case hn1003 => kernel_rfl
                case hf1003 => kernel_rfl
                case hr1003 => kernel_rfl
                case hg1003 => rfl
                case hy1003 => (intro w hSw; (try dsimp only at hSw); go_simp; first | done | with_reducible rfl)
                case hq1003 => exact fun _ _ _ h => h
                try simp only [Act.put, List.setIfInBounds_toArray, List.set_cons_zero, List.set_cons_succ]
                have hbz := (hbv.setCell (p := ⟨gx, 0, none⟩) hgx2 (.int .i64 (x1 : Nat))).setCell (p := ⟨gx, 1, none⟩) hgx2 (.int .i64 (y1 : Nat))
                obtain ⟨fx1, fx2, fx3⟩ := two_facts HX.out
                obtain ⟨fx4, fx5⟩ := two_frozen HX.out
                refine held_one 11 rfl (by kernel_rfl) (fun K hK => ?_)
                go_simp
                refine hK.out (fun (w' : World) => w'.cell? ⟨w44.heap.size, 0, none⟩ = some (.string a) ∧ w'.cell? ⟨w44.heap.size, 1, none⟩ = some (.string b) ∧ w'.cell? ⟨g, i * 2, none⟩ = some (.int .i64 (x0 : Nat)) ∧ w'.cell? ⟨g, i * 2 + 1, none⟩ = some (.int .i64 (y0 : Nat))) _ _ (fun _ h => h) (show (fun (w' : World) => w'.cell? ⟨w44.heap.size, 0, none⟩ = some (.string a) ∧ w'.cell? ⟨w44.heap.size, 1, none⟩ = some (.string b) ∧ w'.cell? ⟨g, i * 2, none⟩ = some (.int .i64 (x0 : Nat)) ∧ w'.cell? ⟨g, i * 2 + 1, none⟩ = some (.int .i64 (y0 : Nat))) ((v3.setCell ⟨gx, 0, none⟩ (.int .i64 (x1 : Nat))).setCell ⟨gx, 1, none⟩ (.int .i64 (y1 : Nat))) from by have hbv := hbz; exact ⟨(hbv.cell (p := ⟨w44.heap.size, 0, none⟩) s3).trans s1, (hbv.cell (p := ⟨w44.heap.size, 1, none⟩) s3).trans s2, (hbv.cell (p := ⟨g, i * 2, none⟩) og).trans c1, (hbv.cell (p := ⟨g, i * 2 + 1, none⟩) og).trans c2⟩) ?_
                clear hK K
                try simp only [Act.put, List.setIfInBounds_toArray, List.set_cons_zero, List.set_cons_succ]
                replace hbv := hbz
                replace HX := Lib.hid (set_two (.int .i64 (x1 : Nat)) (.int .i64 (y1 : Nat)) HX.out)
                clear hbz fx1 fx2 fx3 fx4 fx5
                generalize ((v3.setCell ⟨gx, 0, none⟩ (.int .i64 (x1 : Nat))).setCell ⟨gx, 1, none⟩ (.int .i64 (y1 : Nat))) = v9 at *
                refine wpAnyH_take (i := 12) (oi := ?oi1201) (v := ?vv1201) ?hi1201 ?hn1201 ?hf1201 ?hr1201 ?hq1201 (Or.inl ⟨?hg1201, ?hy1201⟩) (show (fun (w' : World) => w'.cell? ⟨w44.heap.size, 0, none⟩ = some (.string a) ∧ w'.cell? ⟨w44.heap.size, 1, none⟩ = some (.string b) ∧ w'.cell? ⟨g, i * 2, none⟩ = some (.int .i64 (x0 : Nat)) ∧ w'.cell? ⟨g, i * 2 + 1, none⟩ = some (.int .i64 (y0 : Nat))) _ from ⟨(hbv.cell (p := ⟨w44.heap.size, 0, none⟩) s3).trans s1, (hbv.cell (p := ⟨w44.heap.size, 1, none⟩) s3).trans s2, (hbv.cell (p := ⟨g, i * 2, none⟩) og).trans c1, (hbv.cell (p := ⟨g, i * 2 + 1, none⟩) og).trans c2⟩) ?rest1201
                case hi1201 => (simp only [List.getElem?_toArray, List.getElem?_cons_succ, List.getElem?_cons_zero]; rfl)
                case hn1201 => kernel_rfl
                case hf1201 => kernel_rfl
                case hr1201 => kernel_rfl
                case hg1201 => rfl
                case hy1201 => (intro w hSw; (try dsimp only at hSw); go_simp; first | done | with_reducible rfl)
                case hq1201 => exact fun _ _ _ h => h
                try simp only [Act.put, List.setIfInBounds_toArray, List.set_cons_zero, List.set_cons_succ]
                refine wpAnyH_done (by kernel_rfl) ?_ _
                replace HB := Lib.hid (nx HB.out hbv)
                replace Bs := Lib.hid (heap_keep hbv Bs.out)
                replace OC := Lib.hid (OC.out.keep hbv)
                clear V s1 s2 s3 c1 c2 og hgx2 hbv
                go_upto_region 33 with fail
                have HBd : Hid (Below W.heap.size W v9.drew) := Lib.hid HB.out.drew
                have Bsd : Hid (v9.drew.heap[w44.heap.size]? = some (.cells #[.string a, .string b] 25 (0, 0))) := Lib.hid Bs.out
                have OCd : Hid (OrbC v9.drew g l) := Lib.hid OC.out
                have HXd : Hid (v9.drew.heap[gx]? = some (.cells #[.int .i64 (x1 : Nat), .int .i64 (y1 : Nat)] 42 (0, 0))) := Lib.hid HX.out
                clear HB Bs OC HX
                obtain ⟨n1, n2⟩ := OCd.out.2 (i + 1) (by omega)
                obtain ⟨hN1, hN2⟩ := HN.out
                rw [← hN1] at n1
                rw [← hN2] at n2
                clear hN1 hN2 HN
                obtain ⟨m1, m2, m3⟩ := two_facts HXd.out
                have hw4 : 0 ≤ (i : Int) + 1 ∧ (i : Int) + 1 < (l.length : Int) := by omega
                have hg1 : ¬ ((1 : Int) < (i : Int) + 1) := by have := HI.out; omega
                have hg2 : ¬ (0 < i) := by have := HI.out; omega
                have hg3 : ¬ ((0 : Int) < (i : Int)) := by have := HI.out; omega
                refine wp_region_held_drew (S := (fun (w' : World) => w'.cell? ⟨gx, 0, none⟩ = some (.int .i64 (x1 : Nat)) ∧ w'.cell? ⟨gx, 1, none⟩ = some (.int .i64 (y1 : Nat)) ∧ w'.cell? ⟨g, (i + 1) * 2, none⟩ = some (.int .i64 (x1 : Nat)) ∧ w'.cell? ⟨g, (i + 1) * 2 + 1, none⟩ = some (.int .i64 (y1 : Nat)))) (by kernel_rfl) ⟨m1, m2, n1, n2⟩ (fun hH0 => ?_)
                refine wpAnyH_take (i := 0) (oi := ?oi1401) (v := ?vv1401) ?hi1401 ?hn1401 ?hf1401 ?hr1401 ?hq1401 (Or.inl ⟨?hg1401, ?hy1401⟩) hH0 ?rest1401
                case hi1401 => (simp only [List.getElem?_toArray, List.getElem?_cons_zero]; rfl)
                case hn1401 => kernel_rfl
                case hf1401 => kernel_rfl
                case hr1401 => kernel_rfl
                case hg1401 => rfl
                case hy1401 => (intro w hSw; (try dsimp only at hSw); go_simp; first | done | with_reducible rfl)
                case hq1401 => exact fun _ _ _ h => h
                try simp only [Act.put, List.setIfInBounds_toArray, List.set_cons_zero, List.set_cons_succ]
                refine wpAnyH_take (i := 1) (oi := ?oi1402) (v := ?vv1402) ?hi1402 ?hn1402 ?hf1402 ?hr1402 ?hq1402 (Or.inl ⟨?hg1402, ?hy1402⟩) hH0 ?rest1402
                case hi1402 => (simp only [List.getElem?_toArray, List.getElem?_cons_succ, List.getElem?_cons_zero]; rfl)
                case hn1402 => kernel_rfl
                case hf1402 => kernel_rfl
                case hr1402 => kernel_rfl
                case hg1402 => rfl
                case hy1402 => (intro w hSw; (try dsimp only at hSw); go_simp; first | done | with_reducible rfl)
                case hq1402 => exact fun _ _ _ h => h
                try simp only [Act.put, List.setIfInBounds_toArray, List.set_cons_zero, List.set_cons_succ]
                refine wpAnyH_take (i := 2) (oi := ?oi1403) (v := ?vv1403) ?hi1403 ?hn1403 ?hf1403 ?hr1403 ?hq1403 (Or.inl ⟨?hg1403, ?hy1403⟩) hH0 ?rest1403
                case hi1403 => (simp only [List.getElem?_toArray, List.getElem?_cons_succ, List.getElem?_cons_zero]; rfl)
                case hn1403 => kernel_rfl
                case hf1403 => kernel_rfl
                case hr1403 => kernel_rfl
                case hg1403 => rfl
                case hy1403 => (intro w hSw; (try dsimp only at hSw); go_simp; first | done | with_reducible rfl)
                case hq1403 => exact fun _ _ _ h => h
                try simp only [Act.put, List.setIfInBounds_toArray, List.set_cons_zero, List.set_cons_succ]
                refine wpAnyH_take (i := 3) (oi := ?oi1404) (v := ?vv1404) ?hi1404 ?hn1404 ?hf1404 ?hr1404 ?hq1404 (Or.inl ⟨?hg1404, ?hy1404⟩) hH0 ?rest1404
                case hi1404 => (simp only [List.getElem?_toArray, List.getElem?_cons_succ, List.getElem?_cons_zero]; rfl)
                case hn1404 => kernel_rfl
                case hf1404 => kernel_rfl
                case hr1404 => kernel_rfl
                case hg1404 => rfl
                case hy1404 => (intro w hSw; (try dsimp only at hSw); go_simp; first | done | with_reducible rfl)
                case hq1404 => exact fun _ _ _ h => h
                try simp only [Act.put, List.setIfInBounds_toArray, List.set_cons_zero, List.set_cons_succ]
                refine wpAnyH_take (i := 4) (oi := ?oi1405) (v := ?vv1405) ?hi1405 ?hn1405 ?hf1405 ?hr1405 ?hq1405 (Or.inl ⟨?hg1405, ?hy1405⟩) hH0 ?rest1405
                case hi1405 => (simp only [List.getElem?_toArray, List.getElem?_cons_succ, List.getElem?_cons_zero]; rfl)
                case hn1405 => kernel_rfl
                case hf1405 => kernel_rfl
                case hr1405 => kernel_rfl
                case hg1405 => rfl
                case hy1405 => (intro w hSw; (try dsimp only at hSw); go_simp; first | done | with_reducible rfl)
                case hq1405 => exact fun _ _ _ h => h
                try simp only [Act.put, List.setIfInBounds_toArray, List.set_cons_zero, List.set_cons_succ]
                refine wpAnyH_take (i := 5) (oi := ?oi1406) (v := ?vv1406) ?hi1406 ?hn1406 ?hf1406 ?hr1406 ?hq1406 (Or.inl ⟨?hg1406, ?hy1406⟩) hH0 ?rest1406
                case hi1406 => (simp only [List.getElem?_toArray, List.getElem?_cons_succ, List.getElem?_cons_zero]; rfl)
                case hn1406 => kernel_rfl
                case hf1406 => kernel_rfl
                case hr1406 => kernel_rfl
                case hg1406 => rfl
                case hy1406 => (intro w hSw; (try dsimp only at hSw); go_simp; first | done | with_reducible rfl)
                case hq1406 => exact fun _ _ _ h => h
                try simp only [Act.put, List.setIfInBounds_toArray, List.set_cons_zero, List.set_cons_succ]
                refine wpAnyH_take (i := 6) (oi := ?oi1407) (v := ?vv1407) ?hi1407 ?hn1407 ?hf1407 ?hr1407 ?hq1407 (Or.inl ⟨?hg1407, ?hy1407⟩) hH0 ?rest1407
                case hi1407 => (simp only [List.getElem?_toArray, List.getElem?_cons_succ, List.getElem?_cons_zero]; rfl)
                case hn1407 => kernel_rfl
                case hf1407 => kernel_rfl
                case hr1407 => kernel_rfl
                case hg1407 => rfl
                case hy1407 => (intro w hSw; (try dsimp only at hSw); go_simp; first | done | with_reducible rfl)
                case hq1407 => exact fun _ _ _ h => h
                try simp only [Act.put, List.setIfInBounds_toArray, List.set_cons_zero, List.set_cons_succ]
                refine wpAnyH_take (i := 7) (oi := ?oi1408) (v := ?vv1408) ?hi1408 ?hn1408 ?hf1408 ?hr1408 ?hq1408 (Or.inl ⟨?hg1408, ?hy1408⟩) hH0 ?rest1408
                case hi1408 => (simp only [List.getElem?_toArray, List.getElem?_cons_succ, List.getElem?_cons_zero]; rfl)
                case hn1408 => kernel_rfl
                case hf1408 => kernel_rfl
                case hr1408 => kernel_rfl
                case hg1408 => rfl
                case hy1408 => (intro w hSw; (try dsimp only at hSw); go_simp; first | done | with_reducible rfl)
                case hq1408 => exact fun _ _ _ h => h
                try simp only [Act.put, List.setIfInBounds_toArray, List.set_cons_zero, List.set_cons_succ]
                refine wpAnyH_take (i := 8) (oi := ?oi1409) (v := ?vv1409) ?hi1409 ?hn1409 ?hf1409 ?hr1409 ?hq1409 (Or.inl ⟨?hg1409, ?hy1409⟩) hH0 ?rest1409
                case hi1409 => (simp only [List.getElem?_toArray, List.getElem?_cons_succ, List.getElem?_cons_zero]; rfl)
                case hn1409 => kernel_rfl
                case hf1409 => kernel_rfl
                case hr1409 => kernel_rfl
                case hg1409 => rfl
                case hy1409 => (intro w hSw; (try dsimp only at hSw); go_simp; first | done | with_reducible rfl)
                case hq1409 => exact fun _ _ _ h => h
                try simp only [Act.put, List.setIfInBounds_toArray, List.set_cons_zero, List.set_cons_succ]
                refine wpAnyH_take (i := 9) (oi := ?oi1410) (v := ?vv1410) ?hi1410 ?hn1410 ?hf1410 ?hr1410 ?hq1410 (Or.inl ⟨?hg1410, ?hy1410⟩) hH0 ?rest1410
                case hi1410 => (simp only [List.getElem?_toArray, List.getElem?_cons_succ, List.getElem?_cons_zero]; rfl)
                case hn1410 => kernel_rfl
                case hf1410 => kernel_rfl
                case hr1410 => kernel_rfl
                case hg1410 => rfl
                case hy1410 => (intro w hSw; (try dsimp only at hSw); go_simp; first | done | with_reducible rfl)
                case hq1410 => exact fun _ _ _ h => h
                try simp only [Act.put, List.setIfInBounds_toArray, List.set_cons_zero, List.set_cons_succ]
                refine wpAnyH_take (i := 10) (oi := ?oi1411) (v := ?vv1411) ?hi1411 ?hn1411 ?hf1411 ?hr1411 ?hq1411 (Or.inl ⟨?hg1411, ?hy1411⟩) hH0 ?rest1411
                case hi1411 => (simp only [List.getElem?_toArray, List.getElem?_cons_succ, List.getElem?_cons_zero]; rfl)
                case hn1411 => kernel_rfl
                case hf1411 => kernel_rfl
                case hr1411 => kernel_rfl
                case hg1411 => rfl
                case hy1411 => (intro w hSw; (try dsimp only at hSw); go_simp; first | done | with_reducible rfl)
                case hq1411 => exact fun _ _ _ h => h
                try simp only [Act.put, List.setIfInBounds_toArray, List.set_cons_zero, List.set_cons_succ]
                refine wpAnyH_take (i := 11) (oi := ?oi1412) (v := ?vv1412) ?hi1412 ?hn1412 ?hf1412 ?hr1412 ?hq1412 (Or.inl ⟨?hg1412, ?hy1412⟩) hH0 ?rest1412
                case hi1412 => (simp only [List.getElem?_toArray, List.getElem?_cons_succ, List.getElem?_cons_zero]; rfl)
                case hn1412 => kernel_rfl
                case hf1412 => kernel_rfl
                case hr1412 => kernel_rfl
                case hg1412 => rfl
                case hy1412 => (intro w hSw; (try dsimp only at hSw); go_simp; first | done | with_reducible rfl)
                case hq1412 => exact fun _ _ _ h => h
                try simp only [Act.put, List.setIfInBounds_toArray, List.set_cons_zero, List.set_cons_succ]
                refine wpAnyH_take (i := 12) (oi := ?oi1413) (v := ?vv1413) ?hi1413 ?hn1413 ?hf1413 ?hr1413 ?hq1413 (Or.inl ⟨?hg1413, ?hy1413⟩) hH0 ?rest1413
                case hi1413 => (simp only [List.getElem?_toArray, List.getElem?_cons_succ, List.getElem?_cons_zero]; rfl)
                case hn1413 => kernel_rfl
                case hf1413 => kernel_rfl
                case hr1413 => kernel_rfl
                case hg1413 => rfl
                case hy1413 => (intro w hSw; (try dsimp only at hSw); go_simp; first | done | with_reducible rfl)
                case hq1413 => exact fun _ _ _ h => h
                try simp only [Act.put, List.setIfInBounds_toArray, List.set_cons_zero, List.set_cons_succ]
                refine wpAnyH_take (i := 13) (oi := ?oi1414) (v := ?vv1414) ?hi1414 ?hn1414 ?hf1414 ?hr1414 ?hq1414 (Or.inl ⟨?hg1414, ?hy1414⟩) hH0 ?rest1414
                case hi1414 => (simp only [List.getElem?_toArray, List.getElem?_cons_succ, List.getElem?_cons_zero]; rfl)
                case hn1414 => kernel_rfl
                case hf1414 => kernel_rfl
                case hr1414 => kernel_rfl
                case hg1414 => rfl
                case hy1414 => (intro w hSw; (try dsimp only at hSw); go_simp; first | done | with_reducible rfl)
                case hq1414 => exact fun _ _ _ h => h
                try simp only [Act.put, List.setIfInBounds_toArray, List.set_cons_zero, List.set_cons_succ]
                refine wpAnyH_take (i := 14) (oi := ?oi1415) (v := undef) ?hi1415 ?hn1415 ?hf1415 ?hr1415 ?hq1415 (Or.inr ⟨?hg1415, rfl⟩) hH0 ?rest1415
                case hi1415 => (simp only [List.getElem?_toArray, List.getElem?_cons_succ, List.getElem?_cons_zero]; rfl)
                case hn1415 => kernel_rfl
                case hf1415 => kernel_rfl
                case hr1415 => kernel_rfl
                case hg1415 => rfl
                case hq1415 => exact fun _ _ _ h => h
                try simp only [Act.put, List.setIfInBounds_toArray, List.set_cons_zero, List.set_cons_succ]
                refine wpAnyH_take (i := 15) (oi := ?oi1416) (v := undef) ?hi1416 ?hn1416 ?hf1416 ?hr1416 ?hq1416 (Or.inr ⟨?hg1416, rfl⟩) hH0 ?rest1416
                case hi1416 => (simp only [List.getElem?_toArray, List.getElem?_cons_succ, List.getElem?_cons_zero]; rfl)
                case hn1416 => kernel_rfl
                case hf1416 => kernel_rfl
                case hr1416 => kernel_rfl
                case hg1416 => rfl
                case hq1416 => exact fun _ _ _ h => h
                try simp only [Act.put, List.setIfInBounds_toArray, List.set_cons_zero, List.set_cons_succ]
                refine wpAnyH_take (i := 16) (oi := ?oi1417) (v := undef) ?hi1417 ?hn1417 ?hf1417 ?hr1417 ?hq1417 (Or.inr ⟨?hg1417, rfl⟩) hH0 ?rest1417
                case hi1417 => (simp only [List.getElem?_toArray, List.getElem?_cons_succ, List.getElem?_cons_zero]; rfl)
                case hn1417 => kernel_rfl
                case hf1417 => kernel_rfl
                case hr1417 => kernel_rfl
                case hg1417 => rfl
                case hq1417 => exact fun _ _ _ h => h
                try simp only [Act.put, List.setIfInBounds_toArray, List.set_cons_zero, List.set_cons_succ]
                refine wpAnyH_take (i := 17) (oi := ?oi1418) (v := undef) ?hi1418 ?hn1418 ?hf1418 ?hr1418 ?hq1418 (Or.inr ⟨?hg1418, rfl⟩) hH0 ?rest1418
                case hi1418 => (simp only [List.getElem?_toArray, List.getElem?_cons_succ, List.getElem?_cons_zero]; rfl)
                case hn1418 => kernel_rfl
                case hf1418 => kernel_rfl
                case hr1418 => kernel_rfl
                case hg1418 => rfl
                case hq1418 => exact fun _ _ _ h => h
                try simp only [Act.put, List.setIfInBounds_toArray, List.set_cons_zero, List.set_cons_succ]
                refine wpAnyH_take (i := 18) (oi := ?oi1419) (v := undef) ?hi1419 ?hn1419 ?hf1419 ?hr1419 ?hq1419 (Or.inr ⟨?hg1419, rfl⟩) hH0 ?rest1419
                case hi1419 => (simp only [List.getElem?_toArray, List.getElem?_cons_succ, List.getElem?_cons_zero]; rfl)
                case hn1419 => kernel_rfl
                case hf1419 => kernel_rfl
                case hr1419 => kernel_rfl
                case hg1419 => rfl
                case hq1419 => exact fun _ _ _ h => h
                try simp only [Act.put, List.setIfInBounds_toArray, List.set_cons_zero, List.set_cons_succ]
                refine wpAnyH_take (i := 19) (oi := ?oi1420) (v := undef) ?hi1420 ?hn1420 ?hf1420 ?hr1420 ?hq1420 (Or.inr ⟨?hg1420, rfl⟩) hH0 ?rest1420
                case hi1420 => (simp only [List.getElem?_toArray, List.getElem?_cons_succ, List.getElem?_cons_zero]; rfl)
                case hn1420 => kernel_rfl
                case hf1420 => kernel_rfl
                case hr1420 => kernel_rfl
                case hg1420 => rfl
                case hq1420 => exact fun _ _ _ h => h
                try simp only [Act.put, List.setIfInBounds_toArray, List.set_cons_zero, List.set_cons_succ]
                refine wpAnyH_take (i := 20) (oi := ?oi1421) (v := undef) ?hi1421 ?hn1421 ?hf1421 ?hr1421 ?hq1421 (Or.inr ⟨?hg1421, rfl⟩) hH0 ?rest1421
                case hi1421 => (simp only [List.getElem?_toArray, List.getElem?_cons_succ, List.getElem?_cons_zero]; rfl)
                case hn1421 => kernel_rfl
                case hf1421 => kernel_rfl
                case hr1421 => kernel_rfl
                case hg1421 => rfl
                case hq1421 => exact fun _ _ _ h => h
                try simp only [Act.put, List.setIfInBounds_toArray, List.set_cons_zero, List.set_cons_succ]
                refine wpAnyH_take (i := 21) (oi := ?oi1422) (v := undef) ?hi1422 ?hn1422 ?hf1422 ?hr1422 ?hq1422 (Or.inr ⟨?hg1422, rfl⟩) hH0 ?rest1422
                case hi1422 => (simp only [List.getElem?_toArray, List.getElem?_cons_succ, List.getElem?_cons_zero]; rfl)
                case hn1422 => kernel_rfl
                case hf1422 => kernel_rfl
                case hr1422 => kernel_rfl
                case hg1422 => rfl
                case hq1422 => exact fun _ _ _ h => h
                try simp only [Act.put, List.setIfInBounds_toArray, List.set_cons_zero, List.set_cons_succ]
                refine wpAnyH_take (i := 22) (oi := ?oi1423) (v := undef) ?hi1423 ?hn1423 ?hf1423 ?hr1423 ?hq1423 (Or.inr ⟨?hg1423, rfl⟩) hH0 ?rest1423
                case hi1423 => (simp only [List.getElem?_toArray, List.getElem?_cons_succ, List.getElem?_cons_zero]; rfl)
                case hn1423 => kernel_rfl
                case hf1423 => kernel_rfl
                case hr1423 => kernel_rfl
                case hg1423 => rfl
                case hq1423 => exact fun _ _ _ h => h
                try simp only [Act.put, List.setIfInBounds_toArray, List.set_cons_zero, List.set_cons_succ]
                refine wpAnyH_take (i := 23) (oi := ?oi1424) (v := undef) ?hi1424 ?hn1424 ?hf1424 ?hr1424 ?hq1424 (Or.inr ⟨?hg1424, rfl⟩) hH0 ?rest1424
                case hi1424 => (simp only [List.getElem?_toArray, List.getElem?_cons_succ, List.getElem?_cons_zero]; rfl)
                case hn1424 => kernel_rfl
                case hf1424 => kernel_rfl
                case hr1424 => kernel_rfl
                case hg1424 => rfl
                case hq1424 => exact fun _ _ _ h => h
                try simp only [Act.put, List.setIfInBounds_toArray, List.set_cons_zero, List.set_cons_succ]
                refine wpAnyH_take (i := 24) (oi := ?oi1425) (v := undef) ?hi1425 ?hn1425 ?hf1425 ?hr1425 ?hq1425 (Or.inr ⟨?hg1425, rfl⟩) hH0 ?rest1425
                case hi1425 => (simp only [List.getElem?_toArray, List.getElem?_cons_succ, List.getElem?_cons_zero]; rfl)
                case hn1425 => kernel_rfl
                case hf1425 => kernel_rfl
                case hr1425 => kernel_rfl
                case hg1425 => rfl
                case hq1425 => exact fun _ _ _ h => h
                try simp only [Act.put, List.setIfInBounds_toArray, List.set_cons_zero, List.set_cons_succ]
                refine wpAnyH_take (i := 25) (oi := ?oi1426) (v := undef) ?hi1426 ?hn1426 ?hf1426 ?hr1426 ?hq1426 (Or.inr ⟨?hg1426, rfl⟩) hH0 ?rest1426
                case hi1426 => (simp only [List.getElem?_toArray, List.getElem?_cons_succ, List.getElem?_cons_zero]; rfl)
                case hn1426 => kernel_rfl
                case hf1426 => kernel_rfl
                case hr1426 => kernel_rfl
                case hg1426 => rfl
                case hq1426 => exact fun _ _ _ h => h
                try simp only [Act.put, List.setIfInBounds_toArray, List.set_cons_zero, List.set_cons_succ]
                refine wpAnyH_take (i := 26) (oi := ?oi1427) (v := undef) ?hi1427 ?hn1427 ?hf1427 ?hr1427 ?hq1427 (Or.inr ⟨?hg1427, rfl⟩) hH0 ?rest1427
                case hi1427 => (simp only [List.getElem?_toArray, List.getElem?_cons_succ, List.getElem?_cons_zero]; rfl)
                case hn1427 => kernel_rfl
                case hf1427 => kernel_rfl
                case hr1427 => kernel_rfl
                case hg1427 => rfl
                case hq1427 => exact fun _ _ _ h => h
                try simp only [Act.put, List.setIfInBounds_toArray, List.set_cons_zero, List.set_cons_succ]
                refine wpAnyH_take (i := 27) (oi := ?oi1428) (v := undef) ?hi1428 ?hn1428 ?hf1428 ?hr1428 ?hq1428 (Or.inr ⟨?hg1428, rfl⟩) hH0 ?rest1428
                case hi1428 => (simp only [List.getElem?_toArray, List.getElem?_cons_succ, List.getElem?_cons_zero]; rfl)
                case hn1428 => kernel_rfl
                case hf1428 => kernel_rfl
                case hr1428 => kernel_rfl
                case hg1428 => rfl
                case hq1428 => exact fun _ _ _ h => h
                try simp only [Act.put, List.setIfInBounds_toArray, List.set_cons_zero, List.set_cons_succ]
                refine wpAnyH_take (i := 28) (oi := ?oi1429) (v := undef) ?hi1429 ?hn1429 ?hf1429 ?hr1429 ?hq1429 (Or.inr ⟨?hg1429, rfl⟩) hH0 ?rest1429
                case hi1429 => (simp only [List.getElem?_toArray, List.getElem?_cons_succ, List.getElem?_cons_zero]; rfl)
                case hn1429 => kernel_rfl
                case hf1429 => kernel_rfl
                case hr1429 => kernel_rfl
                case hg1429 => rfl
                case hq1429 => exact fun _ _ _ h => h
                try simp only [Act.put, List.setIfInBounds_toArray, List.set_cons_zero, List.set_cons_succ]
                refine wpAnyH_take (i := 29) (oi := ?oi1430) (v := undef) ?hi1430 ?hn1430 ?hf1430 ?hr1430 ?hq1430 (Or.inr ⟨?hg1430, rfl⟩) hH0 ?rest1430
                case hi1430 => (simp only [List.getElem?_toArray, List.getElem?_cons_succ, List.getElem?_cons_zero]; rfl)
                case hn1430 => kernel_rfl
                case hf1430 => kernel_rfl
                case hr1430 => kernel_rfl
                case hg1430 => rfl
                case hq1430 => exact fun _ _ _ h => h
                try simp only [Act.put, List.setIfInBounds_toArray, List.set_cons_zero, List.set_cons_succ]
                refine wpAnyH_take (i := 30) (oi := ?oi1431) (v := undef) ?hi1431 ?hn1431 ?hf1431 ?hr1431 ?hq1431 (Or.inr ⟨?hg1431, rfl⟩) hH0 ?rest1431
                case hi1431 => (simp only [List.getElem?_toArray, List.getElem?_cons_succ, List.getElem?_cons_zero]; rfl)
                case hn1431 => kernel_rfl
                case hf1431 => kernel_rfl
                case hr1431 => kernel_rfl
                case hg1431 => rfl
                case hq1431 => exact fun _ _ _ h => h
                try simp only [Act.put, List.setIfInBounds_toArray, List.set_cons_zero, List.set_cons_succ]
                refine wpAnyH_take (i := 31) (oi := ?oi1432) (v := undef) ?hi1432 ?hn1432 ?hf1432 ?hr1432 ?hq1432 (Or.inr ⟨?hg1432, rfl⟩) hH0 ?rest1432
                case hi1432 => (simp only [List.getElem?_toArray, List.getElem?_cons_succ, List.getElem?_cons_zero]; rfl)
                case hn1432 => kernel_rfl
                case hf1432 => kernel_rfl
                case hr1432 => kernel_rfl
                case hg1432 => rfl
                case hq1432 => exact fun _ _ _ h => h
                try simp only [Act.put, List.setIfInBounds_toArray, List.set_cons_zero, List.set_cons_succ]
                refine wpAnyH_take (i := 32) (oi := ?oi1433) (v := undef) ?hi1433 ?hn1433 ?hf1433 ?hr1433 ?hq1433 (Or.inr ⟨?hg1433, rfl⟩) hH0 ?rest1433
                case hi1433 => (simp only [List.getElem?_toArray, List.getElem?_cons_succ, List.getElem?_cons_zero]; rfl)
                case hn1433 => kernel_rfl
                case hf1433 => kernel_rfl
                case hr1433 => kernel_rfl
                case hg1433 => rfl
                case hq1433 => exact fun _ _ _ h => h
                try simp only [Act.put, List.setIfInBounds_toArray, List.set_cons_zero, List.set_cons_succ]
                refine wpAnyH_take (i := 33) (oi := ?oi1434) (v := undef) ?hi1434 ?hn1434 ?hf1434 ?hr1434 ?hq1434 (Or.inr ⟨?hg1434, rfl⟩) hH0 ?rest1434
                case hi1434 => (simp only [List.getElem?_toArray, List.getElem?_cons_succ, List.getElem?_cons_zero]; rfl)
                case hn1434 => kernel_rfl
                case hf1434 => kernel_rfl
                case hr1434 => kernel_rfl
                case hg1434 => rfl
                case hq1434 => exact fun _ _ _ h => h
                try simp only [Act.put, List.setIfInBounds_toArray, List.set_cons_zero, List.set_cons_succ]
                refine wpAnyH_take (i := 34) (oi := ?oi1435) (v := undef) ?hi1435 ?hn1435 ?hf1435 ?hr1435 ?hq1435 (Or.inr ⟨?hg1435, rfl⟩) hH0 ?rest1435
                case hi1435 => (simp only [List.getElem?_toArray, List.getElem?_cons_succ, List.getElem?_cons_zero]; rfl)
                case hn1435 => kernel_rfl
                case hf1435 => kernel_rfl
                case hr1435 => kernel_rfl
                case hg1435 => rfl
                case hq1435 => exact fun _ _ _ h => h
                try simp only [Act.put, List.setIfInBounds_toArray, List.set_cons_zero, List.set_cons_succ]
                refine wpAnyH_take (i := 35) (oi := ?oi1436) (v := undef) ?hi1436 ?hn1436 ?hf1436 ?hr1436 ?hq1436 (Or.inr ⟨?hg1436, rfl⟩) hH0 ?rest1436
                case hi1436 => (simp only [List.getElem?_toArray, List.getElem?_cons_succ, List.getElem?_cons_zero]; rfl)
                case hn1436 => kernel_rfl
                case hf1436 => kernel_rfl
                case hr1436 => kernel_rfl
                case hg1436 => rfl
                case hq1436 => exact fun _ _ _ h => h
                try simp only [Act.put, List.setIfInBounds_toArray, List.set_cons_zero, List.set_cons_succ]
                refine wpAnyH_take (i := 36) (oi := ?oi1437) (v := ?vv1437) ?hi1437 ?hn1437 ?hf1437 ?hr1437 ?hq1437 (Or.inl ⟨?hg1437, ?hy1437⟩) hH0 ?rest1437
                case hi1437 => (simp only [List.getElem?_toArray, List.getElem?_cons_succ, List.getElem?_cons_zero]; rfl)
                case hn1437 => kernel_rfl
                case hf1437 => kernel_rfl
                case hr1437 => kernel_rfl
                case hg1437 => rfl
                case hy1437 => (intro w hSw; (try dsimp only at hSw); go_simp; first | done | with_reducible rfl)
                case hq1437 => exact fun _ _ _ h => h
                try simp only [Act.put, List.setIfInBounds_toArray, List.set_cons_zero, List.set_cons_succ]
                refine wpAnyH_take (i := 37) (oi := ?oi1438) (v := ?vv1438) ?hi1438 ?hn1438 ?hf1438 ?hr1438 ?hq1438 (Or.inl ⟨?hg1438, ?hy1438⟩) hH0 ?rest1438
                case hi1438 => (simp only [List.getElem?_toArray, List.getElem?_cons_succ, List.getElem?_cons_zero]; rfl)
                case hn1438 => kernel_rfl
                case hf1438 => kernel_rfl
                case hr1438 => kernel_rfl
                case hg1438 => rfl
                case hy1438 => (intro w hSw; (try dsimp only at hSw); go_simp; first | done | with_reducible rfl)
                case hq1438 => exact fun _ _ _ h => h
                try simp only [Act.put, List.setIfInBounds_toArray, List.set_cons_zero, List.set_cons_succ]
                refine wpAnyH_done (by kernel_rfl) ?_ _
                try simp only [List.setIfInBounds_toArray, List.set_cons_zero, List.set_cons_succ]
                go_wp2_with fail
                go_roundw
                case rel => exact ⟨i + 1 + 1, by omega, by omega, by go_num, HBd, Bsd, OCd⟩
                case measure => simp [intOf]; omega
            · obtain ⟨q, hq⟩ : ∃ q, i = q + 1 := ⟨i - 1, by omega⟩
              have H7b : decide ((l.getD q (0, 0)).1 * (l.getD i (0, 0)).2 < (l.getD i (0, 0)).1 * (l.getD q (0, 0)).2) = decide ((l.getD i (0, 0)).1 * (l.getD (i + 1) (0, 0)).2 < (l.getD (i + 1) (0, 0)).1 * (l.getD i (0, 0)).2) := by
                have h := H7.out q (by omega)
                rw [show q + 2 = i + 1 by omega, ← hq] at h
                exact h
              obtain ⟨bq1, bq2⟩ := H5.out q (by omega)
              obtain ⟨b01, b02⟩ := H5.out i (by omega)
              obtain ⟨b11, b12⟩ := H5.out (i + 1) (by omega)
              have L1 := fun w => fLess_any (l.getD q (0, 0)).1 (l.getD q (0, 0)).2 (l.getD i (0, 0)).1 (l.getD i (0, 0)).2 w bq1 bq2 b01 b02
              have L2 := fun w => fLess_any (l.getD i (0, 0)).1 (l.getD i (0, 0)).2 (l.getD (i + 1) (0, 0)).1 (l.getD (i + 1) (0, 0)).2 w b01 b02 b11 b12
              rw [H7b] at L1
              generalize decide ((l.getD i (0, 0)).1 * (l.getD (i + 1) (0, 0)).2 < (l.getD (i + 1) (0, 0)).1 * (l.getD i (0, 0)).2) = β at L1 L2
              clear H7b bq1 bq2 b01 b02 b11 b12 hi
              obtain ⟨x0, hx0⟩ : ∃ x, x = (l.getD i (0, 0)).1 := ⟨_, rfl⟩
              obtain ⟨y0, hy0⟩ : ∃ x, x = (l.getD i (0, 0)).2 := ⟨_, rfl⟩
              obtain ⟨x1, hx1⟩ : ∃ x, x = (l.getD (i + 1) (0, 0)).1 := ⟨_, rfl⟩
              obtain ⟨y1, hy1⟩ : ∃ x, x = (l.getD (i + 1) (0, 0)).2 := ⟨_, rfl⟩
              obtain ⟨xq, hxq⟩ : ∃ x, x = (l.getD q (0, 0)).1 := ⟨_, rfl⟩
              obtain ⟨yq, hyq⟩ : ∃ x, x = (l.getD q (0, 0)).2 := ⟨_, rfl⟩
              rw [← hx0, ← hy0] at V
              rw [← hx0] at c1
              rw [← hy0] at c2
              rw [← hx1, ← hy1] at V
              rw [← hx0, ← hy0, ← hxq, ← hyq] at L1
              rw [← hx0, ← hy0, ← hx1, ← hy1] at L2
              have HN := Lib.hid (And.intro hx1 hy1)
              have HM := Lib.hid (And.intro hx0 hy0)
              have HQ := Lib.hid (And.intro (And.intro hxq hyq) hq)
              clear hx0 hy0 hx1 hy1 hxq hyq hq
              refine wp_region_held_drew (S := (fun (w' : World) => w'.cell? ⟨w44.heap.size, 0, none⟩ = some (.string a) ∧ w'.cell? ⟨w44.heap.size, 1, none⟩ = some (.string b) ∧ w'.cell? ⟨g, i * 2, none⟩ = some (.int .i64 (x0 : Nat)) ∧ w'.cell? ⟨g, i * 2 + 1, none⟩ = some (.int .i64 (y0 : Nat)))) (by kernel_rfl) ⟨s1, s2, c1, c2⟩ (fun hH0 => ?_)
              refine wpAnyH_take (i := 0) (oi := ?oi1601) (v := ?vv1601) ?hi1601 ?hn1601 ?hf1601 ?hr1601 ?hq1601 (Or.inl ⟨?hg1601, ?hy1601⟩) hH0 ?rest1601
              case hi1601 => (simp only [List.getElem?_toArray, List.getElem?_cons_zero]; rfl)
              case hn1601 => kernel_rfl
              case hf1601 => kernel_rfl
              case hr1601 => kernel_rfl
              case hg1601 => rfl
              case hy1601 => (intro w hSw; (try dsimp only at hSw); go_simp; first | done | with_reducible rfl)
              case hq1601 => exact fun _ _ _ h => h
              try simp only [Act.put, List.setIfInBounds_toArray, List.set_cons_zero, List.set_cons_succ]
              refine wpAnyH_take (i := 1) (oi := ?oi1602) (v := ?vv1602) ?hi1602 ?hn1602 ?hf1602 ?hr1602 ?hq1602 (Or.inl ⟨?hg1602, ?hy1602⟩) hH0 ?rest1602
              case hi1602 => (simp only [List.getElem?_toArray, List.getElem?_cons_succ, List.getElem?_cons_zero]; rfl)
              case hn1602 => kernel_rfl
              case hf1602 => kernel_rfl
              case hr1602 => kernel_rfl
              case hg1602 => rfl
              case hy1602 => (intro w hSw; (try dsimp only at hSw); go_simp; first | done | with_reducible rfl)
              case hq1602 => exact fun _ _ _ h => h
              try simp only [Act.put, List.setIfInBounds_toArray, List.set_cons_zero, List.set_cons_succ]
              refine wpAnyH_take (i := 2) (oi := ?oi1603) (v := ?vv1603) ?hi1603 ?hn1603 ?hf1603 ?hr1603 ?hq1603 (Or.inl ⟨?hg1603, ?hy1603⟩) hH0 ?rest1603
              case hi1603 => (simp only [List.getElem?_toArray, List.getElem?_cons_succ, List.getElem?_cons_zero]; rfl)
              case hn1603 => kernel_rfl
              case hf1603 => kernel_rfl
              case hr1603 => kernel_rfl
              case hg1603 => rfl
              case hy1603 => (intro w hSw; (try dsimp only at hSw); go_simp; first | done | with_reducible rfl)
              case hq1603 => exact fun _ _ _ h => h
              try simp only [Act.put, List.setIfInBounds_toArray, List.set_cons_zero, List.set_cons_succ]
              refine wpAnyH_take (i := 3) (oi := ?oi1604) (v := ?vv1604) ?hi1604 ?hn1604 ?hf1604 ?hr1604 ?hq1604 (Or.inl ⟨?hg1604, ?hy1604⟩) hH0 ?rest1604
              case hi1604 => (simp only [List.getElem?_toArray, List.getElem?_cons_succ, List.getElem?_cons_zero]; rfl)
              case hn1604 => kernel_rfl
              case hf1604 => kernel_rfl
              case hr1604 => kernel_rfl
              case hg1604 => rfl
              case hy1604 => (intro w hSw; (try dsimp only at hSw); go_simp; first | done | with_reducible rfl)
              case hq1604 => exact fun _ _ _ h => h
              try simp only [Act.put, List.setIfInBounds_toArray, List.set_cons_zero, List.set_cons_succ]
              refine wpAnyH_take (i := 4) (oi := ?oi1605) (v := ?vv1605) ?hi1605 ?hn1605 ?hf1605 ?hr1605 ?hq1605 (Or.inl ⟨?hg1605, ?hy1605⟩) hH0 ?rest1605
              case hi1605 => (simp only [List.getElem?_toArray, List.getElem?_cons_succ, List.getElem?_cons_zero]; rfl)
              case hn1605 => kernel_rfl
              case hf1605 => kernel_rfl
              case hr1605 => kernel_rfl
              case hg1605 => rfl
              case hy1605 => (intro w hSw; (try dsimp only at hSw); go_simp; first | done | with_reducible rfl)
              case hq1605 => exact fun _ _ _ h => h
              try simp only [Act.put, List.setIfInBounds_toArray, List.set_cons_zero, List.set_cons_succ]
              refine wpAnyH_take (i := 5) (oi := ?oi1606) (v := ?vv1606) ?hi1606 ?hn1606 ?hf1606 ?hr1606 ?hq1606 (Or.inl ⟨?hg1606, ?hy1606⟩) hH0 ?rest1606
              case hi1606 => (simp only [List.getElem?_toArray, List.getElem?_cons_succ, List.getElem?_cons_zero]; rfl)
              case hn1606 => kernel_rfl
              case hf1606 => kernel_rfl
              case hr1606 => kernel_rfl
              case hg1606 => rfl
              case hy1606 => (intro w hSw; (try dsimp only at hSw); go_simp; first | done | with_reducible rfl)
              case hq1606 => exact fun _ _ _ h => h
              try simp only [Act.put, List.setIfInBounds_toArray, List.set_cons_zero, List.set_cons_succ]
              generalize wr.drew = v1 at *
              refine held_two 6 10 rfl rfl (by kernel_rfl) (fun K hK => ?_) (fun K hK => ?_)
              · go_simp
                refine (V _).mono ?_; rintro e v2 ⟨rfl, hbv⟩
                go_wp2_with fail
                refine hK.out (fun (w' : World) => w'.cell? ⟨w44.heap.size, 0, none⟩ = some (.string a) ∧ w'.cell? ⟨w44.heap.size, 1, none⟩ = some (.string b) ∧ w'.cell? ⟨g, i * 2, none⟩ = some (.int .i64 (x0 : Nat)) ∧ w'.cell? ⟨g, i * 2 + 1, none⟩ = some (.int .i64 (y0 : Nat))) _ _ (fun _ h => h) ⟨(hbv.cell (p := ⟨w44.heap.size, 0, none⟩) s3).trans s1, (hbv.cell (p := ⟨w44.heap.size, 1, none⟩) s3).trans s2, (hbv.cell (p := ⟨g, i * 2, none⟩) og).trans c1, (hbv.cell (p := ⟨g, i * 2 + 1, none⟩) og).trans c2⟩ ?_
                clear hK K
                try simp only [Act.put, List.setIfInBounds_toArray, List.set_cons_zero, List.set_cons_succ]
                refine wpAnyH_take (i := 7) (oi := ?oi1801) (v := ?vv1801) ?hi1801 ?hn1801 ?hf1801 ?hr1801 ?hq1801 (Or.inl ⟨?hg1801, ?hy1801⟩) (show (fun (w' : World) => w'.cell? ⟨w44.heap.size, 0, none⟩ = some (.string a) ∧ w'.cell? ⟨w44.heap.size, 1, none⟩ = some (.string b) ∧ w'.cell? ⟨g, i * 2, none⟩ = some (.int .i64 (x0 : Nat)) ∧ w'.cell? ⟨g, i * 2 + 1, none⟩ = some (.int .i64 (y0 : Nat))) _ from ⟨(hbv.cell (p := ⟨w44.heap.size, 0, none⟩) s3).trans s1, (hbv.cell (p := ⟨w44.heap.size, 1, none⟩) s3).trans s2, (hbv.cell (p := ⟨g, i * 2, none⟩) og).trans c1, (hbv.cell (p := ⟨g, i * 2 + 1, none⟩) og).trans c2⟩) ?rest1801
                case hi1801 => (simp only [List.getElem?_toArray, List.getElem?_cons_succ, List.getElem?_cons_zero]; rfl)
                case hn1801 => kernel_rfl
                case hf1801 => kernel_rfl
                case hr1801 => kernel_rfl
                case hg1801 => rfl
                case hy1801 => (intro w hSw; (try dsimp only at hSw); go_simp; first | done | with_reducible rfl)
                case hq1801 => exact fun _ _ _ h => h
                try simp only [Act.put, List.setIfInBounds_toArray, List.set_cons_zero, List.set_cons_succ]
                refine wpAnyH_take (i := 8) (oi := ?oi1802) (v := ?vv1802) ?hi1802 ?hn1802 ?hf1802 ?hr1802 ?hq1802 (Or.inl ⟨?hg1802, ?hy1802⟩) (show (fun (w' : World) => w'.cell? ⟨w44.heap.size, 0, none⟩ = some (.string a) ∧ w'.cell? ⟨w44.heap.size, 1, none⟩ = some (.string b) ∧ w'.cell? ⟨g, i * 2, none⟩ = some (.int .i64 (x0 : Nat)) ∧ w'.cell? ⟨g, i * 2 + 1, none⟩ = some (.int .i64 (y0 : Nat))) _ from ⟨(hbv.cell (p := ⟨w44.heap.size, 0, none⟩) s3).trans s1, (hbv.cell (p := ⟨w44.heap.size, 1, none⟩) s3).trans s2, (hbv.cell (p := ⟨g, i * 2, none⟩) og).trans c1, (hbv.cell (p := ⟨g, i * 2 + 1, none⟩) og).trans c2⟩) ?rest1802
                case hi1802 => (simp only [List.getElem?_toArray, List.getElem?_cons_succ, List.getElem?_cons_zero]; rfl)
                case hn1802 => kernel_rfl
                case hf1802 => kernel_rfl
                case hr1802 => kernel_rfl
                case hg1802 => rfl
                case hy1802 => (intro w hSw; (try dsimp only at hSw); go_simp; first | done | with_reducible rfl)
                case hq1802 => exact fun _ _ _ h => h
                try simp only [Act.put, List.setIfInBounds_toArray, List.set_cons_zero, List.set_cons_succ]
                refine wpAnyH_take (i := 9) (oi := ?oi1803) (v := ?vv1803) ?hi1803 ?hn1803 ?hf1803 ?hr1803 ?hq1803 (Or.inl ⟨?hg1803, ?hy1803⟩) (show (fun (w' : World) => w'.cell? ⟨w44.heap.size, 0, none⟩ = some (.string a) ∧ w'.cell? ⟨w44.heap.size, 1, none⟩ = some (.string b) ∧ w'.cell? ⟨g, i * 2, none⟩ = some (.int .i64 (x0 : Nat)) ∧ w'.cell? ⟨g, i * 2 + 1, none⟩ = some (.int .i64 (y0 : Nat))) _ from ⟨(hbv.cell (p := ⟨w44.heap.size, 0, none⟩) s3).trans s1, (hbv.cell (p := ⟨w44.heap.size, 1, none⟩) s3).trans s2, (hbv.cell (p := ⟨g, i * 2, none⟩) og).trans c1, (hbv.cell (p := ⟨g, i * 2 + 1, none⟩) og).trans c2⟩) ?rest1803
                case hi1803 => (simp only [List.getElem?_toArray, List.getElem?_cons_succ, List.getElem?_cons_zero]; rfl)
                case hn1803 => kernel_rfl
                case hf1803 => kernel_rfl
                case hr1803 => kernel_rfl
                case hg1803 => rfl
                case hy1803 => (intro w hSw; (try dsimp only at hSw); go_simp; first | done | with_reducible rfl)
                case hq1803 => exact fun _ _ _ h => h
                try simp only [Act.put, List.setIfInBounds_toArray, List.set_cons_zero, List.set_cons_succ]
                refine held_one 10 rfl (by kernel_rfl) (fun K hK => ?_)
                go_simp
                refine hK.out (fun (w' : World) => w'.cell? ⟨w44.heap.size, 0, none⟩ = some (.string a) ∧ w'.cell? ⟨w44.heap.size, 1, none⟩ = some (.string b) ∧ w'.cell? ⟨g, i * 2, none⟩ = some (.int .i64 (x0 : Nat)) ∧ w'.cell? ⟨g, i * 2 + 1, none⟩ = some (.int .i64 (y0 : Nat))) _ _ (fun _ h => h) (show (fun (w' : World) => w'.cell? ⟨w44.heap.size, 0, none⟩ = some (.string a) ∧ w'.cell? ⟨w44.heap.size, 1, none⟩ = some (.string b) ∧ w'.cell? ⟨g, i * 2, none⟩ = some (.int .i64 (x0 : Nat)) ∧ w'.cell? ⟨g, i * 2 + 1, none⟩ = some (.int .i64 (y0 : Nat))) (v2.alloc (.cells #[.int .i64 0, .int .i64 0] 42 (0, 0))) from by have hbv := (nxAlloc hbv (.cells #[.int .i64 0, .int .i64 0] 42 (0, 0))); exact ⟨(hbv.cell (p := ⟨w44.heap.size, 0, none⟩) s3).trans s1, (hbv.cell (p := ⟨w44.heap.size, 1, none⟩) s3).trans s2, (hbv.cell (p := ⟨g, i * 2, none⟩) og).trans c1, (hbv.cell (p := ⟨g, i * 2 + 1, none⟩) og).trans c2⟩) ?_
                clear hK K
                try simp only [Act.put, List.setIfInBounds_toArray, List.set_cons_zero, List.set_cons_succ]
                obtain ⟨gx, hgx⟩ : ∃ x, x = v2.heap.size := ⟨_, rfl⟩
                have hgx2 : v1.heap.size ≤ gx := by rw [hgx]; exact hbv.size
                have HX := Lib.hid (heap_alloc_at v2 (.cells #[.int .i64 0, .int .i64 0] 42 (0, 0)))
                replace hbv := nxAlloc hbv (.cells #[.int .i64 0, .int .i64 0] 42 (0, 0))
                rw [← hgx] at HX ⊢
                clear hgx
                generalize v2.alloc (.cells #[.int .i64 0, .int .i64 0] 42 (0, 0)) = v5 at *
                have hbz := (hbv.setCell (p := ⟨gx, 0, none⟩) hgx2 (.int .i64 (x1 : Nat))).setCell (p := ⟨gx, 1, none⟩) hgx2 (.int .i64 (y1 : Nat))
                obtain ⟨fx1, fx2, fx3⟩ := two_facts HX.out
                obtain ⟨fx4, fx5⟩ := two_frozen HX.out
                refine held_one 11 rfl (by kernel_rfl) (fun K hK => ?_)
                go_simp
                refine hK.out (fun (w' : World) => w'.cell? ⟨w44.heap.size, 0, none⟩ = some (.string a) ∧ w'.cell? ⟨w44.heap.size, 1, none⟩ = some (.string b) ∧ w'.cell? ⟨g, i * 2, none⟩ = some (.int .i64 (x0 : Nat)) ∧ w'.cell? ⟨g, i * 2 + 1, none⟩ = some (.int .i64 (y0 : Nat))) _ _ (fun _ h => h) (show (fun (w' : World) => w'.cell? ⟨w44.heap.size, 0, none⟩ = some (.string a) ∧ w'.cell? ⟨w44.heap.size, 1, none⟩ = some (.string b) ∧ w'.cell? ⟨g, i * 2, none⟩ = some (.int .i64 (x0 : Nat)) ∧ w'.cell? ⟨g, i * 2 + 1, none⟩ = some (.int .i64 (y0 : Nat))) ((v5.setCell ⟨gx, 0, none⟩ (.int .i64 (x1 : Nat))).setCell ⟨gx, 1, none⟩ (.int .i64 (y1 : Nat))) from by have hbv := hbz; exact ⟨(hbv.cell (p := ⟨w44.heap.size, 0, none⟩) s3).trans s1, (hbv.cell (p := ⟨w44.heap.size, 1, none⟩) s3).trans s2, (hbv.cell (p := ⟨g, i * 2, none⟩) og).trans c1, (hbv.cell (p := ⟨g, i * 2 + 1, none⟩) og).trans c2⟩) ?_
                clear hK K
                try simp only [Act.put, List.setIfInBounds_toArray, List.set_cons_zero, List.set_cons_succ]
                replace hbv := hbz
                replace HX := Lib.hid (set_two (.int .i64 (x1 : Nat)) (.int .i64 (y1 : Nat)) HX.out)
                clear hbz fx1 fx2 fx3 fx4 fx5
                generalize ((v5.setCell ⟨gx, 0, none⟩ (.int .i64 (x1 : Nat))).setCell ⟨gx, 1, none⟩ (.int .i64 (y1 : Nat))) = v9 at *
                refine wpAnyH_take (i := 12) (oi := ?oi2001) (v := ?vv2001) ?hi2001 ?hn2001 ?hf2001 ?hr2001 ?hq2001 (Or.inl ⟨?hg2001, ?hy2001⟩) (show (fun (w' : World) => w'.cell? ⟨w44.heap.size, 0, none⟩ = some (.string a) ∧ w'.cell? ⟨w44.heap.size, 1, none⟩ = some (.string b) ∧ w'.cell? ⟨g, i * 2, none⟩ = some (.int .i64 (x0 : Nat)) ∧ w'.cell? ⟨g, i * 2 + 1, none⟩ = some (.int .i64 (y0 : Nat))) _ from ⟨(hbv.cell (p := ⟨w44.heap.size, 0, none⟩) s3).trans s1, (hbv.cell (p := ⟨w44.heap.size, 1, none⟩) s3).trans s2, (hbv.cell (p := ⟨g, i * 2, none⟩) og).trans c1, (hbv.cell (p := ⟨g, i * 2 + 1, none⟩) og).trans c2⟩) ?rest2001
                case hi2001 => (simp only [List.getElem?_toArray, List.getElem?_cons_succ, List.getElem?_cons_zero]; rfl)
                case hn2001 => kernel_rfl
                case hf2001 => kernel_rfl
                case hr2001 => kernel_rfl
                case hg2001 => rfl
                case hy2001 => (intro w hSw; (try dsimp only at hSw); go_simp; first | done | with_reducible rfl)
                case hq2001 => exact fun _ _ _ h => h
                try simp only [Act.put, List.setIfInBounds_toArray, List.set_cons_zero, List.set_cons_succ]
                refine wpAnyH_done (by kernel_rfl) ?_ _
                replace HB := Lib.hid (nx HB.out hbv)
                replace Bs := Lib.hid (heap_keep hbv Bs.out)
                replace OC := Lib.hid (OC.out.keep hbv)
                clear V s1 s2 s3 c1 c2 og hgx2 hbv
                go_upto_region 33 with fail
                have HBd : Hid (Below W.heap.size W v9.drew) := Lib.hid HB.out.drew
                have Bsd : Hid (v9.drew.heap[w44.heap.size]? = some (.cells #[.string a, .string b] 25 (0, 0))) := Lib.hid Bs.out
                have OCd : Hid (OrbC v9.drew g l) := Lib.hid OC.out
                have HXd : Hid (v9.drew.heap[gx]? = some (.cells #[.int .i64 (x1 : Nat), .int .i64 (y1 : Nat)] 42 (0, 0))) := Lib.hid HX.out
                clear HB Bs OC HX
                obtain ⟨n1, n2⟩ := OCd.out.2 (i + 1) (by omega)
                obtain ⟨hN1, hN2⟩ := HN.out
                rw [← hN1] at n1
                rw [← hN2] at n2
                clear hN1 hN2 HN
                obtain ⟨hN1, hN2⟩ := HM.out
                obtain ⟨n3, n4⟩ := OCd.out.2 i (by omega)
                rw [← hN1] at n3
                rw [← hN2] at n4
                clear hN1 hN2 HM
                obtain ⟨hN1, hN2⟩ := HQ.out.1
                obtain ⟨n5, n6⟩ := OCd.out.2 q (by have := HQ.out.2; omega)
                rw [← hN1] at n5
                rw [← hN2] at n6
                clear hN1 hN2
                have og := OCd.out.1
                obtain ⟨m1, m2, m3⟩ := two_facts HXd.out
                have hw4 : 0 ≤ (i : Int) + 1 ∧ (i : Int) + 1 < (l.length : Int) := by omega
                have hg1 : (1 : Int) < (i : Int) + 1 := by have := HQ.out.2; omega
                have hg2 : 0 < i := by have := HQ.out.2; omega
                have hg3 : (0 : Int) < (i : Int) := by have := HQ.out.2; omega
                have hw5 : IntKind.i64.wrap ((i : Int) + 1 - 2) = (q : Int) := by have := HQ.out.2; rw [IntKind.wrap_i64] <;> omega
                have hw6 : IntKind.i64.wrap ((i : Int) - 1) = (q : Int) := by have := HQ.out.2; rw [IntKind.wrap_i64] <;> omega
                have hw7 : 0 ≤ (q : Int) ∧ (q : Int) < (l.length : Int) := by have := HQ.out.2; omega
                refine wp_region_held_drew (S := (fun (w' : World) => w'.cell? ⟨gx, 0, none⟩ = some (.int .i64 (x1 : Nat)) ∧ w'.cell? ⟨gx, 1, none⟩ = some (.int .i64 (y1 : Nat)) ∧ w'.cell? ⟨g, (i + 1) * 2, none⟩ = some (.int .i64 (x1 : Nat)) ∧ w'.cell? ⟨g, (i + 1) * 2 + 1, none⟩ = some (.int .i64 (y1 : Nat)) ∧ w'.cell? ⟨g, i * 2, none⟩ = some (.int .i64 (x0 : Nat)) ∧ w'.cell? ⟨g, i * 2 + 1, none⟩ = some (.int .i64 (y0 : Nat)) ∧ w'.cell? ⟨g, q * 2, none⟩ = some (.int .i64 (xq : Nat)) ∧ w'.cell? ⟨g, q * 2 + 1, none⟩ = some (.int .i64 (yq : Nat)))) (by kernel_rfl) ⟨m1, m2, n1, n2, n3, n4, n5, n6⟩ (fun hH0 => ?_)
                refine wpAnyH_take (i := 0) (oi := ?oi2201) (v := ?vv2201) ?hi2201 ?hn2201 ?hf2201 ?hr2201 ?hq2201 (Or.inl ⟨?hg2201, ?hy2201⟩) hH0 ?rest2201
                case hi2201 => (simp only [List.getElem?_toArray, List.getElem?_cons_zero]; rfl)
                case hn2201 => kernel_rfl
                case hf2201 => kernel_rfl
                case hr2201 => kernel_rfl
                case hg2201 => rfl
                case hy2201 => (intro w hSw; (try dsimp only at hSw); go_simp; first | done | with_reducible rfl)
                case hq2201 => exact fun _ _ _ h => h
                try simp only [Act.put, List.setIfInBounds_toArray, List.set_cons_zero, List.set_cons_succ]
                refine wpAnyH_take (i := 1) (oi := ?oi2202) (v := ?vv2202) ?hi2202 ?hn2202 ?hf2202 ?hr2202 ?hq2202 (Or.inl ⟨?hg2202, ?hy2202⟩) hH0 ?rest2202
                case hi2202 => (simp only [List.getElem?_toArray, List.getElem?_cons_succ, List.getElem?_cons_zero]; rfl)
                case hn2202 => kernel_rfl
                case hf2202 => kernel_rfl
                case hr2202 => kernel_rfl
                case hg2202 => rfl
                case hy2202 => (intro w hSw; (try dsimp only at hSw); go_simp; first | done | with_reducible rfl)
                case hq2202 => exact fun _ _ _ h => h
                try simp only [Act.put, List.setIfInBounds_toArray, List.set_cons_zero, List.set_cons_succ]
                refine wpAnyH_take (i := 2) (oi := ?oi2203) (v := ?vv2203) ?hi2203 ?hn2203 ?hf2203 ?hr2203 ?hq2203 (Or.inl ⟨?hg2203, ?hy2203⟩) hH0 ?rest2203
                case hi2203 => (simp only [List.getElem?_toArray, List.getElem?_cons_succ, List.getElem?_cons_zero]; rfl)
                case hn2203 => kernel_rfl
                case hf2203 => kernel_rfl
                case hr2203 => kernel_rfl
                case hg2203 => rfl
                case hy2203 => (intro w hSw; (try dsimp only at hSw); go_simp; first | done | with_reducible rfl)
                case hq2203 => exact fun _ _ _ h => h
                try simp only [Act.put, List.setIfInBounds_toArray, List.set_cons_zero, List.set_cons_succ]
                refine wpAnyH_take (i := 3) (oi := ?oi2204) (v := ?vv2204) ?hi2204 ?hn2204 ?hf2204 ?hr2204 ?hq2204 (Or.inl ⟨?hg2204, ?hy2204⟩) hH0 ?rest2204
                case hi2204 => (simp only [List.getElem?_toArray, List.getElem?_cons_succ, List.getElem?_cons_zero]; rfl)
                case hn2204 => kernel_rfl
                case hf2204 => kernel_rfl
                case hr2204 => kernel_rfl
                case hg2204 => rfl
                case hy2204 => (intro w hSw; (try dsimp only at hSw); go_simp; first | done | with_reducible rfl)
                case hq2204 => exact fun _ _ _ h => h
                try simp only [Act.put, List.setIfInBounds_toArray, List.set_cons_zero, List.set_cons_succ]
                refine wpAnyH_take (i := 4) (oi := ?oi2205) (v := ?vv2205) ?hi2205 ?hn2205 ?hf2205 ?hr2205 ?hq2205 (Or.inl ⟨?hg2205, ?hy2205⟩) hH0 ?rest2205
                case hi2205 => (simp only [List.getElem?_toArray, List.getElem?_cons_succ, List.getElem?_cons_zero]; rfl)
                case hn2205 => kernel_rfl
                case hf2205 => kernel_rfl
                case hr2205 => kernel_rfl
                case hg2205 => rfl
                case hy2205 => (intro w hSw; (try dsimp only at hSw); go_simp; first | done | with_reducible rfl)
                case hq2205 => exact fun _ _ _ h => h
                try simp only [Act.put, List.setIfInBounds_toArray, List.set_cons_zero, List.set_cons_succ]
                refine wpAnyH_take (i := 5) (oi := ?oi2206) (v := ?vv2206) ?hi2206 ?hn2206 ?hf2206 ?hr2206 ?hq2206 (Or.inl ⟨?hg2206, ?hy2206⟩) hH0 ?rest2206
                case hi2206 => (simp only [List.getElem?_toArray, List.getElem?_cons_succ, List.getElem?_cons_zero]; rfl)
                case hn2206 => kernel_rfl
                case hf2206 => kernel_rfl
                case hr2206 => kernel_rfl
                case hg2206 => rfl
                case hy2206 => (intro w hSw; (try dsimp only at hSw); go_simp; first | done | with_reducible rfl)
                case hq2206 => exact fun _ _ _ h => h
                try simp only [Act.put, List.setIfInBounds_toArray, List.set_cons_zero, List.set_cons_succ]
                refine wpAnyH_take (i := 6) (oi := ?oi2207) (v := ?vv2207) ?hi2207 ?hn2207 ?hf2207 ?hr2207 ?hq2207 (Or.inl ⟨?hg2207, ?hy2207⟩) hH0 ?rest2207
                case hi2207 => (simp only [List.getElem?_toArray, List.getElem?_cons_succ, List.getElem?_cons_zero]; rfl)
                case hn2207 => kernel_rfl
                case hf2207 => kernel_rfl
                case hr2207 => kernel_rfl
                case hg2207 => rfl
                case hy2207 => (intro w hSw; (try dsimp only at hSw); go_simp; first | done | with_reducible rfl)
                case hq2207 => exact fun _ _ _ h => h
                try simp only [Act.put, List.setIfInBounds_toArray, List.set_cons_zero, List.set_cons_succ]
                refine wpAnyH_take (i := 7) (oi := ?oi2208) (v := ?vv2208) ?hi2208 ?hn2208 ?hf2208 ?hr2208 ?hq2208 (Or.inl ⟨?hg2208, ?hy2208⟩) hH0 ?rest2208
                case hi2208 => (simp only [List.getElem?_toArray, List.getElem?_cons_succ, List.getElem?_cons_zero]; rfl)
                case hn2208 => kernel_rfl
                case hf2208 => kernel_rfl
                case hr2208 => kernel_rfl
                case hg2208 => rfl
                case hy2208 => (intro w hSw; (try dsimp only at hSw); go_simp; first | done | with_reducible rfl)
                case hq2208 => exact fun _ _ _ h => h
                try simp only [Act.put, List.setIfInBounds_toArray, List.set_cons_zero, List.set_cons_succ]
                refine wpAnyH_take (i := 8) (oi := ?oi2209) (v := ?vv2209) ?hi2209 ?hn2209 ?hf2209 ?hr2209 ?hq2209 (Or.inl ⟨?hg2209, ?hy2209⟩) hH0 ?rest2209
                case hi2209 => (simp only [List.getElem?_toArray, List.getElem?_cons_succ, List.getElem?_cons_zero]; rfl)
                case hn2209 => kernel_rfl
                case hf2209 => kernel_rfl
                case hr2209 => kernel_rfl
                case hg2209 => rfl
                case hy2209 => (intro w hSw; (try dsimp only at hSw); go_simp; first | done | with_reducible rfl)
                case hq2209 => exact fun _ _ _ h => h
                try simp only [Act.put, List.setIfInBounds_toArray, List.set_cons_zero, List.set_cons_succ]
                refine wpAnyH_take (i := 9) (oi := ?oi2210) (v := ?vv2210) ?hi2210 ?hn2210 ?hf2210 ?hr2210 ?hq2210 (Or.inl ⟨?hg2210, ?hy2210⟩) hH0 ?rest2210
                case hi2210 => (simp only [List.getElem?_toArray, List.getElem?_cons_succ, List.getElem?_cons_zero]; rfl)
                case hn2210 => kernel_rfl
                case hf2210 => kernel_rfl
                case hr2210 => kernel_rfl
                case hg2210 => rfl
                case hy2210 => (intro w hSw; (try dsimp only at hSw); go_simp; first | done | with_reducible rfl)
                case hq2210 => exact fun _ _ _ h => h
                try simp only [Act.put, List.setIfInBounds_toArray, List.set_cons_zero, List.set_cons_succ]
                refine wpAnyH_take (i := 10) (oi := ?oi2211) (v := ?vv2211) ?hi2211 ?hn2211 ?hf2211 ?hr2211 ?hq2211 (Or.inl ⟨?hg2211, ?hy2211⟩) hH0 ?rest2211
                case hi2211 => (simp only [List.getElem?_toArray, List.getElem?_cons_succ, List.getElem?_cons_zero]; rfl)
                case hn2211 => kernel_rfl
                case hf2211 => kernel_rfl
                case hr2211 => kernel_rfl
                case hg2211 => rfl
                case hy2211 => (intro w hSw; (try dsimp only at hSw); go_simp; first | done | with_reducible rfl)
                case hq2211 => exact fun _ _ _ h => h
                try simp only [Act.put, List.setIfInBounds_toArray, List.set_cons_zero, List.set_cons_succ]
                refine wpAnyH_take (i := 11) (oi := ?oi2212) (v := ?vv2212) ?hi2212 ?hn2212 ?hf2212 ?hr2212 ?hq2212 (Or.inl ⟨?hg2212, ?hy2212⟩) hH0 ?rest2212
                case hi2212 => (simp only [List.getElem?_toArray, List.getElem?_cons_succ, List.getElem?_cons_zero]; rfl)
                case hn2212 => kernel_rfl
                case hf2212 => kernel_rfl
                case hr2212 => kernel_rfl
                case hg2212 => rfl
                case hy2212 => (intro w hSw; (try dsimp only at hSw); go_simp; first | done | with_reducible rfl)
                case hq2212 => exact fun _ _ _ h => h
                try simp only [Act.put, List.setIfInBounds_toArray, List.set_cons_zero, List.set_cons_succ]
                refine wpAnyH_take (i := 12) (oi := ?oi2213) (v := ?vv2213) ?hi2213 ?hn2213 ?hf2213 ?hr2213 ?hq2213 (Or.inl ⟨?hg2213, ?hy2213⟩) hH0 ?rest2213
                case hi2213 => (simp only [List.getElem?_toArray, List.getElem?_cons_succ, List.getElem?_cons_zero]; rfl)
                case hn2213 => kernel_rfl
                case hf2213 => kernel_rfl
                case hr2213 => kernel_rfl
                case hg2213 => rfl
                case hy2213 => (intro w hSw; (try dsimp only at hSw); go_simp; first | done | with_reducible rfl)
                case hq2213 => exact fun _ _ _ h => h
                try simp only [Act.put, List.setIfInBounds_toArray, List.set_cons_zero, List.set_cons_succ]
                refine wpAnyH_take (i := 13) (oi := ?oi2214) (v := ?vv2214) ?hi2214 ?hn2214 ?hf2214 ?hr2214 ?hq2214 (Or.inl ⟨?hg2214, ?hy2214⟩) hH0 ?rest2214
                case hi2214 => (simp only [List.getElem?_toArray, List.getElem?_cons_succ, List.getElem?_cons_zero]; rfl)
                case hn2214 => kernel_rfl
                case hf2214 => kernel_rfl
                case hr2214 => kernel_rfl
                case hg2214 => rfl
                case hy2214 => (intro w hSw; (try dsimp only at hSw); go_simp; first | done | with_reducible rfl)
                case hq2214 => exact fun _ _ _ h => h
                try simp only [Act.put, List.setIfInBounds_toArray, List.set_cons_zero, List.set_cons_succ]
                refine wpAnyH_take (i := 14) (oi := ?oi2215) (v := ?vv2215) ?hi2215 ?hn2215 ?hf2215 ?hr2215 ?hq2215 (Or.inl ⟨?hg2215, ?hy2215⟩) hH0 ?rest2215
                case hi2215 => (simp only [List.getElem?_toArray, List.getElem?_cons_succ, List.getElem?_cons_zero]; rfl)
                case hn2215 => kernel_rfl
                case hf2215 => kernel_rfl
                case hr2215 => kernel_rfl
                case hg2215 => rfl
                case hy2215 => (intro w hSw; (try dsimp only at hSw); go_simp; first | done | with_reducible rfl)
                case hq2215 => exact fun _ _ _ h => h
                try simp only [Act.put, List.setIfInBounds_toArray, List.set_cons_zero, List.set_cons_succ]
                refine wpAnyH_take (i := 15) (oi := ?oi2216) (v := ?vv2216) ?hi2216 ?hn2216 ?hf2216 ?hr2216 ?hq2216 (Or.inl ⟨?hg2216, ?hy2216⟩) hH0 ?rest2216
                case hi2216 => (simp only [List.getElem?_toArray, List.getElem?_cons_succ, List.getElem?_cons_zero]; rfl)
                case hn2216 => kernel_rfl
                case hf2216 => kernel_rfl
                case hr2216 => kernel_rfl
                case hg2216 => rfl
                case hy2216 => (intro w hSw; (try dsimp only at hSw); go_simp; first | done | with_reducible rfl)
                case hq2216 => exact fun _ _ _ h => h
                try simp only [Act.put, List.setIfInBounds_toArray, List.set_cons_zero, List.set_cons_succ]
                refine wpAnyH_take (i := 16) (oi := ?oi2217) (v := ?vv2217) ?hi2217 ?hn2217 ?hf2217 ?hr2217 ?hq2217 (Or.inl ⟨?hg2217, ?hy2217⟩) hH0 ?rest2217
                case hi2217 => (simp only [List.getElem?_toArray, List.getElem?_cons_succ, List.getElem?_cons_zero]; rfl)
                case hn2217 => kernel_rfl
                case hf2217 => kernel_rfl
                case hr2217 => kernel_rfl
                case hg2217 => rfl
                case hy2217 => (intro w hSw; (try dsimp only at hSw); go_simp; first | done | with_reducible rfl)
                case hq2217 => exact fun _ _ _ h => h
                try simp only [Act.put, List.setIfInBounds_toArray, List.set_cons_zero, List.set_cons_succ]
                refine wpAnyH_take (i := 17) (oi := ?oi2218) (v := ?vv2218) ?hi2218 ?hn2218 ?hf2218 ?hr2218 ?hq2218 (Or.inl ⟨?hg2218, ?hy2218⟩) hH0 ?rest2218
                case hi2218 => (simp only [List.getElem?_toArray, List.getElem?_cons_succ, List.getElem?_cons_zero]; rfl)
                case hn2218 => kernel_rfl
                case hf2218 => kernel_rfl
                case hr2218 => kernel_rfl
                case hg2218 => rfl
                case hy2218 => (intro w hSw; (try dsimp only at hSw); go_simp; first | done | with_reducible rfl)
                case hq2218 => exact fun _ _ _ h => h
                try simp only [Act.put, List.setIfInBounds_toArray, List.set_cons_zero, List.set_cons_succ]
                refine wpAnyH_take (i := 18) (oi := ?oi2219) (v := ?vv2219) ?hi2219 ?hn2219 ?hf2219 ?hr2219 ?hq2219 (Or.inl ⟨?hg2219, ?hy2219⟩) hH0 ?rest2219
                case hi2219 => (simp only [List.getElem?_toArray, List.getElem?_cons_succ, List.getElem?_cons_zero]; rfl)
                case hn2219 => kernel_rfl
                case hf2219 => kernel_rfl
                case hr2219 => kernel_rfl
                case hg2219 => rfl
                case hy2219 => (intro w hSw; (try dsimp only at hSw); go_simp; first | done | with_reducible rfl)
                case hq2219 => exact fun _ _ _ h => h
                try simp only [Act.put, List.setIfInBounds_toArray, List.set_cons_zero, List.set_cons_succ]
                refine wpAnyH_take (i := 19) (oi := ?oi2220) (v := ?vv2220) ?hi2220 ?hn2220 ?hf2220 ?hr2220 ?hq2220 (Or.inl ⟨?hg2220, ?hy2220⟩) hH0 ?rest2220
                case hi2220 => (simp only [List.getElem?_toArray, List.getElem?_cons_succ, List.getElem?_cons_zero]; rfl)
                case hn2220 => kernel_rfl
                case hf2220 => kernel_rfl
                case hr2220 => kernel_rfl
                case hg2220 => rfl
                case hy2220 => (intro w hSw; (try dsimp only at hSw); go_simp; first | done | with_reducible rfl)
                case hq2220 => exact fun _ _ _ h => h
                try simp only [Act.put, List.setIfInBounds_toArray, List.set_cons_zero, List.set_cons_succ]
                refine wpAnyH_take (i := 20) (oi := ?oi2221) (v := ?vv2221) ?hi2221 ?hn2221 ?hf2221 ?hr2221 ?hq2221 (Or.inl ⟨?hg2221, ?hy2221⟩) hH0 ?rest2221
                case hi2221 => (simp only [List.getElem?_toArray, List.getElem?_cons_succ, List.getElem?_cons_zero]; rfl)
                case hn2221 => kernel_rfl
                case hf2221 => kernel_rfl
                case hr2221 => kernel_rfl
                case hg2221 => rfl
                case hy2221 => (intro w hSw; (try dsimp only at hSw); go_simp; first | done | with_reducible rfl)
                case hq2221 => exact fun _ _ _ h => h
                try simp only [Act.put, List.setIfInBounds_toArray, List.set_cons_zero, List.set_cons_succ]
                refine wpAnyH_take (i := 21) (oi := ?oi2222) (v := ?vv2222) ?hi2222 ?hn2222 ?hf2222 ?hr2222 ?hq2222 (Or.inl ⟨?hg2222, ?hy2222⟩) hH0 ?rest2222
                case hi2222 => (simp only [List.getElem?_toArray, List.getElem?_cons_succ, List.getElem?_cons_zero]; rfl)
                case hn2222 => kernel_rfl
                case hf2222 => kernel_rfl
                case hr2222 => kernel_rfl
                case hg2222 => rfl
                case hy2222 => (intro w hSw; (try dsimp only at hSw); go_simp; first | done | with_reducible rfl)
                case hq2222 => exact fun _ _ _ h => h
                try simp only [Act.put, List.setIfInBounds_toArray, List.set_cons_zero, List.set_cons_succ]
                refine wpAnyH_take (i := 22) (oi := ?oi2223) (v := ?vv2223) ?hi2223 ?hn2223 ?hf2223 ?hr2223 ?hq2223 (Or.inl ⟨?hg2223, ?hy2223⟩) hH0 ?rest2223
                case hi2223 => (simp only [List.getElem?_toArray, List.getElem?_cons_succ, List.getElem?_cons_zero]; rfl)
                case hn2223 => kernel_rfl
                case hf2223 => kernel_rfl
                case hr2223 => kernel_rfl
                case hg2223 => rfl
                case hy2223 => (intro w hSw; (try dsimp only at hSw); go_simp; first | done | with_reducible rfl)
                case hq2223 => exact fun _ _ _ h => h
                try simp only [Act.put, List.setIfInBounds_toArray, List.set_cons_zero, List.set_cons_succ]
                refine wpAnyH_take (i := 23) (oi := ?oi2224) (v := ?vv2224) ?hi2224 ?hn2224 ?hf2224 ?hr2224 ?hq2224 (Or.inl ⟨?hg2224, ?hy2224⟩) hH0 ?rest2224
                case hi2224 => (simp only [List.getElem?_toArray, List.getElem?_cons_succ, List.getElem?_cons_zero]; rfl)
                case hn2224 => kernel_rfl
                case hf2224 => kernel_rfl
                case hr2224 => kernel_rfl
                case hg2224 => rfl
                case hy2224 => (intro w hSw; (try dsimp only at hSw); go_simp; first | done | with_reducible rfl)
                case hq2224 => exact fun _ _ _ h => h
                try simp only [Act.put, List.setIfInBounds_toArray, List.set_cons_zero, List.set_cons_succ]
                refine wpAnyH_take (i := 25) (oi := ?oi2225) (v := ?vv2225) ?hi2225 ?hn2225 ?hf2225 ?hr2225 ?hq2225 (Or.inl ⟨?hg2225, ?hy2225⟩) hH0 ?rest2225
                case hi2225 => (simp only [List.getElem?_toArray, List.getElem?_cons_succ, List.getElem?_cons_zero]; rfl)
                case hn2225 => kernel_rfl
                case hf2225 => kernel_rfl
                case hr2225 => kernel_rfl
                case hg2225 => rfl
                case hy2225 => (intro w hSw; (try dsimp only at hSw); go_simp; first | done | with_reducible rfl)
                case hq2225 => exact fun _ _ _ h => h
                try simp only [Act.put, List.setIfInBounds_toArray, List.set_cons_zero, List.set_cons_succ]
                refine wpAnyH_take (i := 26) (oi := ?oi2226) (v := ?vv2226) ?hi2226 ?hn2226 ?hf2226 ?hr2226 ?hq2226 (Or.inl ⟨?hg2226, ?hy2226⟩) hH0 ?rest2226
                case hi2226 => (simp only [List.getElem?_toArray, List.getElem?_cons_succ, List.getElem?_cons_zero]; rfl)
                case hn2226 => kernel_rfl
                case hf2226 => kernel_rfl
                case hr2226 => kernel_rfl
                case hg2226 => rfl
                case hy2226 => (intro w hSw; (try dsimp only at hSw); go_simp; first | done | with_reducible rfl)
                case hq2226 => exact fun _ _ _ h => h
                try simp only [Act.put, List.setIfInBounds_toArray, List.set_cons_zero, List.set_cons_succ]
                refine wpAnyH_take (i := 27) (oi := ?oi2227) (v := ?vv2227) ?hi2227 ?hn2227 ?hf2227 ?hr2227 ?hq2227 (Or.inl ⟨?hg2227, ?hy2227⟩) hH0 ?rest2227
                case hi2227 => (simp only [List.getElem?_toArray, List.getElem?_cons_succ, List.getElem?_cons_zero]; rfl)
                case hn2227 => kernel_rfl
                case hf2227 => kernel_rfl
                case hr2227 => kernel_rfl
                case hg2227 => rfl
                case hy2227 => (intro w hSw; (try dsimp only at hSw); go_simp; first | done | with_reducible rfl)
                case hq2227 => exact fun _ _ _ h => h
                try simp only [Act.put, List.setIfInBounds_toArray, List.set_cons_zero, List.set_cons_succ]
                refine wpAnyH_take (i := 28) (oi := ?oi2228) (v := ?vv2228) ?hi2228 ?hn2228 ?hf2228 ?hr2228 ?hq2228 (Or.inl ⟨?hg2228, ?hy2228⟩) hH0 ?rest2228
                case hi2228 => (simp only [List.getElem?_toArray, List.getElem?_cons_succ, List.getElem?_cons_zero]; rfl)
                case hn2228 => kernel_rfl
                case hf2228 => kernel_rfl
                case hr2228 => kernel_rfl
                case hg2228 => rfl
                case hy2228 => (intro w hSw; (try dsimp only at hSw); go_simp; first | done | with_reducible rfl)
                case hq2228 => exact fun _ _ _ h => h
                try simp only [Act.put, List.setIfInBounds_toArray, List.set_cons_zero, List.set_cons_succ]
                refine wpAnyH_take (i := 29) (oi := ?oi2229) (v := ?vv2229) ?hi2229 ?hn2229 ?hf2229 ?hr2229 ?hq2229 (Or.inl ⟨?hg2229, ?hy2229⟩) hH0 ?rest2229
                case hi2229 => (simp only [List.getElem?_toArray, List.getElem?_cons_succ, List.getElem?_cons_zero]; rfl)
                case hn2229 => kernel_rfl
                case hf2229 => kernel_rfl
                case hr2229 => kernel_rfl
                case hg2229 => rfl
                case hy2229 => (intro w hSw; (try dsimp only at hSw); go_simp; first | done | with_reducible rfl)
                case hq2229 => exact fun _ _ _ h => h
                try simp only [Act.put, List.setIfInBounds_toArray, List.set_cons_zero, List.set_cons_succ]
                refine wpAnyH_take (i := 30) (oi := ?oi2230) (v := ?vv2230) ?hi2230 ?hn2230 ?hf2230 ?hr2230 ?hq2230 (Or.inl ⟨?hg2230, ?hy2230⟩) hH0 ?rest2230
                case hi2230 => (simp only [List.getElem?_toArray, List.getElem?_cons_succ, List.getElem?_cons_zero]; rfl)
                case hn2230 => kernel_rfl
                case hf2230 => kernel_rfl
                case hr2230 => kernel_rfl
                case hg2230 => rfl
                case hy2230 => (intro w hSw; (try dsimp only at hSw); go_simp; first | done | with_reducible rfl)
                case hq2230 => exact fun _ _ _ h => h
                try simp only [Act.put, List.setIfInBounds_toArray, List.set_cons_zero, List.set_cons_succ]
                refine wpAnyH_take (i := 31) (oi := ?oi2231) (v := ?vv2231) ?hi2231 ?hn2231 ?hf2231 ?hr2231 ?hq2231 (Or.inl ⟨?hg2231, ?hy2231⟩) hH0 ?rest2231
                case hi2231 => (simp only [List.getElem?_toArray, List.getElem?_cons_succ, List.getElem?_cons_zero]; rfl)
                case hn2231 => kernel_rfl
                case hf2231 => kernel_rfl
                case hr2231 => kernel_rfl
                case hg2231 => rfl
                case hy2231 => (intro w hSw; (try dsimp only at hSw); go_simp; first | done | with_reducible rfl)
                case hq2231 => exact fun _ _ _ h => h
                try simp only [Act.put, List.setIfInBounds_toArray, List.set_cons_zero, List.set_cons_succ]
                refine wpAnyH_take (i := 32) (oi := ?oi2232) (v := ?vv2232) ?hi2232 ?hn2232 ?hf2232 ?hr2232 ?hq2232 (Or.inl ⟨?hg2232, ?hy2232⟩) hH0 ?rest2232
                case hi2232 => (simp only [List.getElem?_toArray, List.getElem?_cons_succ, List.getElem?_cons_zero]; rfl)
                case hn2232 => kernel_rfl
                case hf2232 => kernel_rfl
                case hr2232 => kernel_rfl
                case hg2232 => rfl
                case hy2232 => (intro w hSw; (try dsimp only at hSw); go_simp; first | done | with_reducible rfl)
                case hq2232 => exact fun _ _ _ h => h
                try simp only [Act.put, List.setIfInBounds_toArray, List.set_cons_zero, List.set_cons_succ]
                refine wpAnyH_take (i := 33) (oi := ?oi2233) (v := ?vv2233) ?hi2233 ?hn2233 ?hf2233 ?hr2233 ?hq2233 (Or.inl ⟨?hg2233, ?hy2233⟩) hH0 ?rest2233
                case hi2233 => (simp only [List.getElem?_toArray, List.getElem?_cons_succ, List.getElem?_cons_zero]; rfl)
                case hn2233 => kernel_rfl
                case hf2233 => kernel_rfl
                case hr2233 => kernel_rfl
                case hg2233 => rfl
                case hy2233 => (intro w hSw; (try dsimp only at hSw); go_simp; first | done | with_reducible rfl)
                case hq2233 => exact fun _ _ _ h => h
                try simp only [Act.put, List.setIfInBounds_toArray, List.set_cons_zero, List.set_cons_succ]
                generalize v9.drew = v10 at *
                refine held_one 24 rfl (by kernel_rfl) (fun K hK => ?_)
                go_simp
                refine (L1 _).mono ?_; rintro e v11 ⟨rfl, hbv⟩
                go_wp2_with fail
                refine hK.out (fun (w' : World) => w'.cell? ⟨gx, 0, none⟩ = some (.int .i64 (x1 : Nat)) ∧ w'.cell? ⟨gx, 1, none⟩ = some (.int .i64 (y1 : Nat)) ∧ w'.cell? ⟨g, (i + 1) * 2, none⟩ = some (.int .i64 (x1 : Nat)) ∧ w'.cell? ⟨g, (i + 1) * 2 + 1, none⟩ = some (.int .i64 (y1 : Nat)) ∧ w'.cell? ⟨g, i * 2, none⟩ = some (.int .i64 (x0 : Nat)) ∧ w'.cell? ⟨g, i * 2 + 1, none⟩ = some (.int .i64 (y0 : Nat)) ∧ w'.cell? ⟨g, q * 2, none⟩ = some (.int .i64 (xq : Nat)) ∧ w'.cell? ⟨g, q * 2 + 1, none⟩ = some (.int .i64 (yq : Nat))) _ _ (fun _ h => h) ⟨(hbv.cell (p := ⟨gx, 0, none⟩) m3).trans m1, (hbv.cell (p := ⟨gx, 1, none⟩) m3).trans m2, (hbv.cell (p := ⟨g, (i + 1) * 2, none⟩) og).trans n1, (hbv.cell (p := ⟨g, (i + 1) * 2 + 1, none⟩) og).trans n2, (hbv.cell (p := ⟨g, i * 2, none⟩) og).trans n3, (hbv.cell (p := ⟨g, i * 2 + 1, none⟩) og).trans n4, (hbv.cell (p := ⟨g, q * 2, none⟩) og).trans n5, (hbv.cell (p := ⟨g, q * 2 + 1, none⟩) og).trans n6⟩ ?_
                clear hK K
                try simp only [Act.put, List.setIfInBounds_toArray, List.set_cons_zero, List.set_cons_succ]
                refine held_one 34 rfl (by kernel_rfl) (fun K hK => ?_)
                go_simp
                refine (L2 _).mono ?_; rintro e v12 ⟨rfl, hb⟩
                replace hbv := nx hbv hb
                clear hb
                go_wp2_with fail
                refine hK.out (fun (w' : World) => w'.cell? ⟨gx, 0, none⟩ = some (.int .i64 (x1 : Nat)) ∧ w'.cell? ⟨gx, 1, none⟩ = some (.int .i64 (y1 : Nat)) ∧ w'.cell? ⟨g, (i + 1) * 2, none⟩ = some (.int .i64 (x1 : Nat)) ∧ w'.cell? ⟨g, (i + 1) * 2 + 1, none⟩ = some (.int .i64 (y1 : Nat)) ∧ w'.cell? ⟨g, i * 2, none⟩ = some (.int .i64 (x0 : Nat)) ∧ w'.cell? ⟨g, i * 2 + 1, none⟩ = some (.int .i64 (y0 : Nat)) ∧ w'.cell? ⟨g, q * 2, none⟩ = some (.int .i64 (xq : Nat)) ∧ w'.cell? ⟨g, q * 2 + 1, none⟩ = some (.int .i64 (yq : Nat))) _ _ (fun _ h => h) ⟨(hbv.cell (p := ⟨gx, 0, none⟩) m3).trans m1, (hbv.cell (p := ⟨gx, 1, none⟩) m3).trans m2, (hbv.cell (p := ⟨g, (i + 1) * 2, none⟩) og).trans n1, (hbv.cell (p := ⟨g, (i + 1) * 2 + 1, none⟩) og).trans n2, (hbv.cell (p := ⟨g, i * 2, none⟩) og).trans n3, (hbv.cell (p := ⟨g, i * 2 + 1, none⟩) og).trans n4, (hbv.cell (p := ⟨g, q * 2, none⟩) og).trans n5, (hbv.cell (p := ⟨g, q * 2 + 1, none⟩) og).trans n6⟩ ?_
                clear hK K
                try simp only [Act.put, List.setIfInBounds_toArray, List.set_cons_zero, List.set_cons_succ]
                refine wpAnyH_take (i := 35) (oi := ?oi2401) (v := ?vv2401) ?hi2401 ?hn2401 ?hf2401 ?hr2401 ?hq2401 (Or.inl ⟨?hg2401, ?hy2401⟩) (show (fun (w' : World) => w'.cell? ⟨gx, 0, none⟩ = some (.int .i64 (x1 : Nat)) ∧ w'.cell? ⟨gx, 1, none⟩ = some (.int .i64 (y1 : Nat)) ∧ w'.cell? ⟨g, (i + 1) * 2, none⟩ = some (.int .i64 (x1 : Nat)) ∧ w'.cell? ⟨g, (i + 1) * 2 + 1, none⟩ = some (.int .i64 (y1 : Nat)) ∧ w'.cell? ⟨g, i * 2, none⟩ = some (.int .i64 (x0 : Nat)) ∧ w'.cell? ⟨g, i * 2 + 1, none⟩ = some (.int .i64 (y0 : Nat)) ∧ w'.cell? ⟨g, q * 2, none⟩ = some (.int .i64 (xq : Nat)) ∧ w'.cell? ⟨g, q * 2 + 1, none⟩ = some (.int .i64 (yq : Nat))) _ from ⟨(hbv.cell (p := ⟨gx, 0, none⟩) m3).trans m1, (hbv.cell (p := ⟨gx, 1, none⟩) m3).trans m2, (hbv.cell (p := ⟨g, (i + 1) * 2, none⟩) og).trans n1, (hbv.cell (p := ⟨g, (i + 1) * 2 + 1, none⟩) og).trans n2, (hbv.cell (p := ⟨g, i * 2, none⟩) og).trans n3, (hbv.cell (p := ⟨g, i * 2 + 1, none⟩) og).trans n4, (hbv.cell (p := ⟨g, q * 2, none⟩) og).trans n5, (hbv.cell (p := ⟨g, q * 2 + 1, none⟩) og).trans n6⟩) ?rest2401
                case hi2401 => (simp only [List.getElem?_toArray, List.getElem?_cons_succ, List.getElem?_cons_zero]; rfl)
                case hn2401 => kernel_rfl
                case hf2401 => kernel_rfl
                case hr2401 => kernel_rfl
                case hg2401 => rfl
                case hy2401 => (intro w hSw; (try dsimp only at hSw); go_simp; first | done | with_reducible rfl)
                case hq2401 => exact fun _ _ _ h => h
                try simp only [Act.put, List.setIfInBounds_toArray, List.set_cons_zero, List.set_cons_succ]
                refine wpAnyH_take (i := 36) (oi := ?oi2402) (v := ?vv2402) ?hi2402 ?hn2402 ?hf2402 ?hr2402 ?hq2402 (Or.inl ⟨?hg2402, ?hy2402⟩) (show (fun (w' : World) => w'.cell? ⟨gx, 0, none⟩ = some (.int .i64 (x1 : Nat)) ∧ w'.cell? ⟨gx, 1, none⟩ = some (.int .i64 (y1 : Nat)) ∧ w'.cell? ⟨g, (i + 1) * 2, none⟩ = some (.int .i64 (x1 : Nat)) ∧ w'.cell? ⟨g, (i + 1) * 2 + 1, none⟩ = some (.int .i64 (y1 : Nat)) ∧ w'.cell? ⟨g, i * 2, none⟩ = some (.int .i64 (x0 : Nat)) ∧ w'.cell? ⟨g, i * 2 + 1, none⟩ = some (.int .i64 (y0 : Nat)) ∧ w'.cell? ⟨g, q * 2, none⟩ = some (.int .i64 (xq : Nat)) ∧ w'.cell? ⟨g, q * 2 + 1, none⟩ = some (.int .i64 (yq : Nat))) _ from ⟨(hbv.cell (p := ⟨gx, 0, none⟩) m3).trans m1, (hbv.cell (p := ⟨gx, 1, none⟩) m3).trans m2, (hbv.cell (p := ⟨g, (i + 1) * 2, none⟩) og).trans n1, (hbv.cell (p := ⟨g, (i + 1) * 2 + 1, none⟩) og).trans n2, (hbv.cell (p := ⟨g, i * 2, none⟩) og).trans n3, (hbv.cell (p := ⟨g, i * 2 + 1, none⟩) og).trans n4, (hbv.cell (p := ⟨g, q * 2, none⟩) og).trans n5, (hbv.cell (p := ⟨g, q * 2 + 1, none⟩) og).trans n6⟩) ?rest2402
                case hi2402 => (simp only [List.getElem?_toArray, List.getElem?_cons_succ, List.getElem?_cons_zero]; rfl)
                case hn2402 => kernel_rfl
                case hf2402 => kernel_rfl
                case hr2402 => kernel_rfl
                case hg2402 => rfl
                case hy2402 => (intro w hSw; (try dsimp only at hSw); go_simp; first | done | with_reducible rfl)
                case hq2402 => exact fun _ _ _ h => h
                try simp only [Act.put, List.setIfInBounds_toArray, List.set_cons_zero, List.set_cons_succ]
                refine wpAnyH_take (i := 37) (oi := ?oi2403) (v := ?vv2403) ?hi2403 ?hn2403 ?hf2403 ?hr2403 ?hq2403 (Or.inl ⟨?hg2403, ?hy2403⟩) (show (fun (w' : World) => w'.cell? ⟨gx, 0, none⟩ = some (.int .i64 (x1 : Nat)) ∧ w'.cell? ⟨gx, 1, none⟩ = some (.int .i64 (y1 : Nat)) ∧ w'.cell? ⟨g, (i + 1) * 2, none⟩ = some (.int .i64 (x1 : Nat)) ∧ w'.cell? ⟨g, (i + 1) * 2 + 1, none⟩ = some (.int .i64 (y1 : Nat)) ∧ w'.cell? ⟨g, i * 2, none⟩ = some (.int .i64 (x0 : Nat)) ∧ w'.cell? ⟨g, i * 2 + 1, none⟩ = some (.int .i64 (y0 : Nat)) ∧ w'.cell? ⟨g, q * 2, none⟩ = some (.int .i64 (xq : Nat)) ∧ w'.cell? ⟨g, q * 2 + 1, none⟩ = some (.int .i64 (yq : Nat))) _ from ⟨(hbv.cell (p := ⟨gx, 0, none⟩) m3).trans m1, (hbv.cell (p := ⟨gx, 1, none⟩) m3).trans m2, (hbv.cell (p := ⟨g, (i + 1) * 2, none⟩) og).trans n1, (hbv.cell (p := ⟨g, (i + 1) * 2 + 1, none⟩) og).trans n2, (hbv.cell (p := ⟨g, i * 2, none⟩) og).trans n3, (hbv.cell (p := ⟨g, i * 2 + 1, none⟩) og).trans n4, (hbv.cell (p := ⟨g, q * 2, none⟩) og).trans n5, (hbv.cell (p := ⟨g, q * 2 + 1, none⟩) og).trans n6⟩) ?rest2403
                case hi2403 => (simp only [List.getElem?_toArray, List.getElem?_cons_succ, List.getElem?_cons_zero]; rfl)
                case hn2403 => kernel_rfl
                case hf2403 => kernel_rfl
                case hr2403 => kernel_rfl
                case hg2403 => rfl
                case hy2403 => (intro w hSw; (try dsimp only at hSw); go_simp; first | done | with_reducible rfl)
                case hq2403 => exact fun _ _ _ h => h
                try simp only [Act.put, List.setIfInBounds_toArray, List.set_cons_zero, List.set_cons_succ]
                refine wpAnyH_done (by kernel_rfl) ?_ _
                replace HBd := Lib.hid (nx HBd.out hbv)
                replace Bsd := Lib.hid (heap_keep hbv Bsd.out)
                replace OCd := Lib.hid (OCd.out.keep hbv)
                go_wp2_with fail
                go_roundw
                case rel => exact ⟨i + 1 + 1, by omega, by omega, by go_num, HBd, Bsd, OCd⟩
                case measure => simp [intOf]; omega
              · go_simp
                refine hK.out (fun (w' : World) => w'.cell? ⟨w44.heap.size, 0, none⟩ = some (.string a) ∧ w'.cell? ⟨w44.heap.size, 1, none⟩ = some (.string b) ∧ w'.cell? ⟨g, i * 2, none⟩ = some (.int .i64 (x0 : Nat)) ∧ w'.cell? ⟨g, i * 2 + 1, none⟩ = some (.int .i64 (y0 : Nat))) _ _ (fun _ h => h) (show (fun (w' : World) => w'.cell? ⟨w44.heap.size, 0, none⟩ = some (.string a) ∧ w'.cell? ⟨w44.heap.size, 1, none⟩ = some (.string b) ∧ w'.cell? ⟨g, i * 2, none⟩ = some (.int .i64 (x0 : Nat)) ∧ w'.cell? ⟨g, i * 2 + 1, none⟩ = some (.int .i64 (y0 : Nat))) (v1.alloc (.cells #[.int .i64 0, .int .i64 0] 42 (0, 0))) from by have hbv := (allocB v1 (.cells #[.int .i64 0, .int .i64 0] 42 (0, 0))); exact ⟨(hbv.cell (p := ⟨w44.heap.size, 0, none⟩) s3).trans s1, (hbv.cell (p := ⟨w44.heap.size, 1, none⟩) s3).trans s2, (hbv.cell (p := ⟨g, i * 2, none⟩) og).trans c1, (hbv.cell (p := ⟨g, i * 2 + 1, none⟩) og).trans c2⟩) ?_
                clear hK K
                try simp only [Act.put, List.setIfInBounds_toArray, List.set_cons_zero, List.set_cons_succ]
                obtain ⟨gx, hgx⟩ : ∃ x, x = v1.heap.size := ⟨_, rfl⟩
                have hgx2 : v1.heap.size ≤ gx := by rw [hgx]; exact Nat.le_refl _
                have HX := Lib.hid (heap_alloc_at v1 (.cells #[.int .i64 0, .int .i64 0] 42 (0, 0)))
                have hbv := allocB v1 (.cells #[.int .i64 0, .int .i64 0] 42 (0, 0))
                rw [← hgx] at HX ⊢
                clear hgx
                generalize v1.alloc (.cells #[.int .i64 0, .int .i64 0] 42 (0, 0)) = v4 at *
                refine held_one 6 rfl (by kernel_rfl) (fun K hK => ?_)
                go_simp
                refine (V _).mono ?_; rintro e v3 ⟨rfl, hb⟩
                replace HX := Lib.hid (heap_keep hb HX.out)
                replace hbv := nx hbv hb
                clear hb
                go_wp2_with fail
                refine hK.out (fun (w' : World) => w'.cell? ⟨w44.heap.size, 0, none⟩ = some (.string a) ∧ w'.cell? ⟨w44.heap.size, 1, none⟩ = some (.string b) ∧ w'.cell? ⟨g, i * 2, none⟩ = some (.int .i64 (x0 : Nat)) ∧ w'.cell? ⟨g, i * 2 + 1, none⟩ = some (.int .i64 (y0 : Nat))) _ _ (fun _ h => h) ⟨(hbv.cell (p := ⟨w44.heap.size, 0, none⟩) s3).trans s1, (hbv.cell (p := ⟨w44.heap.size, 1, none⟩) s3).trans s2, (hbv.cell (p := ⟨g, i * 2, none⟩) og).trans c1, (hbv.cell (p := ⟨g, i * 2 + 1, none⟩) og).trans c2⟩ ?_
                clear hK K
                try simp only [Act.put, List.setIfInBounds_toArray, List.set_cons_zero, List.set_cons_succ]
                refine wpAnyH_take (i := 7) (oi := ?oi2601) (v := ?vv2601) ?hi2601 ?hn2601 ?hf2601 ?hr2601 ?hq2601 (Or.inl ⟨?hg2601, ?hy2601⟩) (show (fun (w' : World) => w'.cell? ⟨w44.heap.size, 0, none⟩ = some (.string a) ∧ w'.cell? ⟨w44.heap.size, 1, none⟩ = some (.string b) ∧ w'.cell? ⟨g, i * 2, none⟩ = some (.int .i64 (x0 : Nat)) ∧ w'.cell? ⟨g, i * 2 + 1, none⟩ = some (.int .i64 (y0 : Nat))) _ from ⟨(hbv.cell (p := ⟨w44.heap.size, 0, none⟩) s3).trans s1, (hbv.cell (p := ⟨w44.heap.size, 1, none⟩) s3).trans s2, (hbv.cell (p := ⟨g, i * 2, none⟩) og).trans c1, (hbv.cell (p := ⟨g, i * 2 + 1, none⟩) og).trans c2⟩) ?rest2601
                case hi2601 => (simp only [List.getElem?_toArray, List.getElem?_cons_succ, List.getElem?_cons_zero]; rfl)
                case hn2601 => kernel_rfl
                case hf2601 => kernel_rfl
                case hr2601 => kernel_rfl
                case hg2601 => rfl
                case hy2601 => (intro w hSw; (try dsimp only at hSw); go_simp; first | done | with_reducible rfl)
                case hq2601 => exact fun _ _ _ h => h
                try simp only [Act.put, List.setIfInBounds_toArray, List.set_cons_zero, List.set_cons_succ]
                refine wpAnyH_take (i := 8) (oi := ?oi2602) (v := ?vv2602) ?hi2602 ?hn2602 ?hf2602 ?hr2602 ?hq2602 (Or.inl ⟨?hg2602, ?hy2602⟩) (show (fun (w' : World) => w'.cell? ⟨w44.heap.size, 0, none⟩ = some (.string a) ∧ w'.cell? ⟨w44.heap.size, 1, none⟩ = some (.string b) ∧ w'.cell? ⟨g, i * 2, none⟩ = some (.int .i64 (x0 : Nat)) ∧ w'.cell? ⟨g, i * 2 + 1, none⟩ = some (.int .i64 (y0 : Nat))) _ from ⟨(hbv.cell (p := ⟨w44.heap.size, 0, none⟩) s3).trans s1, (hbv.cell (p := ⟨w44.heap.size, 1, none⟩) s3).trans s2, (hbv.cell (p := ⟨g, i * 2, none⟩) og).trans c1, (hbv.cell (p := ⟨g, i * 2 + 1, none⟩) og).trans c2⟩) ?rest2602
                case hi2602 => (simp only [List.getElem?_toArray, List.getElem?_cons_succ, List.getElem?_cons_zero]; rfl)
                case hn2602 => kernel_rfl
                case hf2602 => kernel_rfl
                case hr2602 => kernel_rfl
                case hg2602 => rfl
                case hy2602 => (intro w hSw; (try dsimp only at hSw); go_simp; first | done | with_reducible rfl)
                case hq2602 => exact fun _ _ _ h => h
                try simp only [Act.put, List.setIfInBounds_toArray, List.set_cons_zero, List.set_cons_succ]
                refine wpAnyH_take (i := 9) (oi := ?oi2603) (v := ?vv2603) ?hi2603 ?hn2603 ?hf2603 ?hr2603 ?hq2603 (Or.inl ⟨?hg2603, ?hy2603⟩) (show (fun (w' : World) => w'.cell? ⟨w44.heap.size, 0, none⟩ = some (.string a) ∧ w'.cell? ⟨w44.heap.size, 1, none⟩ = some (.string b) ∧ w'.cell? ⟨g, i * 2, none⟩ = some (.int .i64 (x0 : Nat)) ∧ w'.cell? ⟨g, i * 2 + 1, none⟩ = some (.int .i64 (y0 : Nat))) _ from ⟨(hbv.cell (p := ⟨w44.heap.size, 0, none⟩) s3).trans s1, (hbv.cell (p := ⟨w44.heap.size, 1, none⟩) s3).trans s2, (hbv.cell (p := ⟨g, i * 2, none⟩) og).trans c1, (hbv.cell (p := ⟨g, i * 2 + 1, none⟩) og).trans c2⟩) ?rest2603
                case hi2603 => (simp only [List.getElem?_toArray, List.getElem?_cons_succ, List.getElem?_cons_zero]; rfl)
                case hn2603 => kernel_rfl
                case hf2603 => kernel_rfl
                case hr2603 => kernel_rfl
                case hg2603 => rfl
                case hy2603 => (intro w hSw; (try dsimp only at hSw); go_simp; first | done | with_reducible rfl)
                case hq2603 => exact fun _ _ _ h => h
                try simp only [Act.put, List.setIfInBounds_toArray, List.set_cons_zero, List.set_cons_succ]
                have hbz := (hbv.setCell (p := ⟨gx, 0, none⟩) hgx2 (.int .i64 (x1 : Nat))).setCell (p := ⟨gx, 1, none⟩) hgx2 (.int .i64 (y1 : Nat))
                obtain ⟨fx1, fx2, fx3⟩ := two_facts HX.out
                obtain ⟨fx4, fx5⟩ := two_frozen HX.out
                refine held_one 11 rfl (by kernel_rfl) (fun K hK => ?_)
                go_simp
                refine hK.out (fun (w' : World) => w'.cell? ⟨w44.heap.size, 0, none⟩ = some (.string a) ∧ w'.cell? ⟨w44.heap.size, 1, none⟩ = some (.string b) ∧ w'.cell? ⟨g, i * 2, none⟩ = some (.int .i64 (x0 : Nat)) ∧ w'.cell? ⟨g, i * 2 + 1, none⟩ = some (.int .i64 (y0 : Nat))) _ _ (fun _ h => h) (show (fun (w' : World) => w'.cell? ⟨w44.heap.size, 0, none⟩ = some (.string a) ∧ w'.cell? ⟨w44.heap.size, 1, none⟩ = some (.string b) ∧ w'.cell? ⟨g, i * 2, none⟩ = some (.int .i64 (x0 : Nat)) ∧ w'.cell? ⟨g, i * 2 + 1, none⟩ = some (.int .i64 (y0 : Nat))) ((v3.setCell ⟨gx, 0, none⟩ (.int .i64 (x1 : Nat))).setCell ⟨gx, 1, none⟩ (.int .i64 (y1 : Nat))) from by have hbv := hbz; exact ⟨(hbv.cell (p := ⟨w44.heap.size, 0, none⟩) s3).trans s1, (hbv.cell (p := ⟨w44.heap.size, 1, none⟩) s3).trans s2, (hbv.cell (p := ⟨g, i * 2, none⟩) og).trans c1, (hbv.cell (p := ⟨g, i * 2 + 1, none⟩) og).trans c2⟩) ?_
                clear hK K
                try simp only [Act.put, List.setIfInBounds_toArray, List.set_cons_zero, List.set_cons_succ]
                replace hbv := hbz
                replace HX := Lib.hid (set_two (.int .i64 (x1 : Nat)) (.int .i64 (y1 : Nat)) HX.out)
                clear hbz fx1 fx2 fx3 fx4 fx5
                generalize ((v3.setCell ⟨gx, 0, none⟩ (.int .i64 (x1 : Nat))).setCell ⟨gx, 1, none⟩ (.int .i64 (y1 : Nat))) = v9 at *
                refine wpAnyH_take (i := 12) (oi := ?oi2801) (v := ?vv2801) ?hi2801 ?hn2801 ?hf2801 ?hr2801 ?hq2801 (Or.inl ⟨?hg2801, ?hy2801⟩) (show (fun (w' : World) => w'.cell? ⟨w44.heap.size, 0, none⟩ = some (.string a) ∧ w'.cell? ⟨w44.heap.size, 1, none⟩ = some (.string b) ∧ w'.cell? ⟨g, i * 2, none⟩ = some (.int .i64 (x0 : Nat)) ∧ w'.cell? ⟨g, i * 2 + 1, none⟩ = some (.int .i64 (y0 : Nat))) _ from ⟨(hbv.cell (p := ⟨w44.heap.size, 0, none⟩) s3).trans s1, (hbv.cell (p := ⟨w44.heap.size, 1, none⟩) s3).trans s2, (hbv.cell (p := ⟨g, i * 2, none⟩) og).trans c1, (hbv.cell (p := ⟨g, i * 2 + 1, none⟩) og).trans c2⟩) ?rest2801
                case hi2801 => (simp only [List.getElem?_toArray, List.getElem?_cons_succ, List.getElem?_cons_zero]; rfl)
                case hn2801 => kernel_rfl
                case hf2801 => kernel_rfl
                case hr2801 => kernel_rfl
                case hg2801 => rfl
                case hy2801 => (intro w hSw; (try dsimp only at hSw); go_simp; first | done | with_reducible rfl)
                case hq2801 => exact fun _ _ _ h => h
                try simp only [Act.put, List.setIfInBounds_toArray, List.set_cons_zero, List.set_cons_succ]
                refine wpAnyH_done (by kernel_rfl) ?_ _
                replace HB := Lib.hid (nx HB.out hbv)
                replace Bs := Lib.hid (heap_keep hbv Bs.out)
                replace OC := Lib.hid (OC.out.keep hbv)
                clear V s1 s2 s3 c1 c2 og hgx2 hbv
                go_upto_region 33 with fail
                have HBd : Hid (Below W.heap.size W v9.drew) := Lib.hid HB.out.drew
                have Bsd : Hid (v9.drew.heap[w44.heap.size]? = some (.cells #[.string a, .string b] 25 (0, 0))) := Lib.hid Bs.out
                have OCd : Hid (OrbC v9.drew g l) := Lib.hid OC.out
                have HXd : Hid (v9.drew.heap[gx]? = some (.cells #[.int .i64 (x1 : Nat), .int .i64 (y1 : Nat)] 42 (0, 0))) := Lib.hid HX.out
                clear HB Bs OC HX
                obtain ⟨n1, n2⟩ := OCd.out.2 (i + 1) (by omega)
                obtain ⟨hN1, hN2⟩ := HN.out
                rw [← hN1] at n1
                rw [← hN2] at n2
                clear hN1 hN2 HN
                obtain ⟨hN1, hN2⟩ := HM.out
                obtain ⟨n3, n4⟩ := OCd.out.2 i (by omega)
                rw [← hN1] at n3
                rw [← hN2] at n4
                clear hN1 hN2 HM
                obtain ⟨hN1, hN2⟩ := HQ.out.1
                obtain ⟨n5, n6⟩ := OCd.out.2 q (by have := HQ.out.2; omega)
                rw [← hN1] at n5
                rw [← hN2] at n6
                clear hN1 hN2
                have og := OCd.out.1
                obtain ⟨m1, m2, m3⟩ := two_facts HXd.out
                have hw4 : 0 ≤ (i : Int) + 1 ∧ (i : Int) + 1 < (l.length : Int) := by omega
                have hg1 : (1 : Int) < (i : Int) + 1 := by have := HQ.out.2; omega
                have hg2 : 0 < i := by have := HQ.out.2; omega
                have hg3 : (0 : Int) < (i : Int) := by have := HQ.out.2; omega
                have hw5 : IntKind.i64.wrap ((i : Int) + 1 - 2) = (q : Int) := by have := HQ.out.2; rw [IntKind.wrap_i64] <;> omega
                have hw6 : IntKind.i64.wrap ((i : Int) - 1) = (q : Int) := by have := HQ.out.2; rw [IntKind.wrap_i64] <;> omega
                have hw7 : 0 ≤ (q : Int) ∧ (q : Int) < (l.length : Int) := by have := HQ.out.2; omega
                refine wp_region_held_drew (S := (fun (w' : World) => w'.cell? ⟨gx, 0, none⟩ = some (.int .i64 (x1 : Nat)) ∧ w'.cell? ⟨gx, 1, none⟩ = some (.int .i64 (y1 : Nat)) ∧ w'.cell? ⟨g, (i + 1) * 2, none⟩ = some (.int .i64 (x1 : Nat)) ∧ w'.cell? ⟨g, (i + 1) * 2 + 1, none⟩ = some (.int .i64 (y1 : Nat)) ∧ w'.cell? ⟨g, i * 2, none⟩ = some (.int .i64 (x0 : Nat)) ∧ w'.cell? ⟨g, i * 2 + 1, none⟩ = some (.int .i64 (y0 : Nat)) ∧ w'.cell? ⟨g, q * 2, none⟩ = some (.int .i64 (xq : Nat)) ∧ w'.cell? ⟨g, q * 2 + 1, none⟩ = some (.int .i64 (yq : Nat)))) (by kernel_rfl) ⟨m1, m2, n1, n2, n3, n4, n5, n6⟩ (fun hH0 => ?_)
                refine wpAnyH_take (i := 0) (oi := ?oi3001) (v := ?vv3001) ?hi3001 ?hn3001 ?hf3001 ?hr3001 ?hq3001 (Or.inl ⟨?hg3001, ?hy3001⟩) hH0 ?rest3001
                case hi3001 => (simp only [List.getElem?_toArray, List.getElem?_cons_zero]; rfl)
                case hn3001 => kernel_rfl
                case hf3001 => kernel_rfl
                case hr3001 => kernel_rfl
                case hg3001 => rfl
                case hy3001 => (intro w hSw; (try dsimp only at hSw); go_simp; first | done | with_reducible rfl)
                case hq3001 => exact fun _ _ _ h => h
                try simp only [Act.put, List.setIfInBounds_toArray, List.set_cons_zero, List.set_cons_succ]
                refine wpAnyH_take (i := 1) (oi := ?oi3002) (v := ?vv3002) ?hi3002 ?hn3002 ?hf3002 ?hr3002 ?hq3002 (Or.inl ⟨?hg3002, ?hy3002⟩) hH0 ?rest3002
                case hi3002 => (simp only [List.getElem?_toArray, List.getElem?_cons_succ, List.getElem?_cons_zero]; rfl)
                case hn3002 => kernel_rfl
                case hf3002 => kernel_rfl
                case hr3002 => kernel_rfl
                case hg3002 => rfl
                case hy3002 => (intro w hSw; (try dsimp only at hSw); go_simp; first | done | with_reducible rfl)
                case hq3002 => exact fun _ _ _ h => h
                try simp only [Act.put, List.setIfInBounds_toArray, List.set_cons_zero, List.set_cons_succ]
                refine wpAnyH_take (i := 2) (oi := ?oi3003) (v := ?vv3003) ?hi3003 ?hn3003 ?hf3003 ?hr3003 ?hq3003 (Or.inl ⟨?hg3003, ?hy3003⟩) hH0 ?rest3003
                case hi3003 => (simp only [List.getElem?_toArray, List.getElem?_cons_succ, List.getElem?_cons_zero]; rfl)
                case hn3003 => kernel_rfl
                case hf3003 => kernel_rfl
                case hr3003 => kernel_rfl
                case hg3003 => rfl
                case hy3003 => (intro w hSw; (try dsimp only at hSw); go_simp; first | done | with_reducible rfl)
                case hq3003 => exact fun _ _ _ h => h
                try simp only [Act.put, List.setIfInBounds_toArray, List.set_cons_zero, List.set_cons_succ]
                refine wpAnyH_take (i := 3) (oi := ?oi3004) (v := ?vv3004) ?hi3004 ?hn3004 ?hf3004 ?hr3004 ?hq3004 (Or.inl ⟨?hg3004, ?hy3004⟩) hH0 ?rest3004
                case hi3004 => (simp only [List.getElem?_toArray, List.getElem?_cons_succ, List.getElem?_cons_zero]; rfl)
                case hn3004 => kernel_rfl
                case hf3004 => kernel_rfl
                case hr3004 => kernel_rfl
                case hg3004 => rfl
                case hy3004 => (intro w hSw; (try dsimp only at hSw); go_simp; first | done | with_reducible rfl)
                case hq3004 => exact fun _ _ _ h => h
                try simp only [Act.put, List.setIfInBounds_toArray, List.set_cons_zero, List.set_cons_succ]
                refine wpAnyH_take (i := 4) (oi := ?oi3005) (v := ?vv3005) ?hi3005 ?hn3005 ?hf3005 ?hr3005 ?hq3005 (Or.inl ⟨?hg3005, ?hy3005⟩) hH0 ?rest3005
                case hi3005 => (simp only [List.getElem?_toArray, List.getElem?_cons_succ, List.getElem?_cons_zero]; rfl)
                case hn3005 => kernel_rfl
                case hf3005 => kernel_rfl
                case hr3005 => kernel_rfl
                case hg3005 => rfl
                case hy3005 => (intro w hSw; (try dsimp only at hSw); go_simp; first | done | with_reducible rfl)
                case hq3005 => exact fun _ _ _ h => h
                try simp only [Act.put, List.setIfInBounds_toArray, List.set_cons_zero, List.set_cons_succ]
                refine wpAnyH_take (i := 5) (oi := ?oi3006) (v := ?vv3006) ?hi3006 ?hn3006 ?hf3006 ?hr3006 ?hq3006 (Or.inl ⟨?hg3006, ?hy3006⟩) hH0 ?rest3006
                case hi3006 => (simp only [List.getElem?_toArray, List.getElem?_cons_succ, List.getElem?_cons_zero]; rfl)
                case hn3006 => kernel_rfl
                case hf3006 => kernel_rfl
                case hr3006 => kernel_rfl
                case hg3006 => rfl
                case hy3006 => (intro w hSw; (try dsimp only at hSw); go_simp; first | done | with_reducible rfl)
                case hq3006 => exact fun _ _ _ h => h
                try simp only [Act.put, List.setIfInBounds_toArray, List.set_cons_zero, List.set_cons_succ]
                refine wpAnyH_take (i := 6) (oi := ?oi3007) (v := ?vv3007) ?hi3007 ?hn3007 ?hf3007 ?hr3007 ?hq3007 (Or.inl ⟨?hg3007, ?hy3007⟩) hH0 ?rest3007
                case hi3007 => (simp only [List.getElem?_toArray, List.getElem?_cons_succ, List.getElem?_cons_zero]; rfl)
                case hn3007 => kernel_rfl
                case hf3007 => kernel_rfl
                case hr3007 => kernel_rfl
                case hg3007 => rfl
                case hy3007 => (intro w hSw; (try dsimp only at hSw); go_simp; first | done | with_reducible rfl)
                case hq3007 => exact fun _ _ _ h => h
                try simp only [Act.put, List.setIfInBounds_toArray, List.set_cons_zero, List.set_cons_succ]
                refine wpAnyH_take (i := 7) (oi := ?oi3008) (v := ?vv3008) ?hi3008 ?hn3008 ?hf3008 ?hr3008 ?hq3008 (Or.inl ⟨?hg3008, ?hy3008⟩) hH0 ?rest3008
                case hi3008 => (simp only [List.getElem?_toArray, List.getElem?_cons_succ, List.getElem?_cons_zero]; rfl)
                case hn3008 => kernel_rfl
                case hf3008 => kernel_rfl
                case hr3008 => kernel_rfl
                case hg3008 => rfl
                case hy3008 => (intro w hSw; (try dsimp only at hSw); go_simp; first | done | with_reducible rfl)
                case hq3008 => exact fun _ _ _ h => h
                try simp only [Act.put, List.setIfInBounds_toArray, List.set_cons_zero, List.set_cons_succ]
                refine wpAnyH_take (i := 8) (oi := ?oi3009) (v := ?vv3009) ?hi3009 ?hn3009 ?hf3009 ?hr3009 ?hq3009 (Or.inl ⟨?hg3009, ?hy3009⟩) hH0 ?rest3009
                case hi3009 => (simp only [List.getElem?_toArray, List.getElem?_cons_succ, List.getElem?_cons_zero]; rfl)
                case hn3009 => kernel_rfl
                case hf3009 => kernel_rfl
                case hr3009 => kernel_rfl
                case hg3009 => rfl
                case hy3009 => (intro w hSw; (try dsimp only at hSw); go_simp; first | done | with_reducible rfl)
                case hq3009 => exact fun _ _ _ h => h
                try simp only [Act.put, List.setIfInBounds_toArray, List.set_cons_zero, List.set_cons_succ]
                refine wpAnyH_take (i := 9) (oi := ?oi3010) (v := ?vv3010) ?hi3010 ?hn3010 ?hf3010 ?hr3010 ?hq3010 (Or.inl ⟨?hg3010, ?hy3010⟩) hH0 ?rest3010
                case hi3010 => (simp only [List.getElem?_toArray, List.getElem?_cons_succ, List.getElem?_cons_zero]; rfl)
                case hn3010 => kernel_rfl
                case hf3010 => kernel_rfl
                case hr3010 => kernel_rfl
                case hg3010 => rfl
                case hy3010 => (intro w hSw; (try dsimp only at hSw); go_simp; first | done | with_reducible rfl)
                case hq3010 => exact fun _ _ _ h => h
                try simp only [Act.put, List.setIfInBounds_toArray, List.set_cons_zero, List.set_cons_succ]
                refine wpAnyH_take (i := 10) (oi := ?oi3011) (v := ?vv3011) ?hi3011 ?hn3011 ?hf3011 ?hr3011 ?hq3011 (Or.inl ⟨?hg3011, ?hy3011⟩) hH0 ?rest3011
                case hi3011 => (simp only [List.getElem?_toArray, List.getElem?_cons_succ, List.getElem?_cons_zero]; rfl)
                case hn3011 => kernel_rfl
                case hf3011 => kernel_rfl
                case hr3011 => kernel_rfl
                case hg3011 => rfl
                case hy3011 => (intro w hSw; (try dsimp only at hSw); go_simp; first | done | with_reducible rfl)
                case hq3011 => exact fun _ _ _ h => h
                try simp only [Act.put, List.setIfInBounds_toArray, List.set_cons_zero, List.set_cons_succ]
                refine wpAnyH_take (i := 11) (oi := ?oi3012) (v := ?vv3012) ?hi3012 ?hn3012 ?hf3012 ?hr3012 ?hq3012 (Or.inl ⟨?hg3012, ?hy3012⟩) hH0 ?rest3012
                case hi3012 => (simp only [List.getElem?_toArray, List.getElem?_cons_succ, List.getElem?_cons_zero]; rfl)
                case hn3012 => kernel_rfl
                case hf3012 => kernel_rfl
                case hr3012 => kernel_rfl
                case hg3012 => rfl
                case hy3012 => (intro w hSw; (try dsimp only at hSw); go_simp; first | done | with_reducible rfl)
                case hq3012 => exact fun _ _ _ h => h
                try simp only [Act.put, List.setIfInBounds_toArray, List.set_cons_zero, List.set_cons_succ]
                refine wpAnyH_take (i := 12) (oi := ?oi3013) (v := ?vv3013) ?hi3013 ?hn3013 ?hf3013 ?hr3013 ?hq3013 (Or.inl ⟨?hg3013, ?hy3013⟩) hH0 ?rest3013
                case hi3013 => (simp only [List.getElem?_toArray, List.getElem?_cons_succ, List.getElem?_cons_zero]; rfl)
                case hn3013 => kernel_rfl
                case hf3013 => kernel_rfl
                case hr3013 => kernel_rfl
                case hg3013 => rfl
                case hy3013 => (intro w hSw; (try dsimp only at hSw); go_simp; first | done | with_reducible rfl)
                case hq3013 => exact fun _ _ _ h => h
                try simp only [Act.put, List.setIfInBounds_toArray, List.set_cons_zero, List.set_cons_succ]
                refine wpAnyH_take (i := 13) (oi := ?oi3014) (v := ?vv3014) ?hi3014 ?hn3014 ?hf3014 ?hr3014 ?hq3014 (Or.inl ⟨?hg3014, ?hy3014⟩) hH0 ?rest3014
                case hi3014 => (simp only [List.getElem?_toArray, List.getElem?_cons_succ, List.getElem?_cons_zero]; rfl)
                case hn3014 => kernel_rfl
                case hf3014 => kernel_rfl
                case hr3014 => kernel_rfl
                case hg3014 => rfl
                case hy3014 => (intro w hSw; (try dsimp only at hSw); go_simp; first | done | with_reducible rfl)
                case hq3014 => exact fun _ _ _ h => h
                try simp only [Act.put, List.setIfInBounds_toArray, List.set_cons_zero, List.set_cons_succ]
                refine wpAnyH_take (i := 14) (oi := ?oi3015) (v := ?vv3015) ?hi3015 ?hn3015 ?hf3015 ?hr3015 ?hq3015 (Or.inl ⟨?hg3015, ?hy3015⟩) hH0 ?rest3015
                case hi3015 => (simp only [List.getElem?_toArray, List.getElem?_cons_succ, List.getElem?_cons_zero]; rfl)
                case hn3015 => kernel_rfl
                case hf3015 => kernel_rfl
                case hr3015 => kernel_rfl
                case hg3015 => rfl
                case hy3015 => (intro w hSw; (try dsimp only at hSw); go_simp; first | done | with_reducible rfl)
                case hq3015 => exact fun _ _ _ h => h
                try simp only [Act.put, List.setIfInBounds_toArray, List.set_cons_zero, List.set_cons_succ]
                refine wpAnyH_take (i := 15) (oi := ?oi3016) (v := ?vv3016) ?hi3016 ?hn3016 ?hf3016 ?hr3016 ?hq3016 (Or.inl ⟨?hg3016, ?hy3016⟩) hH0 ?rest3016
                case hi3016 => (simp only [List.getElem?_toArray, List.getElem?_cons_succ, List.getElem?_cons_zero]; rfl)
                case hn3016 => kernel_rfl
                case hf3016 => kernel_rfl
                case hr3016 => kernel_rfl
                case hg3016 => rfl
                case hy3016 => (intro w hSw; (try dsimp only at hSw); go_simp; first | done | with_reducible rfl)
                case hq3016 => exact fun _ _ _ h => h
                try simp only [Act.put, List.setIfInBounds_toArray, List.set_cons_zero, List.set_cons_succ]
                refine wpAnyH_take (i := 16) (oi := ?oi3017) (v := ?vv3017) ?hi3017 ?hn3017 ?hf3017 ?hr3017 ?hq3017 (Or.inl ⟨?hg3017, ?hy3017⟩) hH0 ?rest3017
                case hi3017 => (simp only [List.getElem?_toArray, List.getElem?_cons_succ, List.getElem?_cons_zero]; rfl)
                case hn3017 => kernel_rfl
                case hf3017 => kernel_rfl
                case hr3017 => kernel_rfl
                case hg3017 => rfl
                case hy3017 => (intro w hSw; (try dsimp only at hSw); go_simp; first | done | with_reducible rfl)
                case hq3017 => exact fun _ _ _ h => h
                try simp only [Act.put, List.setIfInBounds_toArray, List.set_cons_zero, List.set_cons_succ]
                refine wpAnyH_take (i := 17) (oi := ?oi3018) (v := ?vv3018) ?hi3018 ?hn3018 ?hf3018 ?hr3018 ?hq3018 (Or.inl ⟨?hg3018, ?hy3018⟩) hH0 ?rest3018
                case hi3018 => (simp only [List.getElem?_toArray, List.getElem?_cons_succ, List.getElem?_cons_zero]; rfl)
                case hn3018 => kernel_rfl
                case hf3018 => kernel_rfl
                case hr3018 => kernel_rfl
                case hg3018 => rfl
                case hy3018 => (intro w hSw; (try dsimp only at hSw); go_simp; first | done | with_reducible rfl)
                case hq3018 => exact fun _ _ _ h => h
                try simp only [Act.put, List.setIfInBounds_toArray, List.set_cons_zero, List.set_cons_succ]
                refine wpAnyH_take (i := 18) (oi := ?oi3019) (v := ?vv3019) ?hi3019 ?hn3019 ?hf3019 ?hr3019 ?hq3019 (Or.inl ⟨?hg3019, ?hy3019⟩) hH0 ?rest3019
                case hi3019 => (simp only [List.getElem?_toArray, List.getElem?_cons_succ, List.getElem?_cons_zero]; rfl)
                case hn3019 => kernel_rfl
                case hf3019 => kernel_rfl
                case hr3019 => kernel_rfl
                case hg3019 => rfl
                case hy3019 => (intro w hSw; (try dsimp only at hSw); go_simp; first | done | with_reducible rfl)
                case hq3019 => exact fun _ _ _ h => h
                try simp only [Act.put, List.setIfInBounds_toArray, List.set_cons_zero, List.set_cons_succ]
                refine wpAnyH_take (i := 19) (oi := ?oi3020) (v := ?vv3020) ?hi3020 ?hn3020 ?hf3020 ?hr3020 ?hq3020 (Or.inl ⟨?hg3020, ?hy3020⟩) hH0 ?rest3020
                case hi3020 => (simp only [List.getElem?_toArray, List.getElem?_cons_succ, List.getElem?_cons_zero]; rfl)
                case hn3020 => kernel_rfl
                case hf3020 => kernel_rfl
                case hr3020 => kernel_rfl
                case hg3020 => rfl
                case hy3020 => (intro w hSw; (try dsimp only at hSw); go_simp; first | done | with_reducible rfl)
                case hq3020 => exact fun _ _ _ h => h
                try simp only [Act.put, List.setIfInBounds_toArray, List.set_cons_zero, List.set_cons_succ]
                refine wpAnyH_take (i := 20) (oi := ?oi3021) (v := ?vv3021) ?hi3021 ?hn3021 ?hf3021 ?hr3021 ?hq3021 (Or.inl ⟨?hg3021, ?hy3021⟩) hH0 ?rest3021
                case hi3021 => (simp only [List.getElem?_toArray, List.getElem?_cons_succ, List.getElem?_cons_zero]; rfl)
                case hn3021 => kernel_rfl
                case hf3021 => kernel_rfl
                case hr3021 => kernel_rfl
                case hg3021 => rfl
                case hy3021 => (intro w hSw; (try dsimp only at hSw); go_simp; first | done | with_reducible rfl)
                case hq3021 => exact fun _ _ _ h => h
                try simp only [Act.put, List.setIfInBounds_toArray, List.set_cons_zero, List.set_cons_succ]
                refine wpAnyH_take (i := 21) (oi := ?oi3022) (v := ?vv3022) ?hi3022 ?hn3022 ?hf3022 ?hr3022 ?hq3022 (Or.inl ⟨?hg3022, ?hy3022⟩) hH0 ?rest3022
                case hi3022 => (simp only [List.getElem?_toArray, List.getElem?_cons_succ, List.getElem?_cons_zero]; rfl)
                case hn3022 => kernel_rfl
                case hf3022 => kernel_rfl
                case hr3022 => kernel_rfl
                case hg3022 => rfl
                case hy3022 => (intro w hSw; (try dsimp only at hSw); go_simp; first | done | with_reducible rfl)
                case hq3022 => exact fun _ _ _ h => h
                try simp only [Act.put, List.setIfInBounds_toArray, List.set_cons_zero, List.set_cons_succ]
                refine wpAnyH_take (i := 22) (oi := ?oi3023) (v := ?vv3023) ?hi3023 ?hn3023 ?hf3023 ?hr3023 ?hq3023 (Or.inl ⟨?hg3023, ?hy3023⟩) hH0 ?rest3023
                case hi3023 => (simp only [List.getElem?_toArray, List.getElem?_cons_succ, List.getElem?_cons_zero]; rfl)
                case hn3023 => kernel_rfl
                case hf3023 => kernel_rfl
                case hr3023 => kernel_rfl
                case hg3023 => rfl
                case hy3023 => (intro w hSw; (try dsimp only at hSw); go_simp; first | done | with_reducible rfl)
                case hq3023 => exact fun _ _ _ h => h
                try simp only [Act.put, List.setIfInBounds_toArray, List.set_cons_zero, List.set_cons_succ]
                refine wpAnyH_take (i := 23) (oi := ?oi3024) (v := ?vv3024) ?hi3024 ?hn3024 ?hf3024 ?hr3024 ?hq3024 (Or.inl ⟨?hg3024, ?hy3024⟩) hH0 ?rest3024
                case hi3024 => (simp only [List.getElem?_toArray, List.getElem?_cons_succ, List.getElem?_cons_zero]; rfl)
                case hn3024 => kernel_rfl
                case hf3024 => kernel_rfl
                case hr3024 => kernel_rfl
                case hg3024 => rfl
                case hy3024 => (intro w hSw; (try dsimp only at hSw); go_simp; first | done | with_reducible rfl)
                case hq3024 => exact fun _ _ _ h => h
                try simp only [Act.put, List.setIfInBounds_toArray, List.set_cons_zero, List.set_cons_succ]
                refine wpAnyH_take (i := 25) (oi := ?oi3025) (v := ?vv3025) ?hi3025 ?hn3025 ?hf3025 ?hr3025 ?hq3025 (Or.inl ⟨?hg3025, ?hy3025⟩) hH0 ?rest3025
                case hi3025 => (simp only [List.getElem?_toArray, List.getElem?_cons_succ, List.getElem?_cons_zero]; rfl)
                case hn3025 => kernel_rfl
                case hf3025 => kernel_rfl
                case hr3025 => kernel_rfl
                case hg3025 => rfl
                case hy3025 => (intro w hSw; (try dsimp only at hSw); go_simp; first | done | with_reducible rfl)
                case hq3025 => exact fun _ _ _ h => h
                try simp only [Act.put, List.setIfInBounds_toArray, List.set_cons_zero, List.set_cons_succ]
                refine wpAnyH_take (i := 26) (oi := ?oi3026) (v := ?vv3026) ?hi3026 ?hn3026 ?hf3026 ?hr3026 ?hq3026 (Or.inl ⟨?hg3026, ?hy3026⟩) hH0 ?rest3026
                case hi3026 => (simp only [List.getElem?_toArray, List.getElem?_cons_succ, List.getElem?_cons_zero]; rfl)
                case hn3026 => kernel_rfl
                case hf3026 => kernel_rfl
                case hr3026 => kernel_rfl
                case hg3026 => rfl
                case hy3026 => (intro w hSw; (try dsimp only at hSw); go_simp; first | done | with_reducible rfl)
                case hq3026 => exact fun _ _ _ h => h
                try simp only [Act.put, List.setIfInBounds_toArray, List.set_cons_zero, List.set_cons_succ]
                refine wpAnyH_take (i := 27) (oi := ?oi3027) (v := ?vv3027) ?hi3027 ?hn3027 ?hf3027 ?hr3027 ?hq3027 (Or.inl ⟨?hg3027, ?hy3027⟩) hH0 ?rest3027
                case hi3027 => (simp only [List.getElem?_toArray, List.getElem?_cons_succ, List.getElem?_cons_zero]; rfl)
                case hn3027 => kernel_rfl
                case hf3027 => kernel_rfl
                case hr3027 => kernel_rfl
                case hg3027 => rfl
                case hy3027 => (intro w hSw; (try dsimp only at hSw); go_simp; first | done | with_reducible rfl)
                case hq3027 => exact fun _ _ _ h => h
                try simp only [Act.put, List.setIfInBounds_toArray, List.set_cons_zero, List.set_cons_succ]
                refine wpAnyH_take (i := 28) (oi := ?oi3028) (v := ?vv3028) ?hi3028 ?hn3028 ?hf3028 ?hr3028 ?hq3028 (Or.inl ⟨?hg3028, ?hy3028⟩) hH0 ?rest3028
                case hi3028 => (simp only [List.getElem?_toArray, List.getElem?_cons_succ, List.getElem?_cons_zero]; rfl)
                case hn3028 => kernel_rfl
                case hf3028 => kernel_rfl
                case hr3028 => kernel_rfl
                case hg3028 => rfl
                case hy3028 => (intro w hSw; (try dsimp only at hSw); go_simp; first | done | with_reducible rfl)
                case hq3028 => exact fun _ _ _ h => h
                try simp only [Act.put, List.setIfInBounds_toArray, List.set_cons_zero, List.set_cons_succ]
                refine wpAnyH_take (i := 29) (oi := ?oi3029) (v := ?vv3029) ?hi3029 ?hn3029 ?hf3029 ?hr3029 ?hq3029 (Or.inl ⟨?hg3029, ?hy3029⟩) hH0 ?rest3029
                case hi3029 => (simp only [List.getElem?_toArray, List.getElem?_cons_succ, List.getElem?_cons_zero]; rfl)
                case hn3029 => kernel_rfl
                case hf3029 => kernel_rfl
                case hr3029 => kernel_rfl
                case hg3029 => rfl
                case hy3029 => (intro w hSw; (try dsimp only at hSw); go_simp; first | done | with_reducible rfl)
                case hq3029 => exact fun _ _ _ h => h
                try simp only [Act.put, List.setIfInBounds_toArray, List.set_cons_zero, List.set_cons_succ]
                refine wpAnyH_take (i := 30) (oi := ?oi3030) (v := ?vv3030) ?hi3030 ?hn3030 ?hf3030 ?hr3030 ?hq3030 (Or.inl ⟨?hg3030, ?hy3030⟩) hH0 ?rest3030
                case hi3030 => (simp only [List.getElem?_toArray, List.getElem?_cons_succ, List.getElem?_cons_zero]; rfl)
                case hn3030 => kernel_rfl
                case hf3030 => kernel_rfl
                case hr3030 => kernel_rfl
                case hg3030 => rfl
                case hy3030 => (intro w hSw; (try dsimp only at hSw); go_simp; first | done | with_reducible rfl)
                case hq3030 => exact fun _ _ _ h => h
                try simp only [Act.put, List.setIfInBounds_toArray, List.set_cons_zero, List.set_cons_succ]
                refine wpAnyH_take (i := 31) (oi := ?oi3031) (v := ?vv3031) ?hi3031 ?hn3031 ?hf3031 ?hr3031 ?hq3031 (Or.inl ⟨?hg3031, ?hy3031⟩) hH0 ?rest3031
                case hi3031 => (simp only [List.getElem?_toArray, List.getElem?_cons_succ, List.getElem?_cons_zero]; rfl)
                case hn3031 => kernel_rfl
                case hf3031 => kernel_rfl
                case hr3031 => kernel_rfl
                case hg3031 => rfl
                case hy3031 => (intro w hSw; (try dsimp only at hSw); go_simp; first | done | with_reducible rfl)
                case hq3031 => exact fun _ _ _ h => h
                try simp only [Act.put, List.setIfInBounds_toArray, List.set_cons_zero, List.set_cons_succ]
                refine wpAnyH_take (i := 32) (oi := ?oi3032) (v := ?vv3032) ?hi3032 ?hn3032 ?hf3032 ?hr3032 ?hq3032 (Or.inl ⟨?hg3032, ?hy3032⟩) hH0 ?rest3032
                case hi3032 => (simp only [List.getElem?_toArray, List.getElem?_cons_succ, List.getElem?_cons_zero]; rfl)
                case hn3032 => kernel_rfl
                case hf3032 => kernel_rfl
                case hr3032 => kernel_rfl
                case hg3032 => rfl
                case hy3032 => (intro w hSw; (try dsimp only at hSw); go_simp; first | done | with_reducible rfl)
                case hq3032 => exact fun _ _ _ h => h
                try simp only [Act.put, List.setIfInBounds_toArray, List.set_cons_zero, List.set_cons_succ]
                refine wpAnyH_take (i := 33) (oi := ?oi3033) (v := ?vv3033) ?hi3033 ?hn3033 ?hf3033 ?hr3033 ?hq3033 (Or.inl ⟨?hg3033, ?hy3033⟩) hH0 ?rest3033
                case hi3033 => (simp only [List.getElem?_toArray, List.getElem?_cons_succ, List.getElem?_cons_zero]; rfl)
                case hn3033 => kernel_rfl
                case hf3033 => kernel_rfl
                case hr3033 => kernel_rfl
                case hg3033 => rfl
                case hy3033 => (intro w hSw; (try dsimp only at hSw); go_simp; first | done | with_reducible rfl)
                case hq3033 => exact fun _ _ _ h => h
                try simp only [Act.put, List.setIfInBounds_toArray, List.set_cons_zero, List.set_cons_succ]
                generalize v9.drew = v10 at *
                refine held_one 24 rfl (by kernel_rfl) (fun K hK => ?_)
                go_simp
                refine (L1 _).mono ?_; rintro e v11 ⟨rfl, hbv⟩
                go_wp2_with fail
                refine hK.out (fun (w' : World) => w'.cell? ⟨gx, 0, none⟩ = some (.int .i64 (x1 : Nat)) ∧ w'.cell? ⟨gx, 1, none⟩ = some (.int .i64 (y1 : Nat)) ∧ w'.cell? ⟨g, (i + 1) * 2, none⟩ = some (.int .i64 (x1 : Nat)) ∧ w'.cell? ⟨g, (i + 1) * 2 + 1, none⟩ = some (.int .i64 (y1 : Nat)) ∧ w'.cell? ⟨g, i * 2, none⟩ = some (.int .i64 (x0 : Nat)) ∧ w'.cell? ⟨g, i * 2 + 1, none⟩ = some (.int .i64 (y0 : Nat)) ∧ w'.cell? ⟨g, q * 2, none⟩ = some (.int .i64 (xq : Nat)) ∧ w'.cell? ⟨g, q * 2 + 1, none⟩ = some (.int .i64 (yq : Nat))) _ _ (fun _ h => h) ⟨(hbv.cell (p := ⟨gx, 0, none⟩) m3).trans m1, (hbv.cell (p := ⟨gx, 1, none⟩) m3).trans m2, (hbv.cell (p := ⟨g, (i + 1) * 2, none⟩) og).trans n1, (hbv.cell (p := ⟨g, (i + 1) * 2 + 1, none⟩) og).trans n2, (hbv.cell (p := ⟨g, i * 2, none⟩) og).trans n3, (hbv.cell (p := ⟨g, i * 2 + 1, none⟩) og).trans n4, (hbv.cell (p := ⟨g, q * 2, none⟩) og).trans n5, (hbv.cell (p := ⟨g, q * 2 + 1, none⟩) og).trans n6⟩ ?_
                clear hK K
                try simp only [Act.put, List.setIfInBounds_toArray, List.set_cons_zero, List.set_cons_succ]
                refine held_one 34 rfl (by kernel_rfl) (fun K hK => ?_)
                go_simp
                refine (L2 _).mono ?_; rintro e v12 ⟨rfl, hb⟩
                replace hbv := nx hbv hb
                clear hb
                go_wp2_with fail
                refine hK.out (fun (w' : World) => w'.cell? ⟨gx, 0, none⟩ = some (.int .i64 (x1 : Nat)) ∧ w'.cell? ⟨gx, 1, none⟩ = some (.int .i64 (y1 : Nat)) ∧ w'.cell? ⟨g, (i + 1) * 2, none⟩ = some (.int .i64 (x1 : Nat)) ∧ w'.cell? ⟨g, (i + 1) * 2 + 1, none⟩ = some (.int .i64 (y1 : Nat)) ∧ w'.cell? ⟨g, i * 2, none⟩ = some (.int .i64 (x0 : Nat)) ∧ w'.cell? ⟨g, i * 2 + 1, none⟩ = some (.int .i64 (y0 : Nat)) ∧ w'.cell? ⟨g, q * 2, none⟩ = some (.int .i64 (xq : Nat)) ∧ w'.cell? ⟨g, q * 2 + 1, none⟩ = some (.int .i64 (yq : Nat))) _ _ (fun _ h => h) ⟨(hbv.cell (p := ⟨gx, 0, none⟩) m3).trans m1, (hbv.cell (p := ⟨gx, 1, none⟩) m3).trans m2, (hbv.cell (p := ⟨g, (i + 1) * 2, none⟩) og).trans n1, (hbv.cell (p := ⟨g, (i + 1) * 2 + 1, none⟩) og).trans n2, (hbv.cell (p := ⟨g, i * 2, none⟩) og).trans n3, (hbv.cell (p := ⟨g, i * 2 + 1, none⟩) og).trans n4, (hbv.cell (p := ⟨g, q * 2, none⟩) og).trans n5, (hbv.cell (p := ⟨g, q * 2 + 1, none⟩) og).trans n6⟩ ?_
                clear hK K
                try simp only [Act.put, List.setIfInBounds_toArray, List.set_cons_zero, List.set_cons_succ]
                refine wpAnyH_take (i := 35) (oi := ?oi3201) (v := ?vv3201) ?hi3201 ?hn3201 ?hf3201 ?hr3201 ?hq3201 (Or.inl ⟨?hg3201, ?hy3201⟩) (show (fun (w' : World) => w'.cell? ⟨gx, 0, none⟩ = some (.int .i64 (x1 : Nat)) ∧ w'.cell? ⟨gx, 1, none⟩ = some (.int .i64 (y1 : Nat)) ∧ w'.cell? ⟨g, (i + 1) * 2, none⟩ = some (.int .i64 (x1 : Nat)) ∧ w'.cell? ⟨g, (i + 1) * 2 + 1, none⟩ = some (.int .i64 (y1 : Nat)) ∧ w'.cell? ⟨g, i * 2, none⟩ = some (.int .i64 (x0 : Nat)) ∧ w'.cell? ⟨g, i * 2 + 1, none⟩ = some (.int .i64 (y0 : Nat)) ∧ w'.cell? ⟨g, q * 2, none⟩ = some (.int .i64 (xq : Nat)) ∧ w'.cell? ⟨g, q * 2 + 1, none⟩ = some (.int .i64 (yq : Nat))) _ from ⟨(hbv.cell (p := ⟨gx, 0, none⟩) m3).trans m1, (hbv.cell (p := ⟨gx, 1, none⟩) m3).trans m2, (hbv.cell (p := ⟨g, (i + 1) * 2, none⟩) og).trans n1, (hbv.cell (p := ⟨g, (i + 1) * 2 + 1, none⟩) og).trans n2, (hbv.cell (p := ⟨g, i * 2, none⟩) og).trans n3, (hbv.cell (p := ⟨g, i * 2 + 1, none⟩) og).trans n4, (hbv.cell (p := ⟨g, q * 2, none⟩) og).trans n5, (hbv.cell (p := ⟨g, q * 2 + 1, none⟩) og).trans n6⟩) ?rest3201
                case hi3201 => (simp only [List.getElem?_toArray, List.getElem?_cons_succ, List.getElem?_cons_zero]; rfl)
                case hn3201 => kernel_rfl
                case hf3201 => kernel_rfl
                case hr3201 => kernel_rfl
                case hg3201 => rfl
                case hy3201 => (intro w hSw; (try dsimp only at hSw); go_simp; first | done | with_reducible rfl)
                case hq3201 => exact fun _ _ _ h => h
                try simp only [Act.put, List.setIfInBounds_toArray, List.set_cons_zero, List.set_cons_succ]
                refine wpAnyH_take (i := 36) (oi := ?oi3202) (v := ?vv3202) ?hi3202 ?hn3202 ?hf3202 ?hr3202 ?hq3202 (Or.inl ⟨?hg3202, ?hy3202⟩) (show (fun (w' : World) => w'.cell? ⟨gx, 0, none⟩ = some (.int .i64 (x1 : Nat)) ∧ w'.cell? ⟨gx, 1, none⟩ = some (.int .i64 (y1 : Nat)) ∧ w'.cell? ⟨g, (i + 1) * 2, none⟩ = some (.int .i64 (x1 : Nat)) ∧ w'.cell? ⟨g, (i + 1) * 2 + 1, none⟩ = some (.int .i64 (y1 : Nat)) ∧ w'.cell? ⟨g, i * 2, none⟩ = some (.int .i64 (x0 : Nat)) ∧ w'.cell? ⟨g, i * 2 + 1, none⟩ = some (.int .i64 (y0 : Nat)) ∧ w'.cell? ⟨g, q * 2, none⟩ = some (.int .i64 (xq : Nat)) ∧ w'.cell? ⟨g, q * 2 + 1, none⟩ = some (.int .i64 (yq : Nat))) _ from ⟨(hbv.cell (p := ⟨gx, 0, none⟩) m3).trans m1, (hbv.cell (p := ⟨gx, 1, none⟩) m3).trans m2, (hbv.cell (p := ⟨g, (i + 1) * 2, none⟩) og).trans n1, (hbv.cell (p := ⟨g, (i + 1) * 2 + 1, none⟩) og).trans n2, (hbv.cell (p := ⟨g, i * 2, none⟩) og).trans n3, (hbv.cell (p := ⟨g, i * 2 + 1, none⟩) og).trans n4, (hbv.cell (p := ⟨g, q * 2, none⟩) og).trans n5, (hbv.cell (p := ⟨g, q * 2 + 1, none⟩) og).trans n6⟩) ?rest3202
                case hi3202 => (simp only [List.getElem?_toArray, List.getElem?_cons_succ, List.getElem?_cons_zero]; rfl)
                case hn3202 => kernel_rfl
                case hf3202 => kernel_rfl
                case hr3202 => kernel_rfl
                case hg3202 => rfl
                case hy3202 => (intro w hSw; (try dsimp only at hSw); go_simp; first | done | with_reducible rfl)
                case hq3202 => exact fun _ _ _ h => h
                try simp only [Act.put, List.setIfInBounds_toArray, List.set_cons_zero, List.set_cons_succ]
                refine wpAnyH_take (i := 37) (oi := ?oi3203) (v := ?vv3203) ?hi3203 ?hn3203 ?hf3203 ?hr3203 ?hq3203 (Or.inl ⟨?hg3203, ?hy3203⟩) (show (fun (w' : World) => w'.cell? ⟨gx, 0, none⟩ = some (.int .i64 (x1 : Nat)) ∧ w'.cell? ⟨gx, 1, none⟩ = some (.int .i64 (y1 : Nat)) ∧ w'.cell? ⟨g, (i + 1) * 2, none⟩ = some (.int .i64 (x1 : Nat)) ∧ w'.cell? ⟨g, (i + 1) * 2 + 1, none⟩ = some (.int .i64 (y1 : Nat)) ∧ w'.cell? ⟨g, i * 2, none⟩ = some (.int .i64 (x0 : Nat)) ∧ w'.cell? ⟨g, i * 2 + 1, none⟩ = some (.int .i64 (y0 : Nat)) ∧ w'.cell? ⟨g, q * 2, none⟩ = some (.int .i64 (xq : Nat)) ∧ w'.cell? ⟨g, q * 2 + 1, none⟩ = some (.int .i64 (yq : Nat))) _ from ⟨(hbv.cell (p := ⟨gx, 0, none⟩) m3).trans m1, (hbv.cell (p := ⟨gx, 1, none⟩) m3).trans m2, (hbv.cell (p := ⟨g, (i + 1) * 2, none⟩) og).trans n1, (hbv.cell (p := ⟨g, (i + 1) * 2 + 1, none⟩) og).trans n2, (hbv.cell (p := ⟨g, i * 2, none⟩) og).trans n3, (hbv.cell (p := ⟨g, i * 2 + 1, none⟩) og).trans n4, (hbv.cell (p := ⟨g, q * 2, none⟩) og).trans n5, (hbv.cell (p := ⟨g, q * 2 + 1, none⟩) og).trans n6⟩) ?rest3203
                case hi3203 => (simp only [List.getElem?_toArray, List.getElem?_cons_succ, List.getElem?_cons_zero]; rfl)
                case hn3203 => kernel_rfl
                case hf3203 => kernel_rfl
                case hr3203 => kernel_rfl
                case hg3203 => rfl
                case hy3203 => (intro w hSw; (try dsimp only at hSw); go_simp; first | done | with_reducible rfl)
                case hq3203 => exact fun _ _ _ h => h
                try simp only [Act.put, List.setIfInBounds_toArray, List.set_cons_zero, List.set_cons_succ]
                refine wpAnyH_done (by kernel_rfl) ?_ _
                replace HBd := Lib.hid (nx HBd.out hbv)
                replace Bsd := Lib.hid (heap_keep hbv Bsd.out)
                replace OCd := Lib.hid (OCd.out.keep hbv)
                go_wp2_with fail
                go_roundw
                case rel => exact ⟨i + 1 + 1, by omega, by omega, by go_num, HBd, Bsd, OCd⟩
                case measure => simp [intOf]; omega
          · obtain rfl : j = l.length := by omega
            go_wp2_with fail
            go_ret
            exact ⟨rfl, HB.out⟩
end Go.Proofs.YtjmbkieocmhmiaaGreat
