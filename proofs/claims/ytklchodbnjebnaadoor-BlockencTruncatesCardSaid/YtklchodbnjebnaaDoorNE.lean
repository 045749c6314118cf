/-
  Layer 13: limit, Refine, Contribution of the code; the reference whole.
  Layer 13: the tables; Significance and Sign of the code; the chapter's examples.
-/
import Derived.Test.YtklchodbnjebnaaDoorKit
import Derived.BigQuiet
import Derived.Lib.Hide
import Derived.Lib.LaidTab
import Derived.OpenShut
import Derived.LaidMore
import Derived.SevenTiedAt
set_option maxRecDepth 100000
namespace Go.Proofs.YtklchodbnjebnaaDoor.Cx
open Go.RowKit

theorem drewN_below (w : World) (n : Nat) : Below w.heap.size w (w.drewN n) := by
  induction n with
  | zero => exact Below.refl _ _
  | succ n ih => exact ih.drew
theorem hmx (x y : Int) : (if x < y then y else x) = max x y := by split <;> omega
theorem hmn (x y : Int) : (if y < x then y else x) = min x y := by split <;> omega
def limM (n lo hi : Int) : Int := max lo (min n hi)
theorem lim_c (n lo hi : Int) (w : World) : Calls Tryd.prog 89 #[.int .i64 n, .int .i64 lo, .int .i64 hi] w fun e w' => e = .returned (.int .i64 (limM n lo hi)) ∧ w = w' := by
  have hmx := hmx
  have hmn := hmn
  go_enter Tryd.func89, Tryd.ntmps89
  go_wp2_with fail
  go_ret
  exact ⟨rfl, rfl⟩
def refM (f n : Bool) : Int := if f then (if n then 15 else 14) else 16
theorem ref_c (f n : Bool) (w : World) : Calls Tryd.prog 69 #[.bool f, .bool n] w fun e w' => e = .returned (.int .i64 (refM f n)) ∧ w = w' := by
  cases f <;> cases n <;> (go_enter Tryd.func69, Tryd.ntmps69; go_wp2_with fail; go_ret; exact ⟨rfl, rfl⟩)
def conM (a b : Int) : Int := if a + b < 0 then -1 else if a + b = 0 then 0 else 1
def i64R (a : Int) : Prop := -9223372036854775808 ≤ a ∧ a ≤ 9223372036854775807
theorem xneg (b : Int) (h1 : -9223372036854775808 ≤ b) (h2 : b ≤ 9223372036854775807) : bits .xor .i64 (if IntKind.i64.signed = true then -1 else 9223372036854775807) b = -b - 1 := by
  rw [if_pos (by rfl)]
  have e : (BitVec.ofInt 64 (-1)) ^^^ (BitVec.ofInt 64 b) = ~~~ (BitVec.ofInt 64 b) := by
    have h : BitVec.ofInt 64 (-1) = BitVec.allOnes 64 := by decide
    rw [h, BitVec.allOnes_xor]
  have e2 : bits .xor .i64 (-1) b = IntKind.i64.wrap (((BitVec.ofInt 64 (-1)) ^^^ (BitVec.ofInt 64 b)).toNat : Int) := by
    unfold bits; rfl
  have hm : ∃ m : Nat, (b % ((2 ^ 64 : Nat) : Int)).toNat = m ∧ ((0 ≤ b ∧ (m : Int) = b) ∨ (b < 0 ∧ (m : Int) = b + 18446744073709551616)) := by
    refine ⟨_, rfl, ?_⟩
    have e64 : ((2 ^ 64 : Nat) : Int) = 18446744073709551616 := by decide
    rw [e64]
    omega
  obtain ⟨m, hm, hb⟩ := hm
  rw [e2, e, BitVec.toNat_not, BitVec.toNat_ofInt, hm]
  have e64 : (2 ^ 64 : Nat) = 18446744073709551616 := by decide
  rw [e64]
  simp only [IntKind.wrap, IntKind.signed, IntKind.bits, Bool.true_and]
  by_cases h : ((18446744073709551616 - 1 - m : Nat) : Int) % 2 ^ 64 ≥ 2 ^ (64 - 1)
  · rw [if_pos (by simpa using h)]; omega
  · rw [if_neg (by simpa using h)]; omega
/-- The two tables of P13.1. -/
def strM (p s d : Nat) : Nat := if p = 2 then 8 else if p = 1 then (if 1 ≤ s then 7 else if 1 ≤ d then 6 else 5) else if 0 < s then 2 + s else min d 2
def diaM (n d : Nat) : Nat := if 3 ≤ d then 8 else if d = 2 then 6 + min n 1 else 3 * d + min n 2
def l2 (h : Int) : Nat := (limM h 0 2).toNat
def l4 (h : Int) : Nat := (limM h 0 4).toNat
theorem l2_lt (h : Int) : l2 h < 3 := by unfold l2 limM; omega
theorem l4_lt (h : Int) : l4 h < 5 := by unfold l4 limM; omega
theorem l2_is (h : Int) : limM h 0 2 = (l2 h : Int) := by unfold l2 limM; omega
theorem l4_is (h : Int) : limM h 0 4 = (l4 h : Int) := by unfold l4 limM; omega
theorem l2_r (h : Int) : min (max h 0) 2 = (l2 h : Int) := by unfold l2 limM; omega
theorem l4_r (h : Int) : min (max h 0) 4 = (l4 h : Int) := by unfold l4 limM; omega
def sigN (o : Int) (a b c : Nat) : Nat := if o = 3 then diaM (a + b) c else if o = 1 then strM b a c else strM a b c
def sigM (o h v d : Int) : Int := (sigN o (l2 h) (l2 v) (l4 d) : Nat)
/-- Signs: of h and of v limited; which context, which bit. -/
def sgC (x y : Int) : Int := if x < 0 ∨ (x = 0 ∧ y < 0) then 9 - 3 * x - y else 9 + 3 * x + y
def sgF (x y : Int) : Int := if x < 0 ∨ (x = 0 ∧ y < 0) then 1 else 0
def l1 (h : Int) : Int := limM h (-1) 1
theorem l1_cases (h : Int) : l1 h = -1 ∨ l1 h = 0 ∨ l1 h = 1 := by unfold l1 limM; omega
theorem l1_r (h : Int) : min (max h (-1)) 1 = l1 h := by unfold l1 limM; omega
end Go.Proofs.YtklchodbnjebnaaDoor.Cx
set_option maxRecDepth 100000
namespace Go.Proofs.YtklchodbnjebnaaDoor.Cx
open Go.RowKit

/-- The tables' cells. -/
structure Tabs (w : World) : Prop where
  dia : ∀ d n : Nat, d < 5 → n < 5 → w.cell? ⟨0, d * 5 + n, none⟩ = some (.int .i64 (diaM n d : Nat))
  str : ∀ p s d : Nat, p < 3 → s < 3 → d < 5 → w.cell? ⟨1, p * 15 + s * 5 + d, none⟩ = some (.int .i64 (strM p s d : Nat))
  sgn : ∀ x y : Nat, x < 3 → y < 3 → w.cell? ⟨2, x * 6 + y * 2, none⟩ = some (.int .i64 (sgC ((x : Int) - 1) ((y : Int) - 1))) ∧ w.cell? ⟨2, x * 6 + y * 2 + 1, none⟩ = some (.int .i64 (sgF ((x : Int) - 1) ((y : Int) - 1)))
theorem Tabs.below {w w' : World} (h : Tabs w) (hb : Below w.heap.size w w') : Tabs w' :=
  ⟨fun d n hd hn => (hb.cell (p := ⟨_, _, none⟩) (cell_lt (h.dia d n hd hn))).trans (h.dia d n hd hn),
   fun p s d hp hs hd => (hb.cell (p := ⟨_, _, none⟩) (cell_lt (h.str p s d hp hs hd))).trans (h.str p s d hp hs hd),
   fun x y hx hy => ⟨(hb.cell (p := ⟨_, _, none⟩) (cell_lt (h.sgn x y hx hy).1)).trans (h.sgn x y hx hy).1, (hb.cell (p := ⟨_, _, none⟩) (cell_lt (h.sgn x y hx hy).2)).trans (h.sgn x y hx hy).2⟩⟩
section
variable {H : Type} {enc : TypeId × Value → H} {P : Program} {w : World} {base : Nat} {sp : Nat → Bool} {held : Bool} {k : IntKind}
theorem tab2 {fuel : Nat} {t e i : TypeId} {n m : Nat} {cs : List Value} {ds : List (List Int)} {p : List MemPlace}
    (ht : P.underlying t = some (.array n e)) (he : P.underlying e = some (.array m i)) (hi : P.underlying i = some (.int k)) (hci : P.cellsOf i = 1) (hce : P.cellsOf e = m)
    (h : DataW.trod enc P w base sp held fuel t cs = some (.agg (ds.map (Lib.tabData k)), p)) (a b : Nat) (z : Int) (ha : a < n) (hb : b < m) (hz : (ds[a]?.bind fun l => l[b]?) = some z) : cs[a * m + b]? = some (.int k z) := by
  obtain ⟨xs, q, rfl, hx, _, hl, hf⟩ := DataW.trod_array ht h
  have h1 := hf a ha
  rw [hce] at h1
  have hxs : ds.map (Lib.tabData k) = xs.map (·.1) := by
    have := congrArg Prod.fst hx
    simpa using this
  obtain ⟨l, hda, hlb⟩ := Option.bind_eq_some_iff.1 hz
  have h2 : xs[a]? = some (xs[a]'(by omega)) := List.getElem?_eq_getElem (by omega)
  have h3 : (xs[a]'(by omega)).1 = Lib.tabData k l := by
    have h4 : (ds.map (Lib.tabData (H := H) k))[a]? = some (Lib.tabData k l) := by simp [hda]
    rw [hxs] at h4
    simp [h2] at h4
    exact h4
  rw [h2, show (xs[a]'(by omega)) = (Lib.tabData k l, (xs[a]'(by omega)).2) from Prod.ext h3 rfl] at h1
  have h5 := Lib.cells_of_tab he hi hci hce h1
  have h6 : ((cs.drop (a * m)).take m)[b]? = some (.int k z) := by rw [h5]; simp [hlb]
  rw [List.getElem?_take_of_lt hb, List.getElem?_drop] at h6
  exact h6
theorem tab3 {fuel : Nat} {t e f i : TypeId} {n m o : Nat} {cs : List Value} {ds : List (List (List Int))} {p : List MemPlace}
    (ht : P.underlying t = some (.array n e)) (he : P.underlying e = some (.array m f)) (hf : P.underlying f = some (.array o i)) (hi : P.underlying i = some (.int k)) (hci : P.cellsOf i = 1) (hcf : P.cellsOf f = o) (hce : P.cellsOf e = m * o)
    (h : DataW.trod enc P w base sp held fuel t cs = some (.agg (ds.map fun d => .agg (d.map (Lib.tabData k))), p)) (a b c : Nat) (z : Int) (ha : a < n) (hb : b < m) (hc : c < o) (hz : (ds[a]?.bind fun l => l[b]?.bind fun l => l[c]?) = some z) : cs[a * (m * o) + (b * o + c)]? = some (.int k z) := by
  obtain ⟨xs, q, rfl, hx, _, hl, hg⟩ := DataW.trod_array ht h
  have h1 := hg a ha
  rw [hce] at h1
  have hxs : (ds.map fun d => (.agg (d.map (Lib.tabData k)) : DataW H)) = xs.map (·.1) := by
    have := congrArg Prod.fst hx
    simpa using this
  obtain ⟨l, hda, hlb⟩ := Option.bind_eq_some_iff.1 hz
  have h2 : xs[a]? = some (xs[a]'(by omega)) := List.getElem?_eq_getElem (by omega)
  have h3 : (xs[a]'(by omega)).1 = (.agg (l.map (Lib.tabData k)) : DataW H) := by
    have h4 : (ds.map fun d => (.agg (d.map (Lib.tabData k)) : DataW H))[a]? = some (.agg (l.map (Lib.tabData k))) := by simp [hda]
    rw [hxs] at h4
    simp [h2] at h4
    exact h4
  rw [h2, show (xs[a]'(by omega)) = ((.agg (l.map (Lib.tabData k)) : DataW H), (xs[a]'(by omega)).2) from Prod.ext h3 rfl] at h1
  have h5 := tab2 he hf hi hci hcf h1 b c z hb hc hlb
  have hlt : b * o + c < m * o := by
    have : b * o + c < (b + 1) * o := by rw [Nat.succ_mul]; omega
    exact Nat.lt_of_lt_of_le this (Nat.mul_le_mul_right o hb)
  rw [List.getElem?_take_of_lt hlt, List.getElem?_drop] at h5
  exact h5
end
def diaL : List (List Int) := [[0, 1, 2, 2, 2], [3, 4, 5, 5, 5], [6, 7, 7, 7, 7], [8, 8, 8, 8, 8], [8, 8, 8, 8, 8]]
def strL : List (List (List Int)) := [[[0, 1, 2, 2, 2], [3, 3, 3, 3, 3], [4, 4, 4, 4, 4]], [[5, 6, 6, 6, 6], [7, 7, 7, 7, 7], [7, 7, 7, 7, 7]], [[8, 8, 8, 8, 8], [8, 8, 8, 8, 8], [8, 8, 8, 8, 8]]]
def sgnL : List (List (List Int)) := [[[13, 1], [12, 1], [11, 1]], [[10, 1], [9, 0], [10, 0]], [[11, 0], [12, 0], [13, 0]]]
theorem diaL_at : ∀ d n : Nat, d < 5 → n < 5 → (diaL[d]?.bind fun l => l[n]?) = some (diaM n d : Int) := by
  have h : ∀ d n : Fin 5, (diaL[d.1]?.bind fun l => l[n.1]?) = some (diaM n.1 d.1 : Int) := by decide +kernel
  exact fun d n hd hn => h ⟨d, hd⟩ ⟨n, hn⟩
theorem strL_at : ∀ p s d : Nat, p < 3 → s < 3 → d < 5 → (strL[p]?.bind fun l => l[s]?.bind fun l => l[d]?) = some (strM p s d : Int) := by
  have h : ∀ (p s : Fin 3) (d : Fin 5), (strL[p.1]?.bind fun l => l[s.1]?.bind fun l => l[d.1]?) = some (strM p.1 s.1 d.1 : Int) := by decide +kernel
  exact fun p s d hp hs hd => h ⟨p, hp⟩ ⟨s, hs⟩ ⟨d, hd⟩
theorem sgnL_at : ∀ x y : Nat, x < 3 → y < 3 → (sgnL[x]?.bind fun l => l[y]?.bind fun l => l[0]?) = some (sgC ((x : Int) - 1) ((y : Int) - 1)) ∧ (sgnL[x]?.bind fun l => l[y]?.bind fun l => l[1]?) = some (sgF ((x : Int) - 1) ((y : Int) - 1)) := by
  have h : ∀ x y : Fin 3, (sgnL[x.1]?.bind fun l => l[y.1]?.bind fun l => l[0]?) = some (sgC ((x.1 : Int) - 1) ((y.1 : Int) - 1)) ∧ (sgnL[x.1]?.bind fun l => l[y.1]?.bind fun l => l[1]?) = some (sgF ((x.1 : Int) - 1) ((y.1 : Int) - 1)) := by
    intro x y
    match x, y with
    | 0, 0 => exact ⟨rfl, rfl⟩
    | 0, 1 => exact ⟨rfl, rfl⟩
    | 0, 2 => exact ⟨rfl, rfl⟩
    | 1, 0 => exact ⟨rfl, rfl⟩
    | 1, 1 => exact ⟨rfl, rfl⟩
    | 1, 2 => exact ⟨rfl, rfl⟩
    | 2, 0 => exact ⟨rfl, rfl⟩
    | 2, 1 => exact ⟨rfl, rfl⟩
    | 2, 2 => exact ⟨rfl, rfl⟩
  exact fun x y hx hy => h ⟨x, hx⟩ ⟨y, hy⟩
theorem laid_cut {P : Program} {W : World} {name : String} {d : DataW Unit} {rest : List (String × DataW Unit)} {ps : List MemPlace} {g : Nat} {t : TypeId} (hg : P.globalNamed name = some g) (hty : (P.globals[g]?).map (·.type) = some t)
    (h : DataW.LaidVars P W ((name, d) :: rest) ps) : (∃ (cs : Array Value) (fuel : Nat) (p : List MemPlace), W.var? P name = some cs ∧ DataW.trod (fun _ => ()) P W 0 (fun _ => true) false fuel t cs.toList = some (d, p)) ∧ ∃ q, DataW.LaidVars P W rest q := by
  obtain ⟨g', t', cs, fuel, p, q, hg', ht', hvar, hd, hr, _⟩ := h
  obtain rfl := Option.some.inj (hg.symm.trans hg')
  obtain rfl := Option.some.inj (hty.symm.trans ht')
  exact ⟨⟨_, fuel, p, hvar, hd⟩, q, hr⟩
theorem tabs_of_laid {W : World} (h : laidMetH Tryd.prog [("wavelet/context.straight", Rows.laid_wavelet_context_straight), ("wavelet/context.diagonal", Rows.laid_wavelet_context_diagonal), ("wavelet/context.signs", Rows.laid_wavelet_context_signs)] W) : Tabs W := by
  rw [MakeChecks.laidMetH_plain _ _ _ (by kernel_rfl)] at h
  obtain ⟨ps, h, _⟩ := h
  obtain ⟨⟨c1, f1, p1, v1, t1⟩, q1, h⟩ := laid_cut (g := 1) (t := 158) (by kernel_rfl) (by kernel_rfl) h
  obtain ⟨⟨c2, f2, p2, v2, t2⟩, q2, h⟩ := laid_cut (g := 0) (t := 156) (by kernel_rfl) (by kernel_rfl) h
  obtain ⟨⟨c3, f3, p3, v3, t3⟩, q3, _⟩ := laid_cut (g := 2) (t := 162) (by kernel_rfl) (by kernel_rfl) h
  have n1 : Tryd.prog.globalNamed "wavelet/context.straight" = some 1 := by kernel_rfl
  have n2 : Tryd.prog.globalNamed "wavelet/context.diagonal" = some 0 := by kernel_rfl
  have n3 : Tryd.prog.globalNamed "wavelet/context.signs" = some 2 := by kernel_rfl
  have z5 : Tryd.prog.cellsOf 155 = 5 := by kernel_rfl
  have z15 : Tryd.prog.cellsOf 157 = 3 * 5 := by kernel_rfl
  have z2 : Tryd.prog.cellsOf 42 = 2 := by kernel_rfl
  have z6 : Tryd.prog.cellsOf 161 = 3 * 2 := by kernel_rfl
  have z1 : Tryd.prog.cellsOf 3 = 1 := by kernel_rfl
  have e1 : (Rows.laid_wavelet_context_straight : DataW Unit) = .agg (strL.map fun d => .agg (d.map (Lib.tabData .i64))) := rfl
  have e2 : (Rows.laid_wavelet_context_diagonal : DataW Unit) = .agg (diaL.map (Lib.tabData .i64)) := rfl
  have e3 : (Rows.laid_wavelet_context_signs : DataW Unit) = .agg (sgnL.map fun d => .agg (d.map (Lib.tabData .i64))) := rfl
  rw [e1] at t1
  rw [e2] at t2
  rw [e3] at t3
  refine ⟨fun d n hd hn => ?_, fun p s d hp hs hd => ?_, fun x y hx hy => ⟨?_, ?_⟩⟩
  · have := tab2 Tryd.underlying156 Tryd.underlying155 Tryd.underlying3 z1 z5 t2 d n _ hd hn (diaL_at d n hd hn)
    exact (World.var?_cell n2 v2 _).trans (by simpa using this)
  · have := tab3 Tryd.underlying158 Tryd.underlying157 Tryd.underlying155 Tryd.underlying3 z1 z5 z15 t1 p s d _ hp hs hd (strL_at p s d hp hs hd)
    rw [← Nat.add_assoc] at this
    exact (World.var?_cell n1 v1 _).trans (by simpa using this)
  · have := tab3 Tryd.underlying162 Tryd.underlying161 Tryd.underlying42 Tryd.underlying3 z1 z2 z6 t3 x y 0 _ hx hy (by decide) (sgnL_at x y hx hy).1
    exact (World.var?_cell n3 v3 _).trans (by simpa using this)
  · have := tab3 Tryd.underlying162 Tryd.underlying161 Tryd.underlying42 Tryd.underlying3 z1 z2 z6 t3 x y 1 _ hx hy (by decide) (sgnL_at x y hx hy).2
    rw [← Nat.add_assoc] at this
    exact (World.var?_cell n3 v3 _).trans (by simpa using this)
theorem w3 (a : Nat) (h : a < 16) : IntKind.i64.wrap (a : Int) = (a : Int) := by rw [IntWalk.i64_left]; unfold wrap64; omega
theorem sig_c (o h v d : Int) (w : World) (T : Tabs w) : Calls Tryd.prog 82 #[.int .i64 o, .int .i64 h, .int .i64 v, .int .i64 d] w fun e w' => e = .returned (.int .i64 (sigM o h v d)) ∧ w = w' := by
  have c1 := fun W => lim_c h 0 2 W
  have c2 := fun W => lim_c v 0 2 W
  have c3 := fun W => lim_c d 0 4 W
  rw [l2_is] at c1 c2
  rw [l4_is] at c3
  have ha := l2_lt h
  have hb := l2_lt v
  have hc := l4_lt d
  unfold sigM
  generalize l2 h = a at *
  generalize l2 v = b at *
  generalize l4 d = c at *
  have wa := w3 a (by omega)
  have wb := w3 b (by omega)
  have wc := w3 c (by omega)
  by_cases ho : o = 3
  · subst ho
    have k := T.dia c (a + b) hc (by omega)
    have kk : IntKind.i64.wrap ((a : Int) + (b : Int)) = ((a + b : Nat) : Int) := by rw [IntWalk.i64_left]; unfold wrap64; omega
    have e : sigN 3 a b c = diaM (a + b) c := rfl
    rw [e]
    have hab : a + b < 5 := by omega
    clear ha hb e T
    generalize diaM (a + b) c = r at *
    generalize a + b = ab at *
    go_enter Tryd.func82, Tryd.ntmps82
    go_wp2_with (first | (go_at_call 89; first | ((with_reducible refine (c1 _).mono ?_); rintro e wn ⟨rfl, rfl⟩) | ((with_reducible refine (c2 _).mono ?_); rintro e wn ⟨rfl, rfl⟩) | ((with_reducible refine (c3 _).mono ?_); rintro e wn ⟨rfl, rfl⟩)))
    go_ret
    exact ⟨rfl, rfl⟩
  have o3 : (o == 3) = false := by simpa using ho
  by_cases ho1 : o = 1
  · subst ho1
    have k := T.str b a c hb ha hc
    have e : sigN 1 a b c = strM b a c := rfl
    rw [e]
    clear e T o3 ho
    generalize strM b a c = r at *
    go_enter Tryd.func82, Tryd.ntmps82
    go_wp2_with (first | (go_at_call 89; first | ((with_reducible refine (c1 _).mono ?_); rintro e wn ⟨rfl, rfl⟩) | ((with_reducible refine (c2 _).mono ?_); rintro e wn ⟨rfl, rfl⟩) | ((with_reducible refine (c3 _).mono ?_); rintro e wn ⟨rfl, rfl⟩)))
    go_ret
    exact ⟨rfl, rfl⟩
  have o1 : (o == 1) = false := by simpa using ho1
  have k := T.str a b c ha hb hc
  have e : sigN o a b c = strM a b c := by unfold sigN; rw [if_neg ho, if_neg ho1]
  rw [e]
  clear e T ho ho1
  generalize strM a b c = r at *
  go_enter Tryd.func82, Tryd.ntmps82
  go_wp2_with (first | (go_at_call 89; first | ((with_reducible refine (c1 _).mono ?_); rintro e wn ⟨rfl, rfl⟩) | ((with_reducible refine (c2 _).mono ?_); rintro e wn ⟨rfl, rfl⟩) | ((with_reducible refine (c3 _).mono ?_); rintro e wn ⟨rfl, rfl⟩)))
  go_ret
  exact ⟨rfl, rfl⟩
theorem sgn_c (h v : Int) (w : World) (T : Tabs w) : Calls Tryd.prog 90 #[.int .i64 h, .int .i64 v] w fun e w' => e = .returned (.tuple #[.int .i64 (sgC (l1 h) (l1 v)), .int .i64 (sgF (l1 h) (l1 v))]) ∧ Below w.heap.size w w' := by
  have c1 := fun W => lim_c h (-1) 1 W
  have c2 := fun W => lim_c v (-1) 1 W
  rw [show limM h (-1) 1 = l1 h from rfl] at c1
  rw [show limM v (-1) 1 = l1 v from rfl] at c2
  obtain ⟨x, hx, ex⟩ : ∃ x : Nat, x < 3 ∧ l1 h = (x : Int) - 1 := ⟨(l1 h + 1).toNat, by have := l1_cases h; omega, by have := l1_cases h; omega⟩
  obtain ⟨y, hy, ey⟩ : ∃ y : Nat, y < 3 ∧ l1 v = (y : Int) - 1 := ⟨(l1 v + 1).toNat, by have := l1_cases v; omega, by have := l1_cases v; omega⟩
  rw [ex] at c1
  rw [ey] at c2
  rw [ex, ey]
  have k1 := (T.sgn x y hx hy).1
  have k2 := (T.sgn x y hx hy).2
  have j1 := fun X => ((T.below (below_alloc (Below.refl _ w) X)).sgn x y hx hy).1
  have j2 := fun X => ((T.below (below_alloc (Below.refl _ w) X)).sgn x y hx hy).2
  have wx : IntKind.i64.wrap ((x : Int) - 1 + 1) = (x : Int) := by rw [IntWalk.i64_left]; unfold wrap64; omega
  have wy : IntKind.i64.wrap ((y : Int) - 1 + 1) = (y : Int) := by rw [IntWalk.i64_left]; unfold wrap64; omega
  generalize sgC ((x : Int) - 1) ((y : Int) - 1) = C at *
  generalize sgF ((x : Int) - 1) ((y : Int) - 1) = G at *
  have wx' := w3 x (by omega)
  have wy' := w3 y (by omega)
  have hx' : (x : Int) < 3 := by omega
  have hy' : (y : Int) < 3 := by omega
  clear ex ey T
  go_enter Tryd.func90, Tryd.ntmps90
  go_wp2_with fail
  go_region_law (first | (go_simp; go_at_call 89; first | ((with_reducible refine (c1 _).mono ?_); rintro e wn ⟨rfl, rfl⟩) | ((with_reducible refine (c2 _).mono ?_); rintro e wn ⟨rfl, rfl⟩)))
  all_goals (go_wp2_with fail; go_quiet (fail); go_wp2_with fail; go_ret2; exact ⟨rfl, below_call (below_alloc (Below.refl _ w) _).drew (drewN_below _ _)⟩)
end Go.Proofs.YtklchodbnjebnaaDoor.Cx
