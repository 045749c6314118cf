/-
  What every statement of this seat is closed by: lists of integers with their ranges; a block as an argument.
  Layer 15: a block as an argument of a law; small, FewValues, ValidOrient.
  Layer 15: what the symbols of a pass are.
-/
import Derived.Test.YtklchodbnjebnaaDoorFrameI
import Derived.Test.YtklchodbnjebnaaDoorNM
set_option maxRecDepth 100000
namespace Go.Proofs.YtklchodbnjebnaaDoor
open Go.ChangeShapes Go.WideShapes Go.ChangeAt Go.RowKit Go.Joins Go.Deep

theorem cells8 : Tryd.prog.cellsOf 5 = 1 := by kernel_rfl
def HoldsF (w : World) (a : Option Addr) (l : List Int) : Prop := l = [] ∨ ∃ b off, a = some ⟨b, off, none⟩ ∧ ∀ k (_ : k < l.length), w.cell? ⟨b, off + k, none⟩ = some (.int .u8 l[k])
theorem HoldsF.call {w w1 : World} {a : Option Addr} {l : List Int} (h : HoldsF w a l) (hb : Below w.heap.size w w1) : HoldsF w1 a l := by
  rcases h with h | ⟨b, off, rfl, hr⟩
  · exact .inl h
  · exact .inr ⟨b, off, rfl, fun k hk => (hb.cell (p := ⟨b, _, none⟩) (cell_lt (hr k hk))).trans (hr k hk)⟩
/-- A slice of integers with their range, opened. -/
theorem open_intsF {H : Type} {enc : TypeId × Value → H} {w : World} {fuel : Nat} {v : Value} {x : DataW H × List MemPlace}
    (h : DataW.trod enc Tryd.prog w 0 (fun _ => true) true fuel 22 [v] = some x) :
    ∃ (a : Option Addr) (l : List Int) (cap : Nat), v = .slice a l.length cap ∧ HoldsI w a l ∧ (∀ x ∈ l, -9223372036854775808 ≤ x ∧ x ≤ 9223372036854775807) ∧ l.length ≤ cap ∧ cap ≤ maxLen ∧ (a = none → l.length = 0 ∧ cap = 0) := by
  rcases open_slice1 Tryd.underlying22 cellsI h with ⟨hcs, _⟩ | ⟨a', len, cap', m, k, V, D, Pl', hcs, _, hl, hm, hmm, _, hi⟩
  · simp at hcs
    subst hcs
    exact ⟨none, [], 0, rfl, .inl rfl, fun x hx => by simp at hx, Nat.le_refl _, Nat.zero_le _, fun _ => ⟨rfl, rfl⟩⟩
  · simp at hcs
    subst hcs
    have hmm' : m = cap' := by simpa using hmm
    by_cases hn0 : len = 0
    · subst hn0
      exact ⟨some a', [], cap', rfl, .inl rfl, fun x hx => by simp at hx, Nat.zero_le _, hm, fun h => by simp at h⟩
    · have key : ∀ i, i < len → ∃ n : Int, w.cell? (a'.add i) = some (.int .i64 n) ∧ -9223372036854775808 ≤ n ∧ n ≤ 9223372036854775807 := by
        intro i hin
        obtain ⟨h1, h2⟩ := hi i (by omega)
        obtain ⟨n, e, _, hw⟩ := DataW.trod_int Tryd.underlying3 h2
        simp at e
        exact ⟨n, by rw [h1, e], by have h3 := hw; simp [Lit.wf] at h3; (try rw [show IntKind.i64.min = -9223372036854775808 by decide] at h3); (try rw [show IntKind.i64.max = 9223372036854775807 by decide] at h3); exact h3⟩
      obtain ⟨b, off, spot⟩ := a'
      obtain ⟨q, hq, _⟩ := key 0 (by omega)
      have hspot : spot = none := by
        have := World.cell?_spot hq
        simpa [Addr.add] using this
      subst hspot
      have key' : ∀ i, i < len → ∃ n : Int, w.cell? ⟨b, off + i, none⟩ = some (.int .i64 n) ∧ -9223372036854775808 ≤ n ∧ n ≤ 9223372036854775807 := fun i hi => by
        obtain ⟨n, hn⟩ := key i hi
        exact ⟨n, by rw [add_plain] at hn; exact hn⟩
      refine ⟨some ⟨b, off, none⟩, List.ofFn (fun i : Fin len => Classical.choose (key' i.1 i.2)), cap', by simp, .inr ⟨b, off, rfl, fun k hk => ?_⟩, fun x hx => ?_, by simpa using hl, hm, fun h => by simp at h⟩
      · have hk' : k < len := by simpa using hk
        rw [List.getElem_ofFn]
        exact (Classical.choose_spec (key' k hk')).1
      · obtain ⟨i, rfl⟩ := (List.mem_ofFn (f := fun i : Fin len => Classical.choose (key' i.1 i.2))).1 hx
        exact (Classical.choose_spec (key' i.1 i.2)).2
/-- A slice of bytes, opened. -/
theorem open_u8sF {H : Type} {enc : TypeId × Value → H} {w : World} {fuel : Nat} {v : Value} {x : DataW H × List MemPlace}
    (h : DataW.trod enc Tryd.prog w 0 (fun _ => true) true fuel 23 [v] = some x) :
    ∃ (a : Option Addr) (l : List Int) (cap : Nat), v = .slice a l.length cap ∧ HoldsF w a l ∧ (∀ x ∈ l, 0 ≤ x ∧ x ≤ 255) ∧ l.length ≤ cap ∧ cap ≤ maxLen ∧ (a = none → l.length = 0 ∧ cap = 0) := by
  rcases open_slice1 Tryd.underlying23 cells8 h with ⟨hcs, _⟩ | ⟨a', len, cap', m, k, V, D, Pl', hcs, _, hl, hm, hmm, _, hi⟩
  · simp at hcs
    subst hcs
    exact ⟨none, [], 0, rfl, .inl rfl, fun x hx => by simp at hx, Nat.le_refl _, Nat.zero_le _, fun _ => ⟨rfl, rfl⟩⟩
  · simp at hcs
    subst hcs
    have hmm' : m = cap' := by simpa using hmm
    by_cases hn0 : len = 0
    · subst hn0
      exact ⟨some a', [], cap', rfl, .inl rfl, fun x hx => by simp at hx, Nat.zero_le _, hm, fun h => by simp at h⟩
    · have key : ∀ i, i < len → ∃ n : Int, w.cell? (a'.add i) = some (.int .u8 n) ∧ 0 ≤ n ∧ n ≤ 255 := by
        intro i hin
        obtain ⟨h1, h2⟩ := hi i (by omega)
        obtain ⟨n, e, _, hw⟩ := DataW.trod_int Tryd.underlying5 h2
        simp at e
        exact ⟨n, by rw [h1, e], by have h3 := hw; simp [Lit.wf] at h3; (try rw [show IntKind.u8.min = 0 by decide] at h3); (try rw [show IntKind.u8.max = 255 by decide] at h3); exact h3⟩
      obtain ⟨b, off, spot⟩ := a'
      obtain ⟨q, hq, _⟩ := key 0 (by omega)
      have hspot : spot = none := by
        have := World.cell?_spot hq
        simpa [Addr.add] using this
      subst hspot
      have key' : ∀ i, i < len → ∃ n : Int, w.cell? ⟨b, off + i, none⟩ = some (.int .u8 n) ∧ 0 ≤ n ∧ n ≤ 255 := fun i hi => by
        obtain ⟨n, hn⟩ := key i hi
        exact ⟨n, by rw [add_plain] at hn; exact hn⟩
      refine ⟨some ⟨b, off, none⟩, List.ofFn (fun i : Fin len => Classical.choose (key' i.1 i.2)), cap', by simp, .inr ⟨b, off, rfl, fun k hk => ?_⟩, fun x hx => ?_, by simpa using hl, hm, fun h => by simp at h⟩
      · have hk' : k < len := by simpa using hk
        rw [List.getElem_ofFn]
        exact (Classical.choose_spec (key' k hk')).1
      · obtain ⟨i, rfl⟩ := (List.mem_ofFn (f := fun i : Fin len => Classical.choose (key' i.1 i.2))).1 hx
        exact (Classical.choose_spec (key' i.1 i.2)).2
/-- An argument that is a slice of integers. -/
theorem open_intsR {H : Type} {enc : TypeId × Value → H} {w : World} {r : Reach} {b0 : Nat} {v : Value} {d : DataW H} {p : List MemPlace}
    (hv : Value.okWide Tryd.prog w r b0 22 v) (h : DataW.Trod enc Tryd.prog w 0 (fun _ => true) true 22 v d p) :
    ∃ (a : Option Addr) (l : List Int) (cap : Nat), v = .slice a l.length cap ∧ HoldsI w a l ∧ (∀ x ∈ l, i64R x) := by
  obtain ⟨a, n, cap, rfl⟩ := okWide_slice Tryd.underlying22 hv
  obtain ⟨fuel, hf⟩ := h
  obtain ⟨a, l, cap, h1, h2, h3, _⟩ := open_intsF (enc := enc) (w := w) (by simpa [Value.cells] using hf)
  exact ⟨a, l, cap, h1, h2, h3⟩
theorem i64_of {a : Int} (h : (Lit.int .i64 a).wf = true) : i64R a := by
  have h3 := h
  simp [Lit.wf] at h3
  try rw [show IntKind.i64.min = -9223372036854775808 by decide] at h3
  try rw [show IntKind.i64.max = 9223372036854775807 by decide] at h3
  exact h3
end Go.Proofs.YtklchodbnjebnaaDoor
set_option maxRecDepth 100000
namespace Go.Proofs.YtklchodbnjebnaaDoor
open Go.ChangeShapes Go.WideShapes Go.ChangeAt Go.RowKit Go.Joins Go.Deep

/-- A law's block: sizes, values, flags, orientation, mode. -/
structure BV where
  W : Int
  H : Int
  s : Option Addr
  l : List Int
  cp : Nat
  sf : Option Addr
  fl : List Int
  cf : Nat
  o : Int
  m : Mo
def BV.cs (b : BV) : Array Value := #[.int .i64 b.W, .int .i64 b.H, .slice b.s b.l.length b.cp, .slice b.sf b.fl.length b.cf, .int .i64 b.o, .bool b.m.b, .bool b.m.r, .bool b.m.s, .bool b.m.c, .bool b.m.y]
def BV.val (b : BV) : Value := .agg b.cs
structure BVk (w : World) (b : BV) : Prop where
  h : HoldsI w b.s b.l
  r : ∀ x ∈ b.l, i64R x
  f : HoldsF w b.sf b.fl
  rf : ∀ x ∈ b.fl, 0 ≤ x ∧ x ≤ 255
  len : b.l.length ≤ 9223372036854775807
theorem BVk.call {w w1 : World} {b : BV} (h : BVk w b) (hb : Below w.heap.size w w1) : BVk w1 b := ⟨h.h.call hb, h.r, h.f.call hb, h.rf, h.len⟩
theorem arr10 (T : Array Value) (h : T.size = 10) : ∃ v0 v1 v2 v3 v4 v5 v6 v7 v8 v9, T = #[v0, v1, v2, v3, v4, v5, v6, v7, v8, v9] := by
  obtain ⟨l⟩ := T
  match l, h with
  | [v0, v1, v2, v3, v4, v5, v6, v7, v8, v9], _ => exact ⟨v0, v1, v2, v3, v4, v5, v6, v7, v8, v9, rfl⟩
theorem open_modeF {H : Type} {enc : TypeId × Value → H} {w : World} {fuel : Nat} {c0 c1 c2 c3 c4 : Value} {x : DataW H × List MemPlace} (hf : DataW.trod enc Tryd.prog w 0 (fun _ => true) true fuel 27 [c0, c1, c2, c3, c4] = some x) :
    ∃ z0 z1 z2 z3 z4 : Bool, c0 = .bool z0 ∧ c1 = .bool z1 ∧ c2 = .bool z2 ∧ c3 = .bool z3 ∧ c4 = .bool z4 := by
  obtain ⟨xs, n, _, _, _, hl, hg⟩ := DataW.trod_struct Tryd.underlying27 hf
  have key : ∀ (j : Nat) (c : Value) (f : Field), j < 5 → ([c0, c1, c2, c3, c4] : List Value)[j]? = some c → (∀ g, f = g → g.offset = j ∧ Tryd.prog.cellsOf g.type = 1 ∧ g.type = 4) → (DataW.trod enc Tryd.prog w 0 (fun _ => true) true n f.type ((([c0, c1, c2, c3, c4] : List Value).drop f.offset).take (Tryd.prog.cellsOf f.type)) = xs[j]?) → ∃ z : Bool, c = .bool z := by
    intro j c f hj hc hff ht
    obtain ⟨f1, f2, f3⟩ := hff f rfl
    have hx : xs[j]? = some (xs[j]'(by rw [hl]; exact hj)) := List.getElem?_eq_getElem _
    rw [f1, f2, f3, hx] at ht
    obtain ⟨hj', hc'⟩ := List.getElem?_eq_some_iff.1 hc
    rw [List.drop_eq_getElem_cons hj', hc'] at ht
    obtain ⟨z, e, _⟩ := DataW.trod_bool Tryd.underlying4 ht
    simp at e
    exact ⟨z, e⟩
  obtain ⟨z0, e0⟩ := key 0 c0 _ (by decide) rfl (fun g hg => by subst hg; exact ⟨rfl, by kernel_rfl, rfl⟩) (hg 0 _ rfl)
  obtain ⟨z1, e1⟩ := key 1 c1 _ (by decide) rfl (fun g hg => by subst hg; exact ⟨rfl, by kernel_rfl, rfl⟩) (hg 1 _ rfl)
  obtain ⟨z2, e2⟩ := key 2 c2 _ (by decide) rfl (fun g hg => by subst hg; exact ⟨rfl, by kernel_rfl, rfl⟩) (hg 2 _ rfl)
  obtain ⟨z3, e3⟩ := key 3 c3 _ (by decide) rfl (fun g hg => by subst hg; exact ⟨rfl, by kernel_rfl, rfl⟩) (hg 3 _ rfl)
  obtain ⟨z4, e4⟩ := key 4 c4 _ (by decide) rfl (fun g hg => by subst hg; exact ⟨rfl, by kernel_rfl, rfl⟩) (hg 4 _ rfl)
  exact ⟨z0, z1, z2, z3, z4, e0, e1, e2, e3, e4⟩
def BV.small (b : BV) : Prop := 1 ≤ b.W ∧ b.W ≤ 12 ∧ 1 ≤ b.H ∧ b.H ≤ 12 ∧ (b.l.length : Int) = b.W * b.H ∧ plnN b.l ≤ 60
instance (b : BV) : Decidable b.small := by unfold BV.small; infer_instance
end Go.Proofs.YtklchodbnjebnaaDoor
set_option maxRecDepth 100000
namespace Go.Proofs.YtklchodbnjebnaaDoor
open Go.RowKit

/-- A list of symbols of a pass: bits, contexts in their range. -/
def Gd (p : Pp) (l : List Sy) : Prop := ∀ z ∈ l, (z.2 = 0 ∨ z.2 = 1) ∧ ∃ c, 0 ≤ c ∧ c ≤ 18 ∧ z.1 = cxP p c
section
variable {p : Pp} {e : Es}
theorem Gd.put (h : Gd p e.2) {c b : Int} (hc : 0 ≤ c ∧ c ≤ 18) (hb : b = 0 ∨ b = 1) : Gd p (putS p e c b).2 := by
  intro z hz
  unfold putS at hz
  rcases List.mem_append.1 hz with hz | hz
  · exact h z hz
  · simp at hz
    subst hz
    exact ⟨hb, c, hc.1, hc.2, rfl⟩
theorem sgC_in (x y : Int) (hx : x = -1 ∨ x = 0 ∨ x = 1) (hy : y = -1 ∨ y = 0 ∨ y = 1) : 0 ≤ Cx.sgC x y ∧ Cx.sgC x y ≤ 18 := by
  rcases hx with rfl | rfl | rfl <;> rcases hy with rfl | rfl | rfl <;> decide
theorem strM_le (p s d : Nat) (hs : s < 3) : Cx.strM p s d ≤ 8 := by
  unfold Cx.strM
  repeat' split
  all_goals omega
theorem diaM_le (n d : Nat) : Cx.diaM n d ≤ 8 := by
  unfold Cx.diaM
  repeat' split
  all_goals omega
theorem sigM_in (o h v d : Int) : 0 ≤ Cx.sigM o h v d ∧ Cx.sigM o h v d ≤ 18 := by
  unfold Cx.sigM Cx.sigN
  have h1 := strM_le (Cx.l2 h) (Cx.l2 v) (Cx.l4 d) (Cx.l2_lt v)
  have h2 := strM_le (Cx.l2 v) (Cx.l2 h) (Cx.l4 d) (Cx.l2_lt h)
  have h3 := diaM_le (Cx.l2 h + Cx.l2 v) (Cx.l4 d)
  repeat' split
  all_goals omega
theorem Gd.sign (h : Gd p e.2) (x y : Int) : Gd p (signS p e x y).2 :=
  h.put (c := sgnC p e.1 x y) (b := xorM (negM (e.1.v x y)) (sgnF p e.1 x y)) (sgC_in _ _ (Cx.l1_cases _) (Cx.l1_cases _)) (xorM_in _ _)
theorem Gd.code (h : Gd p e.2) (x y : Int) : Gd p (codeS p e x y).2 := by
  have h1 := h.put (sigM_in p.o (nbH e.1 x y) (nbV e.1 x y p.c) (nbD e.1 x y p.c)) (bitM_in (e.1.v x y) p.s)
  unfold codeS
  split
  · exact h1.sign x y
  · exact h1
theorem Gd.sig (h : Gd p e.2) (z : Int × Int) : Gd p (sigS p e z).2 := by
  unfold sigS
  split
  · exact h.code z.1 z.2
  · exact h
theorem refM_in (f n : Bool) : 0 ≤ Cx.refM f n ∧ Cx.refM f n ≤ 18 := by cases f <;> cases n <;> decide
theorem Gd.ref (h : Gd p e.2) (z : Int × Int) : Gd p (refS p e z).2 := by
  unfold refS
  split
  · exact h.put (refM_in _ _) (bitM_in _ _)
  · exact h
theorem Gd.cln (h : Gd p e.2) (z : Int × Int) : Gd p (clnS p e z).2 := by
  unfold clnS
  split
  · exact h
  · exact h.code z.1 z.2
theorem Gd.fold {α : Type} (f : Es → α → Es) (hf : ∀ e z, Gd p e.2 → Gd p (f e z).2) (l : List α) : ∀ e : Es, Gd p e.2 → Gd p (l.foldl f e).2 := by
  induction l with
  | nil => exact fun e h => h
  | cons a l ih => exact fun e h => ih _ (hf e a h)
theorem Gd.run (h : Gd p e.2) (x top : Nat) : Gd p (runS p e x top).2 := by
  unfold runS
  have hz := zer_le (oneQ p e.1 x top)
  split
  · exact h.put (by decide) (.inl rfl)
  · refine Gd.sign (((h.put (by decide) (.inr rfl)).put (by decide) ?_).put (by decide) ?_) _ _
    · rename_i hn
      unfold zerQ at *
      omega
    · omega
theorem Gd.col (h : Gd p e.2) (x top n : Nat) : Gd p (colS p e x top n).2 := by
  unfold colS
  split
  · exact Gd.fold _ (fun e z h => h.cln z) _ _ (h.run x top)
  · exact Gd.fold _ (fun e z h => h.cln z) _ _ h
theorem Gd.cl (h : Gd p e.2) (k : Nat) : Gd p (clS p e k).2 := Gd.fold _ (fun _ _ h => Gd.fold _ (fun _ _ h => h.col _ _ _) _ _ h) _ _ h
theorem off_l (l : List (Int × Int)) : ∀ e : Es, (offS p e l).2 = e.2 := by
  induction l with
  | nil => exact fun e => rfl
  | cons a l ih => exact fun e => (ih _).trans rfl
theorem Gd.clean (h : Gd p e.2) (y : Bool) : Gd p (cleanS p y e).2 := by
  have h1 : Gd p (offS p (clS p e ((p.h + 3) / 4)) (scan p.w p.h)).2 := by rw [off_l]; exact h.cl _
  unfold cleanS endS chkS
  split
  · exact (((h1.put (by decide) (.inr rfl)).put (by decide) (.inl rfl)).put (by decide) (.inr rfl)).put (by decide) (.inl rfl)
  · exact h1
theorem Gd.pass (h : Gd p e.2) (k : Int) (y : Bool) : Gd p (passS p k y e).2 := by
  unfold passS
  split
  · exact Gd.fold _ (fun e z h => h.sig z) _ _ h
  split
  · exact Gd.fold _ (fun e z h => h.ref z) _ _ h
  · exact h.clean y
end
theorem gd_sym (w h : Nat) (planes o : Int) (m : Mo) (q : St) (k : Nat) : Gd (ppR w h (k : Int) planes o m) (symP w h planes o m q k) := Gd.pass (fun z hz => by simp at hz) _ _
theorem chkS_l (p : Pp) (e : Es) : (chkS p e).2 = e.2 ++ [(cxP p 18, 1), (cxP p 18, 0), (cxP p 18, 1), (cxP p 18, 0)] := by unfold chkS putS; simp
/-- The check symbols at the end of a cleanup pass. -/
theorem chk_end (w h : Nat) (planes o : Int) (m : Mo) (q : St) (k : Nat) (hk : kndP (k : Int) = 2) (hy : m.y = true) : ∃ l0, symP w h planes o m q k = l0 ++ [(18, 1), (18, 0), (18, 1), (18, 0)] := by
  have hr : (ppR w h (k : Int) planes o m).raw = false := by
    show rawM (k : Int) m.b = false
    unfold rawM
    rw [hk]
    simp
  have e : symP w h planes o m q k = (cleanS (ppR w h (k : Int) planes o m) true (blkP w h planes o m q k, [])).2 := by
    unfold symP runQ passS
    rw [hk, hy, if_neg (by decide), if_neg (by decide)]
  rw [e]
  unfold cleanS endS
  rw [if_pos rfl, chkS_l]
  have hc : cxP (ppR w h (k : Int) planes o m) 18 = 18 := by unfold cxP; rw [hr]; rfl
  rw [hc]
  exact ⟨_, rfl⟩
theorem raw_c2 (c : Int) (hc : 0 ≤ c ∧ c ≤ 18) (p : Pp) : (cxP p c == -1) = p.raw ∧ -1 ≤ cxP p c ∧ cxP p c ≤ 18 := by
  unfold cxP
  cases p.raw
  · simp; omega
  · simp
theorem passS_len (p : Pp) (k : Int) (y : Bool) (e : Es) (hw : p.w ≤ 64) (hh : p.h ≤ 64) : (passS p k y e).2.length ≤ e.2.length + 20000 := by
  have hs := scan_l p.w p.h hw hh
  unfold passS
  split
  · have := foldl_len (sigS p) 2 (sigS_len p) (scan p.w p.h) e
    omega
  split
  · have := foldl_len (refS p) 2 (refS_len p) (scan p.w p.h) e
    omega
  · have h1 := clS_len p e ((p.h + 3) / 4)
    have h2 : 12 * p.w * ((p.h + 3) / 4) ≤ 12 * 64 * 16 := Nat.mul_le_mul (Nat.mul_le_mul_left _ hw) (by omega)
    have h3 := offS_len p (clS p e ((p.h + 3) / 4)) (scan p.w p.h)
    unfold cleanS endS
    split
    · rw [chkS_l]
      simp
      omega
    · omega
theorem sym_len (w h : Nat) (planes o : Int) (m : Mo) (q : St) (k : Nat) (hw : w ≤ 64) (hh : h ≤ 64) : (symP w h planes o m q k).length ≤ 20000 := by
  have := passS_len (ppR w h (k : Int) planes o m) (kndP (k : Int)) m.y (blkP w h planes o m q k, []) hw hh
  have h2 : (symP w h planes o m q k).length ≤ ([] : List Sy).length + 20000 := this
  simpa using h2
theorem symL_at (w h : Nat) (planes o : Int) (m : Mo) (q : St) (n k : Nat) (hk : k < (symL w h planes o m q n).length) : (symL w h planes o m q n)[k] = symP w h planes o m q k := by
  have e : symL w h planes o m q n = (List.range n).map (symP w h planes o m q) := rfl
  have h2 : (symL w h planes o m q n)[k]? = some (symP w h planes o m q k) := by
    rw [e, List.getElem?_map]
    have : k < n := by rw [e] at hk; simpa using hk
    rw [List.getElem?_range this]
    rfl
  exact (List.getElem?_eq_some_iff.1 h2).2
theorem symL_len (w h : Nat) (planes o : Int) (m : Mo) (q : St) (n : Nat) : (symL w h planes o m q n).length = n := by unfold symL; simp
theorem ss_at {w W : World} {s : Option Addr} {n m : Nat} {L : List (List Sy)} (H : SsAt w W (.slice s n m) L) {k : Nat} (hk : k < L.length) : ∃ b sk mk, s = some ⟨b, 0, none⟩ ∧ W.cell? ⟨b, k, none⟩ = some (.slice sk L[k].length mk) ∧ HoldsY W sk L[k] ∧ L[k].length ≤ mk := by
  obtain ⟨vs, h1, h2, h3⟩ := H.ex
  have hn : n = L.length := by
    rcases h2.2 with ⟨e, h0⟩ | ⟨g, cap, cur, e, _⟩
    · simp at e; omega
    · simp at e; omega
  subst hn
  obtain ⟨g, rfl, hc, _⟩ := own_at h2 k hk
  have hv := h3 k (by omega) hk
  obtain ⟨sk, mk, e⟩ := own2_slice hv
  rw [e] at hv
  refine ⟨g, sk, mk, rfl, by rw [hc, List.getElem?_eq_getElem (by omega), e], (own_holdsY hv).2, ?_⟩
  rcases hv.2 with ⟨e, h0⟩ | ⟨g, cap, cur, e, _, _, _, hm, _⟩
  · omega
  · simp at e; omega
theorem ss_cap {w W : World} {v : Value} {L : List (List Sy)} (H : SsAt w W v L) : ∃ s m, v = .slice s L.length m ∧ HoldsZ W s L ∧ L.length ≤ m := by
  obtain ⟨s, m, rfl, h⟩ := ss_holds H
  refine ⟨s, m, rfl, h, ?_⟩
  obtain ⟨vs, h1, h2, h3⟩ := H.ex
  rcases h2.2 with ⟨e, h0⟩ | ⟨g, cap, cur, e, _, _, _, hm, _⟩
  · omega
  · simp at e; omega
theorem HoldsZ.take {w : World} {s : Option Addr} {L : List (List Sy)} (h : HoldsZ w s L) (n : Nat) : HoldsZ w s (L.take n) := by
  rcases h with rfl | ⟨b, off, rfl, hr⟩
  · exact .inl (by simp)
  · refine .inr ⟨b, off, rfl, fun k hk => ?_⟩
    rw [List.length_take] at hk
    rw [List.getElem_take]
    exact hr k (by omega)
theorem holdsY_part {w : World} {b off : Nat} {l : List Sy} (h : HoldsY w (some ⟨b, off, none⟩) l) (k : Nat) : HoldsY w (some ⟨b, off + k * 2, none⟩) (l.drop k) := by
  rcases h with rfl | ⟨b', o', e, hr⟩
  · exact .inl (by simp)
  · cases e
    refine .inr ⟨b, off + k * 2, rfl, fun j hj => ?_⟩
    have hj2 : k + j < l.length := by rw [List.length_drop] at hj; omega
    have := hr (k + j) hj2
    rw [List.getElem_drop, show off + k * 2 + j * 2 = off + (k + j) * 2 by omega]
    exact this
end Go.Proofs.YtklchodbnjebnaaDoor
