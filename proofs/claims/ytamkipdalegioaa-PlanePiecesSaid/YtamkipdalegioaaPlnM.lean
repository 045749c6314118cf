/-
  A list of the call's own that grows, in a plane's variable; what each call of the reference's Crop returns and leaves.
-/
import Derived.Test.YtamkipdalegioaaPlnL
import Derived.Deep.RegionLaw
namespace Go.Proofs.Ytamkipdalegioaa
open Go.RowKit

/-- append to a row of the call's own, as one step of a region that draws its order. -/
theorem step_append_own {P : Program} {ops : Array Oper} {o : Oper} {act : Act} {w : World} {K : Act → World → Prop} {Q : Exit → Act → World → Prop} {E : Prop} (hgd : o.guard = none) (s x : Operand) (t : TypeId)
    (ho : o.op = .call { callee := .builtin .append, args := #[s, x], argTypes := #[t, t] })
    (base : Nat) (e : TypeId) (i : TypeInfo) (z : Value) (size bytes : Nat) (ht : P.underlying t = some (.slice e)) (hi : P.info? e = some i) (hz : i.zero = some z)
    (hsize : i.size = size) (hby : i.bytes = bytes) (hzs : z.cells.size = size) (hsz : 0 < size)
    (v : Value) (n : Nat) (xs : List Value) (hs : act.eval s = v) (hown : w.ownsRow base e size v n xs)
    (ad : Addr) (m c : Nat) (news : List Value) (hx : act.eval x = .slice (some ad) m c) (hl : news.length = m * size) (hnews : ∀ j u, news[j]? = some u → w.cell? (ad.add j) = some u) (h1 : ∀ u ∈ news, u.oneCell' = true)
    (h63 : n + m ≤ maxLen) (hbytes : (n + m) * bytes ≤ 140737488355328) (hbase : base ≤ w.heap.size)
    (h : ∀ v' w', w'.ownsRow base e size v' (n + m) (xs ++ news) → w.grownBy w' v.ownBlock → K (act.put o.dst v') w') :
    if Region.wanted o (yielded ops act.tmps) = true then Oper.wp P o act w K Q else E := by
  have hw : Region.wanted o (yielded ops act.tmps) = true := by simp [Region.wanted, hgd]
  rw [if_pos hw]
  exact wp_append_own w s x t ho base e i z size bytes ht hi hz hsize hby hzs hsz v n xs hs hown ad m c news hx hl hnews h1 h63 hbytes hbase fun v' w' h2 h3 _ => h v' w' h2 h3
theorem own_below {w w1 : World} {base n : Nat} {e : TypeId} {v : Value} {xs : List Value} (h : w.ownsRow base e 1 v n xs) (hb : Below w.heap.size w w1) : w1.ownsRow base e 1 v n xs := by
  obtain ⟨h1, h2⟩ := h
  refine ⟨h1, ?_⟩
  rcases h2 with h | ⟨g, cap, cur, rfl, h3, h4, h5⟩
  · exact .inl h
  · exact .inr ⟨g, cap, cur, rfl, h3, (hb.block g (Array.getElem?_eq_some_iff.1 h4).1).trans h4, h5⟩
theorem own_slice {w : World} {base n : Nat} {e : TypeId} {v : Value} {xs : List Value} (h : w.ownsRow base e 1 v n xs) : ∃ s m, v = .slice s n m := by
  obtain ⟨_, h2⟩ := h
  rcases h2 with ⟨rfl, rfl⟩ | ⟨g, cap, cur, rfl, _⟩
  · exact ⟨none, 0, rfl⟩
  · exact ⟨_, cap, rfl⟩
theorem own_set {w : World} {base n : Nat} {e : TypeId} {v : Value} {xs : List Value} (h : w.ownsRow base e 1 v n xs) (a : Addr) (u : Value) (ha : a.block < base) : (w.setCell a u).ownsRow base e 1 v n xs := by
  obtain ⟨h1, h2⟩ := h
  refine ⟨h1, ?_⟩
  rcases h2 with h | ⟨g, cap, cur, rfl, h3, h4, h5⟩
  · exact .inl h
  · exact .inr ⟨g, cap, cur, rfl, h3, (Below.heap_setCell _ _ _ _ (by omega)).trans h4, h5⟩
theorem QBox.set4 {w : World} {B : Nat} {r : Pl.R} {v : Value} (h : QBox w B r v) (u : Value) : QBox (w.setCell ⟨B, 4, none⟩ u) B r u := by
  obtain ⟨c0, c1, c2, c3, c4⟩ := h.open
  refine ⟨by simp [RectAt, go_sem, c0, c1, c2, c3], by simp [go_sem, c4], fun j => ?_, by have := h.lt; simpa [World.setCell] using this⟩
  simp only [World.frozen?_setCell]
  exact h.free j
/-- A plane's variable whose list grows; all below it is as it was. -/
structure Gr (wB : World) (B : Nat) (q : Pl.R) (v : Value) (out : List Int) (W : World) : Prop where
  below : Below B wB W
  o : QBox W B q v
  own : W.ownsRow (B + 1) 3 1 v out.length (out.map (Value.int .i64))
theorem Gr.step {wB W W1 : World} {B : Nat} {q : Pl.R} {v : Value} {out : List Int} (h : Gr wB B q v out W) (hb : Below W.heap.size W W1) : Gr wB B q v out W1 :=
  ⟨bcall h.below hb (by have := h.o.lt; omega), h.o.below hb, own_below h.own hb⟩
theorem Gr.push {wB W W2 : World} {B : Nat} {q : Pl.R} {v v' : Value} {out : List Int} {x : Int} (h : Gr wB B q v out W) (X : Obj) (hg : (W.alloc X).grownBy W2 v.ownBlock) (hown : W2.ownsRow (B + 1) 3 1 v' (out.length + 1) (out.map (Value.int .i64) ++ [.int .i64 x])) :
    Gr wB B q v' (out ++ [x]) (W2.setCell ⟨B, 4, none⟩ v') := by
  have hlt := h.o.lt
  have hb : Below (B + 1) W W2 := ((Below.refl _ _).alloc (by omega) _).grown hg (by simp; omega) (fun k hk => (h.own.lt k hk).1)
  refine ⟨(h.below.trans (hb.mono (by omega))).setCell (Nat.le_refl _) _, (h.o.belowAt hb (by omega)).set4 v', ?_⟩
  have := own_set hown ⟨B, 4, none⟩ v' (by show B < B + 1; omega)
  simpa using this
theorem Gr.start {w : World} (a b c d : Int) : Gr w w.heap.size ⟨a, b, c, d⟩ (.slice none 0 0) [] (w.alloc (.cells #[.int .i64 a, .int .i64 b, .int .i64 c, .int .i64 d, .slice none 0 0] 26)) :=
  ⟨(Below.refl _ _).alloc (Nat.le_refl _) _, QBox.fresh w a b c d none 0 0 26, World.ownsRow_nil _ _ _ _⟩
/-- At the end the variable holds the list. -/
theorem Gr.ints {wB W : World} {B : Nat} {q : Pl.R} {v : Value} {out : List Int} (h : Gr wB B q v out W) : ∃ s m, v = .slice s out.length m ∧ out.length ≤ m ∧ (out = [] ∨ ∃ g pad, s = some ⟨g, 0, none⟩ ∧ B < g ∧ RowP W g out pad) := by
  obtain ⟨_, (⟨rfl, rfl⟩ | ⟨g, m, pad, rfl, hb, hr, hm⟩)⟩ := rowP_own h.own
  · exact ⟨none, 0, rfl, Nat.le_refl _, .inl rfl⟩
  · exact ⟨some ⟨g, 0, none⟩, m, rfl, hm, .inr ⟨g, pad, rfl, by omega, hr⟩⟩
/-- At the end: the list behind the results that are stored. -/
theorem Gr.gives {wB W : World} {B : Nat} {q : Pl.R} {v : Value} {out : List Int} (h : Gr wB B q v out W) {L : List Int} (e : out = L) (Z : Nat) (hZ : Z < B) :
    ∃ s m, v = .slice s L.length m ∧ L.length ≤ m ∧ ∀ v0 v1 v2 v3 v4, HoldsI (((((W.setCell ⟨Z, 0, none⟩ v0).setCell ⟨Z, 1, none⟩ v1).setCell ⟨Z, 2, none⟩ v2).setCell ⟨Z, 3, none⟩ v3).setCell ⟨Z, 4, none⟩ v4) s L := by
  subst e
  obtain ⟨s, m, rfl, hm, h2⟩ := h.ints
  refine ⟨s, m, rfl, hm, fun v0 v1 v2 v3 v4 => ?_⟩
  rcases h2 with h2 | ⟨g, pad, rfl, hg, hr⟩
  · exact .inl h2
  · exact (hr.far5 (by omega) _ _ _ _ _).holds
theorem has_cont {a b c d a' b' c' d' x y : Int} (hc : Pl.contB a b c d a' b' c' d' = true) (hh : Pl.hasB a' b' c' d' x y = true) : Pl.hasB a b c d x y = true := by
  have h1 := Pl.has_iff.1 hh
  have h2 := Pl.cont_iff.1 hc
  exact Pl.has_iff.2 ⟨by omega, by omega, by omega, by omega⟩
theorem one_new (W : World) (x : Int) (T : TypeId) : ∀ j u, ([.int .i64 x] : List Value)[j]? = some u → (W.alloc (.cells #[.int .i64 x] T)).cell? ((⟨W.heap.size, 0, none⟩ : Addr).add j) = some u := by
  intro j u hj
  match j, hj with
  | 0, hj => simp at hj; subst hj; simp [Addr.add]
theorem oneOne (x : Int) : ∀ u ∈ ([.int .i64 x] : List Value), u.oneCell' = true := by
  intro u hu; simp at hu; subst hu; rfl
set_option maxRecDepth 100000 in
set_option maxHeartbeats 1000000 in
theorem cropr_no1 (a b c d a' b' c' d' : Int) (s : Option Addr) (m : Nat) (l : List Int) (w : World) (hp : pvB a b c d l.length = false) :
    Calls Try.prog 28 #[.agg #[.int .i64 a, .int .i64 b, .int .i64 c, .int .i64 d, .slice s l.length m], .agg #[.int .i64 a', .int .i64 b', .int .i64 c', .int .i64 d']] w (GivesPlane ⟨0, 0, 0, 0⟩ [] 1 w) := by
  have p0 : QBox (((w.alloc (.cells #[.int .i64 a, .int .i64 b, .int .i64 c, .int .i64 d, .slice s l.length m] 26)).alloc (.cells #[.int .i64 a', .int .i64 b', .int .i64 c', .int .i64 d'] 23)).alloc (.cells #[.int .i64 0, .int .i64 0, .int .i64 0, .int .i64 0, .slice none 0 0] 26)) w.heap.size ⟨a, b, c, d⟩ (.slice s l.length m) := ((QBox.fresh w a b c d s l.length m 26).alloc _).alloc _
  have r0 : Box (((w.alloc (.cells #[.int .i64 a, .int .i64 b, .int .i64 c, .int .i64 d, .slice s l.length m] 26)).alloc (.cells #[.int .i64 a', .int .i64 b', .int .i64 c', .int .i64 d'] 23)).alloc (.cells #[.int .i64 0, .int .i64 0, .int .i64 0, .int .i64 0, .slice none 0 0] 26)) (w.heap.size + 1) ⟨a', b', c', d'⟩ := (Box.freshAt (w.alloc (.cells #[.int .i64 a, .int .i64 b, .int .i64 c, .int .i64 d, .slice s l.length m] 26)) (w.heap.size + 1) (by simp) a' b' c' d' 23).alloc _ _
  have z0 : QBox (((w.alloc (.cells #[.int .i64 a, .int .i64 b, .int .i64 c, .int .i64 d, .slice s l.length m] 26)).alloc (.cells #[.int .i64 a', .int .i64 b', .int .i64 c', .int .i64 d'] 23)).alloc (.cells #[.int .i64 0, .int .i64 0, .int .i64 0, .int .i64 0, .slice none 0 0] 26)) (w.heap.size + 2) ⟨0, 0, 0, 0⟩ (.slice none 0 0) := QBox.freshAt ((w.alloc (.cells #[.int .i64 a, .int .i64 b, .int .i64 c, .int .i64 d, .slice s l.length m] 26)).alloc (.cells #[.int .i64 a', .int .i64 b', .int .i64 c', .int .i64 d'] 23)) (w.heap.size + 2) (by simp) 0 0 0 0 none 0 0 26
  have B0 : Below w.heap.size w (((w.alloc (.cells #[.int .i64 a, .int .i64 b, .int .i64 c, .int .i64 d, .slice s l.length m] 26)).alloc (.cells #[.int .i64 a', .int .i64 b', .int .i64 c', .int .i64 d'] 23)).alloc (.cells #[.int .i64 0, .int .i64 0, .int .i64 0, .int .i64 0, .slice none 0 0] 26)) := (((Below.refl _ _).alloc (Nat.le_refl _) _).alloc (by simp) _).alloc (by simp; omega) _
  go_enter Try.func28, Try.ntmps28
  go_wp2_with fail
  refine (pv_r _ _ _ _ _ _ _ _).mono ?_
  rintro e w1 ⟨rfl, hb1⟩
  have p1 := p0.below hb1
  have r1 := r0.below hb1
  have z1 := z0.below hb1
  have B1 : Below w.heap.size w w1 := bcall B0 hb1 (by simp; omega)
  clear hb1 p0 r0 z0 B0
  obtain ⟨c0, c1, c2, c3, c4⟩ := p1.open
  obtain ⟨r0, r1', r2', r3'⟩ := r1.open
  obtain ⟨d0, d1, d2, d3, d4⟩ := z1.open
  have g1 := z1.free
  go_wp2
  refine bodyPost_ret (v := .tuple #[.agg #[.int .i64 0, .int .i64 0, .int .i64 0, .int .i64 0, .slice none 0 0], .int .i64 1]) ?_ rfl ?_
  · simp [results, Try.results28, go_sem, d0, d1, d2, d3, d4]
  · exact ⟨none, 0, rfl, .inl rfl, below5 B1 (by omega) _ _ _ _ _, Nat.le_refl _⟩
set_option maxRecDepth 100000 in
set_option maxHeartbeats 1000000 in
theorem cropr_no2 (a b c d a' b' c' d' : Int) (s : Option Addr) (m : Nat) (l : List Int) (w : World) (hp : pvB a b c d l.length = true) (hv : Pl.validB a' b' c' d' = false) :
    Calls Try.prog 28 #[.agg #[.int .i64 a, .int .i64 b, .int .i64 c, .int .i64 d, .slice s l.length m], .agg #[.int .i64 a', .int .i64 b', .int .i64 c', .int .i64 d']] w (GivesPlane ⟨0, 0, 0, 0⟩ [] 2 w) := by
  have p0 : QBox (((w.alloc (.cells #[.int .i64 a, .int .i64 b, .int .i64 c, .int .i64 d, .slice s l.length m] 26)).alloc (.cells #[.int .i64 a', .int .i64 b', .int .i64 c', .int .i64 d'] 23)).alloc (.cells #[.int .i64 0, .int .i64 0, .int .i64 0, .int .i64 0, .slice none 0 0] 26)) w.heap.size ⟨a, b, c, d⟩ (.slice s l.length m) := ((QBox.fresh w a b c d s l.length m 26).alloc _).alloc _
  have r0 : Box (((w.alloc (.cells #[.int .i64 a, .int .i64 b, .int .i64 c, .int .i64 d, .slice s l.length m] 26)).alloc (.cells #[.int .i64 a', .int .i64 b', .int .i64 c', .int .i64 d'] 23)).alloc (.cells #[.int .i64 0, .int .i64 0, .int .i64 0, .int .i64 0, .slice none 0 0] 26)) (w.heap.size + 1) ⟨a', b', c', d'⟩ := (Box.freshAt (w.alloc (.cells #[.int .i64 a, .int .i64 b, .int .i64 c, .int .i64 d, .slice s l.length m] 26)) (w.heap.size + 1) (by simp) a' b' c' d' 23).alloc _ _
  have z0 : QBox (((w.alloc (.cells #[.int .i64 a, .int .i64 b, .int .i64 c, .int .i64 d, .slice s l.length m] 26)).alloc (.cells #[.int .i64 a', .int .i64 b', .int .i64 c', .int .i64 d'] 23)).alloc (.cells #[.int .i64 0, .int .i64 0, .int .i64 0, .int .i64 0, .slice none 0 0] 26)) (w.heap.size + 2) ⟨0, 0, 0, 0⟩ (.slice none 0 0) := QBox.freshAt ((w.alloc (.cells #[.int .i64 a, .int .i64 b, .int .i64 c, .int .i64 d, .slice s l.length m] 26)).alloc (.cells #[.int .i64 a', .int .i64 b', .int .i64 c', .int .i64 d'] 23)) (w.heap.size + 2) (by simp) 0 0 0 0 none 0 0 26
  have B0 : Below w.heap.size w (((w.alloc (.cells #[.int .i64 a, .int .i64 b, .int .i64 c, .int .i64 d, .slice s l.length m] 26)).alloc (.cells #[.int .i64 a', .int .i64 b', .int .i64 c', .int .i64 d'] 23)).alloc (.cells #[.int .i64 0, .int .i64 0, .int .i64 0, .int .i64 0, .slice none 0 0] 26)) := (((Below.refl _ _).alloc (Nat.le_refl _) _).alloc (by simp) _).alloc (by simp; omega) _
  go_enter Try.func28, Try.ntmps28
  go_wp2_with fail
  refine (pv_r _ _ _ _ _ _ _ _).mono ?_
  rintro e w1 ⟨rfl, hb1⟩
  have p1 := p0.below hb1
  have r1 := r0.below hb1
  have z1 := z0.below hb1
  have B1 : Below w.heap.size w w1 := bcall B0 hb1 (by simp; omega)
  clear hb1 p0 r0 z0 B0
  obtain ⟨c0, c1, c2, c3, c4⟩ := p1.open
  obtain ⟨r0, r1', r2', r3'⟩ := r1.open
  obtain ⟨d0, d1, d2, d3, d4⟩ := z1.open
  have g1 := z1.free
  go_wp2_with fail
  refine (valid_r _ _ _ _ _).mono ?_
  rintro e w2 ⟨rfl, hb2⟩
  have p2 := p1.below hb2
  have r2 := r1.below hb2
  have z2 := z1.below hb2
  have B2 : Below w.heap.size w w2 := bcall B1 hb2 (by have := p1.lt; omega)
  clear hb2 p1 r1 z1 B1 c0 c1 c2 c3 c4 r0 r1' r2' r3' d0 d1 d2 d3 d4 g1
  obtain ⟨c0, c1, c2, c3, c4⟩ := p2.open
  obtain ⟨r0, r1', r2', r3'⟩ := r2.open
  obtain ⟨d0, d1, d2, d3, d4⟩ := z2.open
  have g1 := z2.free
  go_wp2
  refine bodyPost_ret (v := .tuple #[.agg #[.int .i64 0, .int .i64 0, .int .i64 0, .int .i64 0, .slice none 0 0], .int .i64 2]) ?_ rfl ?_
  · simp [results, Try.results28, go_sem, d0, d1, d2, d3, d4]
  · exact ⟨none, 0, rfl, .inl rfl, below5 B2 (by omega) _ _ _ _ _, Nat.le_refl _⟩
set_option maxRecDepth 100000 in
set_option maxHeartbeats 1000000 in
theorem cropr_no3 (a b c d a' b' c' d' : Int) (s : Option Addr) (m : Nat) (l : List Int) (w : World) (hp : pvB a b c d l.length = true) (hv : Pl.validB a' b' c' d' = true) (hc : Pl.contB a b c d a' b' c' d' = false) :
    Calls Try.prog 28 #[.agg #[.int .i64 a, .int .i64 b, .int .i64 c, .int .i64 d, .slice s l.length m], .agg #[.int .i64 a', .int .i64 b', .int .i64 c', .int .i64 d']] w (GivesPlane ⟨0, 0, 0, 0⟩ [] 2 w) := by
  have p0 : QBox (((w.alloc (.cells #[.int .i64 a, .int .i64 b, .int .i64 c, .int .i64 d, .slice s l.length m] 26)).alloc (.cells #[.int .i64 a', .int .i64 b', .int .i64 c', .int .i64 d'] 23)).alloc (.cells #[.int .i64 0, .int .i64 0, .int .i64 0, .int .i64 0, .slice none 0 0] 26)) w.heap.size ⟨a, b, c, d⟩ (.slice s l.length m) := ((QBox.fresh w a b c d s l.length m 26).alloc _).alloc _
  have r0 : Box (((w.alloc (.cells #[.int .i64 a, .int .i64 b, .int .i64 c, .int .i64 d, .slice s l.length m] 26)).alloc (.cells #[.int .i64 a', .int .i64 b', .int .i64 c', .int .i64 d'] 23)).alloc (.cells #[.int .i64 0, .int .i64 0, .int .i64 0, .int .i64 0, .slice none 0 0] 26)) (w.heap.size + 1) ⟨a', b', c', d'⟩ := (Box.freshAt (w.alloc (.cells #[.int .i64 a, .int .i64 b, .int .i64 c, .int .i64 d, .slice s l.length m] 26)) (w.heap.size + 1) (by simp) a' b' c' d' 23).alloc _ _
  have z0 : QBox (((w.alloc (.cells #[.int .i64 a, .int .i64 b, .int .i64 c, .int .i64 d, .slice s l.length m] 26)).alloc (.cells #[.int .i64 a', .int .i64 b', .int .i64 c', .int .i64 d'] 23)).alloc (.cells #[.int .i64 0, .int .i64 0, .int .i64 0, .int .i64 0, .slice none 0 0] 26)) (w.heap.size + 2) ⟨0, 0, 0, 0⟩ (.slice none 0 0) := QBox.freshAt ((w.alloc (.cells #[.int .i64 a, .int .i64 b, .int .i64 c, .int .i64 d, .slice s l.length m] 26)).alloc (.cells #[.int .i64 a', .int .i64 b', .int .i64 c', .int .i64 d'] 23)) (w.heap.size + 2) (by simp) 0 0 0 0 none 0 0 26
  have B0 : Below w.heap.size w (((w.alloc (.cells #[.int .i64 a, .int .i64 b, .int .i64 c, .int .i64 d, .slice s l.length m] 26)).alloc (.cells #[.int .i64 a', .int .i64 b', .int .i64 c', .int .i64 d'] 23)).alloc (.cells #[.int .i64 0, .int .i64 0, .int .i64 0, .int .i64 0, .slice none 0 0] 26)) := (((Below.refl _ _).alloc (Nat.le_refl _) _).alloc (by simp) _).alloc (by simp; omega) _
  go_enter Try.func28, Try.ntmps28
  go_wp2_with fail
  refine (pv_r _ _ _ _ _ _ _ _).mono ?_
  rintro e w1 ⟨rfl, hb1⟩
  have p1 := p0.below hb1
  have r1 := r0.below hb1
  have z1 := z0.below hb1
  have B1 : Below w.heap.size w w1 := bcall B0 hb1 (by simp; omega)
  clear hb1 p0 r0 z0 B0
  obtain ⟨c0, c1, c2, c3, c4⟩ := p1.open
  obtain ⟨r0, r1', r2', r3'⟩ := r1.open
  obtain ⟨d0, d1, d2, d3, d4⟩ := z1.open
  have g1 := z1.free
  go_wp2_with fail
  refine (valid_r _ _ _ _ _).mono ?_
  rintro e w2 ⟨rfl, hb2⟩
  have p2 := p1.below hb2
  have r2 := r1.below hb2
  have z2 := z1.below hb2
  have B2 : Below w.heap.size w w2 := bcall B1 hb2 (by have := p1.lt; omega)
  clear hb2 p1 r1 z1 B1 c0 c1 c2 c3 c4 r0 r1' r2' r3' d0 d1 d2 d3 d4 g1
  obtain ⟨c0, c1, c2, c3, c4⟩ := p2.open
  obtain ⟨r0, r1', r2', r3'⟩ := r2.open
  obtain ⟨d0, d1, d2, d3, d4⟩ := z2.open
  have g1 := z2.free
  go_wp2_with fail
  refine (cont_r _ _ _ _ _ _ _ _ _).mono ?_
  rintro e w3 ⟨rfl, hb3⟩
  have p3 := p2.below hb3
  have r3 := r2.below hb3
  have z3 := z2.below hb3
  have B3 : Below w.heap.size w w3 := bcall B2 hb3 (by have := p2.lt; omega)
  clear hb3 p2 r2 z2 B2 c0 c1 c2 c3 c4 r0 r1' r2' r3' d0 d1 d2 d3 d4 g1
  obtain ⟨c0, c1, c2, c3, c4⟩ := p3.open
  obtain ⟨r0, r1', r2', r3'⟩ := r3.open
  obtain ⟨d0, d1, d2, d3, d4⟩ := z3.open
  have g1 := z3.free
  go_wp2
  refine bodyPost_ret (v := .tuple #[.agg #[.int .i64 0, .int .i64 0, .int .i64 0, .int .i64 0, .slice none 0 0], .int .i64 2]) ?_ rfl ?_
  · simp [results, Try.results28, go_sem, d0, d1, d2, d3, d4]
  · exact ⟨none, 0, rfl, .inl rfl, below5 B3 (by omega) _ _ _ _ _, Nat.le_refl _⟩
set_option maxRecDepth 100000 in
set_option maxHeartbeats 1000000 in
theorem cropr_yes (a b c d a' b' c' d' : Int) (s : Option Addr) (m : Nat) (l : List Int) (w : World) (hp : pvB a b c d l.length = true) (hv : Pl.validB a' b' c' d' = true) (hc : Pl.contB a b c d a' b' c' d' = true) (hH : HoldsI w s l) :
    Calls Try.prog 28 #[.agg #[.int .i64 a, .int .i64 b, .int .i64 c, .int .i64 d, .slice s l.length m], .agg #[.int .i64 a', .int .i64 b', .int .i64 c', .int .i64 d']] w (GivesPlane ⟨a', b', c', d'⟩ (cropL ⟨a, b, c, d⟩ l ⟨a', b', c', d'⟩) 0 w) := by
  obtain ⟨i0, hi, hz0, hz1, hz2⟩ := info_parts infoI
  obtain ⟨v1, v2, v3, v4, v5, v6⟩ := Pl.valid_iff.1 hv
  have p0 : QBox (((w.alloc (.cells #[.int .i64 a, .int .i64 b, .int .i64 c, .int .i64 d, .slice s l.length m] 26)).alloc (.cells #[.int .i64 a', .int .i64 b', .int .i64 c', .int .i64 d'] 23)).alloc (.cells #[.int .i64 0, .int .i64 0, .int .i64 0, .int .i64 0, .slice none 0 0] 26)) w.heap.size ⟨a, b, c, d⟩ (.slice s l.length m) := ((QBox.fresh w a b c d s l.length m 26).alloc _).alloc _
  have r0 : Box (((w.alloc (.cells #[.int .i64 a, .int .i64 b, .int .i64 c, .int .i64 d, .slice s l.length m] 26)).alloc (.cells #[.int .i64 a', .int .i64 b', .int .i64 c', .int .i64 d'] 23)).alloc (.cells #[.int .i64 0, .int .i64 0, .int .i64 0, .int .i64 0, .slice none 0 0] 26)) (w.heap.size + 1) ⟨a', b', c', d'⟩ := (Box.freshAt (w.alloc (.cells #[.int .i64 a, .int .i64 b, .int .i64 c, .int .i64 d, .slice s l.length m] 26)) (w.heap.size + 1) (by simp) a' b' c' d' 23).alloc _ _
  have z0 : QBox (((w.alloc (.cells #[.int .i64 a, .int .i64 b, .int .i64 c, .int .i64 d, .slice s l.length m] 26)).alloc (.cells #[.int .i64 a', .int .i64 b', .int .i64 c', .int .i64 d'] 23)).alloc (.cells #[.int .i64 0, .int .i64 0, .int .i64 0, .int .i64 0, .slice none 0 0] 26)) (w.heap.size + 2) ⟨0, 0, 0, 0⟩ (.slice none 0 0) := QBox.freshAt ((w.alloc (.cells #[.int .i64 a, .int .i64 b, .int .i64 c, .int .i64 d, .slice s l.length m] 26)).alloc (.cells #[.int .i64 a', .int .i64 b', .int .i64 c', .int .i64 d'] 23)) (w.heap.size + 2) (by simp) 0 0 0 0 none 0 0 26
  have B0 : Below w.heap.size w (((w.alloc (.cells #[.int .i64 a, .int .i64 b, .int .i64 c, .int .i64 d, .slice s l.length m] 26)).alloc (.cells #[.int .i64 a', .int .i64 b', .int .i64 c', .int .i64 d'] 23)).alloc (.cells #[.int .i64 0, .int .i64 0, .int .i64 0, .int .i64 0, .slice none 0 0] 26)) := (((Below.refl _ _).alloc (Nat.le_refl _) _).alloc (by simp) _).alloc (by simp; omega) _
  go_enter Try.func28, Try.ntmps28
  go_wp2_with fail
  refine (pv_r _ _ _ _ _ _ _ _).mono ?_
  rintro e w1 ⟨rfl, hb1⟩
  have p1 := p0.below hb1
  have r1 := r0.below hb1
  have z1 := z0.below hb1
  have B1 : Below w.heap.size w w1 := bcall B0 hb1 (by simp; omega)
  clear hb1 p0 r0 z0 B0
  obtain ⟨c0, c1, c2, c3, c4⟩ := p1.open
  obtain ⟨r0, r1', r2', r3'⟩ := r1.open
  obtain ⟨d0, d1, d2, d3, d4⟩ := z1.open
  have g1 := z1.free
  go_wp2_with fail
  refine (valid_r _ _ _ _ _).mono ?_
  rintro e w2 ⟨rfl, hb2⟩
  have p2 := p1.below hb2
  have r2 := r1.below hb2
  have z2 := z1.below hb2
  have B2 : Below w.heap.size w w2 := bcall B1 hb2 (by have := p1.lt; omega)
  clear hb2 p1 r1 z1 B1 c0 c1 c2 c3 c4 r0 r1' r2' r3' d0 d1 d2 d3 d4 g1
  obtain ⟨c0, c1, c2, c3, c4⟩ := p2.open
  obtain ⟨r0, r1', r2', r3'⟩ := r2.open
  obtain ⟨d0, d1, d2, d3, d4⟩ := z2.open
  have g1 := z2.free
  go_wp2_with fail
  refine (cont_r _ _ _ _ _ _ _ _ _).mono ?_
  rintro e w3 ⟨rfl, hb3⟩
  have p3 := p2.below hb3
  have r3 := r2.below hb3
  have z3 := z2.below hb3
  have B3 : Below w.heap.size w w3 := bcall B2 hb3 (by have := p2.lt; omega)
  clear hb3 p2 r2 z2 B2 c0 c1 c2 c3 c4 r0 r1' r2' r3' d0 d1 d2 d3 d4 g1
  obtain ⟨c0, c1, c2, c3, c4⟩ := p3.open
  obtain ⟨r0, r1', r2', r3'⟩ := r3.open
  obtain ⟨d0, d1, d2, d3, d4⟩ := z3.open
  have g1 := z3.free
  have G0 := Gr.start (w := w3) a' b' c' d'
  have HF : Hid (Filled ⟨a', b', c', d'⟩ (gv ⟨a, b, c, d⟩ l) a' b' []) := filled_start
  have hlz := z3.lt
  obtain ⟨h0, h1, h2, h3⟩ := (r3.alloc #[.int .i64 a', .int .i64 b', .int .i64 c', .int .i64 d', .slice none 0 0] 26).open
  go_wp2_with fail
  clear h0 h1 h2 h3 c0 c1 c2 c3 c4 r0 r1' r2' r3' d0 d1 d2 d3 d4 g1
  go_loopw [7] (fun i wr => ∃ (Y : Int) (out : List Int) (v : Value), b' ≤ Y ∧ Y ≤ d' ∧ i = .int .i64 Y ∧ Filled ⟨a', b', c', d'⟩ (gv ⟨a, b, c, d⟩ l) a' Y out ∧ Gr w3 w3.heap.size ⟨a', b', c', d'⟩ v out wr) (fun i _ => (d' - intOf i).toNat)
  case atStart => exact ⟨b', [], _, Int.le_refl _, v5, rfl, HF.out, G0⟩
  case round =>
    obtain ⟨Y, out, v, hY0, hY1, rfl, hF, hG⟩ := hrel
    clear HF G0
    have r4 := r3.belowAt hG.below (by omega)
    obtain ⟨c0, c1, c2, c3⟩ := r4.open
    by_cases hlt : Y < d'
    · have hww : IntKind.i64.wrap (Y + 1) = Y + 1 := IntWalk.i64_in _ (by omega)
      have HF : Hid _ := hF
      clear hF
      go_wp2_with fail
      clear c0 c1 c2 c3
      go_loopw [8] (fun i wr => ∃ (X : Int) (out : List Int) (v : Value), a' ≤ X ∧ X ≤ c' ∧ i = .int .i64 X ∧ Filled ⟨a', b', c', d'⟩ (gv ⟨a, b, c, d⟩ l) X Y out ∧ Gr w3 w3.heap.size ⟨a', b', c', d'⟩ v out wr) (fun i _ => (c' - intOf i).toNat)
      case atStart => exact ⟨a', out, v, Int.le_refl _, v2, rfl, HF.out, hG⟩
      case round =>
        clear hG HF r4
        obtain ⟨X, out2, u, hX0, hX1, rfl, hF, hG⟩ := hrel
        have r4 := r3.belowAt hG.below (by omega)
        obtain ⟨c0, c1, c2, c3⟩ := r4.open
        by_cases hltx : X < c'
        · have hwx : IntKind.i64.wrap (X + 1) = X + 1 := IntWalk.i64_in _ (by omega)
          have hh : Pl.hasB a' b' c' d' X Y = true := Pl.has_iff.2 ⟨hX0, hltx, hY0, hlt⟩
          have hhp := has_cont hc hh
          have hF2 := filled_next hF hh
          have hlen : ((out2.length : Nat) : Int) = idx a' b' c' X Y := hF.2
          have hbd := (idx_bd hv hX0 hX1 hY0 hY1).2.2.2
          have hon : out2.length ≤ 16781312 := by omega
          have HF : Hid _ := hF2
          clear hF hF2 hlen hbd
          have p4 := p3.belowAt hG.below (by omega)
          obtain ⟨e0, e1, e2, e3, e4⟩ := p4.open
          obtain ⟨f0, f1, f2, f3, f4⟩ := hG.o.open
          have B4 : Below w.heap.size w wr := B3.trans (hG.below.mono (by omega))
          have hH4 := hH.below B4 (Nat.le_refl _)
          have hGd := hG.step (Below.refl _ _).drew
          have p4d := p4.drew
          have hHd := hH4.below (Below.refl _ wr).drew (Nat.le_refl _)
          go_wp2_with fail
          go_region_law (first | (go_simp; go_at_call 45; (with_reducible refine (get_r _ _ _ _ _ _ _ _ _ _ hp hhp hHd).mono ?_); rintro e w5 ⟨rfl, hb5⟩; have G5 := hGd.step hb5; have p5 := p4d.below hb5; obtain ⟨k0, k1, k2, k3, k4⟩ := p5.open; obtain ⟨g0, g1, g2, g3, g4⟩ := G5.o.open; have ga := (G5.o.alloc (.cells #[.int .i64 (gv ⟨a, b, c, d⟩ l X Y)] 3)).open.2.2.2.2; clear hb5; go_wp2_with fail) | (refine step_append_own rfl (.tmp 43) (.tmp 48) 24 rfl (w3.heap.size + 1) 3 i0 (.int .i64 0) 1 8 Try.underlying24 hi hz0 hz1 hz2 rfl (by decide) _ _ _ rfl (own_below G5.own ((Below.refl _ _).alloc (Nat.le_refl _) _)) ⟨w5.heap.size, 0, none⟩ 1 1 [.int .i64 (gv ⟨a, b, c, d⟩ l X Y)] rfl rfl (one_new w5 _ _) (oneOne _) (by unfold maxLen; omega) (by omega) (by have := G5.o.lt; simp; omega) ?_; intro v' w6 hown6 hgrow6; obtain ⟨sv, mv, rfl⟩ := own_slice hown6; have G7 := G5.push _ hgrow6 hown6; have hb6 : Below (w3.heap.size + 1) w5 w6 := ((Below.refl _ _).alloc (by have := G5.o.lt; omega) _).grown hgrow6 (by have := G5.o.lt; simp; omega) (fun k hk => (G5.own.lt k hk).1); have o6 := G5.o.belowAt hb6 (by omega); obtain ⟨t0, t1, t2, t3, t4⟩ := o6.open; have t5 := o6.free; clear hb6 hgrow6 hown6))
          all_goals
            have HG : Hid _ := G7
            clear G7 t0 t1 t2 t3 t4 t5 o6 ga g0 g1 g2 g3 g4 k0 k1 k2 k3 k4 p5 G5 e0 e1 e2 e3 e4 f0 f1 f2 f3 f4 hGd hG p4 p4d hHd hH4 c0 c1 c2 c3
            go_wp2
            go_roundw
            case rel => exact ⟨X + 1, _, _, by omega, by omega, by go_num, HF.out, HG.out⟩
            case measure => simp [intOf]; omega
        · obtain rfl : X = c' := by omega
          have HF : Hid _ := filled_row hF
          have HG : Hid _ := hG
          clear hF hG
          go_wp2
          go_roundw
          case rel => exact ⟨Y + 1, _, _, by omega, by omega, by go_num, HF.out, HG.out⟩
          case measure => simp [intOf]; omega
    · obtain rfl : d' = Y := by omega
      obtain ⟨sv, mv, rfl, hmv, hgive⟩ := hG.gives (filled_end v5 v2 hF) (w.heap.size + 2) hlz
      have z4 := z3.belowAt hG.below hlz
      have B4 : Below w.heap.size w wr := B3.trans (hG.below.mono (by omega))
      obtain ⟨d0, d1, d2, d3, d4⟩ := hG.o.open
      obtain ⟨e0, e1, e2, e3, e4⟩ := z4.open
      have g4 := z4.free
      have z4l := z4.lt
      have HV : Hid _ := hgive
      clear hF hG hgive r4
      go_wp2
      refine bodyPost_ret (v := .tuple #[.agg #[.int .i64 a', .int .i64 b', .int .i64 c', .int .i64 d', .slice sv (tabL ⟨a', b', c', d'⟩ (gv ⟨a, b, c, d⟩ l)).length mv], .int .i64 0]) ?_ rfl ?_
      · obtain ⟨q0, q1, q2, q3, q4⟩ := (z4.store a' b' c' d' (.slice sv (tabL ⟨a', b', c', d'⟩ (gv ⟨a, b, c, d⟩ l)).length mv)).open
        simp [results, Try.results28, go_sem, q0, q1, q2, q3, q4]
      · exact ⟨sv, mv, rfl, HV.out _ _ _ _ _, below5 B4 (by omega) _ _ _ _ _, hmv⟩
end Go.Proofs.Ytamkipdalegioaa
