/-
  Lists of integers in memory, rows of a call's own, and what keeps them. Plain laws on worlds; no program in sight but its types' cells.
-/
import Derived.Test.YtpnnmibdboelpaaRows
import Derived.RowKit
import Derived.IntWalk
import Derived.WalkKit
import Derived.WalkSpells
import Derived.WalkLawsBesides
import Derived.Deep.QuietTactic
import Derived.BigQuiet
import Derived.Deep.RegionHeld3
import Derived.StillTailTactics
import Derived.OwnWalk
import Derived.Deep.OwnRows
import Derived.Laws.CopyOwn
import Derived.Deep.DeepCutAuto
import Derived.Deep.RegionLaw
set_option maxRecDepth 100000
namespace Go.Proofs.Ytpnnmibdboelpaa
open Go.RowKit

theorem ret_bool {p q : Bool} (h : p = true ↔ q = true) : Ending.returned (.bool p) = .returned (.bool q) := by rw [Bool.eq_iff_iff.2 h]
theorem ret_int {a b : Int} (h : a = b) : Ending.returned (.int .i64 a) = .returned (.int .i64 b) := by rw [h]

theorem bcall {B : Nat} {a W w1 : World} (h : Below B a W) (hb : Below W.heap.size W w1) (hB : B ≤ W.heap.size) : Below B a w1 := h.trans (hb.mono hB)

theorem cell_alloc {w : World} {a : Addr} {v : Value} (h : w.cell? a = some v) (X : Obj) : (w.alloc X).cell? a = some v :=
  (World.cell?_alloc_some _ _ _ (by simp [h])).trans h
theorem cell_lt {w : World} {b o : Nat} {v : Value} (h : w.cell? ⟨b, o, none⟩ = some v) : b < w.heap.size := by
  refine Classical.byContradiction fun hn => ?_
  have : w.heap[b]? = none := by rw [Array.getElem?_eq_none_iff]; omega
  simp [World.cell?, this] at h
theorem cell_far {w : World} {a b : Addr} {v : Value} (u : Value) (h : w.cell? a = some v) (hn : a.block ≠ b.block) : (w.setCell b u).cell? a = some v := by
  rw [World.cell?_setCell_far]
  · exact h
  · exact fun e => hn e.symm
/-- The integers of a list, one after the other. -/
def IntsAt (w : World) (b off : Nat) (l : List Int) : Prop := ∀ k (_ : k < l.length), w.cell? ⟨b, off + k, none⟩ = some (.int .i64 l[k])
/-- A slice's address holds the integers of a list. -/
def HoldsI (w : World) (a : Option Addr) (l : List Int) : Prop := l = [] ∨ ∃ b off, a = some ⟨b, off, none⟩ ∧ IntsAt w b off l
theorem HoldsI.below {B : Nat} {w w1 : World} {a : Option Addr} {l : List Int} (h : HoldsI w a l) (hb : Below B w w1) (hB : w.heap.size ≤ B) : HoldsI w1 a l := by
  rcases h with rfl | ⟨b, off, rfl, hr⟩
  · exact .inl rfl
  · exact .inr ⟨b, off, rfl, fun k hk => (hb.cell (p := ⟨b, _, none⟩) (Nat.lt_of_lt_of_le (cell_lt (hr k hk)) hB)).trans (hr k hk)⟩
theorem holdsI_at {w : World} {b off : Nat} {l : List Int} (h : HoldsI w (some ⟨b, off, none⟩) l) {k : Nat} (hk : k < l.length) : w.cell? ⟨b, off + k, none⟩ = some (.int .i64 l[k]) := by
  rcases h with rfl | ⟨b', off', e, hr⟩
  · simp at hk
  · simp at e
    obtain ⟨rfl, rfl⟩ := e
    exact hr k hk
def eqL (l m : List Int) : Bool := decide (l = m)
theorem eqL_self (l : List Int) : eqL l l = true := by simp [eqL]
theorem eqL_len {l m : List Int} (h : l.length ≠ m.length) : eqL l m = false := by
  simp only [eqL, decide_eq_false_iff_not]
  intro e; rw [e] at h; exact h rfl
theorem eqL_ne {l m : List Int} {k : Nat} (h1 : k < l.length) (h2 : k < m.length) (h : l[k] ≠ m[k]) : eqL l m = false := by
  simp only [eqL, decide_eq_false_iff_not]
  intro e; subst e; exact h rfl
theorem eqL_all {l m : List Int} (hl : l.length = m.length) (h : ∀ k (h1 : k < l.length) (h2 : k < m.length), l[k] = m[k]) : eqL l m = true := by
  simp only [eqL, decide_eq_true_eq]
  exact List.ext_getElem hl h
def EqRel (l m : List Int) (w : World) (i : Value) (wr : World) : Prop := ∃ k : Nat, k ≤ l.length ∧ i = .int .i64 k ∧ (∀ j (h1 : j < l.length) (h2 : j < m.length), j < k → l[j] = m[j]) ∧ Below w.heap.size w wr
theorem infoI : (Try.prog.info? 3).map (fun i => (i.zero, i.size, i.bytes)) = some (some (.int .i64 0), 1, 8) := by kernel_rfl
/-- A new row of zeros. -/
theorem holds_made (w : World) (n : Nat) : HoldsI (w.alloc (.cells (madeCells #[.int .i64 0] n) 3)) (some ⟨w.heap.size, 0, none⟩) (List.replicate n 0) := by
  refine .inr ⟨w.heap.size, 0, rfl, fun k hk => ?_⟩
  have hk' : k < n := by simpa using hk
  have e : (w.alloc (.cells (madeCells #[.int .i64 0] n) 3)).cell? ⟨w.heap.size, 0 + k, none⟩ = (madeCells #[.int .i64 0] n).toList[k]? := by simp
  rw [e]
  simp [madeCells, hk', Nat.mod_one]
/-- A block that is a row of integers, and nothing else. -/
def RowAt (w : World) (g : Nat) (l : List Int) : Prop := w.heap[g]? = some (.cells (l.map (Value.int .i64)).toArray 3 (0, 0))
theorem RowAt.lt {w : World} {g : Nat} {l : List Int} (h : RowAt w g l) : g < w.heap.size := by
  unfold RowAt at h
  exact (Array.getElem?_eq_some_iff.1 h).1
theorem RowAt.holds {w : World} {g : Nat} {l : List Int} (h : RowAt w g l) : HoldsI w (some ⟨g, 0, none⟩) l := by
  refine .inr ⟨g, 0, rfl, fun k hk => ?_⟩
  unfold RowAt at h
  simp [World.cell?, h, hk]
theorem RowAt.at {w : World} {g : Nat} {l : List Int} (h : RowAt w g l) {k : Nat} (hk : k < l.length) : w.cell? ⟨g, k, none⟩ = some (.int .i64 l[k]) := by
  unfold RowAt at h
  simp [World.cell?, h, hk]
theorem RowAt.free {w : World} {g : Nat} {l : List Int} (h : RowAt w g l) (j : Nat) : w.frozen? ⟨g, j, none⟩ = false := by
  unfold RowAt at h
  simp [World.frozen?, h]
theorem RowAt.belowAt {B : Nat} {w w1 : World} {g : Nat} {l : List Int} (h : RowAt w g l) (hb : Below B w w1) (hg : g < B) : RowAt w1 g l := (hb.block g hg).trans h
theorem RowAt.below {w w1 : World} {g : Nat} {l : List Int} (h : RowAt w g l) (hb : Below w.heap.size w w1) : RowAt w1 g l := h.belowAt hb h.lt
theorem RowAt.drew {w : World} {g : Nat} {l : List Int} (h : RowAt w g l) : RowAt w.drew g l := h
theorem RowAt.alloc {w : World} {g : Nat} {l : List Int} (h : RowAt w g l) (o : Obj) : RowAt (w.alloc o) g l := h.below ((Below.refl _ _).alloc (Nat.le_refl _) _)
theorem RowAt.far {w : World} {g : Nat} {l : List Int} (h : RowAt w g l) (a : Addr) (v : Value) (hn : g ≠ a.block) : RowAt (w.setCell a v) g l := (Below.heap_setCell _ _ _ _ hn).trans h
theorem rowAt_made (w : World) (n : Nat) : RowAt (w.alloc (.cells (madeCells #[.int .i64 0] n) 3)) w.heap.size (List.replicate n 0) := by
  have e : madeCells #[.int .i64 0] n = ((List.replicate n (0 : Int)).map (Value.int .i64)).toArray := by
    apply Array.ext
    · simp [madeCells]
    · intro i h1 h2
      simp [madeCells, Nat.mod_one]
  unfold RowAt
  rw [e]
  exact Array.getElem?_push_size
theorem szI : (Try.prog.info? 3).map (·.size) = some 1 := by kernel_rfl
theorem splice_map {α β : Type} (f : α → β) (L : List α) (off : Nat) (cs : List α) : splice (L.map f) off (cs.map f) = (splice L off cs).map f := by
  simp [splice, List.map_take, List.map_drop]
theorem splice_all {α : Type} (L cs : List α) (h : cs.length = L.length) : splice L 0 cs = cs := by
  simp [splice, h]
theorem splice_at {α : Type} (L : List α) (off : Nat) (cs : List α) (h : off + cs.length ≤ L.length) (i : Nat) :
    (splice L off cs)[i]? = if off ≤ i ∧ i < off + cs.length then cs[i - off]? else L[i]? := by
  unfold splice
  by_cases h1 : i < off
  · rw [if_neg (by omega), List.getElem?_append_left (by simp; omega), List.getElem?_take_of_lt h1]
  · rw [List.getElem?_append_right (by simp; omega)]
    have e : (L.take off).length = off := by simp; omega
    rw [e]
    by_cases h2 : i < off + cs.length
    · rw [if_pos (by omega), List.getElem?_append_left (by omega)]
    · rw [if_neg (by omega), List.getElem?_append_right (by omega), List.getElem?_drop]
      congr 1
      omega
theorem oneI (l : List Int) : ∀ v ∈ l.map (Value.int .i64), v.oneCell' = true := by
  intro v hv
  obtain ⟨x, _, rfl⟩ := List.mem_map.1 hv
  rfl
/-- A part of a list lies behind the address of its first. -/
theorem holdsI_part {w : World} {b off : Nat} {l : List Int} (h : HoldsI w (some ⟨b, off, none⟩) l) (k n : Nat) (hk : k + n ≤ l.length) :
    ∀ j v, (((l.drop k).take n).map (Value.int .i64))[j]? = some v → w.cell? ((⟨b, off + k, none⟩ : Addr).add j) = some v := by
  intro j v hv
  rw [List.getElem?_map, Option.map_eq_some_iff] at hv
  obtain ⟨x, hx, rfl⟩ := hv
  obtain ⟨hj, hx'⟩ := List.getElem?_eq_some_iff.1 hx
  have hj' : j < n := by simp at hj; omega
  have := holdsI_at h (k := k + j) (by omega)
  simp at hx'
  rw [← hx']
  have e : (⟨b, off + k, none⟩ : Addr).add j = ⟨b, off + (k + j), none⟩ := by
    simp only [Addr.add]
    split
    · subst_vars; rfl
    · rw [Nat.add_assoc]
  rw [e]
  exact this
/-- The call returns integers and a Bool; old memory is as it was. -/
def GivesInts (l : List Int) (ok : Bool) (w : World) (e : Ending) (w' : World) : Prop :=
  ∃ s m, e = .returned (.tuple #[.slice s l.length m, .bool ok]) ∧ HoldsI w' s l ∧ Below w.heap.size w w' ∧ l.length ≤ m
theorem RowAt.set {w : World} {g : Nat} {l : List Int} (h : RowAt w g l) (k : Nat) (v : Int) : RowAt (w.setCell ⟨g, k, none⟩ (.int .i64 v)) g (l.set k v) := by
  unfold RowAt at *
  simp only [World.setCell, Array.getElem?_modify, if_true, h, Option.map_some]
  simp [List.map_set]
/-- A list of which the first k are written, the others 0. -/
def fillL (L : List Int) (k : Nat) : List Int := L.take k ++ List.replicate (L.length - k) 0
theorem fillL_len (L : List Int) (k : Nat) (hk : k ≤ L.length) : (fillL L k).length = L.length := by simp [fillL]; omega
theorem fillL_zero (L : List Int) : fillL L 0 = List.replicate L.length 0 := by simp [fillL]
theorem fillL_all (L : List Int) : fillL L L.length = L := by simp [fillL]
theorem fillL_next (L : List Int) (k : Nat) (hk : k < L.length) : (fillL L k).set k L[k] = fillL L (k + 1) := by
  have e : L.length - k = (L.length - (k + 1)) + 1 := by omega
  have e2 : (L.take k).length = k := by simp; omega
  rw [fillL, fillL, List.set_append_right _ _ (by omega), e2, e, List.replicate_succ, Nat.sub_self, List.set_cons_zero, List.take_succ_eq_append_getElem hk, List.append_assoc]
  rfl
/-- A block that is a row of integers, and room behind them. -/
def RowP (w : World) (g : Nat) (l : List Int) (pad : List Value) : Prop := w.heap[g]? = some (.cells (l.map (Value.int .i64) ++ pad).toArray 3 (0, 0))
theorem RowP.lt {w : World} {g : Nat} {l : List Int} {pad : List Value} (h : RowP w g l pad) : g < w.heap.size := by
  unfold RowP at h
  exact (Array.getElem?_eq_some_iff.1 h).1
theorem RowP.holds {w : World} {g : Nat} {l : List Int} {pad : List Value} (h : RowP w g l pad) : HoldsI w (some ⟨g, 0, none⟩) l := by
  refine .inr ⟨g, 0, rfl, fun k hk => ?_⟩
  unfold RowP at h
  have e : (List.map (Value.int .i64) l ++ pad)[k]? = some (.int .i64 l[k]) := by rw [List.getElem?_append_left (by simpa using hk)]; simp [hk]
  simp [World.cell?, h, e]
theorem RowP.belowAt {B : Nat} {w w1 : World} {g : Nat} {l : List Int} {pad : List Value} (h : RowP w g l pad) (hb : Below B w w1) (hg : g < B) : RowP w1 g l pad := (hb.block g hg).trans h
theorem RowP.below {w w1 : World} {g : Nat} {l : List Int} {pad : List Value} (h : RowP w g l pad) (hb : Below w.heap.size w w1) : RowP w1 g l pad := h.belowAt hb h.lt
theorem RowP.of {w : World} {g : Nat} {l : List Int} (h : RowAt w g l) : RowP w g l [] := by
  unfold RowP; rw [List.append_nil]; exact h
theorem RowP.out {w : World} {g : Nat} {l : List Int} (h : RowP w g l []) : RowAt w g l := by
  unfold RowP at h; rw [List.append_nil] at h; exact h
theorem RowP.far {w : World} {g : Nat} {l : List Int} {pad : List Value} (h : RowP w g l pad) (a : Addr) (v : Value) (hn : g ≠ a.block) : RowP (w.setCell a v) g l pad := (Below.heap_setCell _ _ _ _ hn).trans h
abbrev zeroRow (n : Nat) : Obj := .cells (madeCells #[.int .i64 0] n) 3
/-- A row of the call's own. -/
theorem rowP_own {w : World} {base n : Nat} {v : Value} {l : List Int} (h : w.ownsRow base 3 1 v n (l.map (Value.int .i64))) :
    n = l.length ∧ ((v = .slice none 0 0 ∧ l = []) ∨ ∃ g m pad, v = .slice (some ⟨g, 0, none⟩) l.length m ∧ base ≤ g ∧ RowP w g l pad ∧ l.length ≤ m) := by
  obtain ⟨h1, h2⟩ := h
  have hn : n = l.length := by simpa using h1.symm
  subst hn
  refine ⟨rfl, ?_⟩
  rcases h2 with ⟨rfl, h0⟩ | ⟨g, cap, cur, rfl, hb, hg, hc, _, hs, ht⟩
  · exact .inl ⟨rfl, List.length_eq_zero_iff.1 h0⟩
  · refine .inr ⟨g, cap, cur.toList.drop l.length, rfl, hb, ?_, hc⟩
    unfold RowP
    rw [Nat.mul_one] at ht
    rw [← ht, List.take_append_drop, Array.toArray_toList]
    exact hg
theorem holdsI_list {w : World} {p : Addr} {l : List Int} (h : HoldsI w (some p) l) : ∀ j u, (l.map (Value.int .i64))[j]? = some u → w.cell? (p.add j) = some u := by
  rcases h with rfl | ⟨b, off, e, hr⟩
  · intro j u hj; simp at hj
  · simp at e; subst e
    have := holdsI_part (.inr ⟨b, off, rfl, hr⟩ : HoldsI w (some ⟨b, off, none⟩) l) 0 l.length (by omega)
    simpa using this
/-- A list of the call's own, or nothing. -/
def GivesRow (l : List Int) (w : World) (e : Ending) (w' : World) : Prop :=
  Below w.heap.size w w' ∧ ∃ s m, e = .returned (.slice s l.length m) ∧ l.length ≤ m ∧ (l = [] ∨ ∃ g pad, s = some ⟨g, 0, none⟩ ∧ w.heap.size ≤ g ∧ RowP w' g l pad)
/-- append to a row of the call's own, as one step of a region that draws its order. -/
theorem step_append_own {P : Program} {ops : Array Oper} {o : Oper} {act : Act} {w : World} {K : Act → World → Prop} {Q : Exit → Act → World → Prop} {E : Prop} (hgd : o.guard = none) (s x : Operand) (t : TypeId)
    (ho : o.op = .call { callee := .builtin .append, args := #[s, x], argTypes := #[t, t] })
    (base : Nat) (e : TypeId) (i : TypeInfo) (z : Value) (size bytes : Nat) (ht : P.underlying t = some (.slice e)) (hi : P.info? e = some i) (hz : i.zero = some z)
    (hsize : i.size = size) (hby : i.bytes = bytes) (hzs : z.cells.size = size) (hsz : 0 < size)
    (v : Value) (n : Nat) (xs : List Value) (hs : act.eval s = v) (hown : w.ownsRow base e size v n xs)
    (ad : Addr) (m c : Nat) (news : List Value) (hx : act.eval x = .slice (some ad) m c) (hl : news.length = m * size) (hnews : ∀ j u, news[j]? = some u → w.cell? (ad.add j) = some u) (h1 : ∀ u ∈ news, u.oneCell' = true)
    (h63 : n + m ≤ maxLen) (hbytes : (n + m) * bytes ≤ 140737488355328) (hbase : base ≤ w.heap.size)
    (h : ∀ v' w', w'.ownsRow base e size v' (n + m) (xs ++ news) → w.grownBy w' v.ownBlock → K (act.put o.dst v') w') :
    if Region.wanted o (yielded ops act.tmps) = true then Oper.wp P o act w K Q else E := by
  have hw : Region.wanted o (yielded ops act.tmps) = true := by simp [Region.wanted, hgd]
  rw [if_pos hw]
  exact wp_append_own w s x t ho base e i z size bytes ht hi hz hsize hby hzs hsz v n xs hs hown ad m c news hx hl hnews h1 h63 hbytes hbase fun v' w' h2 h3 _ => h v' w' h2 h3
theorem own_below {w w1 : World} {base n : Nat} {e : TypeId} {v : Value} {xs : List Value} (h : w.ownsRow base e 1 v n xs) (hb : Below w.heap.size w w1) : w1.ownsRow base e 1 v n xs := by
  obtain ⟨h1, h2⟩ := h
  refine ⟨h1, ?_⟩
  rcases h2 with h | ⟨g, cap, cur, rfl, h3, h4, h5⟩
  · exact .inl h
  · exact .inr ⟨g, cap, cur, rfl, h3, (hb.block g (Array.getElem?_eq_some_iff.1 h4).1).trans h4, h5⟩
theorem own_slice {w : World} {base n : Nat} {e : TypeId} {v : Value} {xs : List Value} (h : w.ownsRow base e 1 v n xs) : ∃ s m, v = .slice s n m := by
  obtain ⟨_, h2⟩ := h
  rcases h2 with ⟨rfl, rfl⟩ | ⟨g, cap, cur, rfl, _⟩
  · exact ⟨none, 0, rfl⟩
  · exact ⟨_, cap, rfl⟩
theorem own_set {w : World} {base n : Nat} {e : TypeId} {v : Value} {xs : List Value} (h : w.ownsRow base e 1 v n xs) (a : Addr) (u : Value) (ha : a.block < base) : (w.setCell a u).ownsRow base e 1 v n xs := by
  obtain ⟨h1, h2⟩ := h
  refine ⟨h1, ?_⟩
  rcases h2 with h | ⟨g, cap, cur, rfl, h3, h4, h5⟩
  · exact .inl h
  · exact .inr ⟨g, cap, cur, rfl, h3, (Below.heap_setCell _ _ _ _ (by omega)).trans h4, h5⟩
theorem one_new (W : World) (x : Int) (T : TypeId) : ∀ j u, ([.int .i64 x] : List Value)[j]? = some u → (W.alloc (.cells #[.int .i64 x] T)).cell? ((⟨W.heap.size, 0, none⟩ : Addr).add j) = some u := by
  intro j u hj
  match j, hj with
  | 0, hj => simp at hj; subst hj; simp [Addr.add]
theorem oneOne (x : Int) : ∀ u ∈ ([.int .i64 x] : List Value), u.oneCell' = true := by
  intro u hu; simp at hu; subst hu; rfl
theorem holds_new (w : World) (B : Nat) (hB : B = w.heap.size) (l : List Int) (cs : Array Value) (hcs : cs = (l.map (Value.int .i64)).toArray) : HoldsI (w.alloc (.cells cs 3)) (some ⟨B, 0, none⟩) l := by
  subst hB hcs
  refine .inr ⟨w.heap.size, 0, rfl, fun k hk => ?_⟩
  have e : (w.alloc (.cells (l.map (Value.int .i64)).toArray 3)).cell? ⟨w.heap.size, 0 + k, none⟩ = (l.map (Value.int .i64))[k]? := by simp
  rw [e]
  simp [hk]
theorem HoldsI.alloc {w : World} {s : Option Addr} {l : List Int} (h : HoldsI w s l) (X : Obj) : HoldsI (w.alloc X) s l := h.below ((Below.refl _ _).alloc (Nat.le_refl _) _) (Nat.le_refl _)
theorem HoldsI.call {w w1 : World} {s : Option Addr} {l : List Int} (h : HoldsI w s l) (hb : Below w.heap.size w w1) : HoldsI w1 s l := h.below hb (Nat.le_refl _)
theorem below_alloc {a W : World} (h : Below a.heap.size a W) (X : Obj) : Below a.heap.size a (W.alloc X) := h.alloc h.size X
theorem below_call {a W w1 : World} (h : Below a.heap.size a W) (hb : Below W.heap.size W w1) : Below a.heap.size a w1 := bcall h hb h.size
theorem HoldsI.drew {w : World} {s : Option Addr} {l : List Int} (h : HoldsI w s l) : HoldsI w.drew s l := h
/-- A list in another block stays where a list of the call's own grows. -/
theorem holds_grown {W W2 : World} {row : Option Nat} {g : Nat} {l : List Int} (h : HoldsI W (some ⟨g, 0, none⟩) l) (hg : W.grownBy W2 row) (hne : row ≠ some g) : HoldsI W2 (some ⟨g, 0, none⟩) l := by
  rcases h with h | ⟨b, off, e, hr⟩
  · exact .inl h
  · simp at e
    obtain ⟨rfl, rfl⟩ := e
    refine .inr ⟨g, 0, rfl, fun k hk => ?_⟩
    have hlt := cell_lt (hr k hk)
    exact (World.cell?_of_block (w := W) (hg.block g hlt (fun h => hne h.symm))).trans (hr k hk)
theorem map_range_next {f : Nat → Int} {n k : Nat} (hk : k < n) : ((List.range n).map f).take k ++ [f k] = ((List.range n).map f).take (k + 1) := by
  rw [List.take_succ_eq_append_getElem (by simpa using hk)]
  simp
end Go.Proofs.Ytpnnmibdboelpaa
