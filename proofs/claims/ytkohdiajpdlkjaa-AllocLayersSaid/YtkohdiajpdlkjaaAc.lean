/-
  Layer 21: steps and curves in memory: lists of steps, lists that grow, lists of lists. Plain laws on worlds.
-/
import Derived.Test.YtkohdiajpdlkjaaAb
import Derived.Test.YtkohdiajpdlkjaaHx
import Derived.OwnWalk
import Derived.Maps.AppendAt
set_option maxRecDepth 100000
namespace Go.Proofs.Ytkohdiajpdlkjaa
open Go.RowKit

/-- append to a row of the call's own, as one step of a region that draws; where the new row lies. -/
theorem step_append_at {P : Program} {ops : Array Oper} {o : Oper} {act : Act} {w : World} {K : Act → World → Prop} {Q : Exit → Act → World → Prop} {E : Prop} (hgd : o.guard = none) (s x : Operand) (t : TypeId)
    (ho : o.op = .call { callee := .builtin .append, args := #[s, x], argTypes := #[t, t] })
    (base : Nat) (e : TypeId) (i : TypeInfo) (z : Value) (size bytes : Nat) (ht : P.underlying t = some (.slice e)) (hi : P.info? e = some i) (hz : i.zero = some z)
    (hsize : i.size = size) (hby : i.bytes = bytes) (hzs : z.cells.size = size) (hsz : 0 < size)
    (v : Value) (n : Nat) (xs : List Value) (hs : act.eval s = v) (hown : w.ownsRow base e size v n xs)
    (ad : Addr) (m c : Nat) (news : List Value) (hx : act.eval x = .slice (some ad) m c) (hl : news.length = m * size) (hnews : ∀ j u, news[j]? = some u → w.cell? (ad.add j) = some u) (h1 : ∀ u ∈ news, u.oneCell' = true)
    (h63 : n + m ≤ maxLen) (hbytes : (n + m) * bytes ≤ 140737488355328) (hbase : base ≤ w.heap.size)
    (h : ∀ v' w', w'.ownsRow base e size v' (n + m) (xs ++ news) → w.grownBy w' v.ownBlock → (v'.ownBlock = v.ownBlock ∨ v'.ownBlock = some w.heap.size) → K (act.put o.dst v') w') :
    if Region.wanted o (yielded ops act.tmps) = true then Oper.wp P o act w K Q else E := by
  have hw : Region.wanted o (yielded ops act.tmps) = true := by simp [Region.wanted, hgd]
  rw [if_pos hw]
  obtain ⟨v', w', hr, h2, h3, _, h5⟩ := run_append_own_at (P := P) (w := w) base t o.type e i z size bytes ht hi hz hsize hby hzs hsz v n xs hown ad m c news hl hnews h1 h63 hbytes hbase
  unfold Oper.wp execOp
  simp only [ho, resolve, invoke, builtin, Sem.run_bind, Sem.run_pure, Result.andThen_ok, List.map_toArray, List.map_cons, List.map_nil, hs, hx, hr]
  exact h v' w' h2 h3 h5
/-- A step's four cells, in the code's order and in the reference's. -/
def encA (s : Stp) : List Value := [.int .i64 (s.c : Int), .int .i64 (s.p : Int), .int .i64 s.d, .int .i64 s.r]
def encB (s : Stp) : List Value := [.int .i64 s.d, .int .i64 s.r, .int .i64 (s.c : Int), .int .i64 (s.p : Int)]
class Enc (enc : Stp → List Value) : Prop where
  four : ∀ s, ∃ a b c d : Int, enc s = [.int .i64 a, .int .i64 b, .int .i64 c, .int .i64 d]
instance : Enc encA := ⟨fun _ => ⟨_, _, _, _, rfl⟩⟩
instance : Enc encB := ⟨fun _ => ⟨_, _, _, _, rfl⟩⟩
def flatE (enc : Stp → List Value) (l : List Stp) : List Value := l.flatMap enc
section
variable {enc : Stp → List Value} [Enc enc]
theorem enc_len (s : Stp) : (enc s).length = 4 := by obtain ⟨a, b, c, d, h⟩ := Enc.four (enc := enc) s; rw [h]; rfl
theorem flatE_len (l : List Stp) : (flatE enc l).length = l.length * 4 := by
  induction l with
  | nil => rfl
  | cons s l ih =>
    have := enc_len (enc := enc) s
    simp only [flatE, List.flatMap_cons, List.length_append, List.length_cons] at *
    omega
omit [Enc enc] in
theorem flatE_append (l m : List Stp) : flatE enc (l ++ m) = flatE enc l ++ flatE enc m := by simp [flatE]
theorem flatE_at : ∀ (l : List Stp) (k c : Nat) (_ : k < l.length) (_ : c < 4), (flatE enc l)[k * 4 + c]? = (enc (l.getD k default))[c]?
  | [], k, c, h, _ => by simp at h
  | s :: l, 0, c, _, hc => by
    have := enc_len (enc := enc) s
    simp only [flatE, List.flatMap_cons, List.getD_cons_zero, Nat.zero_mul, Nat.zero_add]
    rw [List.getElem?_append_left (by omega)]
  | s :: l, k + 1, c, h, hc => by
    have ih := flatE_at l k c (by simpa using h) hc
    have := enc_len (enc := enc) s
    have e : flatE enc (s :: l) = enc s ++ flatE enc l := rfl
    rw [e, List.getElem?_append_right (by omega), List.getD_cons_succ, ← ih]
    congr 1
    omega
/-- A list of steps in memory. -/
def HoldsE (enc : Stp → List Value) (w : World) (a : Option Addr) (l : List Stp) : Prop := l = [] ∨ ∃ b off, a = some ⟨b, off, none⟩ ∧ ∀ k, k < l.length → ∀ c, c < 4 → w.cell? ⟨b, off + k * 4 + c, none⟩ = (enc (l.getD k default))[c]?
theorem HoldsE.below {B : Nat} {w w1 : World} {a : Option Addr} {l : List Stp} (h : HoldsE enc w a l) (hb : Below B w w1) (hB : w.heap.size ≤ B) : HoldsE enc w1 a l := by
  rcases h with h | ⟨b, off, e, hr⟩
  · exact .inl h
  · refine .inr ⟨b, off, e, fun k hk c hc => ?_⟩
    have h1 := hr k hk c hc
    have hlt : b < B := by
      refine Classical.byContradiction fun hn => ?_
      have h2 : w.cell? ⟨b, off + k * 4 + c, none⟩ = none := by
        have : w.heap[b]? = none := by rw [Array.getElem?_eq_none_iff]; omega
        simp [World.cell?, this]
      rw [h2] at h1
      have := enc_len (enc := enc) (l.getD k default)
      have h3 : ((enc (l.getD k default))[c]?).isSome = true := by rw [List.getElem?_eq_getElem (by omega)]; rfl
      rw [← h1] at h3
      simp at h3
    exact (hb.cell (p := ⟨b, off + k * 4 + c, none⟩) hlt).trans h1
/-- What a row of the call's own holds. -/
theorem ownE_holds {w : World} {base n : Nat} {t : TypeId} {v : Value} {l : List Stp} (h : w.ownsRow base t 4 v n (flatE enc l)) (hn : n = l.length) : ∃ s m, v = .slice s l.length m ∧ HoldsE enc w s l := by
  subst hn
  obtain ⟨h1, h2⟩ := h
  rcases h2 with ⟨rfl, h0⟩ | ⟨g, cap, cur, rfl, hb, hg, hc, hm, hs, ht⟩
  · exact ⟨none, 0, by rw [h0], .inl (List.length_eq_zero_iff.1 h0)⟩
  · refine ⟨_, _, rfl, .inr ⟨g, 0, rfl, fun k hk c hc4 => ?_⟩⟩
    rw [← flatE_at l k c hk hc4, ← ht, List.getElem?_take_of_lt (by omega), Array.getElem?_toList]
    simp [World.cell?, hg]
end
theorem HoldsE.atA {w : World} {b off : Nat} {l : List Stp} (h : HoldsE encA w (some ⟨b, off, none⟩) l) {k : Nat} (hk : k < l.length) : w.cell? ⟨b, off + k * 4, none⟩ = some (.int .i64 ((l.getD k default).c : Int)) ∧ w.cell? ⟨b, off + k * 4 + 1, none⟩ = some (.int .i64 ((l.getD k default).p : Int)) ∧ w.cell? ⟨b, off + k * 4 + 2, none⟩ = some (.int .i64 (l.getD k default).d) ∧ w.cell? ⟨b, off + k * 4 + 3, none⟩ = some (.int .i64 (l.getD k default).r) := by
  rcases h with rfl | ⟨b', off', e, hr⟩
  · simp at hk
  · injection e with e; injection e with e1 e2; subst e1 e2
    exact ⟨hr k hk 0 (by omega), hr k hk 1 (by omega), hr k hk 2 (by omega), hr k hk 3 (by omega)⟩
theorem HoldsE.atB {w : World} {b off : Nat} {l : List Stp} (h : HoldsE encB w (some ⟨b, off, none⟩) l) {k : Nat} (hk : k < l.length) : w.cell? ⟨b, off + k * 4, none⟩ = some (.int .i64 (l.getD k default).d) ∧ w.cell? ⟨b, off + k * 4 + 1, none⟩ = some (.int .i64 (l.getD k default).r) ∧ w.cell? ⟨b, off + k * 4 + 2, none⟩ = some (.int .i64 ((l.getD k default).c : Int)) ∧ w.cell? ⟨b, off + k * 4 + 3, none⟩ = some (.int .i64 ((l.getD k default).p : Int)) := by
  rcases h with rfl | ⟨b', off', e, hr⟩
  · simp at hk
  · injection e with e; injection e with e1 e2; subst e1 e2
    exact ⟨hr k hk 0 (by omega), hr k hk 1 (by omega), hr k hk 2 (by omega), hr k hk 3 (by omega)⟩
theorem HoldsE.some {enc : Stp → List Value} {w : World} {s : Option Addr} {l : List Stp} (h : HoldsE enc w s l) (hk : 0 < l.length) : ∃ b off, s = some ⟨b, off, none⟩ := by
  rcases h with rfl | ⟨b', off', e, hr⟩
  · simp at hk
  · exact ⟨b', off', e⟩
/-- Curves in memory. -/
def HoldsCv (w : World) (a : Option Addr) (cs : List Cv) : Prop := cs = [] ∨ ∃ b off, a = some ⟨b, off, none⟩ ∧ ∀ k, k < cs.length → ∃ sr sd mr md, w.cell? ⟨b, off + k * 2, none⟩ = some (.slice sr (cs.getD k ([], [])).1.length mr) ∧ w.cell? ⟨b, off + k * 2 + 1, none⟩ = some (.slice sd (cs.getD k ([], [])).2.length md) ∧ HoldsI w sr (cs.getD k ([], [])).1 ∧ HoldsI w sd (cs.getD k ([], [])).2
theorem cell_lt' {w : World} {b o : Nat} {v : Value} (h : w.cell? ⟨b, o, none⟩ = some v) : b < w.heap.size := by
  refine Classical.byContradiction fun hn => ?_
  have : w.heap[b]? = none := by rw [Array.getElem?_eq_none_iff]; omega
  simp [World.cell?, this] at h
theorem HoldsCv.below {B : Nat} {w w1 : World} {a : Option Addr} {cs : List Cv} (h : HoldsCv w a cs) (hb : Below B w w1) (hB : w.heap.size ≤ B) : HoldsCv w1 a cs := by
  rcases h with h | ⟨b, off, e, hr⟩
  · exact .inl h
  · refine .inr ⟨b, off, e, fun k hk => ?_⟩
    obtain ⟨sr, sd, mr, md, h1, h2, h3, h4⟩ := hr k hk
    have hlt := cell_lt' h1
    exact ⟨sr, sd, mr, md, (hb.cell (p := ⟨b, _, none⟩) (show b < B by omega)).trans h1, (hb.cell (p := ⟨b, _, none⟩) (show b < B by omega)).trans h2, h3.below hb hB, h4.below hb hB⟩
theorem HoldsCv.at {w : World} {a : Option Addr} {cs : List Cv} (h : HoldsCv w a cs) {k : Nat} (hk : k < cs.length) : ∃ b off sr sd mr md, a = some ⟨b, off, none⟩ ∧ w.cell? ⟨b, off + k * 2, none⟩ = some (.slice sr (cs.getD k ([], [])).1.length mr) ∧ w.cell? ⟨b, off + k * 2 + 1, none⟩ = some (.slice sd (cs.getD k ([], [])).2.length md) ∧ HoldsI w sr (cs.getD k ([], [])).1 ∧ HoldsI w sd (cs.getD k ([], [])).2 := by
  rcases h with rfl | ⟨b, off, e, hr⟩
  · simp at hk
  · obtain ⟨sr, sd, mr, md, h1, h2, h3, h4⟩ := hr k hk
    exact ⟨b, off, sr, sd, mr, md, e, h1, h2, h3, h4⟩
end Go.Proofs.Ytkohdiajpdlkjaa
