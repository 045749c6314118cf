/-
  Layer 15: the coder of the code in memory; bit, near, put.
-/
import Derived.Test.YtbhjapgioaiocaaDoorMa
import Derived.Shelf.Abstract
set_option maxRecDepth 100000
namespace Go.Proofs.YtbhjapgioaiocaaDoor
open Go.RowKit

theorem and1 (x : Int) : bits .and .i64 x 1 = x % 2 := by
  have h1 : (BitVec.ofInt 64 x &&& BitVec.ofInt 64 1).toNat = (x % 18446744073709551616).toNat % 2 := by
    rw [BitVec.toNat_and, BitVec.toNat_ofInt, BitVec.toNat_ofInt, show ((1 : Int) % ((2 ^ 64 : Nat) : Int)).toNat = 1 from by decide, Nat.and_one_is_mod]
    rfl
  show IntKind.i64.wrap ((BitVec.ofInt 64 x &&& BitVec.ofInt 64 1).toNat : Int) = x % 2
  rw [h1, IntWalk.i64_in _ (by omega)]
  omega
/-- The coder's six cells. -/
def ecV (A G L : Nat) (p : Pp) : Array Value := #[.pointer (some ⟨A, 0, none⟩), .int .i64 (p.s : Int), .int .i64 p.o, .bool p.c, .bool p.raw, .func (.func 53) #[] #[.pointer (some ⟨G, 0, none⟩), .pointer (some ⟨L, 0, none⟩)]]
/-- Where all lies: the block's base and blocks, the coder, the two captured variables. -/
structure Adr where
  B : Nat
  A : Nat
  V : Nat
  S : Nat
  T : Nat
  R : Nat
  P : Nat
  G : Nat
  L : Nat
theorem own2_keep {w w1 : World} {base n z : Nat} {e : TypeId} {v : Value} {xs : List Value} (h : w.ownsRow base e z v n xs) (hk : ∀ k, v.ownBlock = some k → w1.heap[k]? = w.heap[k]?) : w1.ownsRow base e z v n xs := by
  refine ⟨h.1, ?_⟩
  rcases h.2 with h2 | ⟨g, cap, cur, rfl, hb, hh, h3⟩
  · exact .inl h2
  · exact .inr ⟨g, cap, cur, rfl, hb, (hk g rfl).trans hh, h3⟩
theorem own2_lt {w : World} {base n z : Nat} {e : TypeId} {v : Value} {xs : List Value} (h : w.ownsRow base e z v n xs) {k : Nat} (hk : v.ownBlock = some k) : base ≤ k ∧ k < w.heap.size := h.lt k hk
theorem tabs_kb {fp : List Nat} {W W' : World} (h : Cx.Tabs W) (hk : Kb fp W W') (hf : ∀ k ∈ fp, 3 ≤ k) : Cx.Tabs W' := by
  have hc : ∀ (b o : Nat) (v : Value), b < 3 → W.cell? ⟨b, o, none⟩ = some v → W'.cell? ⟨b, o, none⟩ = some v := fun b o v hb h => by
    have := hk.block b (cell_lt h) (fun hm => by have := hf b hm; omega)
    rw [World.cell?_of_block (a := ⟨b, o, none⟩) this]
    exact h
  exact ⟨fun d n hd hn => hc _ _ _ (by decide) (h.dia d n hd hn), fun p s d hp hs hd => hc _ _ _ (by decide) (h.str p s d hp hs hd), fun x y hx hy => ⟨hc _ _ _ (by decide) (h.sgn x y hx hy).1, hc _ _ _ (by decide) (h.sgn x y hx hy).2⟩⟩
/-- The coder of the code, its block and its symbols. -/
structure Ec (W0 W : World) (a : Adr) (p : Pp) (e : Es) : Prop where
  cb : Cb W a.B a.A a.V a.S a.T a.R p.w p.h e.1
  tabs : Cx.Tabs W
  pc : Blk W a.P 86 (ecV a.A a.G a.L p)
  pg : Blk W a.G 4 #[.bool p.raw]
  sv : ∃ v, Blk W a.L 35 #[v] ∧ W.ownsRow W0.heap.size 52 2 v e.2.length (cellsP e.2)
  ok : ∀ x y, okV (e.1.v x y)
  hs : p.s ≤ 59
  hB : 3 ≤ a.B
  old : ∀ k, k ∈ [a.A, a.V, a.S, a.T, a.R] → k < W0.heap.size
  geP : W0.heap.size ≤ a.P
  geG : W0.heap.size ≤ a.G
  geL : W0.heap.size ≤ a.L
  kb : Kb [a.V, a.S, a.T, a.R] W0 W
section
variable {W0 W W' : World} {a : Adr} {p : Pp} {e : Es}
theorem Ec.below (H : Ec W0 W a p e) (hb : Below W.heap.size W W') : Ec W0 W' a p e := by
  obtain ⟨v, h1, h2⟩ := H.sv
  exact ⟨H.cb.below hb, H.tabs.below hb, H.pc.below hb, H.pg.below hb, ⟨v, h1.below hb, own2_below h2 hb⟩, H.ok, H.hs, H.hB, H.old, H.geP, H.geG, H.geL, H.kb.trans (Kb.of_below _ hb)⟩
theorem Ec.dn (H : Ec W0 W a p e) (hd : Dn W W') : Ec W0 W' a p e := H.below hd.below
theorem Ec.fp (H : Ec W0 W a p e) (k : Nat) (hk : k ∈ [a.V, a.S, a.T, a.R]) : 3 ≤ k ∧ k < W0.heap.size := by
  have h1 := H.old k (List.mem_cons_of_mem _ hk)
  have h2 := H.hB
  have v1 := H.cb.geV
  have v2 := H.cb.geS
  have v3 := H.cb.geT
  have v4 := H.cb.geR
  simp at hk
  omega
/-- The block is changed. -/
theorem Ec.chg (H : Ec W0 W a p e) {q : St} {c : Int} {E : Ending} (G : CGives a.B a.A a.V a.S a.T a.R p.w p.h q c W E W') (hv : ∀ x y, okV (q.v x y)) : E = .returned (.int .i64 c) ∧ Ec W0 W' a p (q, e.2) ∧ Kt W W' := by
  obtain ⟨h1, h2, h3⟩ := G
  obtain ⟨v, s1, s2⟩ := H.sv
  have far : ∀ k, W0.heap.size ≤ k → k ∉ [a.V, a.S, a.T, a.R] := fun k hk hm => by have := (H.fp k hm).2; omega
  refine ⟨h1, ⟨h2, tabs_kb H.tabs h3 (fun k hk => (H.fp k hk).1), (h3.block _ H.pc.lt (far _ H.geP)).trans H.pc, (h3.block _ H.pg.lt (far _ H.geG)).trans H.pg,
    ⟨v, (h3.block _ s1.lt (far _ H.geL)).trans s1, own2_keep s2 fun k hk => h3.block k (own2_lt s2 hk).2 (far _ (own2_lt s2 hk).1)⟩, hv, H.hs, H.hB, H.old, H.geP, H.geG, H.geL, H.kb.trans h3⟩, fun k cs hb => (h3.block k hb.lt ?_).trans hb⟩
  have n1 := fun e => H.cb.gv.neb hb (by decide) e
  have n2 := fun e => H.cb.gs.neb hb (by decide) e
  have n3 := fun e => H.cb.gt.neb hb (by decide) e
  have n4 := fun e => H.cb.gr.neb hb (by decide) e
  simp
  exact ⟨fun e => n1 e.symm, fun e => n2 e.symm, fun e => n3 e.symm, fun e => n4 e.symm⟩
/-- A symbol is appended, and the slice is stored. -/
theorem Ec.grow (H : Ec W0 W a p e) {v v' : Value} {X : Obj} {c b : Int} {w2 : World} (s1 : Blk W a.L 35 #[v]) (s2 : W.ownsRow W0.heap.size 52 2 v e.2.length (cellsP e.2))
    (hown : w2.ownsRow W0.heap.size 52 2 v' (e.2.length + 1) (cellsP e.2 ++ [.int .i64 c, .int .i64 b])) (hg : (W.alloc X).grownBy w2 v.ownBlock) : Ec W0 (w2.setCell ⟨a.L, 0, none⟩ v') a p (e.1, e.2 ++ [(c, b)]) ∧ Kt W (w2.setCell ⟨a.L, 0, none⟩ v') := by
  have hal := below_alloc (Below.refl _ W) X
  have hn : ∀ {k : Nat} {t : TypeId} {cs : Array Value}, Blk W k t cs → 52 ≠ t → some k ≠ v.ownBlock := fun hb hne he => own_blk_ne s2 hb hne he.symm
  have keep : ∀ {k : Nat} {t : TypeId} {cs : Array Value}, Blk W k t cs → 52 ≠ t → k ≠ a.L → (w2.setCell ⟨a.L, 0, none⟩ v').heap[k]? = W.heap[k]? := fun hb hne hL => by
    have e1 := Below.heap_setCell w2 ⟨a.L, 0, none⟩ v' _ (fun e => hL e)
    rw [e1]
    exact ((hb.alloc X).grown hg (hn hb hne)).trans hb.symm
  have kg : Kb [a.V, a.S, a.T, a.R] W0 (w2.setCell ⟨a.L, 0, none⟩ v') := by
    refine ⟨hg.os.trans H.kb.os, hg.tape.trans H.kb.tape, hg.output.trans H.kb.output, ?_, fun k hk hf => ?_⟩
    · have h1 := H.kb.size
      have h2 := hg.size
      have h3 := hal.size
      simp [World.setCell]
      omega
    · have h1 := H.kb.size
      have h3 := hal.size
      have hv : some k ≠ v.ownBlock := fun he => by have := (own2_lt s2 he.symm).1; omega
      have e1 := Below.heap_setCell w2 ⟨a.L, 0, none⟩ v' k (by have := H.geL; show k ≠ a.L; omega)
      rw [e1, hg.block k (by omega) hv, hal.block k (by omega)]
      exact H.kb.block k hk hf
  have old : ∀ {k}, k ∈ [a.A, a.V, a.S, a.T, a.R] → k ≠ a.L := fun hk e => by have := H.old _ hk; have := H.geL; omega
  have bA := keep H.cb.obj (by decide) (old (by simp))
  obtain ⟨cv, hv1, _⟩ := H.cb.gv
  obtain ⟨cs, hs1, _⟩ := H.cb.gs
  obtain ⟨ct, ht1, _⟩ := H.cb.gt
  obtain ⟨cr, hr1, _⟩ := H.cb.gr
  have bV := keep hv1 (by decide) (old (by simp))
  have bS := keep hs1 (by decide) (old (by simp))
  have bT := keep ht1 (by decide) (old (by simp))
  have bR := keep hr1 (by decide) (old (by simp))
  have bP := keep H.pc (by decide) (H.pc.ne s1 (by decide))
  have bG := keep H.pg (by decide) (H.pg.ne s1 (by decide))
  have L2 : Blk w2 a.L 35 #[v] := (s1.alloc X).grown hg (hn s1 (by decide))
  refine ⟨⟨H.cb.keep bA bV bS bT bR, ?_, bP.trans H.pc, bG.trans H.pg, ⟨v', by have := L2.set 0 v'; simpa using this, ?_⟩, H.ok, H.hs, H.hB, H.old, H.geP, H.geG, H.geL, kg⟩, fun k cs hb => (keep hb (by decide) (hb.ne s1 (by decide))).trans hb⟩
  · have hc : ∀ (b o : Nat) (u : Value), b < 3 → W.cell? ⟨b, o, none⟩ = some u → (w2.setCell ⟨a.L, 0, none⟩ v').cell? ⟨b, o, none⟩ = some u := fun b o u hb h => by
      have hlt := cell_lt h
      have h3 := hal.size
      have g1 := H.cb.geA
      have g2 := H.hB
      have g3 := H.old a.A (by simp)
      have g4 := H.geL
      have hvn : some b ≠ v.ownBlock := fun he => by have := (own2_lt s2 he.symm).1; omega
      have e1 := Below.heap_setCell w2 ⟨a.L, 0, none⟩ v' b (by show b ≠ a.L; omega)
      have e2 : (w2.setCell ⟨a.L, 0, none⟩ v').heap[b]? = W.heap[b]? := by rw [e1, hg.block b (by omega) hvn, hal.block b hlt]
      rw [World.cell?_of_block (a := ⟨b, o, none⟩) e2]
      exact h
    have h := H.tabs
    exact ⟨fun d n hd hn => hc _ _ _ (by decide) (h.dia d n hd hn), fun p s d hp hs hd => hc _ _ _ (by decide) (h.str p s d hp hs hd), fun x y hx hy => ⟨hc _ _ _ (by decide) (h.sgn x y hx hy).1, hc _ _ _ (by decide) (h.sgn x y hx hy).2⟩⟩
  · have hne := own_blk_ne hown L2 (by decide)
    have := own2_keep (w1 := w2.setCell ⟨a.L, 0, none⟩ v') hown fun k hk => Below.heap_setCell w2 ⟨a.L, 0, none⟩ v' k (fun e => hne (by rw [hk, e]))
    show (w2.setCell ⟨a.L, 0, none⟩ v').ownsRow W0.heap.size 52 2 v' (e.2 ++ [(c, b)]).length (cellsP (e.2 ++ [(c, b)]))
    rw [List.length_append, cellsP_app]
    exact this
end
theorem ec_cells {W : World} {P A G L : Nat} {p : Pp} (K : Blk W P 86 (ecV A G L p)) : W.cell? ⟨P, 0, none⟩ = some (.pointer (some ⟨A, 0, none⟩)) ∧ W.cell? ⟨P, 1, none⟩ = some (.int .i64 (p.s : Int)) ∧ W.cell? ⟨P, 2, none⟩ = some (.int .i64 p.o) ∧ W.cell? ⟨P, 3, none⟩ = some (.bool p.c) ∧ W.cell? ⟨P, 4, none⟩ = some (.bool p.raw) ∧ W.cell? ⟨P, 5, none⟩ = some (.func (.func 53) #[] #[.pointer (some ⟨G, 0, none⟩), .pointer (some ⟨L, 0, none⟩)]) :=
  ⟨K.cell 0, K.cell 1, K.cell 2, K.cell 3, K.cell 4, K.cell 5⟩
theorem infoS : (Tryd.prog.info? 52).map (fun i => (i.zero, i.size, i.bytes)) = some (some (.agg #[.int .i64 0, .int .i64 0]), 2, 16) := by kernel_rfl
theorem bit_c {W : World} {B A V S T R w h P G L : Nat} {q : St} {p : Pp} (H : Cb W B A V S T R w h q) (K : Blk W P 86 (ecV A G L p)) (hs : p.s ≤ 59) (x y : Int) (hv : okV (q.v x y)) : Calls Tryd.prog 91 #[.pointer (some ⟨P, 0, none⟩), .int .i64 x, .int .i64 y] W fun e w' => e = .returned (.int .i64 (bitM (q.v x y) p.s)) ∧ w' = W := by
  have c0 : W.cell? ⟨P, 0, none⟩ = some (.pointer (some ⟨A, 0, none⟩)) := K.cell 0
  have c1 : W.cell? ⟨P, 1, none⟩ = some (.int .i64 (p.s : Int)) := K.cell 1
  have kv := value_c H x y
  have hmx := hmx
  obtain ⟨h1, h2⟩ := hv
  have wn : IntKind.i64.wrap (-(q.v x y)) = -(q.v x y) := by rw [IntWalk.i64_left]; unfold wrap64; omega
  have and1 := and1
  have e : bitM (q.v x y) p.s = max (q.v x y) (-(q.v x y)) / 2 ^ p.s % 2 := by
    have ha : max (q.v x y) (-(q.v x y)) = ((q.v x y).natAbs : Int) := by omega
    rw [ha]
    unfold bitM
    rw [Int.natCast_emod, Int.natCast_ediv, Int.natCast_pow]
    rfl
  rw [e]
  clear H K e
  generalize q.v x y = v at *
  generalize p.s = s at *
  go_enter Tryd.func91, Tryd.ntmps91
  go_wp2_with (first | (go_at_call 62; (with_reducible refine kv.mono ?_); rintro e wn ⟨rfl, rfl⟩))
  go_ret
  exact ⟨rfl, rfl⟩
theorem near_c {W : World} {B A V S T R P G L : Nat} {q : St} {p : Pp} (H : Cb W B A V S T R p.w p.h q) (K : Blk W P 86 (ecV A G L p)) (x y : Int) (hin : inB p.w p.h x y) : Calls Tryd.prog 88 #[.pointer (some ⟨P, 0, none⟩), .int .i64 x, .int .i64 y] W fun e w' => e = .returned (.bool (nearQ p q x y)) ∧ ∃ m, w' = W.drewN m := by
  have c0 : W.cell? ⟨P, 0, none⟩ = some (.pointer (some ⟨A, 0, none⟩)) := K.cell 0
  have c3 : W.cell? ⟨P, 3, none⟩ = some (.bool p.c) := K.cell 3
  have kn := fun n => nb_y (H.below (drewN_below W n)) x y p.c hin
  have e : nearQ p q x y = decide (0 < nbH q x y + nbV q x y p.c + nbD q x y p.c) := rfl
  rw [e]
  have hN : ∃ a b c : Int, a = nbH q x y ∧ b = nbV q x y p.c ∧ c = nbD q x y p.c ∧ 0 ≤ a ∧ a ≤ 2 ∧ 0 ≤ b ∧ b ≤ 2 ∧ 0 ≤ c ∧ c ≤ 4 := by
    refine ⟨_, _, _, rfl, rfl, rfl, ?_⟩
    unfold nbH nbV nbD
    have a1 := cn_in q (x - 1) (y - 1)
    have a2 := cn_in q x (y - 1)
    have a3 := cn_in q (x + 1) (y - 1)
    have a4 := cn_in q (x - 1) y
    have a6 := cn_in q (x + 1) y
    have a7 := cn_in q (x - 1) (y + 1)
    have a8 := cn_in q x (y + 1)
    have a9 := cn_in q (x + 1) (y + 1)
    refine ⟨by omega, by omega, ?_, ?_, ?_, ?_⟩
    all_goals (cases hid y p.c <;> simp <;> omega)
  obtain ⟨a, b, c, ea, eb, ec, a1, a2, b1, b2, c1, c2⟩ := hN
  rw [← ea, ← eb, ← ec] at kn ⊢
  have w1 : IntKind.i64.wrap (a + b) = a + b := by rw [IntWalk.i64_left]; unfold wrap64; omega
  have w2 : IntKind.i64.wrap (a + b + c) = a + b + c := by rw [IntWalk.i64_left]; unfold wrap64; omega
  clear ea eb ec a1 a2 b1 b2 c1 c2 H K e hin
  go_enter Tryd.func88, Tryd.ntmps88
  go_wp2_with fail
  go_quiet ((go_at_call 112; exact Calls.quiet_of (kn _)))
  go_wp2_with fail
  go_ret
  exact ⟨rfl, _, rfl⟩
end Go.Proofs.YtbhjapgioaiocaaDoor
