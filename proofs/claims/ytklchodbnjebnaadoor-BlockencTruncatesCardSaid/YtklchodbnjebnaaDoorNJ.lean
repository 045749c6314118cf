/-
  Layer 15: the coder of the code in memory; bit, near, put.
  Layer 15: the code's closure that appends a symbol; signs, bits with their signs, quiet columns, run lengths.
  Layer 15: a bit with its sign; quiet columns.
  Layer 15: run lengths; a column of a stripe.
-/
import Derived.Test.YtklchodbnjebnaaDoorNI
import Derived.Shelf.Abstract
set_option maxRecDepth 100000
namespace Go.Proofs.YtklchodbnjebnaaDoor
open Go.RowKit

theorem and1 (x : Int) : bits .and .i64 x 1 = x % 2 := by
  have h1 : (BitVec.ofInt 64 x &&& BitVec.ofInt 64 1).toNat = (x % 18446744073709551616).toNat % 2 := by
    rw [BitVec.toNat_and, BitVec.toNat_ofInt, BitVec.toNat_ofInt, show ((1 : Int) % ((2 ^ 64 : Nat) : Int)).toNat = 1 from by decide, Nat.and_one_is_mod]
    rfl
  show IntKind.i64.wrap ((BitVec.ofInt 64 x &&& BitVec.ofInt 64 1).toNat : Int) = x % 2
  rw [h1, IntWalk.i64_in _ (by omega)]
  omega
/-- The coder's six cells. -/
def ecV (A G L : Nat) (p : Pp) : Array Value := #[.pointer (some ⟨A, 0, none⟩), .int .i64 (p.s : Int), .int .i64 p.o, .bool p.c, .bool p.raw, .func (.func 47) #[] #[.pointer (some ⟨G, 0, none⟩), .pointer (some ⟨L, 0, none⟩)]]
/-- Where all lies: the block's base and blocks, the coder, the two captured variables. -/
structure Adr where
  B : Nat
  A : Nat
  V : Nat
  S : Nat
  T : Nat
  R : Nat
  P : Nat
  G : Nat
  L : Nat
theorem own2_keep {w w1 : World} {base n z : Nat} {e : TypeId} {v : Value} {xs : List Value} (h : w.ownsRow base e z v n xs) (hk : ∀ k, v.ownBlock = some k → w1.heap[k]? = w.heap[k]?) : w1.ownsRow base e z v n xs := by
  refine ⟨h.1, ?_⟩
  rcases h.2 with h2 | ⟨g, cap, cur, rfl, hb, hh, h3⟩
  · exact .inl h2
  · exact .inr ⟨g, cap, cur, rfl, hb, (hk g rfl).trans hh, h3⟩
theorem own2_lt {w : World} {base n z : Nat} {e : TypeId} {v : Value} {xs : List Value} (h : w.ownsRow base e z v n xs) {k : Nat} (hk : v.ownBlock = some k) : base ≤ k ∧ k < w.heap.size := h.lt k hk
theorem tabs_kb {fp : List Nat} {W W' : World} (h : Cx.Tabs W) (hk : Kb fp W W') (hf : ∀ k ∈ fp, 3 ≤ k) : Cx.Tabs W' := by
  have hc : ∀ (b o : Nat) (v : Value), b < 3 → W.cell? ⟨b, o, none⟩ = some v → W'.cell? ⟨b, o, none⟩ = some v := fun b o v hb h => by
    have := hk.block b (cell_lt h) (fun hm => by have := hf b hm; omega)
    rw [World.cell?_of_block (a := ⟨b, o, none⟩) this]
    exact h
  exact ⟨fun d n hd hn => hc _ _ _ (by decide) (h.dia d n hd hn), fun p s d hp hs hd => hc _ _ _ (by decide) (h.str p s d hp hs hd), fun x y hx hy => ⟨hc _ _ _ (by decide) (h.sgn x y hx hy).1, hc _ _ _ (by decide) (h.sgn x y hx hy).2⟩⟩
/-- The coder of the code, its block and its symbols. -/
structure Ec (W0 W : World) (a : Adr) (p : Pp) (e : Es) : Prop where
  cb : Cb W a.B a.A a.V a.S a.T a.R p.w p.h e.1
  tabs : Cx.Tabs W
  pc : Blk W a.P 107 (ecV a.A a.G a.L p)
  pg : Blk W a.G 4 #[.bool p.raw]
  sv : ∃ v, Blk W a.L 68 #[v] ∧ W.ownsRow W0.heap.size 104 2 v e.2.length (cellsP e.2)
  ok : ∀ x y, okV (e.1.v x y)
  hs : p.s ≤ 59
  hB : 3 ≤ a.B
  old : ∀ k, k ∈ [a.A, a.V, a.S, a.T, a.R] → k < W0.heap.size
  geP : W0.heap.size ≤ a.P
  geG : W0.heap.size ≤ a.G
  geL : W0.heap.size ≤ a.L
  kb : Kb [a.V, a.S, a.T, a.R] W0 W
section
variable {W0 W W' : World} {a : Adr} {p : Pp} {e : Es}
theorem Ec.below (H : Ec W0 W a p e) (hb : Below W.heap.size W W') : Ec W0 W' a p e := by
  obtain ⟨v, h1, h2⟩ := H.sv
  exact ⟨H.cb.below hb, H.tabs.below hb, H.pc.below hb, H.pg.below hb, ⟨v, h1.below hb, own2_below h2 hb⟩, H.ok, H.hs, H.hB, H.old, H.geP, H.geG, H.geL, H.kb.trans (Kb.of_below _ hb)⟩
theorem Ec.dn (H : Ec W0 W a p e) (hd : Dn W W') : Ec W0 W' a p e := H.below hd.below
theorem Ec.fp (H : Ec W0 W a p e) (k : Nat) (hk : k ∈ [a.V, a.S, a.T, a.R]) : 3 ≤ k ∧ k < W0.heap.size := by
  have h1 := H.old k (List.mem_cons_of_mem _ hk)
  have h2 := H.hB
  have v1 := H.cb.geV
  have v2 := H.cb.geS
  have v3 := H.cb.geT
  have v4 := H.cb.geR
  simp at hk
  omega
/-- The block is changed. -/
theorem Ec.chg (H : Ec W0 W a p e) {q : St} {c : Int} {E : Ending} (G : CGives a.B a.A a.V a.S a.T a.R p.w p.h q c W E W') (hv : ∀ x y, okV (q.v x y)) : E = .returned (.int .i64 c) ∧ Ec W0 W' a p (q, e.2) ∧ Kt W W' := by
  obtain ⟨h1, h2, h3⟩ := G
  obtain ⟨v, s1, s2⟩ := H.sv
  have far : ∀ k, W0.heap.size ≤ k → k ∉ [a.V, a.S, a.T, a.R] := fun k hk hm => by have := (H.fp k hm).2; omega
  refine ⟨h1, ⟨h2, tabs_kb H.tabs h3 (fun k hk => (H.fp k hk).1), (h3.block _ H.pc.lt (far _ H.geP)).trans H.pc, (h3.block _ H.pg.lt (far _ H.geG)).trans H.pg,
    ⟨v, (h3.block _ s1.lt (far _ H.geL)).trans s1, own2_keep s2 fun k hk => h3.block k (own2_lt s2 hk).2 (far _ (own2_lt s2 hk).1)⟩, hv, H.hs, H.hB, H.old, H.geP, H.geG, H.geL, H.kb.trans h3⟩, fun k cs hb => (h3.block k hb.lt ?_).trans hb⟩
  have n1 := fun e => H.cb.gv.neb hb (by decide) e
  have n2 := fun e => H.cb.gs.neb hb (by decide) e
  have n3 := fun e => H.cb.gt.neb hb (by decide) e
  have n4 := fun e => H.cb.gr.neb hb (by decide) e
  simp
  exact ⟨fun e => n1 e.symm, fun e => n2 e.symm, fun e => n3 e.symm, fun e => n4 e.symm⟩
/-- A symbol is appended, and the slice is stored. -/
theorem Ec.grow (H : Ec W0 W a p e) {v v' : Value} {X : Obj} {c b : Int} {w2 : World} (s1 : Blk W a.L 68 #[v]) (s2 : W.ownsRow W0.heap.size 104 2 v e.2.length (cellsP e.2))
    (hown : w2.ownsRow W0.heap.size 104 2 v' (e.2.length + 1) (cellsP e.2 ++ [.int .i64 c, .int .i64 b])) (hg : (W.alloc X).grownBy w2 v.ownBlock) : Ec W0 (w2.setCell ⟨a.L, 0, none⟩ v') a p (e.1, e.2 ++ [(c, b)]) ∧ Kt W (w2.setCell ⟨a.L, 0, none⟩ v') := by
  have hal := below_alloc (Below.refl _ W) X
  have hn : ∀ {k : Nat} {t : TypeId} {cs : Array Value}, Blk W k t cs → 104 ≠ t → some k ≠ v.ownBlock := fun hb hne he => own_blk_ne s2 hb hne he.symm
  have keep : ∀ {k : Nat} {t : TypeId} {cs : Array Value}, Blk W k t cs → 104 ≠ t → k ≠ a.L → (w2.setCell ⟨a.L, 0, none⟩ v').heap[k]? = W.heap[k]? := fun hb hne hL => by
    have e1 := Below.heap_setCell w2 ⟨a.L, 0, none⟩ v' _ (fun e => hL e)
    rw [e1]
    exact ((hb.alloc X).grown hg (hn hb hne)).trans hb.symm
  have kg : Kb [a.V, a.S, a.T, a.R] W0 (w2.setCell ⟨a.L, 0, none⟩ v') := by
    refine ⟨hg.os.trans H.kb.os, hg.tape.trans H.kb.tape, hg.output.trans H.kb.output, ?_, fun k hk hf => ?_⟩
    · have h1 := H.kb.size
      have h2 := hg.size
      have h3 := hal.size
      simp [World.setCell]
      omega
    · have h1 := H.kb.size
      have h3 := hal.size
      have hv : some k ≠ v.ownBlock := fun he => by have := (own2_lt s2 he.symm).1; omega
      have e1 := Below.heap_setCell w2 ⟨a.L, 0, none⟩ v' k (by have := H.geL; show k ≠ a.L; omega)
      rw [e1, hg.block k (by omega) hv, hal.block k (by omega)]
      exact H.kb.block k hk hf
  have old : ∀ {k}, k ∈ [a.A, a.V, a.S, a.T, a.R] → k ≠ a.L := fun hk e => by have := H.old _ hk; have := H.geL; omega
  have bA := keep H.cb.obj (by decide) (old (by simp))
  obtain ⟨cv, hv1, _⟩ := H.cb.gv
  obtain ⟨cs, hs1, _⟩ := H.cb.gs
  obtain ⟨ct, ht1, _⟩ := H.cb.gt
  obtain ⟨cr, hr1, _⟩ := H.cb.gr
  have bV := keep hv1 (by decide) (old (by simp))
  have bS := keep hs1 (by decide) (old (by simp))
  have bT := keep ht1 (by decide) (old (by simp))
  have bR := keep hr1 (by decide) (old (by simp))
  have bP := keep H.pc (by decide) (H.pc.ne s1 (by decide))
  have bG := keep H.pg (by decide) (H.pg.ne s1 (by decide))
  have L2 : Blk w2 a.L 68 #[v] := (s1.alloc X).grown hg (hn s1 (by decide))
  refine ⟨⟨H.cb.keep bA bV bS bT bR, ?_, bP.trans H.pc, bG.trans H.pg, ⟨v', by have := L2.set 0 v'; simpa using this, ?_⟩, H.ok, H.hs, H.hB, H.old, H.geP, H.geG, H.geL, kg⟩, fun k cs hb => (keep hb (by decide) (hb.ne s1 (by decide))).trans hb⟩
  · have hc : ∀ (b o : Nat) (u : Value), b < 3 → W.cell? ⟨b, o, none⟩ = some u → (w2.setCell ⟨a.L, 0, none⟩ v').cell? ⟨b, o, none⟩ = some u := fun b o u hb h => by
      have hlt := cell_lt h
      have h3 := hal.size
      have g1 := H.cb.geA
      have g2 := H.hB
      have g3 := H.old a.A (by simp)
      have g4 := H.geL
      have hvn : some b ≠ v.ownBlock := fun he => by have := (own2_lt s2 he.symm).1; omega
      have e1 := Below.heap_setCell w2 ⟨a.L, 0, none⟩ v' b (by show b ≠ a.L; omega)
      have e2 : (w2.setCell ⟨a.L, 0, none⟩ v').heap[b]? = W.heap[b]? := by rw [e1, hg.block b (by omega) hvn, hal.block b hlt]
      rw [World.cell?_of_block (a := ⟨b, o, none⟩) e2]
      exact h
    have h := H.tabs
    exact ⟨fun d n hd hn => hc _ _ _ (by decide) (h.dia d n hd hn), fun p s d hp hs hd => hc _ _ _ (by decide) (h.str p s d hp hs hd), fun x y hx hy => ⟨hc _ _ _ (by decide) (h.sgn x y hx hy).1, hc _ _ _ (by decide) (h.sgn x y hx hy).2⟩⟩
  · have hne := own_blk_ne hown L2 (by decide)
    have := own2_keep (w1 := w2.setCell ⟨a.L, 0, none⟩ v') hown fun k hk => Below.heap_setCell w2 ⟨a.L, 0, none⟩ v' k (fun e => hne (by rw [hk, e]))
    show (w2.setCell ⟨a.L, 0, none⟩ v').ownsRow W0.heap.size 104 2 v' (e.2 ++ [(c, b)]).length (cellsP (e.2 ++ [(c, b)]))
    rw [List.length_append, cellsP_app]
    exact this
end
theorem ec_cells {W : World} {P A G L : Nat} {p : Pp} (K : Blk W P 107 (ecV A G L p)) : W.cell? ⟨P, 0, none⟩ = some (.pointer (some ⟨A, 0, none⟩)) ∧ W.cell? ⟨P, 1, none⟩ = some (.int .i64 (p.s : Int)) ∧ W.cell? ⟨P, 2, none⟩ = some (.int .i64 p.o) ∧ W.cell? ⟨P, 3, none⟩ = some (.bool p.c) ∧ W.cell? ⟨P, 4, none⟩ = some (.bool p.raw) ∧ W.cell? ⟨P, 5, none⟩ = some (.func (.func 47) #[] #[.pointer (some ⟨G, 0, none⟩), .pointer (some ⟨L, 0, none⟩)]) :=
  ⟨K.cell 0, K.cell 1, K.cell 2, K.cell 3, K.cell 4, K.cell 5⟩
theorem infoS : (Tryd.prog.info? 104).map (fun i => (i.zero, i.size, i.bytes)) = some (some (.agg #[.int .i64 0, .int .i64 0]), 2, 16) := by kernel_rfl
theorem bit_c {W : World} {B A V S T R w h P G L : Nat} {q : St} {p : Pp} (H : Cb W B A V S T R w h q) (K : Blk W P 107 (ecV A G L p)) (hs : p.s ≤ 59) (x y : Int) (hv : okV (q.v x y)) : Calls Tryd.prog 71 #[.pointer (some ⟨P, 0, none⟩), .int .i64 x, .int .i64 y] W fun e w' => e = .returned (.int .i64 (bitM (q.v x y) p.s)) ∧ w' = W := by
  have c0 : W.cell? ⟨P, 0, none⟩ = some (.pointer (some ⟨A, 0, none⟩)) := K.cell 0
  have c1 : W.cell? ⟨P, 1, none⟩ = some (.int .i64 (p.s : Int)) := K.cell 1
  have kv := value_c H x y
  have hmx := hmx
  obtain ⟨h1, h2⟩ := hv
  have wn : IntKind.i64.wrap (-(q.v x y)) = -(q.v x y) := by rw [IntWalk.i64_left]; unfold wrap64; omega
  have and1 := and1
  have e : bitM (q.v x y) p.s = max (q.v x y) (-(q.v x y)) / 2 ^ p.s % 2 := by
    have ha : max (q.v x y) (-(q.v x y)) = ((q.v x y).natAbs : Int) := by omega
    rw [ha]
    unfold bitM
    rw [Int.natCast_emod, Int.natCast_ediv, Int.natCast_pow]
    rfl
  rw [e]
  clear H K e
  generalize q.v x y = v at *
  generalize p.s = s at *
  go_enter Tryd.func71, Tryd.ntmps71
  go_wp2_with (first | (go_at_call 28; (with_reducible refine kv.mono ?_); rintro e wn ⟨rfl, rfl⟩))
  go_ret
  exact ⟨rfl, rfl⟩
theorem near_c {W : World} {B A V S T R P G L : Nat} {q : St} {p : Pp} (H : Cb W B A V S T R p.w p.h q) (K : Blk W P 107 (ecV A G L p)) (x y : Int) (hin : inB p.w p.h x y) : Calls Tryd.prog 66 #[.pointer (some ⟨P, 0, none⟩), .int .i64 x, .int .i64 y] W fun e w' => e = .returned (.bool (nearQ p q x y)) ∧ ∃ m, w' = W.drewN m := by
  have c0 : W.cell? ⟨P, 0, none⟩ = some (.pointer (some ⟨A, 0, none⟩)) := K.cell 0
  have c3 : W.cell? ⟨P, 3, none⟩ = some (.bool p.c) := K.cell 3
  have kn := fun n => nb_y (H.below (drewN_below W n)) x y p.c hin
  have e : nearQ p q x y = decide (0 < nbH q x y + nbV q x y p.c + nbD q x y p.c) := rfl
  rw [e]
  have hN : ∃ a b c : Int, a = nbH q x y ∧ b = nbV q x y p.c ∧ c = nbD q x y p.c ∧ 0 ≤ a ∧ a ≤ 2 ∧ 0 ≤ b ∧ b ≤ 2 ∧ 0 ≤ c ∧ c ≤ 4 := by
    refine ⟨_, _, _, rfl, rfl, rfl, ?_⟩
    unfold nbH nbV nbD
    have a1 := cn_in q (x - 1) (y - 1)
    have a2 := cn_in q x (y - 1)
    have a3 := cn_in q (x + 1) (y - 1)
    have a4 := cn_in q (x - 1) y
    have a6 := cn_in q (x + 1) y
    have a7 := cn_in q (x - 1) (y + 1)
    have a8 := cn_in q x (y + 1)
    have a9 := cn_in q (x + 1) (y + 1)
    refine ⟨by omega, by omega, ?_, ?_, ?_, ?_⟩
    all_goals (cases hid y p.c <;> simp <;> omega)
  obtain ⟨a, b, c, ea, eb, ec, a1, a2, b1, b2, c1, c2⟩ := hN
  rw [← ea, ← eb, ← ec] at kn ⊢
  have w1 : IntKind.i64.wrap (a + b) = a + b := by rw [IntWalk.i64_left]; unfold wrap64; omega
  have w2 : IntKind.i64.wrap (a + b + c) = a + b + c := by rw [IntWalk.i64_left]; unfold wrap64; omega
  clear ea eb ec a1 a2 b1 b2 c1 c2 H K e hin
  go_enter Tryd.func66, Tryd.ntmps66
  go_wp2_with fail
  go_quiet ((go_at_call 81; exact Calls.quiet_of (kn _)))
  go_wp2_with fail
  go_ret
  exact ⟨rfl, _, rfl⟩
end Go.Proofs.YtklchodbnjebnaaDoor
set_option maxRecDepth 100000
namespace Go.Proofs.YtklchodbnjebnaaDoor
open Go.RowKit

/-- What a call of the coder leaves. -/
def EG (W0 W : World) (a : Adr) (p : Pp) (e : Es) (E : Ending) (W' : World) : Prop := E = .returned (.tuple #[]) ∧ Ec W0 W' a p e ∧ Kt W W'
def capV (a : Adr) : Array Value := #[.pointer (some ⟨a.G, 0, none⟩), .pointer (some ⟨a.L, 0, none⟩)]
set_option maxHeartbeats 1000000 in
theorem put_c {W0 W : World} {a : Adr} {p : Pp} {e : Es} (H : Ec W0 W a p e) (c b : Int) (hl : e.2.length ≤ 1000000) : Calls Tryd.prog 47 #[.int .i64 c, .int .i64 b, .pointer (some ⟨a.G, 0, none⟩), .pointer (some ⟨a.L, 0, none⟩)] W (EG W0 W a p (putS p e c b)) := by
  obtain ⟨i0, hi, hz0, hz1, hz2⟩ := info2_parts infoS
  obtain ⟨v, s1, s2⟩ := H.sv
  obtain ⟨s5, m5, rfl⟩ := own2_slice s2
  have c0 : W.cell? ⟨a.G, 0, none⟩ = some (.bool p.raw) := H.pg.cell 0
  have c1 : W.cell? ⟨a.L, 0, none⟩ = some (.slice s5 e.2.length m5) := s1.cell 0
  have fz := s1.free
  have hsz := H.kb.size
  have EQ : putS p e c b = (e.1, e.2 ++ [(cxP p c, b)]) := rfl
  have HG := fun (v' : Value) (X : Obj) (w2 : World) => H.grow (v' := v') (X := X) (c := cxP p c) (b := b) (w2 := w2) s1 s2
  rw [EQ]
  have hgr : ∀ (w2 : World) (X : Obj), (W.alloc X).grownBy w2 (Value.slice s5 e.2.length m5).ownBlock → w2.cell? ⟨a.L, 0, none⟩ = some (Value.slice s5 e.2.length m5) ∧ ∀ i, w2.frozen? ⟨a.L, i, none⟩ = false := fun w2 X hg => by
    have := (s1.alloc X).grown hg (fun he => own_blk_ne s2 s1 (by decide) he.symm)
    exact ⟨this.cell 0, this.free⟩
  obtain ⟨raw, hraw⟩ : ∃ r, r = p.raw := ⟨_, rfl⟩
  have ecx : cxP p c = if raw then -1 else c := by unfold cxP; rw [hraw]
  rw [← hraw] at c0
  rw [ecx] at HG ⊢
  have HL := Lib.hid hl
  have HZ := Lib.hid hsz
  have HS := Lib.hid s2
  clear ecx hraw hl hsz H EQ s1 s2
  cases raw <;>
   (go_enter Tryd.func47, Tryd.ntmps47
    go_wp2_with (first | (at_builtin; refine wpList_append_own_at _ rfl _ _ 68 rfl W0.heap.size 104 i0 (.agg #[.int .i64 0, .int .i64 0]) 2 16 Tryd.underlying68 hi hz0 hz1 hz2 rfl (by decide) _ e.2.length _ rfl (own2_below HS.out ((Below.refl _ _).alloc (Nat.le_refl _) _)) ⟨W.heap.size, 0, none⟩ 1 1 [.int .i64 _, .int .i64 b] rfl rfl (pt_new _ _ _ _) (by intro u hu; simp at hu; rcases hu with rfl | rfl <;> rfl) (by have := HL.out; unfold maxLen; omega) (by have := HL.out; omega) (by have := HZ.out; simp; omega) ?_))
    intro v' w2 hown hgrow _ _
    obtain ⟨s6, m6, rfl⟩ := own2_slice hown
    obtain ⟨d1, d2⟩ := hgr _ _ hgrow
    have HE := Lib.hid (HG _ _ _ hown hgrow)
    clear hown hgrow
    go_wp2_with fail
    go_end0
    exact ⟨rfl, HE.out⟩)
theorem markQ_v (w h : Nat) (q : St) (x y : Int) : (markQ w h q x y).v = q.v := by unfold markQ; split <;> rfl
theorem touchQ_v (w h : Nat) (q : St) (x y : Int) (b : Bool) : (touchQ w h q x y b).v = q.v := by unfold touchQ; split <;> rfl
theorem refineQ_v (w h : Nat) (q : St) (x y : Int) : (refineQ w h q x y).v = q.v := by unfold refineQ; split <;> rfl
theorem xor01 (a b : Int) (ha : a = 0 ∨ a = 1) (hb : b = 0 ∨ b = 1) : bits .xor .i64 a b = xorM a b := by
  rcases ha with rfl | rfl <;> rcases hb with rfl | rfl <;> decide
set_option maxHeartbeats 2000000 in
theorem sign_ce {W0 W : World} {a : Adr} {p : Pp} {e : Es} (H : Ec W0 W a p e) (x y : Int) (hin : inB p.w p.h x y) (hl : e.2.length ≤ 1000000) : Calls Tryd.prog 83 #[.pointer (some ⟨a.P, 0, none⟩), .int .i64 x, .int .i64 y] W (EG W0 W a p (signS p e x y)) := by
  have HD := H.below (Below.refl W.heap.size W).drew
  obtain ⟨c0, -, -, c3, -, -⟩ := ec_cells HD.pc
  have k1 := sgs_y HD.cb x y p.c hin
  have k2 := fun W T => Cx.sgn_c (sgH e.1 x y) (sgV e.1 x y p.c) W T
  have T0 := HD.tabs
  have HH := Lib.hid HD
  obtain ⟨C, hC⟩ : ∃ C, C = sgnC p e.1 x y := ⟨_, rfl⟩
  obtain ⟨F, hF⟩ : ∃ F, F = Cx.sgF (Cx.l1 (sgH e.1 x y)) (Cx.l1 (sgV e.1 x y p.c)) := ⟨_, rfl⟩
  obtain ⟨FF, hFF⟩ : ∃ FF, FF = sgnF p e.1 x y := ⟨_, rfl⟩
  obtain ⟨N, hN⟩ : ∃ N, N = negM (e.1.v x y) := ⟨_, rfl⟩
  have hF01 : FF = 0 ∨ FF = 1 := by rw [hFF]; exact sgnF_in _ _ _ _
  have hN01 : N = 0 ∨ N = 1 := by rw [hN]; exact negM_in _
  have EQ : signS p e x y = (markQ p.w p.h (putS p e C (xorM N FF)).1 x y, (putS p e C (xorM N FF)).2) := by unfold signS putS; rw [← hC, ← hFF, ← hN]
  have k3 : ∀ W T, Calls Tryd.prog 90 #[.int .i64 (sgH e.1 x y), .int .i64 (sgV e.1 x y p.c)] W fun e w' => e = .returned (.tuple #[.int .i64 C, .int .i64 F]) ∧ Below W.heap.size W w' := fun W T => by rw [hC, hF]; exact k2 W T
  rw [EQ]
  have X0 := xor01 N FF hN01 hF01
  have kp := fun W (K : Ec W0 W a p e) => put_c K C (xorM N FF) hl
  have kv := fun W (K : Ec W0 W a p e) => value_c K.cb x y
  have km : ∀ W, Ec W0 W a p (putS p e C (xorM N FF)) → Calls Tryd.prog 92 #[.pointer (some ⟨a.A, 0, none⟩), .int .i64 x, .int .i64 y] W fun E W' => E = .returned (.int .i64 (atE p.w p.h x y)) ∧ Ec W0 W' a p (markQ p.w p.h (putS p e C (xorM N FF)).1 x y, (putS p e C (xorM N FF)).2) ∧ Kt W W' := fun W K =>
    (mark_c K.cb x y).mono fun _ _ G => K.chg G (by rw [markQ_v]; exact K.ok)
  have fC : p.raw = true → FF = 0 := fun h => by rw [hFF]; unfold sgnF; rw [if_pos h]
  have fD : p.raw = false → FF = F := fun h => by rw [hFF, hF]; unfold sgnF; rw [if_neg (by rw [h]; decide)]
  have fN : e.1.v x y < 0 → N = 1 := fun h => by rw [hN]; unfold negM; rw [if_pos h]
  have fM : ¬ e.1.v x y < 0 → N = 0 := fun h => by rw [hN]; unfold negM; rw [if_neg h]
  obtain ⟨raw, hraw⟩ : ∃ r, r = p.raw := ⟨_, rfl⟩
  have fc4 : ∀ W, Ec W0 W a p e → W.cell? ⟨a.P, 4, none⟩ = some (.bool raw) := fun W K => by rw [hraw]; exact K.pc.cell 4
  rw [← hraw] at fC fD
  clear hC hF hFF hN EQ k2 H HD hin hl hF01 hN01 hraw
  generalize (putS p e C (xorM N FF)) = e1 at *
  generalize sgH e.1 x y = sh at *
  generalize sgV e.1 x y p.c = sv at *
  generalize e.1.v x y = v at *
  generalize atE p.w p.h x y = am at *
  generalize xorM N FF = XX at *
  cases raw <;> by_cases hv : v < 0
  all_goals
    first | (have e1 := fC rfl; subst e1) | (have e1 := fD rfl; subst e1)
    first | (have e2 := fN hv; subst e2) | (have e2 := fM hv; subst e2)
    clear fC fD fN fM
    go_enter Tryd.func83, Tryd.ntmps83
    go_wp2_with fail
    go_region_held3 (fun w' => w'.cell? ⟨a.P, 0, none⟩ = some (.pointer (some ⟨a.A, 0, none⟩)) ∧ w'.cell? ⟨a.P, 3, none⟩ = some (.bool p.c))
      (first | (with_reducible exact ⟨c0, c3⟩) | (with_reducible exact ⟨d0, d3⟩) | fail)
      (first | (go_simp; go_at_call 91; (with_reducible refine k1.mono ?_); rintro e wn ⟨rfl, rfl⟩) | (go_simp; go_at_call 90; (with_reducible refine (k3 _ T0).mono ?_); rintro e w1 ⟨rfl, hb⟩; have H1 := Lib.hid (HH.out.below hb); have K1 := Lib.hid (show Kt W w1 from kt_below (below_call (Below.refl W.heap.size W).drew hb)); obtain ⟨d0, -, -, d3, -, d5⟩ := ec_cells H1.out.pc) | fail)
  all_goals
    have f4 := fc4 _ H1.out
    have kv1 := kv _ H1.out
    have kp1 := kp _ H1.out
    clear hb
    go_wp2_with (first | (go_at_call 28; (with_reducible refine kv1.mono ?_); rintro e wn ⟨rfl, rfl⟩) | (go_at_call 47; (with_reducible refine kp1.mono ?_); rintro e w2 ⟨rfl, H2, K2⟩; have HH2 := Lib.hid H2; have K2 := Lib.hid (K1.out.trans K2); clear H2; obtain ⟨g0, -, -, -, -, -⟩ := ec_cells HH2.out.pc) | (go_at_call 92; (with_reducible refine (km _ HH2.out).mono ?_); rintro e w3 ⟨rfl, H3, K3⟩))
    go_end0
    exact ⟨rfl, H3, K2.out.trans K3⟩
end Go.Proofs.YtklchodbnjebnaaDoor
set_option maxRecDepth 100000
namespace Go.Proofs.YtklchodbnjebnaaDoor
open Go.RowKit

set_option maxHeartbeats 2000000 in
theorem code_c {W0 W : World} {a : Adr} {p : Pp} {e : Es} (H : Ec W0 W a p e) (x y : Int) (hin : inB p.w p.h x y) (hl : e.2.length ≤ 999999) : Calls Tryd.prog 67 #[.pointer (some ⟨a.P, 0, none⟩), .int .i64 x, .int .i64 y] W (EG W0 W a p (codeS p e x y)) := by
  obtain ⟨c0, -, -, c3, -, -⟩ := ec_cells H.pc
  have kn := fun n => nb_y (H.cb.below (drewN_below W n)) x y p.c hin
  have HN := fun n => Lib.hid (H.dn (dn_mk W n))
  have EQ0 : codeS p e x y = if bitM (e.1.v x y) p.s = 1 then signS p (putS p e (sigC p e.1 x y) (bitM (e.1.v x y) p.s)) x y else putS p e (sigC p e.1 x y) (bitM (e.1.v x y) p.s) := rfl
  obtain ⟨bt, hbt⟩ : ∃ b, b = bitM (e.1.v x y) p.s := ⟨_, rfl⟩
  obtain ⟨C, hC⟩ : ∃ c, c = sigC p e.1 x y := ⟨_, rfl⟩
  rw [← hbt, ← hC] at EQ0
  have hb01 : bt = 0 ∨ bt = 1 := by rw [hbt]; exact bitM_in _ _
  have kb : ∀ W, Ec W0 W a p e → Calls Tryd.prog 71 #[.pointer (some ⟨a.P, 0, none⟩), .int .i64 x, .int .i64 y] W fun e w' => e = .returned (.int .i64 bt) ∧ W = w' := fun W K => by rw [hbt]; exact (bit_c K.cb K.pc K.hs x y (K.ok x y)).mono fun _ _ z => ⟨z.1, z.2.symm⟩
  have kg : ∀ W, Ec W0 W a p e → Calls Tryd.prog 82 #[.int .i64 p.o, .int .i64 (nbH e.1 x y), .int .i64 (nbV e.1 x y p.c), .int .i64 (nbD e.1 x y p.c)] W fun e w' => e = .returned (.int .i64 C) ∧ W = w' := fun W K => by rw [hC]; exact Cx.sig_c _ _ _ _ W K.tabs
  have kp := fun W (K : Ec W0 W a p e) => put_c K C bt (by omega)
  have ks := fun W (K : Ec W0 W a p (putS p e C bt)) => sign_ce K x y hin (by unfold putS; simp; omega)
  rw [EQ0]
  clear hC hbt EQ0 hin hl H
  generalize nbH e.1 x y = n1 at *
  generalize nbV e.1 x y p.c = n2 at *
  generalize nbD e.1 x y p.c = n3 at *
  rcases hb01 with rfl | rfl
  · rw [if_neg (by decide)]
    generalize putS p e C 0 = e1 at *
    go_enter Tryd.func67, Tryd.ntmps67
    go_wp2_with fail
    go_quiet ((go_at_call 81; exact Calls.quiet_of (kn _)))
    have H1 := HN nq
    clear kn HN c0 c3
    have K0 := Lib.hid (kt_below (drewN_below W nq))
    generalize W.drewN nq = W1 at *
    have kb1 := kb _ H1.out
    go_wp2_with (first | (go_at_call 71; (with_reducible refine kb1.mono ?_); rintro e wn ⟨rfl, rfl⟩))
    have HD := Lib.hid (H1.out.below (Below.refl W1.heap.size W1).drew)
    obtain ⟨-, -, c2, -, -, c5⟩ := ec_cells HD.out.pc
    have kg1 := kg _ HD.out
    have kp1 := kp _ HD.out
    go_region_held3 (fun w' => w'.cell? ⟨a.P, 2, none⟩ = some (.int .i64 p.o) ∧ w'.cell? ⟨a.P, 5, none⟩ = some (.func (.func 47) #[] #[.pointer (some ⟨a.G, 0, none⟩), .pointer (some ⟨a.L, 0, none⟩)]))
      (first | (with_reducible exact ⟨c2, c5⟩) | (with_reducible exact ⟨d2, d5⟩) | fail)
      (first | (go_simp; go_at_call 82; (with_reducible refine kg1.mono ?_); rintro e wn ⟨rfl, rfl⟩) | (go_simp; go_at_call 47; (with_reducible refine kp1.mono ?_); rintro e w2 ⟨rfl, H2, K2⟩; have HH2 := Lib.hid H2; have KK2 := Lib.hid (K0.out.trans ((kt_below (Below.refl W1.heap.size W1).drew).trans K2)); clear K2; obtain ⟨-, -, d2, -, -, d5⟩ := ec_cells H2.pc; clear H2) | fail)
    all_goals
      go_wp2_with fail
      go_end0
      exact ⟨rfl, HH2.out, KK2.out⟩
  · rw [if_pos rfl]
    generalize putS p e C 1 = e1 at *
    generalize signS p e1 x y = e2 at *
    go_enter Tryd.func67, Tryd.ntmps67
    go_wp2_with fail
    go_quiet ((go_at_call 81; exact Calls.quiet_of (kn _)))
    have H1 := HN nq
    clear kn HN c0 c3
    have K0 := Lib.hid (kt_below (drewN_below W nq))
    generalize W.drewN nq = W1 at *
    have kb1 := kb _ H1.out
    go_wp2_with (first | (go_at_call 71; (with_reducible refine kb1.mono ?_); rintro e wn ⟨rfl, rfl⟩))
    have HD := Lib.hid (H1.out.below (Below.refl W1.heap.size W1).drew)
    obtain ⟨-, -, c2, -, -, c5⟩ := ec_cells HD.out.pc
    have kg1 := kg _ HD.out
    have kp1 := kp _ HD.out
    go_region_held3 (fun w' => w'.cell? ⟨a.P, 2, none⟩ = some (.int .i64 p.o) ∧ w'.cell? ⟨a.P, 5, none⟩ = some (.func (.func 47) #[] #[.pointer (some ⟨a.G, 0, none⟩), .pointer (some ⟨a.L, 0, none⟩)]))
      (first | (with_reducible exact ⟨c2, c5⟩) | (with_reducible exact ⟨d2, d5⟩) | fail)
      (first | (go_simp; go_at_call 82; (with_reducible refine kg1.mono ?_); rintro e wn ⟨rfl, rfl⟩) | (go_simp; go_at_call 47; (with_reducible refine kp1.mono ?_); rintro e w2 ⟨rfl, H2, K2⟩; have HH2 := Lib.hid H2; have KK2 := Lib.hid (K0.out.trans ((kt_below (Below.refl W1.heap.size W1).drew).trans K2)); clear K2; obtain ⟨-, -, d2, -, -, d5⟩ := ec_cells H2.pc; clear H2) | fail)
    all_goals
      have ks2 := ks _ HH2.out
      go_wp2_with (first | (go_at_call 83; (with_reducible refine ks2.mono ?_); rintro e w3 ⟨rfl, H3, K3⟩))
      go_end0
      exact ⟨rfl, H3, KK2.out.trans K3⟩
theorem mem_col {x top n : Nat} {z : Int × Int} (h : z ∈ colP x top n) : ∃ r, top ≤ r ∧ r < top + n ∧ z = ((x : Int), ((r : Nat) : Int)) := by
  unfold colP at h
  obtain ⟨i, hi, rfl⟩ := List.mem_map.1 h
  have := List.mem_range.1 hi
  exact ⟨top + i, by omega, by omega, rfl⟩
theorem quiet_is (p : Pp) (q : St) (x top n : Nat) (h : ∀ r : Nat, top ≤ r → r < top + n → busyQ p q x r = false) : quietQ p q x top n = decide (n = 4) := by
  unfold quietQ
  have : ((colP x top n).all fun z => !busyQ p q z.1 z.2) = true := List.all_eq_true.2 fun z hz => by
    obtain ⟨r, h1, h2, rfl⟩ := mem_col hz
    simp [h r h1 h2]
  rw [this, Bool.true_and]
theorem quiet_no (p : Pp) (q : St) (x top n r : Nat) (h1 : top ≤ r) (h2 : r < top + n) (h : busyQ p q x r = true) : quietQ p q x top n = false := by
  unfold quietQ
  have : ((colP x top n).all fun z => !busyQ p q z.1 z.2) = false := List.all_eq_false.2 ⟨((x : Int), (r : Int)), by
    unfold colP
    exact List.mem_map.2 ⟨r - top, List.mem_range.2 (by omega), by rw [show top + (r - top) = r by omega]⟩, by simp [h]⟩
  rw [this, Bool.false_and]
set_option maxHeartbeats 2000000 in
theorem quiet_c {W0 W : World} {a : Adr} {p : Pp} {e : Es} (H : Ec W0 W a p e) (x top n : Nat) (hx : x < p.w) (hn : top + n ≤ p.h) (hn4 : n ≤ 4) : Calls Tryd.prog 84 #[.pointer (some ⟨a.P, 0, none⟩), .int .i64 (x : Int), .int .i64 (top : Int), .int .i64 ((top + n : Nat) : Int)] W fun E W' => E = .returned (.bool (quietQ p e.1 x top n)) ∧ Dn W W' := by
  have hh : p.h ≤ 64 := by have := H.cb.fit; unfold fits at this; omega
  have HH := Lib.hid H
  have HX := Lib.hid hx
  have HNN := Lib.hid hn
  obtain ⟨b, hb⟩ : ∃ b, b = top + n := ⟨_, rfl⟩
  rw [← hb]
  have hb64 : b ≤ 64 := by omega
  have HB := Lib.hid hb
  obtain ⟨Q, hQ⟩ : ∃ Q, Q = quietQ p e.1 x top n := ⟨_, rfl⟩
  rw [← hQ]
  have HQ := Lib.hid hQ
  have wt : IntKind.i64.wrap ((top : Int) + 4) = (top : Int) + 4 := by rw [IntWalk.i64_left]; unfold wrap64; omega
  clear H hx hn hb hQ
  go_enter Tryd.func84, Tryd.ntmps84
  go_wp2_with fail
  go_loopw [9] (fun i wr => ∃ j : Nat, i = .int .i64 (j : Int) ∧ Hid (top ≤ j ∧ j ≤ b ∧ ∀ r : Nat, top ≤ r → r < j → busyQ p e.1 x r = false) ∧ Hid (Dn W wr)) (fun i _ => (b - (intOf i).toNat))
  case atStart => exact ⟨top, rfl, ⟨Nat.le_refl _, by have := HB.out; omega, fun r h1 h2 => by omega⟩, dn_refl _⟩
  case round =>
    obtain ⟨j, rfl, hj, hD⟩ := hrel
    have H1 := Lib.hid (HH.out.dn hD.out)
    obtain ⟨c0, -, -, -, -, -⟩ := ec_cells H1.out.pc
    by_cases hlt : (j : Int) < (b : Int)
    · have hin : inB p.w p.h (x : Int) (j : Int) := by have := HX.out; have := HNN.out; have := HB.out; unfold inB; omega
      obtain ⟨s, hs⟩ : ∃ s, s = e.1.s (x : Int) (j : Int) := ⟨_, rfl⟩
      obtain ⟨t, ht⟩ : ∃ t, t = e.1.t (x : Int) (j : Int) := ⟨_, rfl⟩
      obtain ⟨nr, hnr⟩ : ∃ t, t = nearQ p e.1 (x : Int) (j : Int) := ⟨_, rfl⟩
      have k1 := significant_c H1.out.cb (x : Int) (j : Int)
      have k2 := touched_c H1.out.cb (x : Int) (j : Int)
      have k3 := near_c H1.out.cb H1.out.pc (x : Int) (j : Int) hin
      rw [← hs] at k1
      rw [← ht] at k2
      rw [← hnr] at k3
      have HBU := Lib.hid (show busyQ p e.1 x j = (s || t || nr) by unfold busyQ; rw [hs, ht, hnr])
      have wj : IntKind.i64.wrap ((j : Int) + 1) = ((j + 1 : Nat) : Int) := by have := hj.out; rw [IntWalk.i64_left]; unfold wrap64; omega
      have hbusy : (s || t || nr) = true → Q = false := fun h => by
        have hj := hj.out
        rw [HQ.out]
        exact quiet_no _ _ _ _ _ j hj.1 (by have := HB.out; omega) (by rw [HBU.out, h])
      have HBQ := Lib.hid hbusy
      clear hs ht hnr hin hbusy
      cases s with
      | true =>
        have e1 := HBQ.out (by simp)
        go_wp2_with (first | (go_at_call 65; (with_reducible refine k1.mono ?_); rintro e wn ⟨rfl, rfl⟩))
        go_ret
        exact ⟨by rw [e1]; rfl, hD.out⟩
      | false =>
        cases t with
        | true =>
          have e1 := HBQ.out (by simp)
          go_wp2_with (first | (go_at_call 65; (with_reducible refine k1.mono ?_); rintro e wn ⟨rfl, rfl⟩) | (go_at_call 29; (with_reducible refine k2.mono ?_); rintro e wn ⟨rfl, rfl⟩))
          go_ret
          exact ⟨by rw [e1]; rfl, hD.out⟩
        | false =>
          cases nr with
          | true =>
            have e1 := HBQ.out (by simp)
            go_wp2_with (first | (go_at_call 65; (with_reducible refine k1.mono ?_); rintro e wn ⟨rfl, rfl⟩) | (go_at_call 29; (with_reducible refine k2.mono ?_); rintro e wn ⟨rfl, rfl⟩) | (go_at_call 66; (with_reducible refine k3.mono ?_); rintro e wn ⟨rfl, hd⟩))
            go_ret
            exact ⟨by rw [e1]; rfl, dn_trans hD.out hd⟩
          | false =>
            clear HBQ
            go_wp2_with (first | (go_at_call 65; (with_reducible refine k1.mono ?_); rintro e wn ⟨rfl, rfl⟩) | (go_at_call 29; (with_reducible refine k2.mono ?_); rintro e wn ⟨rfl, rfl⟩) | (go_at_call 66; (with_reducible refine k3.mono ?_); rintro e wn ⟨rfl, hd⟩; have HD2 := Lib.hid (dn_trans hD.out hd); clear hd))
            go_roundw
            case rel =>
              refine ⟨j + 1, by go_num, ⟨by have := hj.out; omega, by omega, fun r h1 h2 => ?_⟩, HD2⟩
              rcases Nat.lt_or_ge r j with h | h
              · exact hj.out.2.2 r h1 h
              · obtain rfl : r = j := by omega
                rw [HBU.out]; rfl
            case measure => simp [intOf]; omega
    · have e1 : Q = decide (n = 4) := by
        rw [HQ.out]
        exact quiet_is _ _ _ _ _ fun r h1 h2 => hj.out.2.2 r h1 (by have := HB.out; omega)
      have e2 : ((b : Int) == (top : Int) + 4) = decide (n = 4) := by
        have := HB.out
        by_cases h : n = 4
        · simp [h]; omega
        · simp [h]; omega
      go_wp2_with fail
      go_ret
      exact ⟨by first | rfl | (rw [e1, ← e2]; rfl), hD.out⟩
end Go.Proofs.YtklchodbnjebnaaDoor
set_option maxRecDepth 100000
namespace Go.Proofs.YtklchodbnjebnaaDoor
open Go.RowKit

theorem Ec.len {W0 W : World} {a : Adr} {p : Pp} {e : Es} (H : Ec W0 W a p e) : p.w ≤ 64 ∧ p.h ≤ 64 := by have := H.cb.fit; unfold fits at this; omega
set_option maxHeartbeats 4000000 in
theorem run_c {W0 W : World} {a : Adr} {p : Pp} {e : Es} (H : Ec W0 W a p e) (x top : Nat) (hx : x < p.w) (hn : top + 4 ≤ p.h) (hl : e.2.length ≤ 999990) : Calls Tryd.prog 85 #[.pointer (some ⟨a.P, 0, none⟩), .int .i64 (x : Int), .int .i64 (top : Int)] W fun E W' => E = .returned (.int .i64 ((top + runN p e.1 x top : Nat) : Int)) ∧ Ec W0 W' a p (runS p e x top) ∧ Kt W W' := by
  obtain ⟨-, hh⟩ := H.len
  have HH := Lib.hid H
  obtain ⟨Z, hZ⟩ : ∃ Z, Z = zerQ p e.1 x top := ⟨_, rfl⟩
  have E4 : Z = 4 → runS p e x top = putS p e 17 0 ∧ runN p e.1 x top = 4 := fun h => by
    unfold runS runN; rw [← hZ, if_pos h, if_pos h]; exact ⟨rfl, rfl⟩
  have E3 : Z ≠ 4 → runS p e x top = signS p (putS p (putS p (putS p e 17 1) 18 ((Z / 2 : Nat) : Int)) 18 ((Z % 2 : Nat) : Int)) (x : Int) ((top + Z : Nat) : Int) ∧ runN p e.1 x top = Z + 1 := fun h => by
    unfold runS runN; rw [← hZ, if_neg h, if_neg h]; exact ⟨rfl, rfl⟩
  generalize runS p e x top = RS at *
  generalize runN p e.1 x top = RN at *
  have HE4 := Lib.hid E4
  have HE3 := Lib.hid E3
  have HZ := Lib.hid hZ
  have HX := Lib.hid hx
  have HN := Lib.hid hn
  have HL := Lib.hid hl
  have wt : IntKind.i64.wrap ((top : Int) + 4) = (top : Int) + 4 := by rw [IntWalk.i64_left]; unfold wrap64; omega
  have htop : top ≤ 60 := by omega
  have and1 := and1
  clear H E4 E3 hZ hx hn hl hh
  go_enter Tryd.func85, Tryd.ntmps85
  go_wp2_with fail
  go_loopw [7] (fun i wr => ∃ k : Nat, k ≤ 4 ∧ i = .int .i64 ((top + k : Nat) : Int) ∧ Hid (∀ j, j < k → oneQ p e.1 x top j = false) ∧ Hid (Ec W0 wr a p e) ∧ Hid (Kt W wr)) (fun i _ => (top + 4 - (intOf i).toNat))
  case atStart => exact ⟨0, by omega, by simp, fun j h => by omega, HH.out, Kt.refl _⟩
  case round =>
    obtain ⟨k, hk, rfl, h0, H1, K1⟩ := hrel
    by_cases h4 : k < 4
    · obtain ⟨bt, hbt⟩ : ∃ b, b = bitM (e.1.v (x : Int) ((top + k : Nat) : Int)) p.s := ⟨_, rfl⟩
      have hb01 : bt = 0 ∨ bt = 1 := by rw [hbt]; exact bitM_in _ _
      have hone : oneQ p e.1 x top k = (bt == 1) := by unfold oneQ; rw [hbt]
      have kb : Calls Tryd.prog 71 #[.pointer (some ⟨a.P, 0, none⟩), .int .i64 (x : Int), .int .i64 ((top + k : Nat) : Int)] wr fun e w' => e = .returned (.int .i64 bt) ∧ wr = w' := by rw [hbt]; exact (bit_c H1.out.cb H1.out.pc H1.out.hs _ _ (H1.out.ok _ _)).mono fun _ _ z => ⟨z.1, z.2.symm⟩
      have hlt : ((top + k : Nat) : Int) < (top : Int) + 4 := by omega
      have hne : (((top + k : Nat) : Int) == (top : Int) + 4) = false := by simp; omega
      have wk : IntKind.i64.wrap (((top + k : Nat) : Int) + 1) = ((top + (k + 1) : Nat) : Int) := by rw [IntWalk.i64_left]; unfold wrap64; omega
      have HO := Lib.hid hone
      clear hbt hone
      rcases hb01 with rfl | rfl
      · generalize hy : ((top + k : Nat) : Int) = y at *
        have HY := Lib.hid hy
        clear hy
        go_wp2_with (first | (go_at_call 71; (with_reducible refine kb.mono ?_); rintro e wn ⟨rfl, rfl⟩))
        go_roundw
        case rel =>
          refine ⟨k + 1, by omega, by go_num, fun j hj => ?_, H1, K1⟩
          rcases Nat.lt_or_ge j k with h | h
          · exact h0.out j h
          · obtain rfl : j = k := by omega
            rw [HO.out]; rfl
        case measure => have := HY.out; simp [intOf]; omega
      · have hz : Z = k := by rw [HZ.out]; exact zer_is _ k hk h0.out (.inr (by rw [HO.out]; rfl))
        obtain ⟨hE, hR⟩ := HE3.out (by omega)
        rw [hz] at hE hR
        have hin : inB p.w p.h (x : Int) ((top + k : Nat) : Int) := by have := HX.out; have := HN.out; unfold inB; omega
        have wd : IntKind.i64.wrap (((top + k : Nat) : Int) - (top : Int)) = (k : Int) := by rw [IntWalk.i64_left]; unfold wrap64; omega
        obtain ⟨d, hd⟩ : ∃ d : Int, (k : Int) / 2 = d := ⟨_, rfl⟩
        obtain ⟨m, hm⟩ : ∃ d : Int, (k : Int) % 2 = d := ⟨_, rfl⟩
        have ed : ((k / 2 : Nat) : Int) = d := by omega
        have em : ((k % 2 : Nat) : Int) = m := by omega
        rw [ed, em] at hE
        clear ed em
        have k1 := fun W (K : Ec W0 W a p e) => put_c K 17 1 (by have := HL.out; omega)
        have k2 := fun W (K : Ec W0 W a p (putS p e 17 1)) => put_c K 18 d (by have := HL.out; unfold putS; simp; omega)
        have k3 := fun W (K : Ec W0 W a p (putS p (putS p e 17 1) 18 d)) => put_c K 18 m (by have := HL.out; unfold putS; simp; omega)
        have k4 := fun W (K : Ec W0 W a p (putS p (putS p (putS p e 17 1) 18 d) 18 m)) => sign_ce K (x : Int) ((top + k : Nat) : Int) hin (by have := HL.out; unfold putS; simp; omega)
        have HR := Lib.hid (show ((top + RN : Nat) : Int) = ((top + (k + 1) : Nat) : Int) by rw [hR])
        clear hR hz
        generalize hy : ((top + k : Nat) : Int) = y at *
        have hy2 : ((top + (k + 1) : Nat) : Int) = y + 1 := by omega
        rw [hy2] at wk HR
        clear hy2 hy
        generalize signS p (putS p (putS p (putS p e 17 1) 18 d) 18 m) (x : Int) y = e4 at *
        generalize putS p (putS p (putS p e 17 1) 18 d) 18 m = e3 at *
        generalize putS p (putS p e 17 1) 18 d = e2 at *
        generalize putS p e 17 1 = e1 at *
        have HE := Lib.hid hE
        clear hE
        obtain ⟨c5a, c5b⟩ : (∀ W e, Ec W0 W a p e → W.cell? ⟨a.P, 5, none⟩ = some (.func (.func 47) #[] #[.pointer (some ⟨a.G, 0, none⟩), .pointer (some ⟨a.L, 0, none⟩)])) ∧ True := ⟨fun W e K => K.pc.cell 5, trivial⟩
        have c1 := c5a _ _ H1.out
        have k1 := k1 _ H1.out
        go_wp2_with (first | (go_at_call 71; (with_reducible refine kb.mono ?_); rintro e wn ⟨rfl, rfl⟩) | (go_at_call 47; first | ((with_reducible refine k1.mono ?_); rintro e w2 ⟨rfl, H2, K2⟩; have H2 := Lib.hid H2; have K2 := Lib.hid (K1.out.trans K2); have c2 := c5a _ _ H2.out; have k2 := k2 _ H2.out) | ((with_reducible refine k2.mono ?_); rintro e w3 ⟨rfl, H3, K3⟩; have H3 := Lib.hid H3; have K3 := Lib.hid (K2.out.trans K3); have c3 := c5a _ _ H3.out; have k3 := k3 _ H3.out) | ((with_reducible refine k3.mono ?_); rintro e w4 ⟨rfl, H4, K4⟩; have H4 := Lib.hid H4; have K4 := Lib.hid (K3.out.trans K4); have k4 := k4 _ H4.out)) | (go_at_call 83; (with_reducible refine k4.mono ?_); rintro e w5 ⟨rfl, H5, K5⟩))
        go_ret
        exact ⟨by rw [HR.out]; rfl, by rw [HE.out]; exact H5, K4.out.trans K5⟩
    · obtain rfl : k = 4 := by omega
      have hz : Z = 4 := by rw [HZ.out]; exact zer_is _ 4 hk h0.out (.inl rfl)
      obtain ⟨hE, hR⟩ := HE4.out hz
      have k1 := put_c H1.out 17 0 (by have := HL.out; omega)
      have c5 : wr.cell? ⟨a.P, 5, none⟩ = some (.func (.func 47) #[] #[.pointer (some ⟨a.G, 0, none⟩), .pointer (some ⟨a.L, 0, none⟩)]) := H1.out.pc.cell 5
      have e4 : ((top + 4 : Nat) : Int) = (top : Int) + 4 := by omega
      have HR := Lib.hid (show ((top + RN : Nat) : Int) = (top : Int) + 4 by rw [hR]; omega)
      rw [e4]
      have HE := Lib.hid hE
      clear hE hR hz e4
      go_wp2_with (first | (go_at_call 47; (with_reducible refine k1.mono ?_); rintro e w2 ⟨rfl, H2, K2⟩))
      go_ret
      exact ⟨by rw [HR.out]; rfl, by rw [HE.out]; exact H2, K1.out.trans K2⟩
end Go.Proofs.YtklchodbnjebnaaDoor
