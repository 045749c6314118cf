/-
  Layer 15: a pass of the reference in memory; put, bit, near, sign, code.
-/
import Derived.Test.YtbhjapgioaiocaaDoorEp
import Derived.Test.YtbhjapgioaiocaaDoorRc
import Derived.Test.YtbhjapgioaiocaaDoorRd
import Derived.Deep.QuietTactic
set_option maxRecDepth 100000
namespace Go.Proofs.YtbhjapgioaiocaaDoor
open Go.RowKit

theorem wp_region_in {P : Program} {id : Nat} {Q : Exit → Act → World → Prop} {a : Act} {w : World} {l : List Oper} {K : Type} (f : K → World) (hm : P.follows .mixedOrders = true) (hB : Region.lexB .any l.toArray = true)
    (hC : ∃ n, w.drew = f n) (h : wpQuiet P l.toArray (fun w' => ∃ n, w' = f n) (fun a' => ∀ w', (∃ n, w' = f n) → Q .normal a' w') l a) : (Code.region id l.toArray true).wp P Q a w :=
  wp_region_quiet (C := fun w' => ∃ n, w' = f n) hm hB hC (by simpa using h)
theorem call_in {P : Program} {K : Type} {f : K → World} {n : K} {fn : FuncId} {args : Array Value} {v : Value}
    (h : Calls P fn args (f n) fun e w' => e = .returned v ∧ Below (f n).heap.size (f n) w') (hst : ∀ w', Below (f n).heap.size (f n) w' → ∃ m, w' = f m) :
    Calls P fn args (f n) fun e w'' => e = .returned v ∧ ∃ m, w'' = f m :=
  h.mono fun _ _ ⟨he, hb⟩ => ⟨he, hst _ hb⟩
/-- The pass's ten cells. -/
def xpV (A : Nat) (p : Pp) (m : Mo) (v : Value) : Array Value := #[.pointer (some ⟨A, 0, none⟩), .int .i64 (p.s : Int), .int .i64 p.o, .bool m.b, .bool m.r, .bool m.s, .bool m.c, .bool m.y, .bool p.raw, v]
structure Adx where
  B : Nat
  A : Nat
  C : Nat
  P : Nat
/-- The pass of the reference, its block and its symbols. -/
structure Xc (W0 W : World) (a : Adx) (p : Pp) (m : Mo) (e : Es) : Prop where
  rb : Rb W a.B a.A a.C p.w p.h e.1
  px : ∃ v, Blk W a.P 91 (xpV a.A p m v) ∧ W.ownsRow W0.heap.size 52 2 v e.2.length (cellsP e.2)
  ok : ∀ x y, okV (e.1.v x y)
  hs : p.s ≤ 59
  hc : p.c = m.c
  oldA : a.A < W0.heap.size
  oldC : a.C < W0.heap.size
  geP : W0.heap.size ≤ a.P
  kb : Kb [a.C] W0 W
section
variable {W0 W W' : World} {a : Adx} {p : Pp} {m : Mo} {e : Es}
theorem Xc.below (H : Xc W0 W a p m e) (hb : Below W.heap.size W W') : Xc W0 W' a p m e := by
  obtain ⟨v, h1, h2⟩ := H.px
  exact ⟨H.rb.below hb, ⟨v, h1.below hb, own2_below h2 hb⟩, H.ok, H.hs, H.hc, H.oldA, H.oldC, H.geP, H.kb.trans (Kb.of_below _ hb)⟩
theorem Xc.cells (H : Xc W0 W a p m e) : W.cell? ⟨a.P, 0, none⟩ = some (.pointer (some ⟨a.A, 0, none⟩)) ∧ W.cell? ⟨a.P, 1, none⟩ = some (.int .i64 (p.s : Int)) ∧ W.cell? ⟨a.P, 2, none⟩ = some (.int .i64 p.o) ∧ W.cell? ⟨a.P, 6, none⟩ = some (.bool p.c) ∧ W.cell? ⟨a.P, 7, none⟩ = some (.bool m.y) ∧ W.cell? ⟨a.P, 8, none⟩ = some (.bool p.raw) := by
  obtain ⟨v, h1, _⟩ := H.px
  rw [H.hc]
  exact ⟨h1.cell 0, h1.cell 1, h1.cell 2, h1.cell 6, h1.cell 7, h1.cell 8⟩
theorem Xc.chg (H : Xc W0 W a p m e) {q : St} {c : Int} {E : Ending} (G : RGives a.B a.A a.C p.w p.h q c W E W') (hv : ∀ x y, okV (q.v x y)) : E = .returned (.int .i64 c) ∧ Xc W0 W' a p m (q, e.2) ∧ Kt W W' := by
  obtain ⟨h1, h2, h3⟩ := G
  obtain ⟨v, s1, s2⟩ := H.px
  have far : ∀ k, W0.heap.size ≤ k → k ∉ [a.C] := fun k hk hm => by have := H.oldC; simp at hm; omega
  refine ⟨h1, ⟨h2, ⟨v, (h3.block _ s1.lt (far _ H.geP)).trans s1, own2_keep s2 fun k hk => h3.block k (own2_lt s2 hk).2 (far _ (own2_lt s2 hk).1)⟩, hv, H.hs, H.hc, H.oldA, H.oldC, H.geP, H.kb.trans h3⟩, fun k cs hb => (h3.block k hb.lt ?_).trans hb⟩
  obtain ⟨cc, hc, _⟩ := H.rb.grid
  have := hc.ne hb (by decide)
  simp
  exact fun e => this e.symm
theorem Xc.grow (H : Xc W0 W a p m e) {v v' : Value} {X : Obj} {c b : Int} {w2 : World} (s1 : Blk W a.P 91 (xpV a.A p m v)) (s2 : W.ownsRow W0.heap.size 52 2 v e.2.length (cellsP e.2))
    (hown : w2.ownsRow W0.heap.size 52 2 v' (e.2.length + 1) (cellsP e.2 ++ [.int .i64 c, .int .i64 b])) (hg : (W.alloc X).grownBy w2 v.ownBlock) : Xc W0 (w2.setCell ⟨a.P, 9, none⟩ v') a p m (e.1, e.2 ++ [(c, b)]) ∧ Kt W (w2.setCell ⟨a.P, 9, none⟩ v') := by
  have hal := below_alloc (Below.refl _ W) X
  have hn : ∀ {k : Nat} {t : TypeId} {cs : Array Value}, Blk W k t cs → 52 ≠ t → some k ≠ v.ownBlock := fun hb hne he => own_blk_ne s2 hb hne he.symm
  have keep : ∀ {k : Nat} {t : TypeId} {cs : Array Value}, Blk W k t cs → 52 ≠ t → k ≠ a.P → (w2.setCell ⟨a.P, 9, none⟩ v').heap[k]? = W.heap[k]? := fun hb hne hL => by
    have e1 := Below.heap_setCell w2 ⟨a.P, 9, none⟩ v' _ (fun e => hL e)
    rw [e1]
    exact ((hb.alloc X).grown hg (hn hb hne)).trans hb.symm
  have kg : Kb [a.C] W0 (w2.setCell ⟨a.P, 9, none⟩ v') := by
    refine ⟨hg.os.trans H.kb.os, hg.tape.trans H.kb.tape, hg.output.trans H.kb.output, ?_, fun k hk hf => ?_⟩
    · have h1 := H.kb.size
      have h2 := hg.size
      have h3 := hal.size
      simp [World.setCell]
      omega
    · have h1 := H.kb.size
      have h3 := hal.size
      have hv : some k ≠ v.ownBlock := fun he => by have := (own2_lt s2 he.symm).1; omega
      have e1 := Below.heap_setCell w2 ⟨a.P, 9, none⟩ v' k (by have := H.geP; show k ≠ a.P; omega)
      rw [e1, hg.block k (by omega) hv, hal.block k (by omega)]
      exact H.kb.block k hk hf
  have nA : a.A ≠ a.P := by have := H.oldA; have := H.geP; omega
  have nC : a.C ≠ a.P := by have := H.oldC; have := H.geP; omega
  obtain ⟨cc, hc, _⟩ := H.rb.grid
  have L2 : Blk w2 a.P 91 (xpV a.A p m v) := (s1.alloc X).grown hg (hn s1 (by decide))
  refine ⟨⟨H.rb.keep (keep H.rb.obj (by decide) nA) (keep hc (by decide) nC), ⟨v', by have := L2.set 9 v'; simpa [xpV] using this, ?_⟩, H.ok, H.hs, H.hc, H.oldA, H.oldC, H.geP, kg⟩, fun k cs hb => (keep hb (by decide) (hb.ne s1 (by decide))).trans hb⟩
  have hne := own_blk_ne hown L2 (by decide)
  have := own2_keep (w1 := w2.setCell ⟨a.P, 9, none⟩ v') hown fun k hk => Below.heap_setCell w2 ⟨a.P, 9, none⟩ v' k (fun e => hne (by rw [hk, e]))
  show (w2.setCell ⟨a.P, 9, none⟩ v').ownsRow W0.heap.size 52 2 v' (e.2 ++ [(c, b)]).length (cellsP (e.2 ++ [(c, b)]))
  rw [List.length_append, cellsP_app]
  exact this
end
def XG (W0 W : World) (a : Adx) (p : Pp) (m : Mo) (e : Es) (E : Ending) (W' : World) : Prop := E = .returned (.tuple #[]) ∧ Xc W0 W' a p m e ∧ Kt W W'
set_option maxHeartbeats 1000000 in
theorem xput_c {W0 W : World} {a : Adx} {p : Pp} {m : Mo} {e : Es} (H : Xc W0 W a p m e) (c b : Int) (hl : e.2.length ≤ 1000000) : Calls Tryd.prog 96 #[.pointer (some ⟨a.P, 0, none⟩), .int .i64 c, .int .i64 b] W (XG W0 W a p m (putS p e c b)) := by
  obtain ⟨i0, hi, hz0, hz1, hz2⟩ := info2_parts infoS
  obtain ⟨v, s1, s2⟩ := H.px
  obtain ⟨s5, m5, rfl⟩ := own2_slice s2
  have c8 : W.cell? ⟨a.P, 8, none⟩ = some (.bool p.raw) := s1.cell 8
  have c9 : W.cell? ⟨a.P, 9, none⟩ = some (.slice s5 e.2.length m5) := s1.cell 9
  have fz := s1.free
  have hsz := H.kb.size
  have EQ : putS p e c b = (e.1, e.2 ++ [(cxP p c, b)]) := rfl
  have HG := fun (v' : Value) (X : Obj) (w2 : World) => H.grow (v' := v') (X := X) (c := cxP p c) (b := b) (w2 := w2) s1 s2
  rw [EQ]
  have hgr : ∀ (w2 : World) (X : Obj), (W.alloc X).grownBy w2 (Value.slice s5 e.2.length m5).ownBlock → w2.cell? ⟨a.P, 9, none⟩ = some (Value.slice s5 e.2.length m5) ∧ ∀ i, w2.frozen? ⟨a.P, i, none⟩ = false := fun w2 X hg => by
    have := (s1.alloc X).grown hg (fun he => own_blk_ne s2 s1 (by decide) he.symm)
    exact ⟨this.cell 9, this.free⟩
  obtain ⟨raw, hraw⟩ : ∃ r, r = p.raw := ⟨_, rfl⟩
  have ecx : cxP p c = if raw then -1 else c := by unfold cxP; rw [hraw]
  rw [← hraw] at c8
  rw [ecx] at HG ⊢
  have HL := Lib.hid hl
  have HZ := Lib.hid hsz
  have HS := Lib.hid s2
  clear ecx hraw hl hsz H EQ s1 s2
  cases raw <;>
   (go_enter Tryd.func96, Tryd.ntmps96
    go_wp2_with (first | (at_builtin; refine wpList_append_own_at _ rfl _ _ 35 rfl W0.heap.size 52 i0 (.agg #[.int .i64 0, .int .i64 0]) 2 16 Tryd.underlying35 hi hz0 hz1 hz2 rfl (by decide) _ e.2.length _ rfl (own2_below HS.out ((Below.refl _ _).alloc (Nat.le_refl _) _)) ⟨W.heap.size, 0, none⟩ 1 1 [.int .i64 _, .int .i64 b] rfl rfl (pt_new _ _ _ _) (by intro u hu; simp at hu; rcases hu with rfl | rfl <;> rfl) (by have := HL.out; unfold maxLen; omega) (by have := HL.out; omega) (by have := HZ.out; simp; omega) ?_))
    intro v' w2 hown hgrow _ _
    obtain ⟨s6, m6, rfl⟩ := own2_slice hown
    obtain ⟨d1, d2⟩ := hgr _ _ hgrow
    have HE := Lib.hid (HG _ _ _ hown hgrow)
    clear hown hgrow
    go_wp2_with fail
    go_end0
    exact ⟨rfl, HE.out⟩)
theorem and1u (x : Int) : bits .and .u64 x 1 = x % 2 := by
  have h1 : (BitVec.ofInt 64 x &&& BitVec.ofInt 64 1).toNat = (x % 18446744073709551616).toNat % 2 := by
    rw [BitVec.toNat_and, BitVec.toNat_ofInt, BitVec.toNat_ofInt, show ((1 : Int) % ((2 ^ 64 : Nat) : Int)).toNat = 1 from by decide, Nat.and_one_is_mod]
    rfl
  show IntKind.u64.wrap ((BitVec.ofInt 64 x &&& BitVec.ofInt 64 1).toNat : Int) = x % 2
  rw [h1]
  unfold IntKind.wrap
  simp [IntKind.bits, IntKind.signed]
  omega
set_option maxHeartbeats 1000000 in
theorem xbit_c {W0 W : World} {a : Adx} {p : Pp} {m : Mo} {e : Es} (H : Xc W0 W a p m e) (x y : Int) : Calls Tryd.prog 98 #[.pointer (some ⟨a.P, 0, none⟩), .int .i64 x, .int .i64 y] W fun E W' => E = .returned (.int .i64 (bitM (e.1.v x y) p.s)) ∧ Below W.heap.size W W' := by
  have HD := H.below (Below.refl W.heap.size W).drew
  obtain ⟨c0, c1, -, -, -, -⟩ := HD.cells
  have kv := rvalue_c HD.rb x y
  have hv := H.ok x y
  have ka := fun W => xabs_c (e.1.v x y) (by unfold okV at hv; unfold i64R; omega) W
  have hs := H.hs
  have and1u := and1u
  have e0 : bitM (e.1.v x y) p.s = ((e.1.v x y).natAbs : Int) / 2 ^ p.s % 2 := by
    unfold bitM
    rw [Int.natCast_emod, Int.natCast_ediv, Int.natCast_pow]
    rfl
  rw [e0]
  have hmin : min p.s 64 = p.s := by omega
  have wu : IntKind.u64.wrap (p.s : Int) = (p.s : Int) := by unfold IntKind.wrap; simp [IntKind.bits, IntKind.signed]; omega
  have hb : 0 ≤ ((e.1.v x y).natAbs : Int) / 2 ^ p.s % 2 ∧ ((e.1.v x y).natAbs : Int) / 2 ^ p.s % 2 ≤ 1 := by omega
  have wb : IntKind.i64.wrap (((e.1.v x y).natAbs : Int) / 2 ^ p.s % 2) = ((e.1.v x y).natAbs : Int) / 2 ^ p.s % 2 := by rw [IntWalk.i64_left]; unfold wrap64; omega
  have B0 := Lib.hid (Below.refl W.heap.size W).drew
  have HX := Lib.hid HD
  clear e0 hb hv H HD
  generalize e.1.v x y = v at *
  generalize (v.natAbs : Int) = n at *
  generalize p.s = s at *
  go_enter Tryd.func98, Tryd.ntmps98
  go_wp2_with fail
  go_region_held3 (fun w' => w'.cell? ⟨a.P, 0, none⟩ = some (.pointer (some ⟨a.A, 0, none⟩)) ∧ w'.cell? ⟨a.P, 1, none⟩ = some (.int .i64 (s : Int)))
    (first | (with_reducible exact ⟨c0, c1⟩) | (with_reducible exact ⟨d0, d1⟩) | fail)
    (first | (go_simp; go_at_call 63; (with_reducible refine kv.mono ?_); rintro e w1 ⟨rfl, hb⟩; have d0 := (hb.cell (p := ⟨a.P, 0, none⟩) (cell_lt c0)).trans c0; have d1 := (hb.cell (p := ⟨a.P, 1, none⟩) (cell_lt c1)).trans c1; have B1 := Lib.hid (below_call B0.out hb); clear hb) | (go_simp; go_at_call 72; (with_reducible refine (ka _).mono ?_); rintro e wn ⟨rfl, rfl⟩) | fail)
  all_goals
    go_wp2_with fail
    go_ret
    exact ⟨rfl, B1.out⟩
end Go.Proofs.YtbhjapgioaiocaaDoor
