/-
  Layer 15: a pass of the reference in memory; put, bit, near, sign, code.
  Layer 15: the reference: near, signs, bits with their signs.
  Layer 16: the reference's source of bits, its pass in memory; next, ask, near.
  Layer 16: the reference: signs, bits with their signs.
-/
import Derived.Test.YtbhjapgioaiocaaDoorEp
import Derived.Test.YtbhjapgioaiocaaDoorRc
import Derived.Test.YtbhjapgioaiocaaDoorRd
import Derived.Deep.QuietTactic
import Derived.Test.YtbhjapgioaiocaaDoorMC
import Derived.Test.YtbhjapgioaiocaaDoorMB
set_option maxRecDepth 100000
namespace Go.Proofs.YtbhjapgioaiocaaDoor
open Go.RowKit

theorem wp_region_in {P : Program} {id : Nat} {Q : Exit → Act → World → Prop} {a : Act} {w : World} {l : List Oper} {K : Type} (f : K → World) (hm : P.follows .mixedOrders = true) (hB : Region.lexB .any l.toArray = true)
    (hC : ∃ n, w.drew = f n) (h : wpQuiet P l.toArray (fun w' => ∃ n, w' = f n) (fun a' => ∀ w', (∃ n, w' = f n) → Q .normal a' w') l a) : (Code.region id l.toArray true).wp P Q a w :=
  wp_region_quiet (C := fun w' => ∃ n, w' = f n) hm hB hC (by simpa using h)
theorem call_in {P : Program} {K : Type} {f : K → World} {n : K} {fn : FuncId} {args : Array Value} {v : Value}
    (h : Calls P fn args (f n) fun e w' => e = .returned v ∧ Below (f n).heap.size (f n) w') (hst : ∀ w', Below (f n).heap.size (f n) w' → ∃ m, w' = f m) :
    Calls P fn args (f n) fun e w'' => e = .returned v ∧ ∃ m, w'' = f m :=
  h.mono fun _ _ ⟨he, hb⟩ => ⟨he, hst _ hb⟩
/-- The pass's ten cells. -/
def xpV (A : Nat) (p : Pp) (m : Mo) (v : Value) : Array Value := #[.pointer (some ⟨A, 0, none⟩), .int .i64 (p.s : Int), .int .i64 p.o, .bool m.b, .bool m.r, .bool m.s, .bool m.c, .bool m.y, .bool p.raw, v]
structure Adx where
  B : Nat
  A : Nat
  C : Nat
  P : Nat
/-- The pass of the reference, its block and its symbols. -/
structure Xc (W0 W : World) (a : Adx) (p : Pp) (m : Mo) (e : Es) : Prop where
  rb : Rb W a.B a.A a.C p.w p.h e.1
  px : ∃ v, Blk W a.P 91 (xpV a.A p m v) ∧ W.ownsRow W0.heap.size 52 2 v e.2.length (cellsP e.2)
  ok : ∀ x y, okV (e.1.v x y)
  hs : p.s ≤ 59
  hc : p.c = m.c
  oldA : a.A < W0.heap.size
  oldC : a.C < W0.heap.size
  geP : W0.heap.size ≤ a.P
  kb : Kb [a.C] W0 W
section
variable {W0 W W' : World} {a : Adx} {p : Pp} {m : Mo} {e : Es}
theorem Xc.below (H : Xc W0 W a p m e) (hb : Below W.heap.size W W') : Xc W0 W' a p m e := by
  obtain ⟨v, h1, h2⟩ := H.px
  exact ⟨H.rb.below hb, ⟨v, h1.below hb, own2_below h2 hb⟩, H.ok, H.hs, H.hc, H.oldA, H.oldC, H.geP, H.kb.trans (Kb.of_below _ hb)⟩
theorem Xc.cells (H : Xc W0 W a p m e) : W.cell? ⟨a.P, 0, none⟩ = some (.pointer (some ⟨a.A, 0, none⟩)) ∧ W.cell? ⟨a.P, 1, none⟩ = some (.int .i64 (p.s : Int)) ∧ W.cell? ⟨a.P, 2, none⟩ = some (.int .i64 p.o) ∧ W.cell? ⟨a.P, 6, none⟩ = some (.bool p.c) ∧ W.cell? ⟨a.P, 7, none⟩ = some (.bool m.y) ∧ W.cell? ⟨a.P, 8, none⟩ = some (.bool p.raw) := by
  obtain ⟨v, h1, _⟩ := H.px
  rw [H.hc]
  exact ⟨h1.cell 0, h1.cell 1, h1.cell 2, h1.cell 6, h1.cell 7, h1.cell 8⟩
theorem Xc.chg (H : Xc W0 W a p m e) {q : St} {c : Int} {E : Ending} (G : RGives a.B a.A a.C p.w p.h q c W E W') (hv : ∀ x y, okV (q.v x y)) : E = .returned (.int .i64 c) ∧ Xc W0 W' a p m (q, e.2) ∧ Kt W W' := by
  obtain ⟨h1, h2, h3⟩ := G
  obtain ⟨v, s1, s2⟩ := H.px
  have far : ∀ k, W0.heap.size ≤ k → k ∉ [a.C] := fun k hk hm => by have := H.oldC; simp at hm; omega
  refine ⟨h1, ⟨h2, ⟨v, (h3.block _ s1.lt (far _ H.geP)).trans s1, own2_keep s2 fun k hk => h3.block k (own2_lt s2 hk).2 (far _ (own2_lt s2 hk).1)⟩, hv, H.hs, H.hc, H.oldA, H.oldC, H.geP, H.kb.trans h3⟩, fun k cs hb => (h3.block k hb.lt ?_).trans hb⟩
  obtain ⟨cc, hc, _⟩ := H.rb.grid
  have := hc.ne hb (by decide)
  simp
  exact fun e => this e.symm
theorem Xc.grow (H : Xc W0 W a p m e) {v v' : Value} {X : Obj} {c b : Int} {w2 : World} (s1 : Blk W a.P 91 (xpV a.A p m v)) (s2 : W.ownsRow W0.heap.size 52 2 v e.2.length (cellsP e.2))
    (hown : w2.ownsRow W0.heap.size 52 2 v' (e.2.length + 1) (cellsP e.2 ++ [.int .i64 c, .int .i64 b])) (hg : (W.alloc X).grownBy w2 v.ownBlock) : Xc W0 (w2.setCell ⟨a.P, 9, none⟩ v') a p m (e.1, e.2 ++ [(c, b)]) ∧ Kt W (w2.setCell ⟨a.P, 9, none⟩ v') := by
  have hal := below_alloc (Below.refl _ W) X
  have hn : ∀ {k : Nat} {t : TypeId} {cs : Array Value}, Blk W k t cs → 52 ≠ t → some k ≠ v.ownBlock := fun hb hne he => own_blk_ne s2 hb hne he.symm
  have keep : ∀ {k : Nat} {t : TypeId} {cs : Array Value}, Blk W k t cs → 52 ≠ t → k ≠ a.P → (w2.setCell ⟨a.P, 9, none⟩ v').heap[k]? = W.heap[k]? := fun hb hne hL => by
    have e1 := Below.heap_setCell w2 ⟨a.P, 9, none⟩ v' _ (fun e => hL e)
    rw [e1]
    exact ((hb.alloc X).grown hg (hn hb hne)).trans hb.symm
  have kg : Kb [a.C] W0 (w2.setCell ⟨a.P, 9, none⟩ v') := by
    refine ⟨hg.os.trans H.kb.os, hg.tape.trans H.kb.tape, hg.output.trans H.kb.output, ?_, fun k hk hf => ?_⟩
    · have h1 := H.kb.size
      have h2 := hg.size
      have h3 := hal.size
      simp [World.setCell]
      omega
    · have h1 := H.kb.size
      have h3 := hal.size
      have hv : some k ≠ v.ownBlock := fun he => by have := (own2_lt s2 he.symm).1; omega
      have e1 := Below.heap_setCell w2 ⟨a.P, 9, none⟩ v' k (by have := H.geP; show k ≠ a.P; omega)
      rw [e1, hg.block k (by omega) hv, hal.block k (by omega)]
      exact H.kb.block k hk hf
  have nA : a.A ≠ a.P := by have := H.oldA; have := H.geP; omega
  have nC : a.C ≠ a.P := by have := H.oldC; have := H.geP; omega
  obtain ⟨cc, hc, _⟩ := H.rb.grid
  have L2 : Blk w2 a.P 91 (xpV a.A p m v) := (s1.alloc X).grown hg (hn s1 (by decide))
  refine ⟨⟨H.rb.keep (keep H.rb.obj (by decide) nA) (keep hc (by decide) nC), ⟨v', by have := L2.set 9 v'; simpa [xpV] using this, ?_⟩, H.ok, H.hs, H.hc, H.oldA, H.oldC, H.geP, kg⟩, fun k cs hb => (keep hb (by decide) (hb.ne s1 (by decide))).trans hb⟩
  have hne := own_blk_ne hown L2 (by decide)
  have := own2_keep (w1 := w2.setCell ⟨a.P, 9, none⟩ v') hown fun k hk => Below.heap_setCell w2 ⟨a.P, 9, none⟩ v' k (fun e => hne (by rw [hk, e]))
  show (w2.setCell ⟨a.P, 9, none⟩ v').ownsRow W0.heap.size 52 2 v' (e.2 ++ [(c, b)]).length (cellsP (e.2 ++ [(c, b)]))
  rw [List.length_append, cellsP_app]
  exact this
end
def XG (W0 W : World) (a : Adx) (p : Pp) (m : Mo) (e : Es) (E : Ending) (W' : World) : Prop := E = .returned (.tuple #[]) ∧ Xc W0 W' a p m e ∧ Kt W W'
set_option maxHeartbeats 1000000 in
theorem xput_c {W0 W : World} {a : Adx} {p : Pp} {m : Mo} {e : Es} (H : Xc W0 W a p m e) (c b : Int) (hl : e.2.length ≤ 1000000) : Calls Tryd.prog 96 #[.pointer (some ⟨a.P, 0, none⟩), .int .i64 c, .int .i64 b] W (XG W0 W a p m (putS p e c b)) := by
  obtain ⟨i0, hi, hz0, hz1, hz2⟩ := info2_parts infoS
  obtain ⟨v, s1, s2⟩ := H.px
  obtain ⟨s5, m5, rfl⟩ := own2_slice s2
  have c8 : W.cell? ⟨a.P, 8, none⟩ = some (.bool p.raw) := s1.cell 8
  have c9 : W.cell? ⟨a.P, 9, none⟩ = some (.slice s5 e.2.length m5) := s1.cell 9
  have fz := s1.free
  have hsz := H.kb.size
  have EQ : putS p e c b = (e.1, e.2 ++ [(cxP p c, b)]) := rfl
  have HG := fun (v' : Value) (X : Obj) (w2 : World) => H.grow (v' := v') (X := X) (c := cxP p c) (b := b) (w2 := w2) s1 s2
  rw [EQ]
  have hgr : ∀ (w2 : World) (X : Obj), (W.alloc X).grownBy w2 (Value.slice s5 e.2.length m5).ownBlock → w2.cell? ⟨a.P, 9, none⟩ = some (Value.slice s5 e.2.length m5) ∧ ∀ i, w2.frozen? ⟨a.P, i, none⟩ = false := fun w2 X hg => by
    have := (s1.alloc X).grown hg (fun he => own_blk_ne s2 s1 (by decide) he.symm)
    exact ⟨this.cell 9, this.free⟩
  obtain ⟨raw, hraw⟩ : ∃ r, r = p.raw := ⟨_, rfl⟩
  have ecx : cxP p c = if raw then -1 else c := by unfold cxP; rw [hraw]
  rw [← hraw] at c8
  rw [ecx] at HG ⊢
  have HL := Lib.hid hl
  have HZ := Lib.hid hsz
  have HS := Lib.hid s2
  clear ecx hraw hl hsz H EQ s1 s2
  cases raw <;>
   (go_enter Tryd.func96, Tryd.ntmps96
    go_wp2_with (first | (at_builtin; refine wpList_append_own_at _ rfl _ _ 35 rfl W0.heap.size 52 i0 (.agg #[.int .i64 0, .int .i64 0]) 2 16 Tryd.underlying35 hi hz0 hz1 hz2 rfl (by decide) _ e.2.length _ rfl (own2_below HS.out ((Below.refl _ _).alloc (Nat.le_refl _) _)) ⟨W.heap.size, 0, none⟩ 1 1 [.int .i64 _, .int .i64 b] rfl rfl (pt_new _ _ _ _) (by intro u hu; simp at hu; rcases hu with rfl | rfl <;> rfl) (by have := HL.out; unfold maxLen; omega) (by have := HL.out; omega) (by have := HZ.out; simp; omega) ?_))
    intro v' w2 hown hgrow _ _
    obtain ⟨s6, m6, rfl⟩ := own2_slice hown
    obtain ⟨d1, d2⟩ := hgr _ _ hgrow
    have HE := Lib.hid (HG _ _ _ hown hgrow)
    clear hown hgrow
    go_wp2_with fail
    go_end0
    exact ⟨rfl, HE.out⟩)
theorem and1u (x : Int) : bits .and .u64 x 1 = x % 2 := by
  have h1 : (BitVec.ofInt 64 x &&& BitVec.ofInt 64 1).toNat = (x % 18446744073709551616).toNat % 2 := by
    rw [BitVec.toNat_and, BitVec.toNat_ofInt, BitVec.toNat_ofInt, show ((1 : Int) % ((2 ^ 64 : Nat) : Int)).toNat = 1 from by decide, Nat.and_one_is_mod]
    rfl
  show IntKind.u64.wrap ((BitVec.ofInt 64 x &&& BitVec.ofInt 64 1).toNat : Int) = x % 2
  rw [h1]
  unfold IntKind.wrap
  simp [IntKind.bits, IntKind.signed]
  omega
set_option maxHeartbeats 1000000 in
theorem xbit_c {W0 W : World} {a : Adx} {p : Pp} {m : Mo} {e : Es} (H : Xc W0 W a p m e) (x y : Int) : Calls Tryd.prog 98 #[.pointer (some ⟨a.P, 0, none⟩), .int .i64 x, .int .i64 y] W fun E W' => E = .returned (.int .i64 (bitM (e.1.v x y) p.s)) ∧ Below W.heap.size W W' := by
  have HD := H.below (Below.refl W.heap.size W).drew
  obtain ⟨c0, c1, -, -, -, -⟩ := HD.cells
  have kv := rvalue_c HD.rb x y
  have hv := H.ok x y
  have ka := fun W => xabs_c (e.1.v x y) (by unfold okV at hv; unfold i64R; omega) W
  have hs := H.hs
  have and1u := and1u
  have e0 : bitM (e.1.v x y) p.s = ((e.1.v x y).natAbs : Int) / 2 ^ p.s % 2 := by
    unfold bitM
    rw [Int.natCast_emod, Int.natCast_ediv, Int.natCast_pow]
    rfl
  rw [e0]
  have hmin : min p.s 64 = p.s := by omega
  have wu : IntKind.u64.wrap (p.s : Int) = (p.s : Int) := by unfold IntKind.wrap; simp [IntKind.bits, IntKind.signed]; omega
  have hb : 0 ≤ ((e.1.v x y).natAbs : Int) / 2 ^ p.s % 2 ∧ ((e.1.v x y).natAbs : Int) / 2 ^ p.s % 2 ≤ 1 := by omega
  have wb : IntKind.i64.wrap (((e.1.v x y).natAbs : Int) / 2 ^ p.s % 2) = ((e.1.v x y).natAbs : Int) / 2 ^ p.s % 2 := by rw [IntWalk.i64_left]; unfold wrap64; omega
  have B0 := Lib.hid (Below.refl W.heap.size W).drew
  have HX := Lib.hid HD
  clear e0 hb hv H HD
  generalize e.1.v x y = v at *
  generalize (v.natAbs : Int) = n at *
  generalize p.s = s at *
  go_enter Tryd.func98, Tryd.ntmps98
  go_wp2_with fail
  go_region_held3 (fun w' => w'.cell? ⟨a.P, 0, none⟩ = some (.pointer (some ⟨a.A, 0, none⟩)) ∧ w'.cell? ⟨a.P, 1, none⟩ = some (.int .i64 (s : Int)))
    (first | (with_reducible exact ⟨c0, c1⟩) | (with_reducible exact ⟨d0, d1⟩) | fail)
    (first | (go_simp; go_at_call 63; (with_reducible refine kv.mono ?_); rintro e w1 ⟨rfl, hb⟩; have d0 := (hb.cell (p := ⟨a.P, 0, none⟩) (cell_lt c0)).trans c0; have d1 := (hb.cell (p := ⟨a.P, 1, none⟩) (cell_lt c1)).trans c1; have B1 := Lib.hid (below_call B0.out hb); clear hb) | (go_simp; go_at_call 72; (with_reducible refine (ka _).mono ?_); rintro e wn ⟨rfl, rfl⟩) | fail)
  all_goals
    go_wp2_with fail
    go_ret
    exact ⟨rfl, B1.out⟩
end Go.Proofs.YtbhjapgioaiocaaDoor
set_option maxRecDepth 100000
namespace Go.Proofs.YtbhjapgioaiocaaDoor
open Go.RowKit

theorem nb_bnd (q : St) (x y : Int) (c : Bool) : 0 ≤ nbH q x y ∧ nbH q x y ≤ 2 ∧ 0 ≤ nbV q x y c ∧ nbV q x y c ≤ 2 ∧ 0 ≤ nbD q x y c ∧ nbD q x y c ≤ 4 := by
  unfold nbH nbV nbD
  have a1 := cn_in q (x - 1) (y - 1)
  have a2 := cn_in q x (y - 1)
  have a3 := cn_in q (x + 1) (y - 1)
  have a4 := cn_in q (x - 1) y
  have a6 := cn_in q (x + 1) y
  have a7 := cn_in q (x - 1) (y + 1)
  have a8 := cn_in q x (y + 1)
  have a9 := cn_in q (x + 1) (y + 1)
  refine ⟨by omega, by omega, ?_, ?_, ?_, ?_⟩
  all_goals (cases hid y c <;> simp <;> omega)
set_option maxHeartbeats 1000000 in
theorem xnear_c {W0 W : World} {a : Adx} {p : Pp} {m : Mo} {e : Es} (H : Xc W0 W a p m e) (x y : Int) (hin : inB p.w p.h x y) : Calls Tryd.prog 94 #[.pointer (some ⟨a.P, 0, none⟩), .int .i64 x, .int .i64 y] W fun E W' => E = .returned (.int .i64 (nbH e.1 x y + nbV e.1 x y p.c + nbD e.1 x y p.c)) ∧ Below W.heap.size W W' := by
  have HD := H.below (Below.refl W.heap.size W).drew
  obtain ⟨c0, -, -, c6, -, -⟩ := HD.cells
  have kn := rnb_y HD.rb x y p.c hin
  obtain ⟨a1, a2, b1, b2, d1, d2⟩ := nb_bnd e.1 x y p.c
  have B0 := Lib.hid (Below.refl W.heap.size W).drew
  generalize nbH e.1 x y = n1 at *
  generalize nbV e.1 x y p.c = n2 at *
  generalize nbD e.1 x y p.c = n3 at *
  have w1 : IntKind.i64.wrap (n1 + n2) = n1 + n2 := by rw [IntWalk.i64_left]; unfold wrap64; omega
  have w2 : IntKind.i64.wrap (n1 + n2 + n3) = n1 + n2 + n3 := by rw [IntWalk.i64_left]; unfold wrap64; omega
  clear a1 a2 b1 b2 d1 d2 H HD hin
  go_enter Tryd.func94, Tryd.ntmps94
  go_wp2_with fail
  go_region_held3 (fun w' => w'.cell? ⟨a.P, 0, none⟩ = some (.pointer (some ⟨a.A, 0, none⟩)) ∧ w'.cell? ⟨a.P, 6, none⟩ = some (.bool p.c))
    (first | (with_reducible exact ⟨c0, c6⟩) | (with_reducible exact ⟨d0, d6⟩) | fail)
    (first | (go_simp; go_at_call 117; (with_reducible refine kn.mono ?_); rintro e w1 ⟨rfl, hb⟩; have d0 := (hb.cell (p := ⟨a.P, 0, none⟩) (cell_lt c0)).trans c0; have d6 := (hb.cell (p := ⟨a.P, 6, none⟩) (cell_lt c6)).trans c6; have B1 := Lib.hid (below_call B0.out hb); clear hb) | fail)
  all_goals
    go_wp2_with fail
    go_ret
    exact ⟨rfl, B1.out⟩
theorem xsgn_c (h v : Int) (w : World) : Calls Tryd.prog 134 #[.int .i64 h, .int .i64 v] w fun e w' => e = .returned (.tuple #[.int .i64 (Cx.sgC (Cx.l1 h) (Cx.l1 v)), .int .i64 (Cx.sgF (Cx.l1 h) (Cx.l1 v))]) ∧ w = w' := Cx.sgnR_c h v w
set_option maxHeartbeats 4000000 in
theorem xsign_c {W0 W : World} {a : Adx} {p : Pp} {m : Mo} {e : Es} (H : Xc W0 W a p m e) (x y : Int) (hin : inB p.w p.h x y) (hl : e.2.length ≤ 1000000) : Calls Tryd.prog 119 #[.pointer (some ⟨a.P, 0, none⟩), .int .i64 x, .int .i64 y] W (XG W0 W a p m (signS p e x y)) := by
  obtain ⟨C, hC⟩ : ∃ C, C = sgnC p e.1 x y := ⟨_, rfl⟩
  obtain ⟨F, hF⟩ : ∃ F, F = Cx.sgF (Cx.l1 (sgH e.1 x y)) (Cx.l1 (sgV e.1 x y p.c)) := ⟨_, rfl⟩
  obtain ⟨FF, hFF⟩ : ∃ FF, FF = sgnF p e.1 x y := ⟨_, rfl⟩
  obtain ⟨N, hN⟩ : ∃ N, N = negM (e.1.v x y) := ⟨_, rfl⟩
  have hF01 : FF = 0 ∨ FF = 1 := by rw [hFF]; exact sgnF_in _ _ _ _
  have hN01 : N = 0 ∨ N = 1 := by rw [hN]; exact negM_in _
  have EQ : signS p e x y = (markQ p.w p.h (putS p e C (xorM N FF)).1 x y, (putS p e C (xorM N FF)).2) := by unfold signS putS; rw [← hC, ← hFF, ← hN]
  have k3 : ∀ W, Calls Tryd.prog 134 #[.int .i64 (sgH e.1 x y), .int .i64 (sgV e.1 x y p.c)] W fun e w' => e = .returned (.tuple #[.int .i64 C, .int .i64 F]) ∧ W = w' := fun W => by rw [hC, hF]; exact xsgn_c _ _ W
  rw [EQ]
  have X0 := xor01 N FF hN01 hF01
  have kp := fun W (K : Xc W0 W a p m e) => xput_c K C (xorM N FF) hl
  have kv := rvalue_c H.rb x y
  have ks := fun W (K : Xc W0 W a p m e) => rsgs_y K.rb x y p.c hin
  have km : ∀ W, Xc W0 W a p m (putS p e C (xorM N FF)) → Calls Tryd.prog 45 #[.pointer (some ⟨a.A, 0, none⟩), .int .i64 x, .int .i64 y] W fun E W' => E = .returned (.int .i64 (atE p.w p.h x y)) ∧ Xc W0 W' a p m (markQ p.w p.h (putS p e C (xorM N FF)).1 x y, (putS p e C (xorM N FF)).2) ∧ Kt W W' := fun W K =>
    (rmark_c K.rb x y).mono fun _ _ G => K.chg G (by rw [markQ_v]; exact K.ok)
  have fC : p.raw = true → FF = 0 := fun h => by rw [hFF]; unfold sgnF; rw [if_pos h]
  have fD : p.raw = false → FF = F := fun h => by rw [hFF, hF]; unfold sgnF; rw [if_neg (by rw [h]; decide)]
  have fN : e.1.v x y < 0 → N = 1 := fun h => by rw [hN]; unfold negM; rw [if_pos h]
  have fM : ¬ e.1.v x y < 0 → N = 0 := fun h => by rw [hN]; unfold negM; rw [if_neg h]
  obtain ⟨raw, hraw⟩ : ∃ r, r = p.raw := ⟨_, rfl⟩
  have fc8 : ∀ W, Xc W0 W a p m e → W.cell? ⟨a.P, 8, none⟩ = some (.bool raw) := fun W K => by rw [hraw]; exact K.cells.2.2.2.2.2
  rw [← hraw] at fC fD
  obtain ⟨c0, -, -, -, -, -⟩ := H.cells
  have HH := Lib.hid H
  clear hC hF hFF hN EQ H hin hl hF01 hN01 hraw
  generalize (putS p e C (xorM N FF)) = e1 at *
  generalize sgH e.1 x y = sh at *
  generalize sgV e.1 x y p.c = sv at *
  generalize e.1.v x y = v at *
  generalize atE p.w p.h x y = am at *
  generalize xorM N FF = XX at *
  cases raw <;> by_cases hv : v < 0
  all_goals
    first | (have e1 := fC rfl; subst e1) | (have e1 := fD rfl; subst e1)
    first | (have e2 := fN hv; subst e2) | (have e2 := fM hv; subst e2)
    clear fC fD fN fM
    go_enter Tryd.func119, Tryd.ntmps119
    go_wp2_with (first | (go_at_call 63; (with_reducible refine kv.mono ?_); rintro e w1 ⟨rfl, hb⟩; have H1 := Lib.hid (HH.out.below hb); have K1 := Lib.hid (kt_below hb); clear hb))
    have HD := Lib.hid (H1.out.below (Below.refl w1.heap.size w1).drew)
    clear c0
    obtain ⟨c0, -, -, c6, -, -⟩ := HD.out.cells
    have ks1 := ks _ HD.out
    go_region_held3 (fun w' => w'.cell? ⟨a.P, 0, none⟩ = some (.pointer (some ⟨a.A, 0, none⟩)) ∧ w'.cell? ⟨a.P, 6, none⟩ = some (.bool p.c))
      (first | (with_reducible exact ⟨c0, c6⟩) | (with_reducible exact ⟨d0, d6⟩) | fail)
      (first | (go_simp; go_at_call 133; (with_reducible refine ks1.mono ?_); rintro e w2 ⟨rfl, hb⟩; have H2 := Lib.hid (HD.out.below hb); have K2 := Lib.hid (K1.out.trans (kt_below (below_call (Below.refl w1.heap.size w1).drew hb))); obtain ⟨d0, -, -, d6, -, -⟩ := H2.out.cells; clear hb) | fail)
  all_goals
    have f8 := fc8 _ H2.out
    have kp1 := kp _ H2.out
    go_wp2_with (first | (go_at_call 134; (with_reducible refine (k3 _).mono ?_); rintro e wn ⟨rfl, rfl⟩) | (go_at_call 96; (with_reducible refine kp1.mono ?_); rintro e w3 ⟨rfl, H3, K3⟩; have HH3 := Lib.hid H3; have K3 := Lib.hid (K2.out.trans K3); clear H3; obtain ⟨g0, -, -, -, -, -⟩ := HH3.out.cells) | (go_at_call 45; (with_reducible refine (km _ HH3.out).mono ?_); rintro e w4 ⟨rfl, H4, K4⟩))
    go_end0
    exact ⟨rfl, H4, K3.out.trans K4⟩
set_option maxHeartbeats 4000000 in
theorem xcode_c {W0 W : World} {a : Adx} {p : Pp} {m : Mo} {e : Es} (H : Xc W0 W a p m e) (x y : Int) (hin : inB p.w p.h x y) (hl : e.2.length ≤ 999999) : Calls Tryd.prog 95 #[.pointer (some ⟨a.P, 0, none⟩), .int .i64 x, .int .i64 y] W (XG W0 W a p m (codeS p e x y)) := by
  have HD := H.below (Below.refl W.heap.size W).drew
  obtain ⟨c0, -, -, c6, -, -⟩ := HD.cells
  have kn := rnb_y HD.rb x y p.c hin
  have EQ0 : codeS p e x y = if bitM (e.1.v x y) p.s = 1 then signS p (putS p e (sigC p e.1 x y) (bitM (e.1.v x y) p.s)) x y else putS p e (sigC p e.1 x y) (bitM (e.1.v x y) p.s) := rfl
  obtain ⟨bt, hbt⟩ : ∃ b, b = bitM (e.1.v x y) p.s := ⟨_, rfl⟩
  obtain ⟨C, hC⟩ : ∃ c, c = sigC p e.1 x y := ⟨_, rfl⟩
  rw [← hbt, ← hC] at EQ0
  have hb01 : bt = 0 ∨ bt = 1 := by rw [hbt]; exact bitM_in _ _
  have kb : ∀ W, Xc W0 W a p m e → Calls Tryd.prog 98 #[.pointer (some ⟨a.P, 0, none⟩), .int .i64 x, .int .i64 y] W fun e w' => e = .returned (.int .i64 bt) ∧ Below W.heap.size W w' := fun W K => by rw [hbt]; exact xbit_c K x y
  have kg : ∀ W, Calls Tryd.prog 118 #[.int .i64 p.o, .int .i64 (nbH e.1 x y), .int .i64 (nbV e.1 x y p.c), .int .i64 (nbD e.1 x y p.c)] W fun e w' => e = .returned (.int .i64 C) ∧ W = w' := fun W => by rw [hC]; exact Cx.sigR_c _ _ _ _ W
  have kp := fun W (K : Xc W0 W a p m e) => xput_c K C bt (by omega)
  have ks := fun W (K : Xc W0 W a p m (putS p e C bt)) => xsign_c K x y hin (by unfold putS; simp; omega)
  rw [EQ0]
  have HH := Lib.hid HD
  have K0 := Lib.hid (kt_below (Below.refl W.heap.size W).drew)
  clear hC hbt EQ0 hin hl H HD
  generalize nbH e.1 x y = n1 at *
  generalize nbV e.1 x y p.c = n2 at *
  generalize nbD e.1 x y p.c = n3 at *
  have e2f : ∀ z : Es, (if bt = 1 then signS p z x y else z) = if bt = 1 then signS p z x y else z := fun _ => rfl
  rcases hb01 with rfl | rfl
  · rw [if_neg (by decide)]
    clear e2f
    generalize putS p e C 0 = e1 at *
    go_enter Tryd.func95, Tryd.ntmps95
    go_wp2_with fail
    go_region_held3 (fun w' => w'.cell? ⟨a.P, 0, none⟩ = some (.pointer (some ⟨a.A, 0, none⟩)) ∧ w'.cell? ⟨a.P, 6, none⟩ = some (.bool p.c))
      (first | (with_reducible exact ⟨c0, c6⟩) | (with_reducible exact ⟨d0, d6⟩) | fail)
      (first | (go_simp; go_at_call 117; (with_reducible refine kn.mono ?_); rintro e w1 ⟨rfl, hb⟩; have H1 := Lib.hid (HH.out.below hb); have K1 := Lib.hid (K0.out.trans (kt_below hb)); obtain ⟨d0, -, -, d6, -, -⟩ := H1.out.cells; clear hb) | fail)
    all_goals
      have kb1 := kb _ H1.out
      clear d0 d6
      go_wp2_with (first | (go_at_call 98; (with_reducible refine kb1.mono ?_); rintro e w2 ⟨rfl, hb⟩; have H2 := Lib.hid (H1.out.below hb); have K2 := Lib.hid (K1.out.trans (kt_below hb)); obtain ⟨-, -, f2, -, -, -⟩ := H2.out.cells; have kp2 := kp _ H2.out; clear hb) | (go_at_call 118; (with_reducible refine (kg _).mono ?_); rintro e wn ⟨rfl, rfl⟩) | (go_at_call 96; (with_reducible refine kp2.mono ?_); rintro e w3 ⟨rfl, H3, K3⟩))
      go_end0
      exact ⟨rfl, H3, K2.out.trans K3⟩
  · rw [if_pos rfl]
    clear e2f
    generalize putS p e C 1 = e1 at *
    generalize signS p e1 x y = e2 at *
    go_enter Tryd.func95, Tryd.ntmps95
    go_wp2_with fail
    go_region_held3 (fun w' => w'.cell? ⟨a.P, 0, none⟩ = some (.pointer (some ⟨a.A, 0, none⟩)) ∧ w'.cell? ⟨a.P, 6, none⟩ = some (.bool p.c))
      (first | (with_reducible exact ⟨c0, c6⟩) | (with_reducible exact ⟨d0, d6⟩) | fail)
      (first | (go_simp; go_at_call 117; (with_reducible refine kn.mono ?_); rintro e w1 ⟨rfl, hb⟩; have H1 := Lib.hid (HH.out.below hb); have K1 := Lib.hid (K0.out.trans (kt_below hb)); obtain ⟨d0, -, -, d6, -, -⟩ := H1.out.cells; clear hb) | fail)
    all_goals
      have kb1 := kb _ H1.out
      clear d0 d6
      go_wp2_with (first | (go_at_call 98; (with_reducible refine kb1.mono ?_); rintro e w2 ⟨rfl, hb⟩; have H2 := Lib.hid (H1.out.below hb); have K2 := Lib.hid (K1.out.trans (kt_below hb)); obtain ⟨-, -, f2, -, -, -⟩ := H2.out.cells; have kp2 := kp _ H2.out; clear hb) | (go_at_call 118; (with_reducible refine (kg _).mono ?_); rintro e wn ⟨rfl, rfl⟩) | (go_at_call 96; (with_reducible refine kp2.mono ?_); rintro e w3 ⟨rfl, H3, K3⟩; have H3 := Lib.hid H3; have K3 := Lib.hid (K2.out.trans K3); have ks3 := ks _ H3.out) | (go_at_call 119; (with_reducible refine ks3.mono ?_); rintro e w4 ⟨rfl, H4, K4⟩))
      go_end0
      exact ⟨rfl, H4, K3.out.trans K4⟩
end Go.Proofs.YtbhjapgioaiocaaDoor
set_option maxRecDepth 100000
namespace Go.Proofs.YtbhjapgioaiocaaDoor
open Go.RowKit

/-- Bits in memory, in a block of numbers. -/
def BitsAt (W : World) (s : Option Addr) (bits : List Int) : Prop := bits = [] ∨ ∃ (b off : Nat) (cs : Array Value), s = some ⟨b, off, none⟩ ∧ Blk W b 3 cs ∧ ∀ k (_ : k < bits.length), cs[off + k]? = some (.int .i64 (bits.getD k 0))
theorem BitsAt.keep {W W' : World} {s : Option Addr} {bits : List Int} (h : BitsAt W s bits) (hk : ∀ k cs, Blk W k 3 cs → Blk W' k 3 cs) : BitsAt W' s bits := by
  rcases h with h | ⟨b, off, cs, rfl, h1, h2⟩
  · exact .inl h
  · exact .inr ⟨b, off, cs, rfl, hk _ _ h1, h2⟩
theorem BitsAt.at {W : World} {s : Option Addr} {bits : List Int} (h : BitsAt W s bits) {k : Nat} (hk : k < bits.length) : ∃ b off, s = some ⟨b, off, none⟩ ∧ W.cell? ⟨b, off + k, none⟩ = some (.int .i64 (bits.getD k 0)) := by
  rcases h with rfl | ⟨b, off, cs, rfl, h1, h2⟩
  · simp at hk
  · exact ⟨b, off, rfl, (h1.cell _).trans (h2 k hk)⟩
def exR (K : Nat) (k : Nat) (t : TypeId) : Prop := K ≤ k ∧ t = 52
def srcV (s : Option Addr) (n m : Nat) (v : Value) : Array Value := #[.pointer none, .pointer none, .slice s n m, v]
/-- The reference's source: its bits, and what was asked for. -/
def Src (W : World) (K S : Nat) (bits : List Int) (t : List Sy) : Prop := ∃ v sb mb, Blk W S 124 (srcV sb bits.length mb v) ∧ BitsAt W sb bits ∧ bits.length ≤ mb ∧ W.ownsRow K 52 2 v t.length (cellsP t)
section
variable {W W' w2 : World} {K S : Nat} {bits : List Int} {t : List Sy}
theorem Src.below (H : Src W K S bits t) (hb : Below W.heap.size W W') : Src W' K S bits t := by
  obtain ⟨v, sb, mb, h1, h2, h3, h4⟩ := H
  exact ⟨v, sb, mb, h1.below hb, h2.keep fun k cs h => h.below hb, h3, own2_below h4 hb⟩
theorem Src.kb {fp : List Nat} (H : Src W K S bits t) (hk : Kb fp W W') (hf : ∀ k ∈ fp, ∃ t cs, Blk W k t cs ∧ t ≠ 52 ∧ t ≠ 124 ∧ t ≠ 3) : Src W' K S bits t := by
  obtain ⟨v, sb, mb, h1, h2, h3, h4⟩ := H
  refine ⟨v, sb, mb, (hk.block _ h1.lt fun hm => ?_).trans h1, h2.keep fun k cs h => (hk.block _ h.lt fun hm => ?_).trans h, h3, own2_kb h4 hk fun k hm => ?_⟩
  · obtain ⟨t, cs, g, _, n2, _⟩ := hf _ hm
    exact g.ne h1 n2 rfl
  · obtain ⟨t, cs, g, _, _, n3⟩ := hf _ hm
    exact g.ne h n3 rfl
  · obtain ⟨t, cs, g, n1, _, _⟩ := hf _ hm
    exact own_blk_ne h4 g (Ne.symm n1)
theorem Src.grow {v v' : Value} {sb : Option Addr} {mb : Nat} {X : Obj} {c b : Int} (s1 : Blk W S 124 (srcV sb bits.length mb v)) (s3 : BitsAt W sb bits) (hm : bits.length ≤ mb) (s2 : W.ownsRow K 52 2 v t.length (cellsP t))
    (hown : w2.ownsRow K 52 2 v' (t.length + 1) (cellsP t ++ [.int .i64 c, .int .i64 b])) (hg : (W.alloc X).grownBy w2 v.ownBlock) : Src (w2.setCell ⟨S, 3, none⟩ v') K S bits (t ++ [(c, b)]) ∧ Kd [S] K (exR K) W (w2.setCell ⟨S, 3, none⟩ v') := by
  have hal := below_alloc (Below.refl _ W) X
  have hn : ∀ {k : Nat} {t : TypeId} {cs : Array Value}, Blk W k t cs → 52 ≠ t → some k ≠ v.ownBlock := fun hb hne he => own_blk_ne s2 hb hne he.symm
  have keep : ∀ (k : Nat) (t : TypeId) (cs : Array Value), Blk W k t cs → some k ≠ v.ownBlock → k ≠ S → Blk (w2.setCell ⟨S, 3, none⟩ v') k t cs := fun k t cs hb hne hL => by
    have e1 := Below.heap_setCell w2 ⟨S, 3, none⟩ v' k (fun e => hL e)
    exact e1.trans ((hb.alloc X).grown hg hne)
  have L2 : Blk w2 S 124 (srcV sb bits.length mb v) := (s1.alloc X).grown hg (hn s1 (by decide))
  refine ⟨⟨v', sb, mb, by have := L2.set 3 v'; simpa [srcV] using this, s3.keep fun k cs h => keep k _ cs h (hn h (by decide)) (h.ne s1 (by decide)), hm, ?_⟩, ⟨hg.os, hg.tape, hg.output, ?_, fun k hk hs hf => ?_, fun k t cs hb hf he => ?_⟩⟩
  · have hne := own_blk_ne hown L2 (by decide)
    have := own2_keep (w1 := w2.setCell ⟨S, 3, none⟩ v') hown fun k hk => Below.heap_setCell w2 ⟨S, 3, none⟩ v' k (fun e => hne (by rw [hk, e]))
    rw [List.length_append, cellsP_app]
    exact this
  · have h2 := hg.size
    have h3 := hal.size
    simp [World.setCell]
    omega
  · have h3 := hal.size
    have hv : some k ≠ v.ownBlock := fun he => by have := (own2_lt s2 he.symm).1; omega
    have e1 := Below.heap_setCell w2 ⟨S, 3, none⟩ v' k (by simp at hf; exact hf)
    rw [e1, hg.block k (by omega) hv, hal.block k hs]
  · refine keep k t cs hb (fun hv => ?_) (by simp at hf; exact hf)
    have h1 := (own2_lt s2 hv.symm).1
    exact he ⟨h1, Classical.byContradiction fun hne => own_blk_ne s2 hb (fun e => hne e.symm) hv.symm⟩
end
theorem cell_len2 (bits : List Int) (n : Nat) : bits[n]?.getD 0 = if n < bits.length then bits.getD n 0 else 0 := by
  by_cases h : n < bits.length
  · rw [if_pos h]; simp [List.getD]
  · rw [if_neg h, List.getElem?_eq_none (by omega)]; rfl
set_option maxHeartbeats 2000000 in
theorem ynext_c {W : World} {K S : Nat} {bits : List Int} {t : List Sy} (H : Src W K S bits t) (hK : K ≤ W.heap.size) (hl : t.length ≤ 1000000) (c : Int) : Calls Tryd.prog 145 #[.pointer (some ⟨S, 0, none⟩), .int .i64 c] W fun E W' => E = .returned (.int .i64 (bitO bits t c).1) ∧ Src W' K S bits (bitO bits t c).2 ∧ Kd [S] K (exR K) W W' := by
  obtain ⟨i0, hi, hz0, hz1, hz2⟩ := info2_parts infoS
  have EQ : bitO bits t c = (bits[t.length]?.getD 0, t ++ [(c, bits[t.length]?.getD 0)]) := rfl
  rw [EQ, cell_len2]
  dsimp only
  obtain ⟨v, sb, mb, s1, s3, hm, s2⟩ := H
  obtain ⟨s5, m5, rfl⟩ := own2_slice s2
  have HG := Lib.hid (fun (v' : Value) (X : Obj) (w2 W1 : World) (b : Int) (ho : w2.ownsRow K 52 2 v' (t.length + 1) (cellsP t ++ [.int .i64 c, .int .i64 b])) (hg : (W1.alloc X).grownBy w2 (Value.slice s5 t.length m5).ownBlock) (hb : Below W.heap.size W W1) =>
    (Src.grow (bits := bits) (s1.below hb) (s3.keep fun _ _ h => h.below hb) hm (own2_below s2 hb) ho hg).imp id fun z => (Kd.of_below hb).trans z)
  have fz := s1.free
  have hgr : ∀ (w2 W1 : World) (X : Obj), (W1.alloc X).grownBy w2 (Value.slice s5 t.length m5).ownBlock → Below W.heap.size W W1 → w2.cell? ⟨S, 3, none⟩ = some (Value.slice s5 t.length m5) ∧ ∀ i, w2.frozen? ⟨S, i, none⟩ = false := fun w2 W1 X hg hb => by
    have := ((s1.below hb).alloc X).grown hg (fun he => own_blk_ne s2 s1 (by decide) he.symm)
    exact ⟨this.cell 3, this.free⟩
  have c0 : W.cell? ⟨S, 0, none⟩ = some (.pointer none) := s1.cell 0
  have c1 : W.cell? ⟨S, 1, none⟩ = some (.pointer none) := s1.cell 1
  have c2 : W.cell? ⟨S, 2, none⟩ = some (.slice sb bits.length mb) := s1.cell 2
  have c3 : W.cell? ⟨S, 3, none⟩ = some (.slice s5 t.length m5) := s1.cell 3
  have HS := Lib.hid (fun (W1 : World) (X : Obj) (hb : Below W.heap.size W W1) => own2_below (own2_below s2 hb) ((Below.refl _ W1).alloc (Nat.le_refl _) X))
  have HZ := Lib.hid (fun (W1 : World) (hb : Below W.heap.size W W1) => show K ≤ W1.heap.size from Nat.le_trans hK hb.size)
  have HL := Lib.hid hl
  have HK := Lib.hid hK
  have HM := Lib.hid hm
  have hlt : t.length < bits.length ∨ ¬ t.length < bits.length := by omega
  have hat := fun (h : t.length < bits.length) => s3.at h
  clear EQ s1 s2 s3 hl hm hK
  have hc2 : (¬ c < 0 ∧ 0 ≤ c) ∨ (c < 0 ∧ ¬ 0 ≤ c) := by omega
  rcases hlt with hlt | hlt
  · rw [if_pos hlt]
    obtain ⟨bb, off, rfl, hcell⟩ := hat hlt
    clear hat
    generalize bits.getD t.length 0 = bv at *
    generalize t.length = n at *
    generalize bits.length = nb at *
    have hlt2 : (n : Int) < (nb : Int) := by omega
    rcases hc2 with ⟨h1, h2⟩ | ⟨h1, h2⟩
    all_goals
      go_enter Tryd.func145, Tryd.ntmps145
      go_wp2_with fail
      go_quiet (fail)
      go_wp2_with fail
      go_quiet (fail)
      have HL2 := HL.out
      go_wp2_with (first | (at_builtin; refine wpList_append_own_at _ rfl _ _ 35 rfl K 52 i0 (.agg #[.int .i64 0, .int .i64 0]) 2 16 Tryd.underlying35 hi hz0 hz1 hz2 rfl (by decide) _ n _ rfl (HS.out _ _ (by first | exact drewN_below W _ | exact below_call (drewN_below W _) (drewN_below _ _))) ⟨W.heap.size, 0, none⟩ 1 1 [.int .i64 _, .int .i64 _] rfl rfl (pt_new _ _ _ _) (by intro u hu; simp at hu; rcases hu with rfl | rfl <;> rfl) (by unfold maxLen; omega) (by omega) (by have := HK.out; simp; omega) ?_))
      intro v' w2 hown hgrow _ _
      obtain ⟨s6, m6, rfl⟩ := own2_slice hown
      obtain ⟨d1, d2⟩ := hgr _ _ _ hgrow (by first | exact drewN_below W _ | exact below_call (drewN_below W _) (drewN_below _ _))
      have HE := Lib.hid (HG.out _ _ _ _ _ hown hgrow (by first | exact drewN_below W _ | exact below_call (drewN_below W _) (drewN_below _ _)))
      clear hown hgrow
      go_wp2_with fail
      go_ret
      exact ⟨rfl, HE.out⟩
  · rw [if_neg hlt]
    clear hat
    generalize t.length = n at *
    generalize bits.length = nb at *
    have hlt2 : ¬ (n : Int) < (nb : Int) := by omega
    rcases hc2 with ⟨h1, h2⟩ | ⟨h1, h2⟩
    all_goals
      go_enter Tryd.func145, Tryd.ntmps145
      go_wp2_with fail
      go_quiet (fail)
      have HL2 := HL.out
      go_wp2_with (first | (at_builtin; refine wpList_append_own_at _ rfl _ _ 35 rfl K 52 i0 (.agg #[.int .i64 0, .int .i64 0]) 2 16 Tryd.underlying35 hi hz0 hz1 hz2 rfl (by decide) _ n _ rfl (HS.out _ _ (by first | exact drewN_below W _ | exact below_call (drewN_below W _) (drewN_below _ _))) ⟨W.heap.size, 0, none⟩ 1 1 [.int .i64 _, .int .i64 _] rfl rfl (pt_new _ _ _ _) (by intro u hu; simp at hu; rcases hu with rfl | rfl <;> rfl) (by unfold maxLen; omega) (by omega) (by have := HK.out; simp; omega) ?_))
      intro v' w2 hown hgrow _ _
      obtain ⟨s6, m6, rfl⟩ := own2_slice hown
      obtain ⟨d1, d2⟩ := hgr _ _ _ hgrow (by first | exact drewN_below W _ | exact below_call (drewN_below W _) (drewN_below _ _))
      have HE := Lib.hid (HG.out _ _ _ _ _ hown hgrow (by first | exact drewN_below W _ | exact below_call (drewN_below W _) (drewN_below _ _)))
      clear hown hgrow
      go_wp2_with fail
      go_ret
      exact ⟨rfl, HE.out⟩
/-- The pass's ten cells. -/
def ypV (A S : Nat) (p : Pp) (m : Mo) : Array Value := #[.pointer (some ⟨A, 0, none⟩), .int .i64 (p.s : Int), .int .i64 p.o, .bool m.b, .bool m.r, .bool m.s, .bool m.c, .bool m.y, .bool p.raw, .pointer (some ⟨S, 0, none⟩)]
structure Ady where
  B : Nat
  A : Nat
  C : Nat
  P : Nat
  S : Nat
  K : Nat
/-- The pass of the reference, its block and its source. -/
structure Yc (W0 W : World) (a : Ady) (bits : List Int) (p : Pp) (m : Mo) (e : St × List Sy) : Prop where
  rb : Rb W a.B a.A a.C p.w p.h e.1
  px : Blk W a.P 133 (ypV a.A a.S p m)
  sx : Src W a.K a.S bits e.2
  ok : OkS e
  hs : p.s ≤ 59
  hc : p.c = m.c
  hK : a.K ≤ W.heap.size
  oldA : a.A < a.K
  oldC : a.C < a.K
  kd : Kd [a.C, a.S] a.K (exR a.K) W0 W
section
variable {W0 W W' : World} {a : Ady} {bits : List Int} {p : Pp} {m : Mo} {e : St × List Sy}
theorem Yc.below (H : Yc W0 W a bits p m e) (hb : Below W.heap.size W W') : Yc W0 W' a bits p m e :=
  ⟨H.rb.below hb, H.px.below hb, H.sx.below hb, H.ok, H.hs, H.hc, Nat.le_trans H.hK hb.size, H.oldA, H.oldC, H.kd.trans (Kd.of_below hb)⟩
theorem Yc.cells (H : Yc W0 W a bits p m e) : W.cell? ⟨a.P, 0, none⟩ = some (.pointer (some ⟨a.A, 0, none⟩)) ∧ W.cell? ⟨a.P, 1, none⟩ = some (.int .i64 (p.s : Int)) ∧ W.cell? ⟨a.P, 2, none⟩ = some (.int .i64 p.o) ∧ W.cell? ⟨a.P, 6, none⟩ = some (.bool p.c) ∧ W.cell? ⟨a.P, 7, none⟩ = some (.bool m.y) ∧ W.cell? ⟨a.P, 8, none⟩ = some (.bool p.raw) := by
  have h1 := H.px
  rw [H.hc]
  exact ⟨h1.cell 0, h1.cell 1, h1.cell 2, h1.cell 6, h1.cell 7, h1.cell 8⟩
theorem Yc.src (H : Yc W0 W a bits p m e) : W.cell? ⟨a.P, 9, none⟩ = some (.pointer (some ⟨a.S, 0, none⟩)) := H.px.cell 9
theorem Yc.len (H : Yc W0 W a bits p m e) : p.w ≤ 64 ∧ p.h ≤ 64 := by have := H.rb.fit; unfold fits at this; omega
/-- The block is changed. -/
theorem Yc.chg (H : Yc W0 W a bits p m e) {q : St} {c : Int} {E : Ending} (G : RGives a.B a.A a.C p.w p.h q c W E W') (hv : ∀ x y, okV (q.v x y)) : E = .returned (.int .i64 c) ∧ Yc W0 W' a bits p m (q, e.2) ∧ Kt W W' := by
  obtain ⟨h1, h2, h3⟩ := G
  obtain ⟨cc, hc, _⟩ := H.rb.grid
  refine ⟨h1, ⟨h2, (h3.block _ H.px.lt ?_).trans H.px, H.sx.kb h3 fun k hk => ?_, hv, H.hs, H.hc, Nat.le_trans H.hK h3.size, H.oldA, H.oldC, H.kd.trans ⟨h3.os, h3.tape, h3.output, h3.size, fun k _ hs hf => h3.block k hs (by simp at hf ⊢; exact hf.1), fun k t cs hb hf _ => (h3.block k hb.lt (by simp at hf ⊢; exact hf.1)).trans hb⟩⟩, fun k cs hb => (h3.block k hb.lt ?_).trans hb⟩
  · simp
    exact H.px.ne hc (by decide)
  · simp at hk
    subst hk
    exact ⟨_, _, hc, by decide, by decide, by decide⟩
  · have := hc.ne hb (by decide)
    simp
    exact fun e => this e.symm
/-- The source was asked. -/
theorem Yc.asked (H : Yc W0 W a bits p m e) {t : List Sy} (hi : Src W' a.K a.S bits t) (hk : Kd [a.S] a.K (exR a.K) W W') : Yc W0 W' a bits p m (e.1, t) ∧ Kt W W' := by
  obtain ⟨v, sb, mb, s1, _⟩ := H.sx
  obtain ⟨cc, hc, _⟩ := H.rb.grid
  have kp : ∀ k t cs, Blk W k t cs → 124 ≠ t → 52 ≠ t → Blk W' k t cs := fun k t cs hb n1 n2 => hk.blk k t cs hb (by simp; exact fun e => s1.ne hb n1 e.symm) fun he => n2 he.2.symm
  exact ⟨⟨H.rb.keep ((kp _ _ _ H.rb.obj (by decide) (by decide)).trans H.rb.obj.symm) ((kp _ _ _ hc (by decide) (by decide)).trans hc.symm), kp _ _ _ H.px (by decide) (by decide), hi, H.ok, H.hs, H.hc, Nat.le_trans H.hK hk.size, H.oldA, H.oldC,
    H.kd.trans ⟨hk.os, hk.tape, hk.output, hk.size, fun k h1 h2 h3 => hk.old k h1 h2 (by simp at h3 ⊢; exact h3.2), fun k t cs hb hf he => hk.blk k t cs hb (by simp at hf ⊢; exact hf.2) he⟩⟩, fun k cs hb => kp k _ cs hb (by decide) (by decide)⟩
end
/-- What a call of the pass leaves. -/
def YG (W0 W : World) (a : Ady) (bits : List Int) (p : Pp) (m : Mo) (e : St × List Sy) (E : Ending) (W' : World) : Prop := E = .returned (.tuple #[]) ∧ Yc W0 W' a bits p m e ∧ Kt W W'
set_option maxHeartbeats 1000000 in
theorem yask_c {W0 W : World} {a : Ady} {bits : List Int} {p : Pp} {m : Mo} {e : St × List Sy} (H : Yc W0 W a bits p m e) (c : Int) (hl : e.2.length ≤ 1000000) : Calls Tryd.prog 137 #[.pointer (some ⟨a.P, 0, none⟩), .int .i64 c] W fun E W' => E = .returned (.int .i64 (askB p (bitO bits) e c)) ∧ Yc W0 W' a bits p m (askE p (bitO bits) e c) ∧ Kt W W' := by
  obtain ⟨-, -, -, -, -, c8⟩ := H.cells
  have c9 := H.src
  have kc := fun c => (ynext_c H.sx H.hK hl c).mono fun E W' (z : E = .returned (.int .i64 (bitO bits e.2 c).1) ∧ Src W' a.K a.S bits (bitO bits e.2 c).2 ∧ Kd [a.S] a.K (exR a.K) W W') => (⟨z.1, H.asked z.2.1 z.2.2⟩ : E = .returned (.int .i64 (bitO bits e.2 c).1) ∧ Yc W0 W' a bits p m (e.1, (bitO bits e.2 c).2) ∧ Kt W W')
  have eB : askB p (bitO bits) e c = bitA (bitO bits e.2 (cxP p c)).1 := rfl
  have eE : askE p (bitO bits) e c = (e.1, (bitO bits e.2 (cxP p c)).2) := rfl
  rw [eB, eE]
  obtain ⟨raw, hraw⟩ : ∃ r, r = p.raw := ⟨_, rfl⟩
  have ecx : cxP p c = if raw then -1 else c := by unfold cxP; rw [hraw]
  rw [← hraw] at c8
  rw [ecx]
  have kc := kc (if raw then -1 else c)
  generalize bitO bits e.2 (if raw then -1 else c) = r at *
  obtain ⟨b, s⟩ := r
  simp only at kc ⊢
  clear ecx hraw H hl eB eE
  unfold bitA
  cases raw <;> by_cases hb : b = 0
  all_goals
    first | rw [if_pos hb] | rw [if_neg hb]
    try subst hb
    simp only [Bool.false_eq_true, if_false, if_true] at kc
    go_enter Tryd.func137, Tryd.ntmps137
    go_wp2_with (first | (go_at_call 145; (with_reducible refine kc.mono ?_); rintro e wn ⟨rfl, H2, K2⟩; have H2 := Lib.hid H2))
    go_ret
    exact ⟨rfl, H2.out, K2⟩
set_option maxHeartbeats 1000000 in
theorem ynear_c {W0 W : World} {a : Ady} {bits : List Int} {p : Pp} {m : Mo} {e : St × List Sy} (H : Yc W0 W a bits p m e) (x y : Int) (hin : inB p.w p.h x y) : Calls Tryd.prog 135 #[.pointer (some ⟨a.P, 0, none⟩), .int .i64 x, .int .i64 y] W fun E W' => E = .returned (.int .i64 (nbH e.1 x y + nbV e.1 x y p.c + nbD e.1 x y p.c)) ∧ Below W.heap.size W W' := by
  have HD := H.below (Below.refl W.heap.size W).drew
  obtain ⟨c0, -, -, c6, -, -⟩ := HD.cells
  have kn := rnb_y HD.rb x y p.c hin
  obtain ⟨a1, a2, b1, b2, d1, d2⟩ := nb_bnd e.1 x y p.c
  have B0 := Lib.hid (Below.refl W.heap.size W).drew
  generalize nbH e.1 x y = n1 at *
  generalize nbV e.1 x y p.c = n2 at *
  generalize nbD e.1 x y p.c = n3 at *
  have w1 : IntKind.i64.wrap (n1 + n2) = n1 + n2 := by rw [IntWalk.i64_left]; unfold wrap64; omega
  have w2 : IntKind.i64.wrap (n1 + n2 + n3) = n1 + n2 + n3 := by rw [IntWalk.i64_left]; unfold wrap64; omega
  clear a1 a2 b1 b2 d1 d2 H HD hin
  go_enter Tryd.func135, Tryd.ntmps135
  go_wp2_with fail
  go_region_held3 (fun w' => w'.cell? ⟨a.P, 0, none⟩ = some (.pointer (some ⟨a.A, 0, none⟩)) ∧ w'.cell? ⟨a.P, 6, none⟩ = some (.bool p.c))
    (first | (with_reducible exact ⟨c0, c6⟩) | (with_reducible exact ⟨d0, d6⟩) | fail)
    (first | (go_simp; go_at_call 117; (with_reducible refine kn.mono ?_); rintro e w1 ⟨rfl, hb⟩; have d0 := (hb.cell (p := ⟨a.P, 0, none⟩) (cell_lt c0)).trans c0; have d6 := (hb.cell (p := ⟨a.P, 6, none⟩) (cell_lt c6)).trans c6; have B1 := Lib.hid (below_call B0.out hb); clear hb) | fail)
  all_goals
    go_wp2_with fail
    go_ret
    exact ⟨rfl, B1.out⟩
end Go.Proofs.YtbhjapgioaiocaaDoor
set_option maxRecDepth 100000
namespace Go.Proofs.YtbhjapgioaiocaaDoor
open Go.RowKit

section
variable {W0 W : World} {a : Ady} {bits : List Int} {p : Pp} {m : Mo} {e : St × List Sy}
theorem yset_ce (K : Yc W0 W a bits p m e) (x y v : Int) : Calls Tryd.prog 43 #[.pointer (some ⟨a.A, 0, none⟩), .int .i64 x, .int .i64 y, .int .i64 v] W fun E W' => E = .returned (.int .i64 (setE p.w p.h x y v)) ∧ Yc W0 W' a bits p m (setQ p.w p.h e.1 x y v, e.2) ∧ Kt W W' :=
  (rset_c K.rb x y v).mono fun _ _ G => K.chg G (setQ_any _ _ _ _ _ _ K.ok)
theorem ymark_ce (K : Yc W0 W a bits p m e) (x y : Int) : Calls Tryd.prog 45 #[.pointer (some ⟨a.A, 0, none⟩), .int .i64 x, .int .i64 y] W fun E W' => E = .returned (.int .i64 (atE p.w p.h x y)) ∧ Yc W0 W' a bits p m (markQ p.w p.h e.1 x y, e.2) ∧ Kt W W' :=
  (rmark_c K.rb x y).mono fun _ _ G => K.chg G (by rw [markQ_v]; exact K.ok)
theorem ytouch_ce (K : Yc W0 W a bits p m e) (x y : Int) (b : Bool) : Calls Tryd.prog 47 #[.pointer (some ⟨a.A, 0, none⟩), .int .i64 x, .int .i64 y, .bool b] W fun E W' => E = .returned (.int .i64 (atE p.w p.h x y)) ∧ Yc W0 W' a bits p m (dtouchS p e x y b) ∧ Kt W W' :=
  (rtouch_c K.rb x y b).mono fun _ _ G => K.chg G (by rw [touchQ_v]; exact K.ok)
theorem yrefine_ce (K : Yc W0 W a bits p m e) (x y : Int) : Calls Tryd.prog 49 #[.pointer (some ⟨a.A, 0, none⟩), .int .i64 x, .int .i64 y] W fun E W' => E = .returned (.int .i64 (atE p.w p.h x y)) ∧ Yc W0 W' a bits p m (refineQ p.w p.h e.1 x y, e.2) ∧ Kt W W' :=
  (rrefine_c K.rb x y).mono fun _ _ G => K.chg G (by rw [refineQ_v]; exact K.ok)
end
set_option maxHeartbeats 8000000 in
theorem ysign_c {W0 W : World} {a : Ady} {bits : List Int} {p : Pp} {m : Mo} {e : St × List Sy} (H : Yc W0 W a bits p m e) (x y : Int) (hin : inB p.w p.h x y) (hl : e.2.length ≤ 1000000) : Calls Tryd.prog 144 #[.pointer (some ⟨a.P, 0, none⟩), .int .i64 x, .int .i64 y] W (YG W0 W a bits p m (dsignS p (bitO bits) e x y)) := by
  obtain ⟨C, hC⟩ : ∃ C, C = sgnC p e.1 x y := ⟨_, rfl⟩
  obtain ⟨F, hF⟩ : ∃ F, F = Cx.sgF (Cx.l1 (sgH e.1 x y)) (Cx.l1 (sgV e.1 x y p.c)) := ⟨_, rfl⟩
  obtain ⟨FF, hFF⟩ : ∃ FF, FF = sgnF p e.1 x y := ⟨_, rfl⟩
  obtain ⟨N, hN⟩ : ∃ N, N = askB p (bitO bits) e C := ⟨_, rfl⟩
  have hF01 : FF = 0 ∨ FF = 1 := by rw [hFF]; exact sgnF_in _ _ _ _
  have hN01 : N = 0 ∨ N = 1 := by rw [hN]; exact askB_in _ _ _ _
  obtain ⟨vv, hvv⟩ : ∃ v, v = valM p N FF := ⟨_, rfl⟩
  have EQ : dsignS p (bitO bits) e x y = (markQ p.w p.h (setQ p.w p.h (askE p (bitO bits) e C).1 x y vv) x y, (askE p (bitO bits) e C).2) := by unfold dsignS; rw [hvv, hN, hC, hFF]; rfl
  have k3 : ∀ W, Calls Tryd.prog 134 #[.int .i64 (sgH e.1 x y), .int .i64 (sgV e.1 x y p.c)] W fun e w' => e = .returned (.tuple #[.int .i64 C, .int .i64 F]) ∧ W = w' := fun W => by rw [hC, hF]; exact xsgn_c _ _ W
  rw [EQ]
  have X0 := xor01 N FF hN01 hF01
  have kp := fun W (K : Yc W0 W a bits p m e) => yask_c K C hl
  rw [← hN] at kp
  have ksg := fun W (K : Yc W0 W a bits p m e) => rsgs_y K.rb x y p.c hin
  have ks := fun W (K : Yc W0 W a bits p m (askE p (bitO bits) e C)) => yset_ce K x y vv
  have km := fun W (K : Yc W0 W a bits p m (setQ p.w p.h (askE p (bitO bits) e C).1 x y vv, (askE p (bitO bits) e C).2)) => ymark_ce K x y
  have fC : p.raw = true → FF = 0 := fun h => by rw [hFF]; unfold sgnF; rw [if_pos h]
  have fD : p.raw = false → FF = F := fun h => by rw [hFF, hF]; unfold sgnF; rw [if_neg (by rw [h]; decide)]
  have fN : xorM N FF = 1 → vv = -(2 ^ p.s) := fun h => by rw [hvv]; unfold valM wgt; rw [if_pos h]
  have fM : ¬ xorM N FF = 1 → vv = 2 ^ p.s := fun h => by rw [hvv]; unfold valM wgt; rw [if_neg h]
  obtain ⟨g1, g2⟩ := wgt_in p.s H.hs
  have ws : IntKind.i64.wrap (2 ^ p.s) = 2 ^ p.s := by rw [IntWalk.i64_left]; unfold wrap64; omega
  have wn : IntKind.i64.wrap (-(2 ^ p.s)) = -(2 ^ p.s) := by rw [IntWalk.i64_left]; unfold wrap64; omega
  have wu : IntKind.u64.wrap (p.s : Int) = (p.s : Int) := by have := H.hs; unfold IntKind.wrap; simp [IntKind.bits, IntKind.signed]; omega
  have hs := H.hs
  have hmin : min p.s 64 = p.s := by omega
  obtain ⟨raw, hraw⟩ : ∃ r, r = p.raw := ⟨_, rfl⟩
  have fc8 : ∀ W, Yc W0 W a bits p m e → W.cell? ⟨a.P, 8, none⟩ = some (.bool raw) := fun W K => by rw [hraw]; exact K.cells.2.2.2.2.2
  have fcs : ∀ W e, Yc W0 W a bits p m e → W.cell? ⟨a.P, 0, none⟩ = some (.pointer (some ⟨a.A, 0, none⟩)) ∧ W.cell? ⟨a.P, 1, none⟩ = some (.int .i64 (p.s : Int)) := fun W e K => ⟨K.cells.1, K.cells.2.1⟩
  rw [← hraw] at fC fD
  have hX := xorM_in N FF
  have HH := Lib.hid (H.below (Below.refl W.heap.size W).drew)
  have K0 := Lib.hid (kt_below (Below.refl W.heap.size W).drew)
  clear hC hF hFF hN EQ H hin hl hF01 hN01 hraw hvv
  obtain ⟨c0, -, -, c6, -, -⟩ := HH.out.cells
  have ks1 := ksg _ HH.out
  generalize askE p (bitO bits) e C = e1 at *
  generalize sgH e.1 x y = sh at *
  generalize sgV e.1 x y p.c = sv at *
  generalize atE p.w p.h x y = am at *
  generalize setE p.w p.h x y vv = am2 at *
  generalize hXX : xorM N FF = XX at *
  cases raw <;> rcases hX with hX | hX
  all_goals
    first | (have e1 := fC rfl; subst e1) | (have e1 := fD rfl; subst e1)
    subst hX
    first | (have e2 := fN rfl; subst e2) | (have e2 := fM (by decide); subst e2)
    clear fC fD fN fM hXX
    go_enter Tryd.func144, Tryd.ntmps144
    go_wp2_with fail
    go_region_held3 (fun w' => w'.cell? ⟨a.P, 0, none⟩ = some (.pointer (some ⟨a.A, 0, none⟩)) ∧ w'.cell? ⟨a.P, 6, none⟩ = some (.bool p.c))
      (first | (with_reducible exact ⟨c0, c6⟩) | (with_reducible exact ⟨d0, d6⟩) | fail)
      (first | (go_simp; go_at_call 133; (with_reducible refine ks1.mono ?_); rintro e w1 ⟨rfl, hb⟩; have H1 := Lib.hid (HH.out.below hb); have K1 := Lib.hid (K0.out.trans (kt_below hb)); obtain ⟨d0, -, -, d6, -, -⟩ := H1.out.cells; clear hb) | fail)
  all_goals
    have f8 := fc8 _ H1.out
    have kp1 := kp _ H1.out
    clear d0 d6 c0 c6
    go_wp2_with (first | (go_at_call 134; (with_reducible refine (k3 _).mono ?_); rintro e wn ⟨rfl, rfl⟩) | (go_at_call 137; (with_reducible refine kp1.mono ?_); rintro e w2 ⟨rfl, H2, K2⟩; have HH2 := Lib.hid H2; have KK2 := Lib.hid (K1.out.trans K2); clear H2 K2))
    have HD2 := Lib.hid (HH2.out.below (Below.refl _ _).drew)
    have KD2 := Lib.hid (KK2.out.trans (kt_below (Below.refl _ _).drew))
    obtain ⟨g0, g1⟩ := fcs _ _ HD2.out
    have ks2 := ks _ HD2.out
    go_region_held3 (fun w' => w'.cell? ⟨a.P, 0, none⟩ = some (.pointer (some ⟨a.A, 0, none⟩)) ∧ w'.cell? ⟨a.P, 1, none⟩ = some (.int .i64 (p.s : Int)))
      (first | (with_reducible exact ⟨g0, g1⟩) | (with_reducible exact ⟨i0, i1⟩) | fail)
      (first | (go_simp; go_at_call 43; (with_reducible refine ks2.mono ?_); rintro e w3 ⟨rfl, H3, K3⟩; have HH3 := Lib.hid H3; have KK3 := Lib.hid (KD2.out.trans K3); clear H3 K3; obtain ⟨i0, i1⟩ := fcs _ _ HH3.out) | fail)
  all_goals
    have km3 := km _ HH3.out
    go_wp2_with (first | (go_at_call 45; (with_reducible refine km3.mono ?_); rintro e w4 ⟨rfl, H4, K4⟩))
    go_end0
    exact ⟨rfl, H4, KK3.out.trans K4⟩
theorem bitO_len (bits : List Int) (t : List Sy) (c : Int) : (bitO bits t c).2.length = t.length + 1 := by show (t ++ [_]).length = _; simp
set_option maxHeartbeats 4000000 in
theorem ycode_c {W0 W : World} {a : Ady} {bits : List Int} {p : Pp} {m : Mo} {e : St × List Sy} (H : Yc W0 W a bits p m e) (x y : Int) (hin : inB p.w p.h x y) (hl : e.2.length ≤ 999999) : Calls Tryd.prog 136 #[.pointer (some ⟨a.P, 0, none⟩), .int .i64 x, .int .i64 y] W (YG W0 W a bits p m (drestS p (bitO bits) e x y)) := by
  have HD := H.below (Below.refl W.heap.size W).drew
  obtain ⟨c0, -, -, c6, -, -⟩ := HD.cells
  have kn := rnb_y HD.rb x y p.c hin
  have EQ0 : drestS p (bitO bits) e x y = if askB p (bitO bits) e (sigC p e.1 x y) = 1 then dsignS p (bitO bits) (askE p (bitO bits) e (sigC p e.1 x y)) x y else askE p (bitO bits) e (sigC p e.1 x y) := rfl
  obtain ⟨C, hC⟩ : ∃ c, c = sigC p e.1 x y := ⟨_, rfl⟩
  rw [← hC] at EQ0
  obtain ⟨bt, hbt⟩ : ∃ b, b = askB p (bitO bits) e C := ⟨_, rfl⟩
  rw [← hbt] at EQ0
  have hb01 : bt = 0 ∨ bt = 1 := by rw [hbt]; exact askB_in _ _ _ _
  have kg : ∀ W, Calls Tryd.prog 118 #[.int .i64 p.o, .int .i64 (nbH e.1 x y), .int .i64 (nbV e.1 x y p.c), .int .i64 (nbD e.1 x y p.c)] W fun e w' => e = .returned (.int .i64 C) ∧ W = w' := fun W => by rw [hC]; exact Cx.sigR_c _ _ _ _ W
  have kp := fun W (K : Yc W0 W a bits p m e) => yask_c K C (by omega)
  rw [← hbt] at kp
  have ks := fun W (K : Yc W0 W a bits p m (askE p (bitO bits) e C)) => ysign_c K x y hin (by show (bitO bits e.2 (cxP p C)).2.length ≤ _; rw [bitO_len]; omega)
  rw [EQ0]
  have HH := Lib.hid HD
  have K0 := Lib.hid (kt_below (Below.refl W.heap.size W).drew)
  clear hC hbt EQ0 hin hl H HD
  generalize nbH e.1 x y = n1 at *
  generalize nbV e.1 x y p.c = n2 at *
  generalize nbD e.1 x y p.c = n3 at *
  generalize dsignS p (bitO bits) (askE p (bitO bits) e C) x y = e2 at *
  generalize askE p (bitO bits) e C = e1 at *
  rcases hb01 with rfl | rfl
  all_goals
    first | rw [if_pos rfl] | rw [if_neg (by decide)]
    go_enter Tryd.func136, Tryd.ntmps136
    go_wp2_with fail
    go_region_held3 (fun w' => w'.cell? ⟨a.P, 0, none⟩ = some (.pointer (some ⟨a.A, 0, none⟩)) ∧ w'.cell? ⟨a.P, 6, none⟩ = some (.bool p.c))
      (first | (with_reducible exact ⟨c0, c6⟩) | (with_reducible exact ⟨d0, d6⟩) | fail)
      (first | (go_simp; go_at_call 117; (with_reducible refine kn.mono ?_); rintro e w1 ⟨rfl, hb⟩; have H1 := Lib.hid (HH.out.below hb); have K1 := Lib.hid (K0.out.trans (kt_below hb)); obtain ⟨d0, -, -, d6, -, -⟩ := H1.out.cells; clear hb) | fail)
  all_goals
    clear d0 d6 c0 c6
    obtain ⟨-, -, c2, -, -, -⟩ := H1.out.cells
    have kp1 := kp _ H1.out
    first
      | (go_wp2_with (first | (go_at_call 118; (with_reducible refine (kg _).mono ?_); rintro e wn ⟨rfl, rfl⟩) | (go_at_call 137; (with_reducible refine kp1.mono ?_); rintro e w2 ⟨rfl, H2, K2⟩; have HH2 := Lib.hid H2; have KK2 := Lib.hid (K1.out.trans K2); have ks2 := ks _ H2; clear H2 K2) | (go_at_call 144; (with_reducible refine ks2.mono ?_); rintro e w3 ⟨rfl, H3, K3⟩))
         go_end0
         first | exact ⟨rfl, H3, KK2.out.trans K3⟩ | exact ⟨rfl, HH2.out, KK2.out⟩)
end Go.Proofs.YtbhjapgioaiocaaDoor
