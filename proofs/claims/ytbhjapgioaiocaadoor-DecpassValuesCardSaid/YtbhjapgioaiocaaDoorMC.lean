/-
  Layer 16: the coder of the decoder in memory, over any function that answers; ask, near.
  Layer 16: signs, bits with their signs, quiet columns.
-/
import Derived.Test.YtbhjapgioaiocaaDoorMA
import Derived.Test.YtbhjapgioaiocaaDoorEn
set_option maxRecDepth 100000
namespace Go.Proofs.YtbhjapgioaiocaaDoor
open Go.RowKit

/-- What a call leaves as it is: the blocks below lo but those of a list; above, all that the function that answers does not change. -/
structure Kd (fp : List Nat) (lo : Nat) (ex : Nat → TypeId → Prop) (W W' : World) : Prop where
  os : W'.os = W.os
  tape : W'.tape = W.tape
  output : W'.output = W.output
  size : W.heap.size ≤ W'.heap.size
  old : ∀ k, k < lo → k < W.heap.size → k ∉ fp → W'.heap[k]? = W.heap[k]?
  blk : ∀ k t cs, Blk W k t cs → k ∉ fp → ¬ ex k t → Blk W' k t cs
section
variable {fp : List Nat} {lo : Nat} {ex : Nat → TypeId → Prop} {W W1 W2 : World}
theorem Kd.refl (W : World) : Kd fp lo ex W W := ⟨rfl, rfl, rfl, Nat.le_refl _, fun _ _ _ _ => rfl, fun _ _ _ h _ _ => h⟩
theorem Kd.trans (h : Kd fp lo ex W W1) (h' : Kd fp lo ex W1 W2) : Kd fp lo ex W W2 := ⟨h'.os.trans h.os, h'.tape.trans h.tape, h'.output.trans h.output, Nat.le_trans h.size h'.size, fun k hk hs hf => (h'.old k hk (Nat.lt_of_lt_of_le hs h.size) hf).trans (h.old k hk hs hf), fun k t cs hb hf he => h'.blk k t cs (h.blk k t cs hb hf he) hf he⟩
theorem Kd.of_kb (h : Kb fp W W1) : Kd fp lo ex W W1 := ⟨h.os, h.tape, h.output, h.size, fun k _ hs hf => h.block k hs hf, fun k _ _ hb hf _ => (h.block k hb.lt hf).trans hb⟩
theorem Kd.more (h : Kd [] lo ex W W1) : Kd fp lo ex W W1 := ⟨h.os, h.tape, h.output, h.size, fun k hk hs _ => h.old k hk hs (by simp), fun k t cs hb _ he => h.blk k t cs hb (by simp) he⟩
theorem Kd.of_below (h : Below W.heap.size W W1) : Kd fp lo ex W W1 := Kd.of_kb (Kb.of_below _ h)
end
/-- A function that answers questions, with what it keeps in memory. -/
structure Ora (σ : Type) where
  fp : List Nat
  lo : Nat
  hi : Nat
  ex : Nat → TypeId → Prop
  f : Nat
  caps : Array Value
  A : Orc σ
  I : World → σ → Prop
  cnt : σ → Nat
  eg : ∀ args w, (callFunc f args).run Tryd.prog w = .ok (.enter f args) w
  keep : ∀ {W W' : World} {s : σ}, I W s → Kb fp W W' → I W' s
  call : ∀ {W : World} {s : σ} (c : Int), I W s → cnt s ≤ 1000000 → Calls Tryd.prog f (#[.int .i64 c] ++ caps) W fun E W' => E = .returned (.int .i64 (A s c).1) ∧ I W' (A s c).2 ∧ Kd [] lo ex W W'
  hcnt : ∀ s c, cnt (A s c).2 ≤ cnt s + 1
  exlo : ∀ k t, ex k t → lo ≤ k
  exhi : ∀ k t, ex k t → k < hi ∨ t = 3
  exP : ∀ k, ¬ ex k 113
/-- The coder's six cells. -/
def dcV (A G L : Nat) (p : Pp) : Array Value := #[.pointer (some ⟨A, 0, none⟩), .int .i64 (p.s : Int), .int .i64 p.o, .bool p.c, .bool p.raw, .func (.func 78) #[] #[.pointer (some ⟨G, 0, none⟩), .pointer (some ⟨L, 0, none⟩)]]
/-- The coder of the decoder. -/
structure Dc {σ : Type} (O : Ora σ) (W0 W : World) (a : Adr) (p : Pp) (e : St × σ) : Prop where
  cb : Cb W a.B a.A a.V a.S a.T a.R p.w p.h e.1
  tabs : Cx.Tabs W
  pc : Blk W a.P 103 (dcV a.A a.G a.L p)
  pg : Blk W a.G 4 #[.bool p.raw]
  pn : Blk W a.L 74 #[.func (.func O.f) #[] O.caps]
  oi : O.I W e.2
  ok : OkS e
  hs : p.s ≤ 59
  hB : 3 ≤ a.B
  lo : ∀ k, k ∈ [a.A, a.V, a.S, a.T, a.R] → k < O.lo
  hi : O.hi ≤ a.P ∧ O.hi ≤ a.G ∧ O.hi ≤ a.L
  fpe : O.fp = [a.V, a.S, a.T, a.R]
  hlh : O.lo ≤ O.hi
  kd : Kd O.fp O.lo O.ex W0 W
section
variable {σ : Type} {O : Ora σ} {W0 W W' : World} {a : Adr} {p : Pp} {e : St × σ}
theorem tabs_old {W W' : World} (h : Cx.Tabs W) (hc : ∀ b, b < 3 → W'.heap[b]? = W.heap[b]?) : Cx.Tabs W' := by
  have hc : ∀ (b o : Nat) (v : Value), b < 3 → W.cell? ⟨b, o, none⟩ = some v → W'.cell? ⟨b, o, none⟩ = some v := fun b o v hb h => by
    rw [World.cell?_of_block (a := ⟨b, o, none⟩) (hc b hb)]
    exact h
  exact ⟨fun d n hd hn => hc _ _ _ (by decide) (h.dia d n hd hn), fun p s d hp hs hd => hc _ _ _ (by decide) (h.str p s d hp hs hd), fun x y hx hy => ⟨hc _ _ _ (by decide) (h.sgn x y hx hy).1, hc _ _ _ (by decide) (h.sgn x y hx hy).2⟩⟩
theorem Dc.below (H : Dc O W0 W a p e) (hb : Below W.heap.size W W') : Dc O W0 W' a p e :=
  ⟨H.cb.below hb, H.tabs.below hb, H.pc.below hb, H.pg.below hb, H.pn.below hb, O.keep H.oi (Kb.of_below _ hb), H.ok, H.hs, H.hB, H.lo, H.hi, H.fpe, H.hlh, H.kd.trans (Kd.of_below hb)⟩
theorem Dc.dn (H : Dc O W0 W a p e) (hd : Dn W W') : Dc O W0 W' a p e := H.below hd.below
theorem Dc.fp (H : Dc O W0 W a p e) (k : Nat) (hk : k ∈ [a.V, a.S, a.T, a.R]) : 3 ≤ k ∧ k < O.lo := by
  have h1 := H.lo k (List.mem_cons_of_mem _ hk)
  have h2 := H.hB
  have v1 := H.cb.geV
  have v2 := H.cb.geS
  have v3 := H.cb.geT
  have v4 := H.cb.geR
  simp at hk
  omega
theorem Dc.len (H : Dc O W0 W a p e) : p.w ≤ 64 ∧ p.h ≤ 64 := by have := H.cb.fit; unfold fits at this; omega
/-- The block is changed. -/
theorem Dc.chg (H : Dc O W0 W a p e) {q : St} {c : Int} {E : Ending} (G : CGives a.B a.A a.V a.S a.T a.R p.w p.h q c W E W') (hv : ∀ x y, okV (q.v x y)) : E = .returned (.int .i64 c) ∧ Dc O W0 W' a p (q, e.2) ∧ Kt W W' := by
  obtain ⟨h1, h2, h3⟩ := G
  have far : ∀ k, O.hi ≤ k → k ∉ [a.V, a.S, a.T, a.R] := fun k hk hm => by have := (H.fp k hm).2; have := H.hlh; omega
  have h3' : Kb O.fp W W' := by rw [H.fpe]; exact h3
  refine ⟨h1, ⟨h2, tabs_kb H.tabs h3 (fun k hk => (H.fp k hk).1), (h3.block _ H.pc.lt (far _ H.hi.1)).trans H.pc, (h3.block _ H.pg.lt (far _ H.hi.2.1)).trans H.pg, (h3.block _ H.pn.lt (far _ H.hi.2.2)).trans H.pn,
    O.keep H.oi h3', hv, H.hs, H.hB, H.lo, H.hi, H.fpe, H.hlh, H.kd.trans (Kd.of_kb h3')⟩, fun k cs hb => (h3.block k hb.lt ?_).trans hb⟩
  have n1 := fun e => H.cb.gv.neb hb (by decide) e
  have n2 := fun e => H.cb.gs.neb hb (by decide) e
  have n3 := fun e => H.cb.gt.neb hb (by decide) e
  have n4 := fun e => H.cb.gr.neb hb (by decide) e
  simp
  exact ⟨fun e => n1 e.symm, fun e => n2 e.symm, fun e => n3 e.symm, fun e => n4 e.symm⟩
/-- The function that answers was called. -/
theorem Dc.asked (H : Dc O W0 W a p e) {s : σ} (hi : O.I W' s) (hk : Kd [] O.lo O.ex W W') : Dc O W0 W' a p (e.1, s) ∧ Kt W W' := by
  have old : ∀ k, k ∈ [a.A, a.V, a.S, a.T, a.R] → k < W.heap.size → W'.heap[k]? = W.heap[k]? := fun k hm hs => hk.old k (H.lo k hm) hs (by simp)
  have hA := H.lo a.A (by simp)
  have gA := H.cb.geA
  have hB := H.hB
  have nex : ∀ k t, O.hi ≤ k → t ≠ 3 → ¬ O.ex k t := fun k t h1 h2 he => by
    rcases O.exhi k t he with h | h
    · omega
    · exact h2 h
  exact ⟨⟨H.cb.keep (old _ (by simp) H.cb.obj.lt) (old _ (by simp) H.cb.gv.lt) (old _ (by simp) H.cb.gs.lt) (old _ (by simp) H.cb.gt.lt) (old _ (by simp) H.cb.gr.lt),
    tabs_old H.tabs (fun b hb => hk.old b (by omega) (by have := tabs_lt H.tabs; omega) (by simp)),
    hk.blk _ _ _ H.pc (by simp) (nex _ _ H.hi.1 (by decide)), hk.blk _ _ _ H.pg (by simp) (nex _ _ H.hi.2.1 (by decide)), hk.blk _ _ _ H.pn (by simp) (nex _ _ H.hi.2.2 (by decide)),
    hi, H.ok, H.hs, H.hB, H.lo, H.hi, H.fpe, H.hlh, H.kd.trans hk.more⟩, fun k cs hb => hk.blk _ _ _ hb (by simp) (O.exP k)⟩
end
theorem dc_cells {W : World} {P A G L : Nat} {p : Pp} (K : Blk W P 103 (dcV A G L p)) : W.cell? ⟨P, 0, none⟩ = some (.pointer (some ⟨A, 0, none⟩)) ∧ W.cell? ⟨P, 1, none⟩ = some (.int .i64 (p.s : Int)) ∧ W.cell? ⟨P, 2, none⟩ = some (.int .i64 p.o) ∧ W.cell? ⟨P, 3, none⟩ = some (.bool p.c) ∧ W.cell? ⟨P, 4, none⟩ = some (.bool p.raw) ∧ W.cell? ⟨P, 5, none⟩ = some (.func (.func 78) #[] #[.pointer (some ⟨G, 0, none⟩), .pointer (some ⟨L, 0, none⟩)]) :=
  ⟨K.cell 0, K.cell 1, K.cell 2, K.cell 3, K.cell 4, K.cell 5⟩
/-- What a call of the coder leaves. -/
def DG {σ : Type} (O : Ora σ) (W0 W : World) (a : Adr) (p : Pp) (e : St × σ) (E : Ending) (W' : World) : Prop := E = .returned (.tuple #[]) ∧ Dc O W0 W' a p e ∧ Kt W W'
set_option maxHeartbeats 1000000 in
theorem dask_c {σ : Type} {O : Ora σ} {W0 W : World} {a : Adr} {p : Pp} {e : St × σ} (H : Dc O W0 W a p e) (c : Int) (hl : O.cnt e.2 ≤ 1000000) : Calls Tryd.prog 78 #[.int .i64 c, .pointer (some ⟨a.G, 0, none⟩), .pointer (some ⟨a.L, 0, none⟩)] W fun E W' => E = .returned (.int .i64 (askB p O.A e c)) ∧ Dc O W0 W' a p (askE p O.A e c) ∧ Kt W W' := by
  have c0 : W.cell? ⟨a.G, 0, none⟩ = some (.bool p.raw) := H.pg.cell 0
  have c1 : W.cell? ⟨a.L, 0, none⟩ = some (.func (.func O.f) #[] O.caps) := H.pn.cell 0
  have eg := O.eg
  have kc := fun c => (O.call c H.oi hl).mono fun E W' (z : E = .returned (.int .i64 (O.A e.2 c).1) ∧ O.I W' (O.A e.2 c).2 ∧ Kd [] O.lo O.ex W W') => (⟨z.1, H.asked z.2.1 z.2.2⟩ : E = .returned (.int .i64 (O.A e.2 c).1) ∧ Dc O W0 W' a p (e.1, (O.A e.2 c).2) ∧ Kt W W')
  have eB : askB p O.A e c = bitA (O.A e.2 (cxP p c)).1 := rfl
  have eE : askE p O.A e c = (e.1, (O.A e.2 (cxP p c)).2) := rfl
  rw [eB, eE]
  obtain ⟨raw, hraw⟩ : ∃ r, r = p.raw := ⟨_, rfl⟩
  have ecx : cxP p c = if raw then -1 else c := by unfold cxP; rw [hraw]
  rw [← hraw] at c0
  rw [ecx]
  have kc := kc (if raw then -1 else c)
  obtain ⟨f, hf⟩ : ∃ f, f = O.f := ⟨_, rfl⟩
  obtain ⟨cp, hcp⟩ : ∃ f, f = O.caps := ⟨_, rfl⟩
  rw [← hf, ← hcp] at c1 kc
  rw [← hf] at eg
  generalize O.A e.2 (if raw then -1 else c) = r at *
  obtain ⟨b, s⟩ := r
  simp only at kc ⊢
  clear ecx hraw H hl eB eE hf hcp
  unfold bitA
  cases raw <;> by_cases hb : b = 0
  all_goals
    first | rw [if_pos hb] | rw [if_neg hb]
    try subst hb
    simp only [Bool.false_eq_true, if_false, if_true] at kc
    go_enter Tryd.func78, Tryd.ntmps78
    go_wp2_with (first | (go_at_fn f; (with_reducible refine kc.mono ?_); rintro e wn ⟨rfl, H2, K2⟩; have H2 := Lib.hid H2))
    go_ret
    exact ⟨rfl, H2.out, K2⟩
theorem dnear_c {W : World} {B A V S T R P G L : Nat} {q : St} {p : Pp} (H : Cb W B A V S T R p.w p.h q) (K : Blk W P 103 (dcV A G L p)) (x y : Int) (hin : inB p.w p.h x y) : Calls Tryd.prog 106 #[.pointer (some ⟨P, 0, none⟩), .int .i64 x, .int .i64 y] W fun e w' => e = .returned (.bool (nearQ p q x y)) ∧ ∃ m, w' = W.drewN m := by
  have c0 : W.cell? ⟨P, 0, none⟩ = some (.pointer (some ⟨A, 0, none⟩)) := K.cell 0
  have c3 : W.cell? ⟨P, 3, none⟩ = some (.bool p.c) := K.cell 3
  have kn := fun n => nb_y (H.below (drewN_below W n)) x y p.c hin
  have e : nearQ p q x y = decide (0 < nbH q x y + nbV q x y p.c + nbD q x y p.c) := rfl
  rw [e]
  have hN : ∃ a b c : Int, a = nbH q x y ∧ b = nbV q x y p.c ∧ c = nbD q x y p.c ∧ 0 ≤ a ∧ a ≤ 2 ∧ 0 ≤ b ∧ b ≤ 2 ∧ 0 ≤ c ∧ c ≤ 4 := by
    refine ⟨_, _, _, rfl, rfl, rfl, ?_⟩
    unfold nbH nbV nbD
    have a1 := cn_in q (x - 1) (y - 1)
    have a2 := cn_in q x (y - 1)
    have a3 := cn_in q (x + 1) (y - 1)
    have a4 := cn_in q (x - 1) y
    have a6 := cn_in q (x + 1) y
    have a7 := cn_in q (x - 1) (y + 1)
    have a8 := cn_in q x (y + 1)
    have a9 := cn_in q (x + 1) (y + 1)
    refine ⟨by omega, by omega, ?_, ?_, ?_, ?_⟩
    all_goals (cases hid y p.c <;> simp <;> omega)
  obtain ⟨a, b, c, ea, eb, ec, a1, a2, b1, b2, c1, c2⟩ := hN
  rw [← ea, ← eb, ← ec] at kn ⊢
  have w1 : IntKind.i64.wrap (a + b) = a + b := by rw [IntWalk.i64_left]; unfold wrap64; omega
  have w2 : IntKind.i64.wrap (a + b + c) = a + b + c := by rw [IntWalk.i64_left]; unfold wrap64; omega
  clear ea eb ec a1 a2 b1 b2 c1 c2 H K e hin
  go_enter Tryd.func106, Tryd.ntmps106
  go_wp2_with fail
  go_quiet ((go_at_call 112; exact Calls.quiet_of (kn _)))
  go_wp2_with fail
  go_ret
  exact ⟨rfl, _, rfl⟩
end Go.Proofs.YtbhjapgioaiocaaDoor
set_option maxRecDepth 100000
namespace Go.Proofs.YtbhjapgioaiocaaDoor
open Go.RowKit

section
variable {σ : Type} {O : Ora σ}
theorem dset_ce {W0 W : World} {a : Adr} {p : Pp} {e : St × σ} (K : Dc O W0 W a p e) (x y v : Int) : Calls Tryd.prog 42 #[.pointer (some ⟨a.A, 0, none⟩), .int .i64 x, .int .i64 y, .int .i64 v] W fun E W' => E = .returned (.int .i64 (setE p.w p.h x y v)) ∧ Dc O W0 W' a p (setQ p.w p.h e.1 x y v, e.2) ∧ Kt W W' :=
  (set_c K.cb x y v).mono fun _ _ G => K.chg G (setQ_any _ _ _ _ _ _ K.ok)
theorem dmark_ce {W0 W : World} {a : Adr} {p : Pp} {e : St × σ} (K : Dc O W0 W a p e) (x y : Int) : Calls Tryd.prog 44 #[.pointer (some ⟨a.A, 0, none⟩), .int .i64 x, .int .i64 y] W fun E W' => E = .returned (.int .i64 (atE p.w p.h x y)) ∧ Dc O W0 W' a p (markQ p.w p.h e.1 x y, e.2) ∧ Kt W W' :=
  (mark_c K.cb x y).mono fun _ _ G => K.chg G (by rw [markQ_v]; exact K.ok)
theorem dtouch_ce {W0 W : World} {a : Adr} {p : Pp} {e : St × σ} (K : Dc O W0 W a p e) (x y : Int) (b : Bool) : Calls Tryd.prog 46 #[.pointer (some ⟨a.A, 0, none⟩), .int .i64 x, .int .i64 y, .bool b] W fun E W' => E = .returned (.int .i64 (atE p.w p.h x y)) ∧ Dc O W0 W' a p (dtouchS p e x y b) ∧ Kt W W' :=
  (touch_c K.cb x y b).mono fun _ _ G => K.chg G (by rw [touchQ_v]; exact K.ok)
theorem drefine_ce {W0 W : World} {a : Adr} {p : Pp} {e : St × σ} (K : Dc O W0 W a p e) (x y : Int) : Calls Tryd.prog 48 #[.pointer (some ⟨a.A, 0, none⟩), .int .i64 x, .int .i64 y] W fun E W' => E = .returned (.int .i64 (atE p.w p.h x y)) ∧ Dc O W0 W' a p (refineQ p.w p.h e.1 x y, e.2) ∧ Kt W W' :=
  (refine_c K.cb x y).mono fun _ _ G => K.chg G (by rw [refineQ_v]; exact K.ok)
theorem wgt_in (s : Nat) (hs : s ≤ 59) : (1 : Int) ≤ 2 ^ s ∧ (2 : Int) ^ s ≤ 576460752303423488 := by
  have h1 := Nat.two_pow_pos s
  have h2 := Nat.pow_le_pow_right (show 0 < 2 by decide) hs
  constructor
  · have : ((1 : Nat) : Int) ≤ ((2 ^ s : Nat) : Int) := by exact_mod_cast h1
    simpa using this
  · have : ((2 ^ s : Nat) : Int) ≤ ((2 ^ 59 : Nat) : Int) := by exact_mod_cast h2
    simpa using this
set_option maxHeartbeats 4000000 in
theorem dsign_c {W0 W : World} {a : Adr} {p : Pp} {e : St × σ} (H : Dc O W0 W a p e) (x y : Int) (hin : inB p.w p.h x y) (hl : O.cnt e.2 ≤ 1000000) : Calls Tryd.prog 123 #[.pointer (some ⟨a.P, 0, none⟩), .int .i64 x, .int .i64 y] W (DG O W0 W a p (dsignS p O.A e x y)) := by
  have HD := H.below (Below.refl W.heap.size W).drew
  obtain ⟨c0, -, -, c3, -, -⟩ := dc_cells HD.pc
  have k1 := sgs_y HD.cb x y p.c hin
  have k2 := fun W T => Cx.sgn_c (sgH e.1 x y) (sgV e.1 x y p.c) W T
  have T0 := HD.tabs
  have HH := Lib.hid HD
  obtain ⟨C, hC⟩ : ∃ C, C = sgnC p e.1 x y := ⟨_, rfl⟩
  obtain ⟨F, hF⟩ : ∃ F, F = Cx.sgF (Cx.l1 (sgH e.1 x y)) (Cx.l1 (sgV e.1 x y p.c)) := ⟨_, rfl⟩
  obtain ⟨FF, hFF⟩ : ∃ FF, FF = sgnF p e.1 x y := ⟨_, rfl⟩
  obtain ⟨N, hN⟩ : ∃ N, N = askB p O.A e C := ⟨_, rfl⟩
  have hF01 : FF = 0 ∨ FF = 1 := by rw [hFF]; exact sgnF_in _ _ _ _
  have hN01 : N = 0 ∨ N = 1 := by rw [hN]; exact askB_in _ _ _ _
  obtain ⟨vv, hvv⟩ : ∃ v, v = valM p N FF := ⟨_, rfl⟩
  have EQ : dsignS p O.A e x y = (markQ p.w p.h (setQ p.w p.h (askE p O.A e C).1 x y vv) x y, (askE p O.A e C).2) := by unfold dsignS; rw [hvv, hN, hC, hFF]; rfl
  have k3 : ∀ W T, Calls Tryd.prog 127 #[.int .i64 (sgH e.1 x y), .int .i64 (sgV e.1 x y p.c)] W fun e w' => e = .returned (.tuple #[.int .i64 C, .int .i64 F]) ∧ Below W.heap.size W w' := fun W T => by rw [hC, hF]; exact k2 W T
  rw [EQ]
  have X0 := xor01 N FF hN01 hF01
  have kp := fun W (K : Dc O W0 W a p e) => dask_c K C hl
  rw [← hN] at kp
  have ks := fun W (K : Dc O W0 W a p (askE p O.A e C)) => dset_ce K x y vv
  have km := fun W (K : Dc O W0 W a p (setQ p.w p.h (askE p O.A e C).1 x y vv, (askE p O.A e C).2)) => dmark_ce K x y
  have fC : p.raw = true → FF = 0 := fun h => by rw [hFF]; unfold sgnF; rw [if_pos h]
  have fD : p.raw = false → FF = F := fun h => by rw [hFF, hF]; unfold sgnF; rw [if_neg (by rw [h]; decide)]
  have fN : xorM N FF = 1 → vv = -(2 ^ p.s) := fun h => by rw [hvv]; unfold valM wgt; rw [if_pos h]
  have fM : ¬ xorM N FF = 1 → vv = 2 ^ p.s := fun h => by rw [hvv]; unfold valM wgt; rw [if_neg h]
  obtain ⟨g1, g2⟩ := wgt_in p.s H.hs
  have ws : IntKind.i64.wrap (2 ^ p.s) = 2 ^ p.s := by rw [IntWalk.i64_left]; unfold wrap64; omega
  have wn : IntKind.i64.wrap (-(2 ^ p.s)) = -(2 ^ p.s) := by rw [IntWalk.i64_left]; unfold wrap64; omega
  have hs := H.hs
  obtain ⟨raw, hraw⟩ : ∃ r, r = p.raw := ⟨_, rfl⟩
  have fc4 : ∀ W, Dc O W0 W a p e → W.cell? ⟨a.P, 4, none⟩ = some (.bool raw) := fun W K => by rw [hraw]; exact K.pc.cell 4
  rw [← hraw] at fC fD
  have hX := xorM_in N FF
  clear hC hF hFF hN EQ k2 H HD hin hl hF01 hN01 hraw hvv
  generalize askE p O.A e C = e1 at *
  generalize sgH e.1 x y = sh at *
  generalize sgV e.1 x y p.c = sv at *
  generalize atE p.w p.h x y = am at *
  generalize setE p.w p.h x y vv = am2 at *
  generalize hXX : xorM N FF = XX at *
  cases raw <;> rcases hX with hX | hX
  all_goals
    first | (have e1 := fC rfl; subst e1) | (have e1 := fD rfl; subst e1)
    subst hX
    first | (have e2 := fN rfl; subst e2) | (have e2 := fM (by decide); subst e2)
    clear fC fD fN fM hXX
    go_enter Tryd.func123, Tryd.ntmps123
    go_wp2_with fail
    go_region_held3 (fun w' => w'.cell? ⟨a.P, 0, none⟩ = some (.pointer (some ⟨a.A, 0, none⟩)) ∧ w'.cell? ⟨a.P, 3, none⟩ = some (.bool p.c))
      (first | (with_reducible exact ⟨c0, c3⟩) | (with_reducible exact ⟨d0, d3⟩) | fail)
      (first | (go_simp; go_at_call 128; (with_reducible refine k1.mono ?_); rintro e wn ⟨rfl, rfl⟩) | (go_simp; go_at_call 127; (with_reducible refine (k3 _ T0).mono ?_); rintro e w1 ⟨rfl, hb⟩; have H1 := Lib.hid (HH.out.below hb); have K1 := Lib.hid (show Kt W w1 from kt_below (below_call (Below.refl W.heap.size W).drew hb)); obtain ⟨d0, -, -, d3, -, d5⟩ := dc_cells H1.out.pc) | fail)
  all_goals
    have f4 := fc4 _ H1.out
    have f1 : w1.cell? ⟨a.P, 1, none⟩ = some (.int .i64 (p.s : Int)) := H1.out.pc.cell 1
    have kp1 := kp _ H1.out
    clear hb
    go_wp2_with (first | (go_at_call 78; (with_reducible refine kp1.mono ?_); rintro e w2 ⟨rfl, H2, K2⟩; have HH2 := Lib.hid H2; have K2 := Lib.hid (K1.out.trans K2); clear H2; obtain ⟨g0, -, -, -, -, -⟩ := dc_cells HH2.out.pc) | (go_at_call 42; (with_reducible refine (ks _ HH2.out).mono ?_); rintro e w3 ⟨rfl, H3, K3⟩; have HH3 := Lib.hid H3; have K3 := Lib.hid (K2.out.trans K3); clear H3; obtain ⟨i0, -, -, -, -, -⟩ := dc_cells HH3.out.pc) | (go_at_call 44; (with_reducible refine (km _ HH3.out).mono ?_); rintro e w4 ⟨rfl, H4, K4⟩))
    go_end0
    exact ⟨rfl, H4, K3.out.trans K4⟩
set_option maxHeartbeats 4000000 in
theorem drest_c {W0 W : World} {a : Adr} {p : Pp} {e : St × σ} (H : Dc O W0 W a p e) (x y : Int) (hin : inB p.w p.h x y) (hl : O.cnt e.2 ≤ 999999) : Calls Tryd.prog 107 #[.pointer (some ⟨a.P, 0, none⟩), .int .i64 x, .int .i64 y] W (DG O W0 W a p (drestS p O.A e x y)) := by
  obtain ⟨c0, -, -, c3, -, -⟩ := dc_cells H.pc
  have kn := fun n => nb_y (H.cb.below (drewN_below W n)) x y p.c hin
  have HN := fun n => Lib.hid (H.dn (dn_mk W n))
  have EQ0 : drestS p O.A e x y = if askB p O.A e (sigC p e.1 x y) = 1 then dsignS p O.A (askE p O.A e (sigC p e.1 x y)) x y else askE p O.A e (sigC p e.1 x y) := rfl
  obtain ⟨C, hC⟩ : ∃ c, c = sigC p e.1 x y := ⟨_, rfl⟩
  rw [← hC] at EQ0
  obtain ⟨bt, hbt⟩ : ∃ b, b = askB p O.A e C := ⟨_, rfl⟩
  rw [← hbt] at EQ0
  have hb01 : bt = 0 ∨ bt = 1 := by rw [hbt]; exact askB_in _ _ _ _
  have kg : ∀ W, Dc O W0 W a p e → Calls Tryd.prog 113 #[.int .i64 p.o, .int .i64 (nbH e.1 x y), .int .i64 (nbV e.1 x y p.c), .int .i64 (nbD e.1 x y p.c)] W fun e w' => e = .returned (.int .i64 C) ∧ W = w' := fun W K => by rw [hC]; exact Cx.sig_c _ _ _ _ W K.tabs
  have kp := fun W (K : Dc O W0 W a p e) => dask_c K C (by omega)
  rw [← hbt] at kp
  have ks := fun W (K : Dc O W0 W a p (askE p O.A e C)) => dsign_c K x y hin (by have := O.hcnt e.2 (cxP p C); show O.cnt (O.A e.2 (cxP p C)).2 ≤ _; omega)
  rw [EQ0]
  clear hC hbt EQ0 hin hl H
  generalize nbH e.1 x y = n1 at *
  generalize nbV e.1 x y p.c = n2 at *
  generalize nbD e.1 x y p.c = n3 at *
  generalize dsignS p O.A (askE p O.A e C) x y = e2 at *
  generalize askE p O.A e C = e1 at *
  rcases hb01 with rfl | rfl
  all_goals
    first | rw [if_pos rfl] | rw [if_neg (by decide)]
    go_enter Tryd.func107, Tryd.ntmps107
    go_wp2_with fail
    go_quiet ((go_at_call 112; exact Calls.quiet_of (kn _)))
    have H1 := HN nq
    clear kn HN c0 c3
    have K0 := Lib.hid (kt_below (drewN_below W nq))
    generalize W.drewN nq = W1 at *
    go_wp2_with fail
    have HD := Lib.hid (H1.out.below (Below.refl W1.heap.size W1).drew)
    obtain ⟨-, -, c2, -, -, c5⟩ := dc_cells HD.out.pc
    have kg1 := kg _ HD.out
    have kp1 := kp _ HD.out
    go_region_held3 (fun w' => w'.cell? ⟨a.P, 2, none⟩ = some (.int .i64 p.o) ∧ w'.cell? ⟨a.P, 5, none⟩ = some (.func (.func 78) #[] #[.pointer (some ⟨a.G, 0, none⟩), .pointer (some ⟨a.L, 0, none⟩)]))
      (first | (with_reducible exact ⟨c2, c5⟩) | (with_reducible exact ⟨d2, d5⟩) | fail)
      (first | (go_simp; go_at_call 113; (with_reducible refine kg1.mono ?_); rintro e wn ⟨rfl, rfl⟩) | (go_simp; go_at_call 78; (with_reducible refine kp1.mono ?_); rintro e w2 ⟨rfl, H2, K2⟩; have HH2 := Lib.hid H2; have KK2 := Lib.hid (K0.out.trans ((kt_below (Below.refl W1.heap.size W1).drew).trans K2)); clear K2; obtain ⟨-, -, d2, -, -, d5⟩ := dc_cells H2.pc; clear H2) | fail)
  all_goals
    first
      | (have ks2 := ks _ HH2.out
         go_wp2_with (first | (go_at_call 123; (with_reducible refine ks2.mono ?_); rintro e w3 ⟨rfl, H3, K3⟩))
         go_end0
         exact ⟨rfl, H3, KK2.out.trans K3⟩)
      | (go_wp2_with fail
         go_end0
         exact ⟨rfl, HH2.out, KK2.out⟩)
set_option maxHeartbeats 4000000 in
theorem dinc_c {W0 W : World} {a : Adr} {p : Pp} {e : St × σ} (H : Dc O W0 W a p e) (x y : Int) : Calls Tryd.prog 108 #[.pointer (some ⟨a.P, 0, none⟩), .int .i64 x, .int .i64 y] W (DG O W0 W a p (dincQ p e.1 x y, e.2)) := by
  obtain ⟨c0, c1, -, -, -, -⟩ := dc_cells H.pc
  have kv := value_c H.cb x y
  obtain ⟨vv, hvv⟩ : ∃ v, v = e.1.v x y + if e.1.v x y < 0 then -(wgt p) else wgt p := ⟨_, rfl⟩
  have EQ : dincQ p e.1 x y = setQ p.w p.h e.1 x y vv := by rw [hvv]; rfl
  rw [EQ]
  have hok := H.ok x y
  unfold okV at hok
  obtain ⟨g1, g2⟩ := wgt_in p.s H.hs
  have ws : IntKind.i64.wrap (2 ^ p.s) = 2 ^ p.s := by rw [IntWalk.i64_left]; unfold wrap64; omega
  have wn : IntKind.i64.wrap (-(2 ^ p.s)) = -(2 ^ p.s) := by rw [IntWalk.i64_left]; unfold wrap64; omega
  have hs := H.hs
  have HH := Lib.hid H
  have ks := fun W (K : Dc O W0 W a p e) => dset_ce K x y vv
  unfold wgt at hvv
  clear H EQ
  generalize setE p.w p.h x y vv = am2 at *
  generalize e.1.v x y = v at *
  generalize p.s = s at *
  by_cases hv : v < 0
  · rw [if_pos hv] at hvv
    have w3 : IntKind.i64.wrap (v + -(2 ^ s)) = vv := by rw [hvv, IntWalk.i64_left]; unfold wrap64; omega
    have HV := Lib.hid hvv
    have G := Lib.hid (And.intro g1 g2)
    clear hvv g1 g2 hok
    go_enter Tryd.func108, Tryd.ntmps108
    go_wp2_with (first | (go_at_call 62; (with_reducible refine kv.mono ?_); rintro e wn ⟨rfl, rfl⟩) | (go_at_call 42; (with_reducible refine (ks _ HH.out).mono ?_); rintro e w3 ⟨rfl, H3, K3⟩))
    go_end0
    exact ⟨rfl, H3, K3⟩
  · rw [if_neg hv] at hvv
    have w3 : IntKind.i64.wrap (v + 2 ^ s) = vv := by rw [hvv, IntWalk.i64_left]; unfold wrap64; omega
    have HV := Lib.hid hvv
    have G := Lib.hid (And.intro g1 g2)
    clear hvv g1 g2 hok
    go_enter Tryd.func108, Tryd.ntmps108
    go_wp2_with (first | (go_at_call 62; (with_reducible refine kv.mono ?_); rintro e wn ⟨rfl, rfl⟩) | (go_at_call 42; (with_reducible refine (ks _ HH.out).mono ?_); rintro e w3 ⟨rfl, H3, K3⟩))
    go_end0
    exact ⟨rfl, H3, K3⟩
end
end Go.Proofs.YtbhjapgioaiocaaDoor
