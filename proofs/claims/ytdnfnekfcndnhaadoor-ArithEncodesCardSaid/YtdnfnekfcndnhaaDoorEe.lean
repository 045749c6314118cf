/-
  Layer 11, the code's encoder: Encode.
-/
import Derived.Test.YtdnfnekfcndnhaaDoorEd
set_option maxRecDepth 100000
namespace Go.Proofs.YtdnfnekfcndnhaaDoor
open Go.RowKit

theorem enc_no (w : World) (B a : Nat) (x : Am.X) (c b : Int) (h : Ec w B a x) (hc : ¬ (0 ≤ c ∧ c < x.1.length ∧ (b = 0 ∨ b = 1))) :
    Calls Tryd.prog 13 #[.pointer (some ⟨a, 0, none⟩), .int .i64 c, .int .i64 b] w fun e w' => e = .returned (.int .i64 2) ∧ w = w' := by
  obtain ⟨pv, hv, h⟩ := h
  obtain ⟨c0, c1, c2, c3, c4⟩ := h.r.cells
  obtain ⟨s, m, rfl⟩ := own_slice h.ps
  have hh := has_c w a s x.1.length m c c0
  have hib := isBit_c b
  cases hq : hasB x.1.length c with
  | false =>
    rw [hq] at hh
    clear h hc hq
    go_enter Tryd.func13, Tryd.ntmps13
    go_wp2_with (first | (go_at_call 27; refine (emade_y _ _ c1).mono ?_; rintro e wn ⟨rfl, rfl⟩) | (go_at_call 33; (with_reducible refine hh.mono ?_); rintro e wn ⟨rfl, rfl⟩))
    go_ret
    exact ⟨rfl, rfl⟩
  | true =>
    rw [hq] at hh
    have hb : bitB1 b = false := by
      simp [hasB] at hq
      simp [bitB1]
      refine ⟨fun e => hc ⟨hq.1, hq.2, .inl e⟩, fun e => hc ⟨hq.1, hq.2, .inr e⟩⟩
    rw [hb] at hib
    clear h hc hq hb
    go_enter Tryd.func13, Tryd.ntmps13
    go_wp2_with (first | (go_at_call 27; refine (emade_y _ _ c1).mono ?_; rintro e wn ⟨rfl, rfl⟩) | (go_at_call 33; (with_reducible refine hh.mono ?_); rintro e wn ⟨rfl, rfl⟩) | (go_at_call 34; (with_reducible refine (hib _).mono ?_); rintro e wn ⟨rfl, rfl⟩))
    go_ret
    exact ⟨rfl, rfl⟩
/-- append to a row of the call's own, as one step of a region that draws; where the new row lies. -/
theorem step_append_at {P : Program} {ops : Array Oper} {o : Oper} {act : Act} {w : World} {K : Act → World → Prop} {Q : Exit → Act → World → Prop} {E : Prop} (hgd : o.guard = none) (s x : Operand) (t : TypeId)
    (ho : o.op = .call { callee := .builtin .append, args := #[s, x], argTypes := #[t, t] })
    (base : Nat) (e : TypeId) (i : TypeInfo) (z : Value) (size bytes : Nat) (ht : P.underlying t = some (.slice e)) (hi : P.info? e = some i) (hz : i.zero = some z)
    (hsize : i.size = size) (hby : i.bytes = bytes) (hzs : z.cells.size = size) (hsz : 0 < size)
    (v : Value) (n : Nat) (xs : List Value) (hs : act.eval s = v) (hown : w.ownsRow base e size v n xs)
    (ad : Addr) (m c : Nat) (news : List Value) (hx : act.eval x = .slice (some ad) m c) (hl : news.length = m * size) (hnews : ∀ j u, news[j]? = some u → w.cell? (ad.add j) = some u) (h1 : ∀ u ∈ news, u.oneCell' = true)
    (h63 : n + m ≤ maxLen) (hbytes : (n + m) * bytes ≤ 140737488355328) (hbase : base ≤ w.heap.size)
    (h : ∀ v' w', w'.ownsRow base e size v' (n + m) (xs ++ news) → w.grownBy w' v.ownBlock → (v'.ownBlock = v.ownBlock ∨ v'.ownBlock = some w.heap.size) → K (act.put o.dst v') w') :
    if Region.wanted o (yielded ops act.tmps) = true then Oper.wp P o act w K Q else E := by
  have hw : Region.wanted o (yielded ops act.tmps) = true := by simp [Region.wanted, hgd]
  rw [if_pos hw]
  obtain ⟨v', w', hr, h2, h3, _, h5⟩ := run_append_own_at (P := P) (w := w) base t o.type e i z size bytes ht hi hz hsize hby hzs hsz v n xs hown ad m c news hl hnews h1 h63 hbytes hbase
  unfold Oper.wp execOp
  simp only [ho, resolve, invoke, builtin, Sem.run_bind, Sem.run_pure, Result.andThen_ok, List.map_toArray, List.map_cons, List.map_nil, hs, hx, hr]
  exact h v' w' h2 h3 h5
theorem and_mask (z : Int) (h0 : 0 ≤ z) (h1 : z < 18446744073709551616) : bits .and .u64 z 4294967295 = z % 4294967296 := by
  have := u64_and z 4294967295 h0 h1 (by omega) (by omega)
  rw [this, show (4294967295 : Int).toNat = 2 ^ 32 - 1 by decide, Nat.and_two_pow_sub_one_eq_mod]
  omega
theorem EcR.drew {w : World} {B a : Nat} {pv hv : Value} {P R : List Int} {t rg : Int} (h : EcR w B a pv hv P R t rg) : EcR w.drew B a pv hv P R t rg ∧ Kp a w w.drew := ⟨h.below (Below.refl _ _).drew, Kp.of_below (Below.refl _ _).drew h.core.lt⟩
theorem EcR.ecr_drew {w : World} {B a : Nat} {pv hv : Value} {P R : List Int} {t rg : Int} (h : EcR w B a pv hv P R t rg) {v' : Value} {w2 : World} {X : Obj} {y : Int} (hown : w2.ownsRow B 5 1 v' (R.length + 1) (R.map (Value.int .u8) ++ [.int .u8 y])) (hg : (w.alloc X).drew.grownBy w2 hv.ownBlock) (hat : v'.ownBlock = hv.ownBlock ∨ v'.ownBlock = some (w.alloc X).drew.heap.size) :
    EcR (w2.setCell ⟨a, 2, none⟩ v') B a pv v' P (R ++ [y]) t rg ∧ Kp a w (w2.setCell ⟨a, 2, none⟩ v') ∧ Blk w2 a 55 #[pv, .pointer (some ⟨a, 0, none⟩), hv, .int .u64 t, .int .u64 rg] :=
  h.ecr hown ⟨hg.os, hg.tape, hg.output, hg.size, hg.block⟩ (hat.imp id fun e => by rw [e]; simp)
/-- The state while the range is small. -/
structure Nm (w : World) (B a : Nat) (pv : Value) (P : List Int) (s1 : Am.St) (N : Nat) (hv : Value) (s : Am.St) (W : World) : Prop where
  ec : EcC W B a pv hv (P, s)
  kp : Kp a w W
  eq : Am.norm s = Am.norm s1
  rg : 65536 ≤ s.rg ∧ s.rg ≤ 4294967295
  lo : 0 ≤ s.lo
  n : s.n ≤ N ∧ (s.rg < 16777216 → s.n < N)
theorem norm_eq {s : Am.St} (h : s.rg < 16777216) : Am.norm s = ⟨256 * s.lo, 256 * s.rg, s.n + 1⟩ := by unfold Am.norm; rw [if_pos h]
theorem norm_id {s : Am.St} (h : ¬ s.rg < 16777216) : Am.norm s = s := by unfold Am.norm; rw [if_neg h]
/-- A byte more, and 256 times the rest. -/
theorem nm_next {w W W1 : World} {B a N : Nat} {pv hv hv2 : Value} {P : List Int} {s1 s : Am.St} (h : Nm w B a pv P s1 N hv s W) (hs : s.rg < 16777216) (hE : EcR W1 B a pv hv2 P (Am.dig s.n (s.lo / 4294967296) ++ [s.lo % 4294967296 / 16777216]) (s.lo % 4294967296) s.rg) (hk : Kp a w W1) :
    Nm w B a pv P s1 N hv2 ⟨256 * s.lo, 256 * s.rg, s.n + 1⟩ ((W1.setCell ⟨a, 3, none⟩ (.int .u64 (s.lo % 4294967296 * 256 % 4294967296))).setCell ⟨a, 4, none⟩ (.int .u64 (s.rg * 256))) := by
  have T := hE.tail (s.lo % 4294967296 * 256 % 4294967296)
  have V := T.1.width (s.rg * 256)
  have hr := h.rg
  have hl := h.lo
  have e1 : Am.dig s.n (s.lo / 4294967296) ++ [s.lo % 4294967296 / 16777216] = Am.dig (s.n + 1) (256 * s.lo / 4294967296) := by
    rw [Am.dig, show 256 * s.lo / 4294967296 / 256 = s.lo / 4294967296 by omega, show 256 * s.lo / 4294967296 % 256 = s.lo % 4294967296 / 16777216 by omega]
  have e2 : s.lo % 4294967296 * 256 % 4294967296 = 256 * s.lo % 4294967296 := by omega
  refine ⟨EcR.c ?_, (hk.trans T.2).trans V.2, ?_, ?_, ?_, ?_⟩
  · show EcR _ B a pv hv2 P (Am.dig (s.n + 1) (256 * s.lo / 4294967296)) (256 * s.lo % 4294967296) (256 * s.rg)
    rw [← e1, ← e2, Int.mul_comm 256 s.rg]
    exact V.1
  · rw [norm_id (by simp only; omega), ← norm_eq hs]; exact h.eq
  · simp only; omega
  · simp only; omega
  · simp only
    have := h.n.2 hs
    omega
end Go.Proofs.YtdnfnekfcndnhaaDoor
