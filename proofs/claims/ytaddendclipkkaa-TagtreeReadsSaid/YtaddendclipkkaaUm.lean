/-
  Layer 10: the code's tree and the reference's, side by side with two readers; an argument of TagtreeReads.
-/
import Derived.Test.YtaddendclipkkaaUi
import Derived.Test.YtaddendclipkkaaUl
import Derived.Test.YtaddendclipkkaaFrameT
import Derived.Test.YtaddendclipkkaaTj
import Derived.Laws.AppendOwnNone
set_option maxRecDepth 100000
namespace Go.Proofs.Ytaddendclipkkaa
open Go.ChangeShapes Go.WideShapes Go.ChangeAt Go.RowKit Go.Joins Go.Deep

theorem cells8 : Try.prog.cellsOf 5 = 1 := by kernel_rfl
/-- An argument that is a slice of bytes. -/
theorem open_bytes1 {H : Type} {enc : TypeId × Value → H} {w : World} {fuel : Nat} {v : Value} {x : DataW H × List MemPlace}
    (h' : DataW.trod enc Try.prog w 0 (fun _ => true) true fuel 22 [v] = some x) :
    ∃ (a : Option Addr) (l : List Int) (cap : Nat), v = .slice a l.length cap ∧ HoldsB w a l ∧ Bi.bytes l ∧ l.length ≤ cap ∧ cap ≤ maxLen ∧ (a = none → l = [] ∧ cap = 0) := by
  rcases open_slice1 Try.underlying22 cells8 h' with ⟨hcs, _⟩ | ⟨a', len, cap', m, k, V, D, Pl', hcs, _, hl, hm, hmm, _, hi⟩
  · simp at hcs
    subst hcs
    exact ⟨none, [], 0, rfl, .inl rfl, fun _ h => by simp at h, Nat.le_refl _, Nat.zero_le _, fun _ => ⟨rfl, rfl⟩⟩
  · simp at hcs
    subst hcs
    obtain ⟨n, rfl⟩ : ∃ n, n = len := ⟨_, rfl⟩
    obtain ⟨cap, rfl⟩ : ∃ cap, cap = cap' := ⟨_, rfl⟩
    have hmm' : m = cap := by simpa using hmm
    by_cases hn0 : n = 0
    · subst hn0
      exact ⟨some a', [], cap, rfl, .inl rfl, fun _ h => by simp at h, Nat.zero_le _, hm, fun h => by simp at h⟩
    · have key : ∀ i, i < n → ∃ q : Int, w.cell? (a'.add i) = some (.int .u8 q) ∧ 0 ≤ q ∧ q ≤ 255 := by
        intro i hin
        obtain ⟨h1, h2⟩ := hi i (by omega)
        obtain ⟨q, e, _, hw⟩ := DataW.trod_int Try.underlying5 h2
        simp at e
        exact ⟨q, by rw [h1, e], by have h3 := hw; simp [Lit.wf] at h3; rw [show IntKind.u8.min = 0 by decide, show IntKind.u8.max = 255 by decide] at h3; exact h3⟩
      obtain ⟨b, off, spot⟩ := a'
      obtain ⟨q, hq, _⟩ := key 0 (by omega)
      have hspot : spot = none := by
        have := World.cell?_spot hq
        simpa [Addr.add] using this
      subst hspot
      have key' : ∀ i, i < n → ∃ q : Int, w.cell? ⟨b, off + i, none⟩ = some (.int .u8 q) ∧ 0 ≤ q ∧ q ≤ 255 := fun i hi => by
        obtain ⟨q, hq⟩ := key i hi
        exact ⟨q, by rw [add_plain] at hq; exact hq⟩
      refine ⟨some ⟨b, off, none⟩, List.ofFn (fun i : Fin n => Classical.choose (key' i.1 i.2)), cap, by simp, .inr ⟨b, off, rfl, fun k hk => ?_⟩, fun x hx => ?_, by simpa using hl, hm, fun h => by simp at h⟩
      · have hk' : k < n := by simpa using hk
        rw [List.getElem_ofFn]
        exact (Classical.choose_spec (key' k hk')).1
      · obtain ⟨i, rfl⟩ := List.mem_ofFn.1 hx
        exact (Classical.choose_spec (key' i.1 i.2)).2
/-- An argument that is a slice of calls. -/
theorem open_ops1 {H : Type} {enc : TypeId × Value → H} {w : World} {fuel : Nat} {v : Value} {x : DataW H × List MemPlace}
    (h' : DataW.trod enc Try.prog w 0 (fun _ => true) true fuel 53 [v] = some x) :
    ∃ (a : Option Addr) (l : List OpT) (cap : Nat), v = .slice a l.length cap ∧ HoldsT w a l := by
  rcases open_slice_fields Try.underlying53 Try.underlying56 (by kernel_rfl) cellsO h' with ⟨hcs, _⟩ | ⟨a', len, cap', m, D, Pl', hcs, _, hl, hm, hmm, _, hi⟩
  · simp at hcs
    subst hcs
    exact ⟨none, [], 0, rfl, .inl rfl⟩
  · simp at hcs
    subst hcs
    obtain ⟨n, rfl⟩ : ∃ n, n = len := ⟨_, rfl⟩
    obtain ⟨cap, rfl⟩ : ∃ cap, cap = cap' := ⟨_, rfl⟩
    have hmm' : m = cap := by simpa using hmm
    by_cases hn0 : n = 0
    · subst hn0
      exact ⟨some a', [], cap, rfl, .inl rfl⟩
    · have key : ∀ i, i < n → ∃ q : OpT, w.cell? (a'.add (i * 4 + 0)) = some (.int .i64 q.k) ∧ w.cell? (a'.add (i * 4 + 1)) = some (.int .i64 q.x) ∧ w.cell? (a'.add (i * 4 + 2)) = some (.int .i64 q.y) ∧ w.cell? (a'.add (i * 4 + 3)) = some (.int .i64 q.v) := by
        intro i hin
        obtain ⟨ys, k, _, _, _, hg⟩ := hi i (by omega)
        obtain ⟨u0, y0, g0, _, t0⟩ := hg 0 _ rfl
        obtain ⟨u1, y1, g1, _, t1⟩ := hg 1 _ rfl
        obtain ⟨u2, y2, g2, _, t2⟩ := hg 2 _ rfl
        obtain ⟨u3, y3, g3, _, t3⟩ := hg 3 _ rfl
        obtain ⟨q0, e0, _, _⟩ := DataW.trod_int Try.underlying3 t0
        obtain ⟨q1, e1, _, _⟩ := DataW.trod_int Try.underlying3 t1
        obtain ⟨q2, e2, _, _⟩ := DataW.trod_int Try.underlying3 t2
        obtain ⟨q3, e3, _, _⟩ := DataW.trod_int Try.underlying3 t3
        simp at e0 e1 e2 e3
        subst e0 e1 e2 e3
        exact ⟨⟨q0, q1, q2, q3⟩, g0, g1, g2, g3⟩
      obtain ⟨b, off, spot⟩ := a'
      obtain ⟨q, hq, _⟩ := key 0 (by omega)
      have hspot : spot = none := by
        have := World.cell?_spot hq
        simpa [Addr.add] using this
      subst hspot
      have key' : ∀ i, i < n → ∃ q : OpT, OpAtT w b (off + i * 4) q := fun i hi => by
        obtain ⟨q, h0, h1, h2, h3⟩ := key i hi
        rw [add_plain] at h0 h1 h2 h3
        exact ⟨q, h0, by rw [Nat.add_assoc]; exact h1, by rw [Nat.add_assoc]; exact h2, by rw [Nat.add_assoc]; exact h3⟩
      refine ⟨some ⟨b, off, none⟩, List.ofFn (fun i : Fin n => Classical.choose (key' i.1 i.2)), cap, by simp, .inr ⟨b, off, rfl, fun k hk => ?_⟩⟩
      have hk' : k < n := by simpa using hk
      rw [List.getElem_ofFn]
      exact Classical.choose_spec (key' k hk')
theorem cellsBy : Try.prog.cellsOf 22 = 1 := by kernel_rfl
theorem cellsOs : Try.prog.cellsOf 53 = 1 := by kernel_rfl
theorem cellsIt : Try.prog.cellsOf 3 = 1 := by kernel_rfl
theorem cellsInp : Try.prog.cellsOf 63 = 4 := by kernel_rfl
theorem arr4i (T : Array Value) (h : T.size = 4) : ∃ v0 v1 v2 v3, T = #[v0, v1, v2, v3] := by
  obtain ⟨l⟩ := T
  match l, h with
  | [v0, v1, v2, v3], _ => exact ⟨v0, v1, v2, v3, rfl⟩
/-- An argument that is an input of TagtreeReads. -/
theorem open_input {H : Type} {enc : TypeId × Value → H} {w : World} {r : Reach} {b0 : Nat} {v : Value} {d : DataW H} {p : List MemPlace}
    (hv : Value.okWide Try.prog w r b0 63 v) (h : DataW.Trod enc Try.prog w 0 (fun _ => true) true 63 v d p) :
    ∃ (iw ih : Int) (sb : Option Addr) (lb : List Int) (mb : Nat) (so : Option Addr) (lo : List OpT) (mo : Nat), v = .agg #[.int .i64 iw, .int .i64 ih, .slice sb lb.length mb, .slice so lo.length mo] ∧
      HoldsB w sb lb ∧ Bi.bytes lb ∧ (sb = none → lb = [] ∧ mb = 0) ∧ HoldsT w so lo := by
  obtain ⟨cs, rfl, hsz⟩ := okWide_struct Try.underlying63 hv
  obtain ⟨c0, c1, c2, c3, rfl⟩ := arr4i _ (hsz.trans cellsInp)
  obtain ⟨fuel, hf⟩ := h
  obtain ⟨z0, z1, z2, z3, n', _, _, t0, t1, t2, t3⟩ := Go.Joins.trod_struct4 Try.underlying63 hf
  simp only [cellsIt, cellsBy, cellsOs, Value.cells] at t0 t1 t2 t3
  obtain ⟨x0, e0, _, _⟩ := DataW.trod_int Try.underlying3 t0
  obtain ⟨x1, e1, _, _⟩ := DataW.trod_int Try.underlying3 t1
  simp at e0 e1
  subst e0 e1
  obtain ⟨sb, lb, mb, e2, hB, hY, _, _, hn⟩ := open_bytes1 (enc := enc) (w := w) (v := c2) (by simpa using t2)
  obtain ⟨so, lo, mo, e3, hO⟩ := open_ops1 (enc := enc) (w := w) (v := c3) (by simpa using t3)
  subst e2 e3
  exact ⟨x0, x1, sb, lb, mb, so, lo, mo, rfl, hB, hY, hn, hO⟩
theorem snew_none (w : World) :
    Calls Try.prog 15 #[.slice none 0 0] w fun e w' => ∃ a, e = .returned (.pointer (some ⟨a, 0, none⟩)) ∧ Sp w' w.heap.size a [] 0 0 ∧ Below w.heap.size w w' := by
  obtain ⟨i0, hi, hz0, hz1, hz2⟩ := info_parts info8
  have HA := Lib.hid ((Below.refl w.heap.size w).alloc (Nat.le_refl _) (.cells #[] 5))
  have HO := Lib.hid (World.ownsRow_made w #[] 0 (Nat.le_refl _) (by decide : (0:Nat) ≤ maxLen) (by simp) : (w.alloc (.cells #[] 5)).ownsRow w.heap.size 5 1 (.slice (some ⟨w.heap.size, 0, none⟩) 0 0) 0 [])
  go_enter Try.func15, Try.ntmps15
  go_wp2_with (first | (at_builtin; refine wpList_append_own_none rfl _ _ 22 rfl w.heap.size 5 i0 1 Try.underlying22 hi _ 0 [] rfl HO.out rfl ?_))
  go_ret
  exact ⟨_, rfl, ⟨.slice (some ⟨w.heap.size, 0, none⟩) 0 0, by simp, by have h := Blk.new (w.alloc (.cells #[] 5)) 84 #[.bool true, .slice (some ⟨w.heap.size, 0, none⟩) 0 0, .int .i64 0, .int .i64 0]; simpa using h, own_below HO.out ((Below.refl _ _).alloc (Nat.le_refl _) _)⟩, HA.out.alloc HA.out.size _⟩
theorem snew_c (w : World) (bs : List Int) (s : Option Addr) (m : Nat) (hH : HoldsB w s bs) (hs : s = none → bs = [] ∧ m = 0) (hl : bs.length ≤ 1000000000) :
    Calls Try.prog 15 #[.slice s bs.length m] w fun e w' => ∃ a, e = .returned (.pointer (some ⟨a, 0, none⟩)) ∧ Sp w' w.heap.size a bs 0 0 ∧ Below w.heap.size w w' := by
  cases s with
  | none => obtain ⟨rfl, rfl⟩ := hs rfl; exact snew_none w
  | some p => exact snew_some w bs p m hH hl
theorem Sp.lower {w : World} {B B' a : Nat} {bs : List Int} {p q : Nat} (h : Sp w B a bs p q) (hB : B' ≤ B) : Sp w B' a bs p q := by
  obtain ⟨sv, h⟩ := h
  refine ⟨sv, Nat.le_trans hB h.ge, h.blk, h.own.1, ?_⟩
  rcases h.own.2 with h2 | ⟨g, cap, cur, hv, h3, h4⟩
  · exact .inl h2
  · exact .inr ⟨g, cap, cur, hv, Nat.le_trans hB h3, h4⟩
/-- What is decoded does not hang on the values of the nodes. -/
theorem nrun_lb (bs : List Int) (t : Int) : ∀ (f tt : Nat) (n n' : Nd), n'.l = n.l → n'.b = n.b → (nrun (decG bs) t f tt n').1 = (nrun (decG bs) t f tt n).1 ∧ (nrun (decG bs) t f tt n').2.1 = (nrun (decG bs) t f tt n).2.1 ∧ (nrun (decG bs) t f tt n').2.2.l = (nrun (decG bs) t f tt n).2.2.l ∧ (nrun (decG bs) t f tt n').2.2.b = (nrun (decG bs) t f tt n).2.2.b
  | 0, tt, n, n', h1, h2 => ⟨rfl, rfl, h1, h2⟩
  | f + 1, tt, n, n', h1, h2 => by
    have eg : decG bs tt n' = decG bs tt n := rfl
    unfold nrun
    rw [h1, h2, eg]
    split
    · split
      · exact ⟨rfl, rfl, h1, h2⟩
      · split
        · exact nrun_lb bs t f _ { n with b := true } ⟨n'.v, n.l, true⟩ rfl rfl
        · exact nrun_lb bs t f _ { n with l := n.l + 1 } ⟨n'.v, n.l + 1, n.b⟩ rfl rfl
    · exact ⟨rfl, rfl, h1, h2⟩
theorem pst_lb (bs : List Int) (t : Int) (N N' : Nat → Nd) (D tt : Nat) (hN : ∀ k, (N' k).l = (N k).l ∧ (N' k).b = (N k).b) : ∀ j, (pst (decG bs) t N' D tt j).e = (pst (decG bs) t N D tt j).e ∧ (pst (decG bs) t N' D tt j).s = (pst (decG bs) t N D tt j).s ∧ (pst (decG bs) t N' D tt j).low = (pst (decG bs) t N D tt j).low ∧ ∀ k, ((pst (decG bs) t N' D tt j).n k).l = ((pst (decG bs) t N D tt j).n k).l ∧ ((pst (decG bs) t N' D tt j).n k).b = ((pst (decG bs) t N D tt j).n k).b
  | 0 => ⟨rfl, rfl, rfl, hN⟩
  | j + 1 => by
    obtain ⟨h1, h2, h3, h4⟩ := pst_lb bs t N N' D tt hN j
    by_cases he : (pst (decG bs) t N D tt j).e = 0
    · rw [pst_one _ _ _ _ _ _ he, pst_one _ _ _ _ _ _ (h1.trans he), h2, h3]
      obtain ⟨r1, r2, r3, r4⟩ := nrun_lb bs t FU (pst (decG bs) t N D tt j).s { N (D - 1 - j) with l := max (N (D - 1 - j)).l (pst (decG bs) t N D tt j).low } { N' (D - 1 - j) with l := max (N' (D - 1 - j)).l (pst (decG bs) t N D tt j).low } (by simp only [(hN (D - 1 - j)).1]) (by simp only [(hN (D - 1 - j)).2])
      refine ⟨r1, r2, r3, fun k => ?_⟩
      by_cases hk : k = D - 1 - j
      · simp only [if_pos hk]
        exact ⟨r3, r4⟩
      · simp only [if_neg hk]
        exact h4 k
    · have e1 := pst_err (decG bs) t N D tt j he 1
      have e2 := pst_err (decG bs) t N' D tt j (by rw [h1]; exact he) 1
      rw [e1, e2]
      exact ⟨h1, h2, h3, h4⟩
theorem Rl.dec {w h D tt : Nat} {u : Int} {Qc Qr : Nat → Nat → Nat → Nd} {bs : List Int} (H : Rl w h u Qc Qr) (hu : 0 ≤ u ∧ u ≤ 2) (x y t : Int) :
    deE bs Qr w h D u tt x y t = deE bs Qc w h D u tt x y t ∧ deB bs Qr w h D u tt x y t = deB bs Qc w h D u tt x y t ∧ deT bs Qr w h D u tt x y t = deT bs Qc w h D u tt x y t ∧ deU bs Qr w h D u tt x y t = deU bs Qc w h D u tt x y t ∧
      Rl w h (deU bs Qc w h D u tt x y t) (deQ bs Qc w h D u tt x y t) (deQ bs Qr w h D u tt x y t) := by
  obtain ⟨p1, p2, p3, p4⟩ := pst_lb bs t (fun k => Qc k (x.toNat / 2 ^ k) (y.toNat / 2 ^ k)) (fun k => Qr k (x.toNat / 2 ^ k) (y.toNat / 2 ^ k)) D tt (fun k => H.lb hu _ _ _) D
  have eE : deE bs Qr w h D u tt x y t = deE bs Qc w h D u tt x y t := by
    unfold deE deP
    rw [p1]
  have eT : deT bs Qr w h D u tt x y t = deT bs Qc w h D u tt x y t := by
    unfold deT deP
    rw [p2]
  refine ⟨eE, ?_, eT, ?_, ?_⟩
  · unfold deB
    rw [eE]
    unfold deP
    rw [(p4 0).1, (p4 0).2]
  · unfold deU
    rw [eE]
  · unfold deU deQ
    rw [eE]
    by_cases h0 : deE bs Qc w h D u tt x y t = 0
    · rw [if_pos h0, if_pos h0, if_pos h0]
      refine ⟨fun h => by omega, fun h => by omega, fun _ k X Y => ?_⟩
      unfold upP deP
      split
      · exact p4 k
      · exact H.lb hu k X Y
    · rw [if_neg h0, if_neg h0, if_neg h0]
      exact H
section
variable {W0 W W1 : World} {B B2 A L a b g r wd rh w h D : Nat} {nd : Nat → Nat} {u u' : Int} {Q Q' Qc Qr : Nat → Nat → Nat → Nd} {bs : List Int} {tt t' : Nat}
theorem ts_ne (H : Tr W B A L nd w h D u Q) (H' : Sd W B2 r bs tt) (k : Nat) (h1 : Tf A L nd D k) : ¬ Fp W r k := fun h2 => by
  obtain ⟨t1, c1, e1, b1⟩ := tr_typed H k h1
  obtain ⟨t2, c2, e2, b2⟩ := sd_typed H' k h2
  exact b1.ne b2 (by rcases e1 with rfl | rfl | rfl <;> rcases e2 with rfl | rfl <;> decide) rfl
theorem ru_ne (H : Rd W B a bs tt) (H' : Ur W B2 b g w h D u Q) (k : Nat) (h1 : Fp W a k) : ¬ Uf b g k := fun h2 => by
  obtain ⟨t1, c1, e1, b1⟩ := rd_typed H k h1
  obtain ⟨t2, c2, e2, b2⟩ := ur_typed H' k h2
  exact b1.ne b2 (by rcases e1 with rfl | rfl <;> rcases e2 with rfl | rfl <;> decide) rfl
end
/-- Both trees and both readers, made since a world. -/
structure Rq (W0 : World) (A L : Nat) (nd : Nat → Nat) (b a r w h D : Nat) (u : Int) (Qc : Nat → Nat → Nat → Nd) (ur : Int) (Qr : Nat → Nat → Nat → Nd) (bs : List Int) (tc tr : Nat) (bx : List (Nat × OpT)) (W : World) : Prop where
  t : Tr W W0.heap.size A L nd w h D u Qc
  ru : ∃ g, Ur W W0.heap.size b g w h D ur Qr
  rd : Rd W W0.heap.size a bs tc
  sd : Sd W W0.heap.size r bs tr
  le : tc ≤ 8 * bs.length ∧ tr ≤ 8 * bs.length
  dj : Dj W a r
  below : Below W0.heap.size W0 W
  bo : ∀ p, p ∈ bx → Bo W p.1 p.2
section
variable {W0 W W1 : World} {B A L a b g r q w h D tc tr t' : Nat} {nd : Nat → Nat} {u u' ur : Int} {Q Q' Qc Qr : Nat → Nat → Nat → Nd} {bs : List Int} {o : OpT} {bx : List (Nat × OpT)}
theorem Rq.step (H : Rq W0 A L nd b a r w h D u Qc ur Qr bs tc tr bx W) (hb : Below W.heap.size W W1) : Rq W0 A L nd b a r w h D u Qc ur Qr bs tc tr bx W1 :=
  ⟨H.t.below hb, H.ru.elim fun g z => ⟨g, z.below hb⟩, H.rd.below hb, sd_keep H.sd (fun k hf => hb.block k (sd_foot H.sd k hf).2), H.le, H.dj.below hb H.rd.lt (sd_lt H.sd), below_call H.below hb, fun p z => (H.bo p z).below hb⟩
theorem Rq.box (H : Rq W0 A L nd b a r w h D u Qc ur Qr bs tc tr bx W) (hB : Bo W q o) : Rq W0 A L nd b a r w h D u Qc ur Qr bs tc tr [(q, o)] W := ⟨H.t, H.ru, H.rd, H.sd, H.le, H.dj, H.below, fun p hp => by simp at hp; subst hp; exact hB⟩
theorem Rq.drop (H : Rq W0 A L nd b a r w h D u Qc ur Qr bs tc tr bx W) : Rq W0 A L nd b a r w h D u Qc ur Qr bs tc tr [] W := ⟨H.t, H.ru, H.rd, H.sd, H.le, H.dj, H.below, fun p hp => by simp at hp⟩
theorem Rq.cells (H : Rq W0 A L nd b a r w h D u Qc ur Qr bs tc tr [(q, o)] W) : W.cell? ⟨q, 0, none⟩ = some (.int .i64 o.k) ∧ W.cell? ⟨q, 1, none⟩ = some (.int .i64 o.x) ∧ W.cell? ⟨q, 2, none⟩ = some (.int .i64 o.y) ∧ W.cell? ⟨q, 3, none⟩ = some (.int .i64 o.v) := (H.bo (q, o) (by simp)).cells
theorem Rq.codeS (H : Rq W0 A L nd b a r w h D u Qc ur Qr bs tc tr bx W) (hT : Tr W1 W0.heap.size A L nd w h D u' Q') (hk : Kf (Tf A L nd D) W W1) : Rq W0 A L nd b a r w h D u' Q' ur Qr bs tc tr bx W1 := by
  have ka : ∀ k, Fp W a k → W1.heap[k]? = W.heap[k]? := fun k hf => hk.block k (H.rd.foot k hf).2 (not_tfR H.rd H.t k hf)
  have kr : ∀ k, Fp W r k → W1.heap[k]? = W.heap[k]? := fun k hf => hk.block k (sd_foot H.sd k hf).2 (fun h1 => ts_ne H.t H.sd k h1 hf)
  exact ⟨hT, H.ru.elim fun g z => ⟨g, z.keep fun k hf => hk.block k (z.foot k hf).2 (fun h1 => tu_ne H.t z k h1 hf)⟩, H.rd.keep ka, sd_keep H.sd kr, H.le, dj_two H.dj (ka a (.inl rfl)) (kr r (.inl rfl)),
    H.below.trans (hk.below (fun k hk => (H.t.foot k hk).1) H.below.size), fun p z => (H.bo p z).set H.t hk⟩
theorem Rq.refS (H : Rq W0 A L nd b a r w h D u Qc ur Qr bs tc tr bx W) (hR : Ur W W0.heap.size b g w h D ur Qr) (hU : Ur W1 W0.heap.size b g w h D u' Q') (hk : Kf (Uf b g) W W1) : Rq W0 A L nd b a r w h D u Qc u' Q' bs tc tr bx W1 := by
  have ka : ∀ k, Fp W a k → W1.heap[k]? = W.heap[k]? := fun k hf => hk.block k (H.rd.foot k hf).2 (ru_ne H.rd hR k hf)
  have kr : ∀ k, Fp W r k → W1.heap[k]? = W.heap[k]? := fun k hf => hk.block k (sd_foot H.sd k hf).2 (su_ne H.sd hR k hf)
  exact ⟨H.t.keep fun k hf => hk.block k (H.t.foot k hf).2 (tu_ne H.t hR k hf), ⟨g, hU⟩, H.rd.keep ka, sd_keep H.sd kr, H.le, dj_two H.dj (ka a (.inl rfl)) (kr r (.inl rfl)),
    H.below.trans (hk.below (fun k hk => (hR.foot k hk).1) H.below.size), fun p z => (hk.block p.1 (Blk.lt (H.bo p z)) (not_bu (H.bo p z) hR)).trans (H.bo p z)⟩
theorem Rq.codeD (H : Rq W0 A L nd b a r w h D u Qc ur Qr bs tc tr bx W) (hE : De W W0.heap.size W0.heap.size A L a nd w h D bs t' u' Q' W1) : Rq W0 A L nd b a r w h D u' Q' ur Qr bs t' tr bx W1 := by
  have kr : ∀ k, Fp W r k → k < W.heap.size ∧ W1.heap[k]? = W.heap[k]? := fun k hf => ⟨(sd_foot H.sd k hf).2, hE.kf.block k (sd_foot H.sd k hf).2 (fun hn => hn.elim (fun h1 => H.dj k h1 hf) (fun h1 => ts_ne H.t H.sd k h1 hf))⟩
  exact ⟨hE.tr, H.ru.elim fun g z => ⟨g, z.keep fun k hf => hE.kf.block k (z.foot k hf).2 (fun hn => hn.elim (fun h1 => ru_ne H.rd z k h1 hf) (fun h1 => tu_ne H.t z k h1 hf))⟩, hE.rd, sd_keep H.sd (fun k hf => (kr k hf).2), ⟨hE.le, H.le.2⟩, dj_op H.dj kr hE.foot,
    H.below.trans (hE.kf.below (fun k hk => hk.elim (fun h1 => (H.rd.foot k h1).1) (fun h1 => (H.t.foot k h1).1)) H.below.size), fun p z => bo_dec (H.bo p z) H.t H.rd hE⟩
theorem Rq.refD (H : Rq W0 A L nd b a r w h D u Qc ur Qr bs tc tr bx W) (hR : Ur W W0.heap.size b g w h D ur Qr) (hE : Du W W0.heap.size W0.heap.size b g r w h D bs t' u' Q' W1) : Rq W0 A L nd b a r w h D u Qc u' Q' bs tc t' bx W1 := by
  have kb : ∀ k, k = b → Uf b g k := fun k e => .inl e
  have ka : ∀ k, Fp W a k → k < W.heap.size ∧ W1.heap[k]? = W.heap[k]? := fun k hf => ⟨(H.rd.foot k hf).2, hE.kf.block k (H.rd.foot k hf).2 (fun hn => hn.elim (fun h1 => H.dj k hf h1) (fun h1 => ru_ne H.rd hR k hf (kb k h1)))⟩
  exact ⟨H.t.keep fun k hf => hE.kf.block k (H.t.foot k hf).2 (fun hn => hn.elim (fun h1 => ts_ne H.t H.sd k hf h1) (fun h1 => tu_ne H.t hR k hf (kb k h1))), hE.ur.elim fun g' z => ⟨g', z.2⟩, H.rd.keep fun k hf => (ka k hf).2, hE.sd, ⟨H.le.1, hE.le⟩, (dj_op H.dj.symm ka hE.ft).symm,
    H.below.trans (hE.kf.below (fun k hk => hk.elim (fun h1 => (sd_foot H.sd k h1).1) (fun h1 => (hR.foot k (kb k h1)).1)) H.below.size), fun p z => (hE.kf.block p.1 (Blk.lt (H.bo p z)) (fun hn => hn.elim (not_sp H.sd (H.bo p z) (by decide)) (fun h1 => not_bu (H.bo p z) hR (kb _ h1)))).trans (H.bo p z)⟩
end
theorem udecN (q : Option Addr) (x y v : Int) (W : World) : Calls Try.prog 40 #[.pointer none, .pointer q, .int .i64 x, .int .i64 y, .int .i64 v] W fun e w' => e = .returned (.tuple #[.bool false, .int .i64 6]) ∧ W = w' := by
  go_enter Try.func40, Try.ntmps40
  go_wp2_with fail
  go_ret2
  exact ⟨rfl, rfl⟩
end Go.Proofs.Ytaddendclipkkaa
